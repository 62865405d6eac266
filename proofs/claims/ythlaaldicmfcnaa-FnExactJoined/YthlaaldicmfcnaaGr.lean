/-
  Several texts in one: Wds.
-/
import Derived.Test.YthlaaldicmfcnaaGq
/-
  Slices of strings in memory of one's own; the contract of the specification's l1Words.
-/
namespace Go.Proofs.Ythlaaldicmfcnaa
set_option linter.unusedSimpArgs false
set_option linter.unusedVariables false
open Go.RowKit Go.Sort

theorem Try.info9 : (Try.prog.info? 9).map (fun i => (i.zero, i.size, i.bytes)) = some (some (.string ⟨#[]⟩), 1, 16) := by kernel_rfl
theorem info_parts9 {T s b : Nat} {z : Value} (h : (Try.prog.info? T).map (fun i => (i.zero, i.size, i.bytes)) = some (some z, s, b)) : ∃ i, Try.prog.info? T = some i ∧ i.zero = some z ∧ i.size = s ∧ i.bytes = b := by
  cases hq : Try.prog.info? T with
  | none => rw [hq] at h; simp at h
  | some i => rw [hq] at h; simp at h; exact ⟨i, rfl, h.1, h.2.1, h.2.2⟩
/-- The strings of lists of bytes. -/
def svs (zs : List (List UInt8)) : List Value := zs.map (fun s => Value.string (sv s))
theorem svs_app (a b : List (List UInt8)) : svs (a ++ b) = svs a ++ svs b := by simp [svs]
theorem svs_one (zs : List (List UInt8)) : ∀ u ∈ svs zs, u.oneCell' = true := by
  intro u hu
  simp only [svs, List.mem_map] at hu
  obtain ⟨s, _, rfl⟩ := hu
  rfl
/-- A slice of one's own that holds the texts zs. -/
def OS (w : World) (g off n cap : Nat) (zs : List (List UInt8)) : Prop := OSl w 1 g off n cap (svs zs)
theorem OS.length {w : World} {g off n cap : Nat} {zs : List (List UInt8)} (h : OS w g off n cap zs) : zs.length = n := by have := h.len; simpa [svs] using this
theorem OS.cellAt {w : World} {g off n cap : Nat} {zs : List (List UInt8)} (h : OS w g off n cap zs) {i : Nat} (hi : i < n) : w.cell? ⟨g, off + i, none⟩ = some (.string (sv (zs.getD i []))) := by
  have hl := h.length
  rw [h.cell i (by omega)]
  simp [svs, show i < zs.length by omega]
theorem OS.below {w w' : World} {g off n cap B : Nat} {zs : List (List UInt8)} (h : OS w g off n cap zs) (hb : Below B w w') (hg : g < B) : OS w' g off n cap zs := OSl.below h hb hg
theorem OS.drewN {w : World} {g off n cap : Nat} {zs : List (List UInt8)} (h : OS w g off n cap zs) (k : Nat) : OS (w.drewN k) g off n cap zs := OSl.drewN h k
theorem os_empty (w : World) (T : TypeId) : OS (w.alloc (.cells #[] T)) w.heap.size 0 0 0 [] :=
  ⟨rfl, Nat.le_refl _, Nat.zero_le _, by simp, fun i hi => by omega, fun i hi => by omega, fun i hi => by omega⟩
theorem os_app {w : World} {g off n cap : Nat} {zs : List (List UInt8)} {s : List UInt8} (h : OSl w 1 g off (n + 1) cap (svs zs ++ [.string (sv s)])) : OS w g off (n + 1) cap (zs ++ [s]) := by
  unfold OS; rw [svs_app]; exact h
/-- What an answer that is a slice of texts comes to. -/
def AnsS (w w' : World) (v : Value) (Z : List (List UInt8)) : Prop := ∃ g off c, v = .slice (some ⟨g, off, none⟩) Z.length c ∧ w.heap.size ≤ g ∧ OS w' g off Z.length c Z ∧ Below w.heap.size w w'

theorem below_grown9 {B g : Nat} {w w1 w2 : World} (h : Below B w w1) (hg : w1.grownBy w2 (some g)) (hB : B ≤ g) (hs : B ≤ w1.heap.size) : Below B w w2 :=
  ⟨hg.os.trans h.os, hg.tape.trans h.tape, hg.output.trans h.output, Nat.le_trans h.size hg.size, fun k hk => (hg.block k (by omega) (by simp; omega)).trans (h.block k hk)⟩
/-- The words of a line: with one blank between each two. -/
def splitW : List UInt8 → List (List UInt8)
  | [] => [[]]
  | b :: l => if b = 32 then [] :: splitW l else match splitW l with
    | [] => [[b]]
    | u :: us => (b :: u) :: us
theorem splitW_ne (l : List UInt8) : splitW l ≠ [] := by
  cases l with
  | nil => simp [splitW]
  | cons b l =>
    unfold splitW
    split
    · simp
    · split <;> simp
theorem splitW_head (l : List UInt8) : (splitW l).head? = some (upto 32 l) := by
  induction l with
  | nil => rfl
  | cons b l ih =>
    unfold splitW upto
    by_cases h : b = 32
    · simp [h]
    · rw [if_neg h, if_neg h]
      cases hs : splitW l with
      | nil => exact absurd hs (splitW_ne l)
      | cons u us => rw [hs] at ih; simp at ih; simp [ih]
/-- p ahead of the first word. -/
def joinH (p : List UInt8) : List (List UInt8) → List (List UInt8)
  | [] => [p]
  | u :: us => (p ++ u) :: us
theorem joinH_nil {us : List (List UInt8)} (h : us ≠ []) : joinH [] us = us := by
  cases us with
  | nil => exact absurd rfl h
  | cons u us => rfl
theorem split_blank {l : List UInt8} {i : Nat} (h : i < l.length) (hb : byt l i = 32) (p : List UInt8) : joinH p (splitW (l.drop i)) = p :: splitW (l.drop (i + 1)) := by
  rw [List.drop_eq_getElem_cons h]
  have e : l[i] = 32 := UInt8.toNat_inj.1 (by rw [← byt_get h, hb]; rfl)
  simp [splitW, e, joinH]
theorem split_more {l : List UInt8} {i : Nat} (h : i < l.length) (hb : byt l i ≠ 32) (p : List UInt8) : joinH p (splitW (l.drop i)) = joinH (p ++ [l[i]]) (splitW (l.drop (i + 1))) := by
  rw [List.drop_eq_getElem_cons h]
  have e : l[i] ≠ 32 := fun e => hb (by rw [byt_get h, e]; rfl)
  conv => lhs; unfold splitW
  rw [if_neg e]
  cases hs : splitW (l.drop (i + 1)) with
  | nil => exact absurd hs (splitW_ne _)
  | cons u us => simp [joinH]
/-- From place f on, ahead of place i. -/
def mid (l : List UInt8) (f i : Nat) : List UInt8 := (l.drop f).take (i - f)
theorem mid_self (l : List UInt8) (i : Nat) : mid l i i = [] := by simp [mid]
theorem mid_snoc {l : List UInt8} {f i : Nat} (hf : f ≤ i) (h : i < l.length) : mid l f (i + 1) = mid l f i ++ [l[i]] := by
  unfold mid
  rw [show i + 1 - f = (i - f) + 1 by omega, List.take_succ_eq_append_getElem (by rw [List.length_drop]; omega), List.getElem_drop]
  congr 2
  congr 1
  omega
/-- How far the words are told. -/
def Wst (l : List UInt8) (i f : Nat) (O : List (List UInt8)) : Prop := (i ≤ l.length ∧ f ≤ i ∧ splitW l = O ++ joinH (mid l f i) (splitW (l.drop i))) ∨ (i = l.length + 1 ∧ splitW l = O)
theorem Wst.start (l : List UInt8) : Wst l 0 0 [] := .inl ⟨Nat.zero_le _, Nat.le_refl _, by rw [mid_self, List.drop_zero, joinH_nil (splitW_ne l)]; rfl⟩
theorem Wst.cut {l : List UInt8} {i f : Nat} {O : List (List UInt8)} (h : Wst l i f O) (hi : i < l.length) (hb : byt l i = 32) : f ≤ i ∧ Wst l (i + 1) (i + 1) (O ++ [mid l f i]) := by
  rcases h with ⟨_, hf, h⟩ | ⟨h, _⟩
  · refine ⟨hf, .inl ⟨by omega, Nat.le_refl _, ?_⟩⟩
    rw [h, split_blank hi hb, mid_self, joinH_nil (splitW_ne _)]
    simp
  · omega
theorem Wst.more {l : List UInt8} {i f : Nat} {O : List (List UInt8)} (h : Wst l i f O) (hi : i < l.length) (hb : byt l i ≠ 32) : Wst l (i + 1) f O := by
  rcases h with ⟨_, hf, h⟩ | ⟨h, _⟩
  · exact .inl ⟨by omega, by omega, by rw [h, split_more hi hb, mid_snoc hf hi]⟩
  · omega
theorem Wst.last {l : List UInt8} {f : Nat} {O : List (List UInt8)} (h : Wst l l.length f O) : f ≤ l.length ∧ Wst l (l.length + 1) (l.length + 1) (O ++ [mid l f l.length]) := by
  rcases h with ⟨_, hf, h⟩ | ⟨h, _⟩
  · refine ⟨hf, .inr ⟨rfl, ?_⟩⟩
    rw [h, List.drop_eq_nil_of_le (Nat.le_refl _)]
    simp [splitW, joinH]
  · omega

/-- One text more at the end of a slice of one's own. -/
theorem os_push {w wr w6 : World} {g g6 o6 c6 : Nat} {O : List (List UInt8)} {M : List UInt8} (hg : w.heap.size ≤ g) (hb : Below w.heap.size w wr) (hO6 : OSl w6 1 g6 o6 (O.length + 1) c6 (svs O ++ [.string (sv M)]))
    (hg6 : (wr.alloc (.cells #[.string (sv M)] 9)).grownBy w6 (some g)) (hat : g6 = g ∨ g6 = (wr.alloc (.cells #[.string (sv M)] 9)).heap.size) :
    w.heap.size ≤ g6 ∧ OS w6 g6 o6 (O ++ [M]).length c6 (O ++ [M]) ∧ Below w.heap.size w w6 := by
  have hs := hb.size
  refine ⟨?_, by rw [List.length_append]; exact os_app hO6, below_grown9 (hb.alloc hb.size _) hg6 hg (by simp; omega)⟩
  rcases hat with h | h
  · rw [h]; exact hg
  · rw [h]; simp; omega

attribute [local irreducible] sv
end Go.Proofs.Ythlaaldicmfcnaa
