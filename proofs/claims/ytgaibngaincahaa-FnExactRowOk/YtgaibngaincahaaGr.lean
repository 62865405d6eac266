/-
  Several texts in one: Frs Rdl Wds Fra Frt.
-/
import Derived.Test.YtgaibngaincahaaGq
/-
  The contracts of the specification's Frame, l5Cut and Torn.
-/
namespace Go.Proofs.Ytgaibngaincahaa
set_option linter.unusedSimpArgs false
set_option linter.unusedVariables false
open Go.RowKit Go.Sort

theorem sv_lit1 (l : List UInt8) (b : UInt8) : sv l ++ (⟨#[b]⟩ : ByteArray) = sv (l ++ [b]) := sv_app l [b]

theorem firstB_len (l : List UInt8) (n : Int) : (firstB l n).length ≤ l.length := by unfold firstB; rw [List.length_take]; omega

end Go.Proofs.Ytgaibngaincahaa

/-
  The contract of the specification's l1Read: what is a number.
-/
namespace Go.Proofs.Ytgaibngaincahaa
set_option linter.unusedSimpArgs false
set_option linter.unusedVariables false
open Go.RowKit Go.Sort

def digB (b : UInt8) : Bool := decide (48 ≤ b.toNat) && decide (b.toNat ≤ 57)
/-- Is there a - ahead? -/
def negB (s : List UInt8) : Bool := decide (s.head? = some 45)
/-- What stands behind it. -/
def bodyL (s : List UInt8) : List UInt8 := if negB s = true then s.drop 1 else s
/-- The number that a text tells, and whether it is one. -/
def rdL (s : List UInt8) : Int × Bool :=
  if (bodyL s).length < 1 ∨ 9 < (bodyL s).length then (0, false)
  else if (bodyL s).all digB = false then (0, false)
  else if (bodyL s).head? = some 48 ∧ (negB s = true ∨ 1 < s.length) then (0, false)
  else (if negB s = true then - ((numL (bodyL s) : Nat) : Int) else ((numL (bodyL s) : Nat) : Int), true)
theorem numL_bound (l : List UInt8) (h : l.all digB = true) : ∀ {k : Nat}, l.length ≤ k → numL l < 10 ^ k := by
  suffices H : ∀ (l : List UInt8) (x : Nat), l.all digB = true → l.foldl (fun n b => n * 10 + (b.toNat - 48)) x + 1 ≤ (x + 1) * 10 ^ l.length by
    intro k hk
    have h1 := H l 0 h
    have h2 : 10 ^ l.length ≤ 10 ^ k := Nat.pow_le_pow_right (by omega) hk
    unfold numL
    omega
  intro l
  induction l with
  | nil => intro x _; simp
  | cons b l ih =>
    intro x hx
    simp only [List.all_cons, Bool.and_eq_true, digB, decide_eq_true_eq] at hx
    have := ih (x * 10 + (b.toNat - 48)) (by simpa [digB] using hx.2)
    simp only [List.foldl_cons, List.length_cons]
    refine Nat.le_trans this ?_
    rw [Nat.pow_succ, Nat.mul_comm (10 ^ l.length) 10, ← Nat.mul_assoc]
    exact Nat.mul_le_mul_right _ (by omega)
theorem all_take {l : List UInt8} {k : Nat} (h : k < l.length) : (l.take (k + 1)).all digB = ((l.take k).all digB && digB l[k]) := by
  rw [take_byte h, List.all_append]; simp only [List.all_cons, List.all_nil, Bool.and_true]
theorem all_miss {l : List UInt8} {k : Nat} (h : k < l.length) (hd : digB l[k] = false) : l.all digB = false := by
  rw [List.all_eq_false]
  exact ⟨l[k], List.getElem_mem h, by simp [hd]⟩
/-- A number of at most nine digits is read. -/
theorem rdL_dec {n : Nat} (h : n < 1000000000) : rdL (dec n) = ((n : Int), true) := by
  have h0 : negB (dec n) = false := by
    unfold negB
    rw [decide_eq_false_iff_not]
    intro hh
    have hm : (45 : UInt8) ∈ dec n := List.mem_of_head? hh
    have := dec_dig n _ hm
    unfold isDig at this
    simp at this
  have hb : bodyL (dec n) = dec n := by unfold bodyL; rw [h0]; rfl
  have hl := dec_len (n := n) (k := 8) (by omega)
  have hp := dec_len_pos n
  have hd : (dec n).all digB = true := by
    rw [List.all_eq_true]
    intro b hb'
    have := dec_dig n b hb'
    unfold isDig at this
    simp [digB, this.1, this.2]
  unfold rdL
  rw [hb, h0, if_neg (by omega), if_neg (by rw [hd]; simp), if_neg]
  · simp [numL_dec]
  · rintro ⟨h1, h2⟩
    have h3 : n = 0 := dec_head n h1
    subst h3
    rw [dec_small (by omega)] at h2
    simp at h2

theorem head_byt {l : List UInt8} (h : 0 < l.length) (b : UInt8) : l.head? = some b ↔ byt l 0 = b.toNat := by
  cases l with
  | nil => simp at h
  | cons x l =>
    simp only [List.head?_cons, Option.some.injEq, byt, List.getD_cons_zero]
    exact UInt8.toNat_inj.symm
attribute [local irreducible] sv
end Go.Proofs.Ytgaibngaincahaa

/-
  Slices of strings in memory of one's own; the contract of the specification's l1Words.
-/
namespace Go.Proofs.Ytgaibngaincahaa
set_option linter.unusedSimpArgs false
set_option linter.unusedVariables false
open Go.RowKit Go.Sort

theorem Try.info9 : (Try.prog.info? 9).map (fun i => (i.zero, i.size, i.bytes)) = some (some (.string ⟨#[]⟩), 1, 16) := by kernel_rfl
theorem info_parts9 {T s b : Nat} {z : Value} (h : (Try.prog.info? T).map (fun i => (i.zero, i.size, i.bytes)) = some (some z, s, b)) : ∃ i, Try.prog.info? T = some i ∧ i.zero = some z ∧ i.size = s ∧ i.bytes = b := by
  cases hq : Try.prog.info? T with
  | none => rw [hq] at h; simp at h
  | some i => rw [hq] at h; simp at h; exact ⟨i, rfl, h.1, h.2.1, h.2.2⟩
/-- The strings of lists of bytes. -/
def svs (zs : List (List UInt8)) : List Value := zs.map (fun s => Value.string (sv s))
theorem svs_app (a b : List (List UInt8)) : svs (a ++ b) = svs a ++ svs b := by simp [svs]
theorem svs_one (zs : List (List UInt8)) : ∀ u ∈ svs zs, u.oneCell' = true := by
  intro u hu
  simp only [svs, List.mem_map] at hu
  obtain ⟨s, _, rfl⟩ := hu
  rfl
/-- A slice of one's own that holds the texts zs. -/
def OS (w : World) (g off n cap : Nat) (zs : List (List UInt8)) : Prop := OSl w 1 g off n cap (svs zs)
theorem OS.length {w : World} {g off n cap : Nat} {zs : List (List UInt8)} (h : OS w g off n cap zs) : zs.length = n := by have := h.len; simpa [svs] using this
theorem OS.cellAt {w : World} {g off n cap : Nat} {zs : List (List UInt8)} (h : OS w g off n cap zs) {i : Nat} (hi : i < n) : w.cell? ⟨g, off + i, none⟩ = some (.string (sv (zs.getD i []))) := by
  have hl := h.length
  rw [h.cell i (by omega)]
  simp [svs, show i < zs.length by omega]
theorem OS.below {w w' : World} {g off n cap B : Nat} {zs : List (List UInt8)} (h : OS w g off n cap zs) (hb : Below B w w') (hg : g < B) : OS w' g off n cap zs := OSl.below h hb hg
theorem OS.drewN {w : World} {g off n cap : Nat} {zs : List (List UInt8)} (h : OS w g off n cap zs) (k : Nat) : OS (w.drewN k) g off n cap zs := OSl.drewN h k
theorem os_empty (w : World) (T : TypeId) : OS (w.alloc (.cells #[] T)) w.heap.size 0 0 0 [] :=
  ⟨rfl, Nat.le_refl _, Nat.zero_le _, by simp, fun i hi => by omega, fun i hi => by omega, fun i hi => by omega⟩
theorem os_app {w : World} {g off n cap : Nat} {zs : List (List UInt8)} {s : List UInt8} (h : OSl w 1 g off (n + 1) cap (svs zs ++ [.string (sv s)])) : OS w g off (n + 1) cap (zs ++ [s]) := by
  unfold OS; rw [svs_app]; exact h
/-- What an answer that is a slice of texts comes to. -/
def AnsS (w w' : World) (v : Value) (Z : List (List UInt8)) : Prop := ∃ g off c, v = .slice (some ⟨g, off, none⟩) Z.length c ∧ w.heap.size ≤ g ∧ OS w' g off Z.length c Z ∧ Below w.heap.size w w'

theorem below_grown9 {B g : Nat} {w w1 w2 : World} (h : Below B w w1) (hg : w1.grownBy w2 (some g)) (hB : B ≤ g) (hs : B ≤ w1.heap.size) : Below B w w2 :=
  ⟨hg.os.trans h.os, hg.tape.trans h.tape, hg.output.trans h.output, Nat.le_trans h.size hg.size, fun k hk => (hg.block k (by omega) (by simp; omega)).trans (h.block k hk)⟩
/-- The words of a line: with one blank between each two. -/
def splitW : List UInt8 → List (List UInt8)
  | [] => [[]]
  | b :: l => if b = 32 then [] :: splitW l else match splitW l with
    | [] => [[b]]
    | u :: us => (b :: u) :: us
theorem splitW_ne (l : List UInt8) : splitW l ≠ [] := by
  cases l with
  | nil => simp [splitW]
  | cons b l =>
    unfold splitW
    split
    · simp
    · split <;> simp
theorem splitW_head (l : List UInt8) : (splitW l).head? = some (upto 32 l) := by
  induction l with
  | nil => rfl
  | cons b l ih =>
    unfold splitW upto
    by_cases h : b = 32
    · simp [h]
    · rw [if_neg h, if_neg h]
      cases hs : splitW l with
      | nil => exact absurd hs (splitW_ne l)
      | cons u us => rw [hs] at ih; simp at ih; simp [ih]
/-- p ahead of the first word. -/
def joinH (p : List UInt8) : List (List UInt8) → List (List UInt8)
  | [] => [p]
  | u :: us => (p ++ u) :: us
theorem joinH_nil {us : List (List UInt8)} (h : us ≠ []) : joinH [] us = us := by
  cases us with
  | nil => exact absurd rfl h
  | cons u us => rfl
theorem split_blank {l : List UInt8} {i : Nat} (h : i < l.length) (hb : byt l i = 32) (p : List UInt8) : joinH p (splitW (l.drop i)) = p :: splitW (l.drop (i + 1)) := by
  rw [List.drop_eq_getElem_cons h]
  have e : l[i] = 32 := UInt8.toNat_inj.1 (by rw [← byt_get h, hb]; rfl)
  simp [splitW, e, joinH]
theorem split_more {l : List UInt8} {i : Nat} (h : i < l.length) (hb : byt l i ≠ 32) (p : List UInt8) : joinH p (splitW (l.drop i)) = joinH (p ++ [l[i]]) (splitW (l.drop (i + 1))) := by
  rw [List.drop_eq_getElem_cons h]
  have e : l[i] ≠ 32 := fun e => hb (by rw [byt_get h, e]; rfl)
  conv => lhs; unfold splitW
  rw [if_neg e]
  cases hs : splitW (l.drop (i + 1)) with
  | nil => exact absurd hs (splitW_ne _)
  | cons u us => simp [joinH]
/-- From place f on, ahead of place i. -/
def mid (l : List UInt8) (f i : Nat) : List UInt8 := (l.drop f).take (i - f)
theorem mid_self (l : List UInt8) (i : Nat) : mid l i i = [] := by simp [mid]
theorem mid_snoc {l : List UInt8} {f i : Nat} (hf : f ≤ i) (h : i < l.length) : mid l f (i + 1) = mid l f i ++ [l[i]] := by
  unfold mid
  rw [show i + 1 - f = (i - f) + 1 by omega, List.take_succ_eq_append_getElem (by rw [List.length_drop]; omega), List.getElem_drop]
  congr 2
  congr 1
  omega
/-- How far the words are told. -/
def Wst (l : List UInt8) (i f : Nat) (O : List (List UInt8)) : Prop := (i ≤ l.length ∧ f ≤ i ∧ splitW l = O ++ joinH (mid l f i) (splitW (l.drop i))) ∨ (i = l.length + 1 ∧ splitW l = O)
theorem Wst.start (l : List UInt8) : Wst l 0 0 [] := .inl ⟨Nat.zero_le _, Nat.le_refl _, by rw [mid_self, List.drop_zero, joinH_nil (splitW_ne l)]; rfl⟩
theorem Wst.cut {l : List UInt8} {i f : Nat} {O : List (List UInt8)} (h : Wst l i f O) (hi : i < l.length) (hb : byt l i = 32) : f ≤ i ∧ Wst l (i + 1) (i + 1) (O ++ [mid l f i]) := by
  rcases h with ⟨_, hf, h⟩ | ⟨h, _⟩
  · refine ⟨hf, .inl ⟨by omega, Nat.le_refl _, ?_⟩⟩
    rw [h, split_blank hi hb, mid_self, joinH_nil (splitW_ne _)]
    simp
  · omega
theorem Wst.more {l : List UInt8} {i f : Nat} {O : List (List UInt8)} (h : Wst l i f O) (hi : i < l.length) (hb : byt l i ≠ 32) : Wst l (i + 1) f O := by
  rcases h with ⟨_, hf, h⟩ | ⟨h, _⟩
  · exact .inl ⟨by omega, by omega, by rw [h, split_more hi hb, mid_snoc hf hi]⟩
  · omega
theorem Wst.last {l : List UInt8} {f : Nat} {O : List (List UInt8)} (h : Wst l l.length f O) : f ≤ l.length ∧ Wst l (l.length + 1) (l.length + 1) (O ++ [mid l f l.length]) := by
  rcases h with ⟨_, hf, h⟩ | ⟨h, _⟩
  · refine ⟨hf, .inr ⟨rfl, ?_⟩⟩
    rw [h, List.drop_eq_nil_of_le (Nat.le_refl _)]
    simp [splitW, joinH]
  · omega

/-- One text more at the end of a slice of one's own. -/
theorem os_push {w wr w6 : World} {g g6 o6 c6 : Nat} {O : List (List UInt8)} {M : List UInt8} (hg : w.heap.size ≤ g) (hb : Below w.heap.size w wr) (hO6 : OSl w6 1 g6 o6 (O.length + 1) c6 (svs O ++ [.string (sv M)]))
    (hg6 : (wr.alloc (.cells #[.string (sv M)] 9)).grownBy w6 (some g)) (hat : g6 = g ∨ g6 = (wr.alloc (.cells #[.string (sv M)] 9)).heap.size) :
    w.heap.size ≤ g6 ∧ OS w6 g6 o6 (O ++ [M]).length c6 (O ++ [M]) ∧ Below w.heap.size w w6 := by
  have hs := hb.size
  refine ⟨?_, by rw [List.length_append]; exact os_app hO6, below_grown9 (hb.alloc hb.size _) hg6 hg (by simp; omega)⟩
  rcases hat with h | h
  · rw [h]; exact hg
  · rw [h]; simp; omega

attribute [local irreducible] sv
end Go.Proofs.Ytgaibngaincahaa

/-
  The contracts of the specification's l5Frame and Frames.
-/
namespace Go.Proofs.Ytgaibngaincahaa
set_option linter.unusedSimpArgs false
set_option linter.unusedVariables false
open Go.RowKit Go.Sort

/-- No byte 10 among the first k. -/
def No10 (d : List UInt8) (k : Nat) : Prop := ∀ j, j < k → byt d j ≠ 10
theorem no10_mem {d : List UInt8} {k : Nat} (h : No10 d k) (hk : k ≤ d.length) : ∀ x ∈ d.take k, x ≠ 10 := by
  intro x hx e
  obtain ⟨j, hj, rfl⟩ := List.getElem_of_mem hx
  rw [List.length_take] at hj
  have := h j (by omega)
  rw [byt_get (by omega)] at this
  rw [List.getElem_take] at e
  rw [e] at this
  exact this rfl
theorem upto_end {d : List UInt8} (h : No10 d d.length) : upto 10 d = d := by
  have := no10_mem h (Nat.le_refl _)
  rw [List.take_length] at this
  exact upto_none this
theorem upto_mid {d : List UInt8} {k : Nat} (h : No10 d k) (hk : k < d.length) (hb : byt d k = 10) : upto 10 d = d.take k := by
  have e : d[k] = 10 := UInt8.toNat_inj.1 (by rw [← byt_get hk, hb]; rfl)
  have : d = d.take k ++ 10 :: d.drop (k + 1) := by
    rw [← e, ← List.drop_eq_getElem_cons hk, List.take_append_drop]
  conv => lhs; rw [this]
  exact upto_at (no10_mem h (by omega)) _
/-- What l5Frame tells. -/
def Tells (d : List UInt8) (o : Option (List UInt8)) : Prop := ∀ t, o = some t ↔ Begins d t
theorem tells_none {d : List UInt8} (h : ∀ t, ¬ Begins d t) : Tells d none := fun t => Iff.intro (fun e => by cases e) (fun e => absurd e (h t))
theorem tells_some {d t : List UInt8} (h : Begins d t) : Tells d (some t) := fun s => ⟨fun e => by cases e; exact h, fun e => by rw [begins_unique h e]⟩
def telN : Option (List UInt8) → Nat
  | none => 0
  | some t => (frL t).length
/-- No frame where the line does not end, or its first word is no number in range, or the text goes beyond the disk. -/
theorem begins_end {d t : List UInt8} (h : Begins d t) : (upto 10 d).length < d.length := by
  have := (begins_text h).2
  omega
theorem begins_read {d t : List UInt8} (h : Begins d t) : rdL (upto 32 (upto 10 d)) = ((t.length : Int), true) := by
  rw [begins_num h]
  exact rdL_dec (by have := h.1; omega)
theorem frameL_small {t : List UInt8} (h : t.length ≤ 2000) : frameL t = frL t := by unfold frameL; rw [if_pos h]
theorem frameL_len (t : List UInt8) : (frameL t).length ≤ t.length + 13 := by
  unfold frameL
  split
  · rename_i h
    have := headL_len h
    rw [frL_len]
    omega
  · simp

attribute [local irreducible] sv
end Go.Proofs.Ytgaibngaincahaa

/-
  The contract of the specification's Frames.
-/
namespace Go.Proofs.Ytgaibngaincahaa
set_option linter.unusedSimpArgs false
set_option linter.unusedVariables false
open Go.RowKit Go.Sort

theorem frL_pos (t : List UInt8) : 0 < (frL t).length := by rw [frL_len]; omega
/-- What Frames answers: the texts and how many bytes they take. -/
def AnsF (w w' : World) (e : Ending) (ts : List (List UInt8)) : Prop := ∃ g off c, e = .returned (.tuple #[.slice (some ⟨g, off, none⟩) ts.length c, .int .i64 ((bytesOf ts).length : Nat)]) ∧ w.heap.size ≤ g ∧ OS w' g off ts.length c ts ∧ Below w.heap.size w w'
/-- How far the disk is read. -/
structure Rd (d : List UInt8) (O : List (List UInt8)) : Prop where
  pre : ∃ r, d = bytesOf O ++ r
  small : ∀ t ∈ O, t.length ≤ 2000
theorem Rd.start (d : List UInt8) : Rd d [] := ⟨⟨d, rfl⟩, fun t h => by simp at h⟩
theorem Rd.drop {d : List UInt8} {O : List (List UInt8)} (h : Rd d O) : d = bytesOf O ++ d.drop (bytesOf O).length := by
  obtain ⟨r, hr⟩ := h.pre
  conv => rhs; rw [hr, List.drop_left]
  exact hr
theorem Rd.le {d : List UInt8} {O : List (List UInt8)} (h : Rd d O) : (bytesOf O).length ≤ d.length := by
  obtain ⟨r, hr⟩ := h.pre
  rw [hr, List.length_append]
  omega
theorem Rd.next {d t : List UInt8} {O : List (List UInt8)} (h : Rd d O) (hb : Begins (d.drop (bytesOf O).length) t) : Rd d (O ++ [t]) := by
  obtain ⟨q, hq⟩ := hb.2
  refine ⟨⟨q, ?_⟩, fun s hs => ?_⟩
  · rw [bytesOf_snoc, List.append_assoc, hq]
    exact h.drop
  · rcases List.mem_append.1 hs with h1 | h1
    · exact h.small s h1
    · rw [List.mem_singleton] at h1; subst h1; exact hb.1
theorem Rd.count {d : List UInt8} {O : List (List UInt8)} (h : Rd d O) : O.length ≤ d.length := by
  refine Nat.le_trans ?_ h.le
  have : ∀ O : List (List UInt8), O.length ≤ (bytesOf O).length := by
    intro O
    induction O with
    | nil => simp
    | cons t O ih => rw [bytesOf_cons, List.length_append, List.length_cons]; have := frL_pos t; omega
  exact this O

attribute [local irreducible] sv
end Go.Proofs.Ytgaibngaincahaa
