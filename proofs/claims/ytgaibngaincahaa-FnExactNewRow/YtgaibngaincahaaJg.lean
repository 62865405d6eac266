/-
  Several texts in one: Rfu Rcn.
-/
import Derived.Test.YtgaibngaincahaaJf
/-
  The specification's Full.
-/
namespace Go.Proofs.Ytgaibngaincahaa
set_option linter.unusedVariables false
set_option linter.unusedSimpArgs false
open Go.RowKit Go.Sort

end Go.Proofs.Ytgaibngaincahaa

/-
  Passes in memory; the specification's Chain.
-/
namespace Go.Proofs.Ytgaibngaincahaa
set_option linter.unusedVariables false
set_option linter.unusedSimpArgs false
open Go.RowKit Go.Sort

/-- Passes as cells. -/
def pvs (L : List Ps) : List Value := L.flatMap (fun c => [.int .i64 c.1, .int .i64 c.2.1, .int .i64 c.2.2])
theorem pvs_len (L : List Ps) : (pvs L).length = L.length * 3 := by
  induction L with
  | nil => rfl
  | cons c L ih => simp only [pvs, List.flatMap_cons, List.length_append, List.length_cons, List.length_nil] at ih ⊢; omega
theorem pvs_snoc (L : List Ps) (c : Ps) : pvs (L ++ [c]) = pvs L ++ [.int .i64 c.1, .int .i64 c.2.1, .int .i64 c.2.2] := by simp [pvs]
theorem pvs_at (L : List Ps) : ∀ i, i < L.length → (pvs L)[i * 3]? = some (.int .i64 (pat L i).1) ∧ (pvs L)[i * 3 + 1]? = some (.int .i64 (pat L i).2.1) ∧ (pvs L)[i * 3 + 2]? = some (.int .i64 (pat L i).2.2) := by
  induction L with
  | nil => intro i hi; simp at hi
  | cons c L ih =>
    intro i hi
    have e : pvs (c :: L) = .int .i64 c.1 :: .int .i64 c.2.1 :: .int .i64 c.2.2 :: pvs L := by simp [pvs]
    rw [e]
    cases i with
    | zero => simp [pat]
    | succ i =>
      have := ih i (by simpa using hi)
      rw [show (i + 1) * 3 = i * 3 + 1 + 1 + 1 by omega]
      simpa [pat] using this
/-- A list of passes in a slice of one's own. -/
def OP (w : World) (g off n cap : Nat) (L : List Ps) : Prop := OSl w 3 g off n cap (pvs L)
theorem pass_empty (w : World) (T : TypeId) : OP (w.alloc (.cells #[] T)) w.heap.size 0 0 0 [] :=
  ⟨rfl, Nat.le_refl _, Nat.zero_le _, by simp, fun i hi => by omega, fun i hi => by omega, fun i hi => by omega⟩
/-- An answer that is a list of passes. -/
def AnsP (w w' : World) (e : Ending) (L : List Ps) : Prop := ∃ g off c, e = .returned (.slice (some ⟨g, off, none⟩) L.length c) ∧ w.heap.size ≤ g ∧ OP w' g off L.length c L ∧ Below w.heap.size w w'
theorem chnAt_len (H : List (List Int)) (k : Nat) : (chnAt H k).length ≤ 1 := by
  unfold chnAt
  split <;> simp
theorem chn_len (H : List (List Int)) (m : Nat) : (chn H m).length ≤ m := by
  induction m with
  | zero => simp [chn]
  | succ m ih => rw [chn_succ, List.length_append]; have := chnAt_len H m; omega
theorem chnAt_some {H : List (List Int)} {k j : Nat} (hj : j < (row H k).length) (hn : ∀ t, t < j → el (row H k) t ∈ row H (k + 1)) (h : ¬ el (row H k) j ∈ row H (k + 1)) : chnAt H k = [((k : Int), (k : Int) + 1, el (row H k) j)] := by
  have : firstN (row H k) (row H (k + 1)) = some (el (row H k) j) := by
    unfold firstN
    rw [List.find?_eq_some_iff_getElem]
    refine ⟨by simpa using h, j, hj, by simp [el, hj], fun t ht => ?_⟩
    have := hn t ht
    have e : el (row H k) t = (row H k)[t]'(by omega) := by simp [el, show t < (row H k).length by omega]
    rw [e] at this
    simpa using this
  unfold chnAt
  rw [this]
  simp
theorem chnAt_none {H : List (List Int)} {k : Nat} (hn : ∀ t, t < (row H k).length → el (row H k) t ∈ row H (k + 1)) : chnAt H k = [] := by
  have : firstN (row H k) (row H (k + 1)) = none := by
    unfold firstN
    rw [List.find?_eq_none]
    intro q hq
    obtain ⟨t, ht, rfl⟩ := el_mem10.1 hq
    simpa using hn t ht
  unfold chnAt
  rw [this]
theorem VV.below {w w' : World} {a : Option Addr} {len cap : Nat} {H : List (List Int)} (h : VV w a len cap H) (hb : Below w.heap.size w w') : VV w' a len cap H :=
  ⟨h.n, h.le, h.mx, fun i hi => by
    obtain ⟨b, off, x, c, e, h1, h2, h3, h4⟩ := h.row i hi
    exact ⟨b, off, x, c, e, (hb.cell (World.block_lt_of_cell? _ _ h1)).trans h1, h2.below hb (Nat.le_refl _), h3, h4⟩⟩
theorem below_cell {w w' : World} (hb : Below w.heap.size w w') {p : Addr} {v : Value} (h : w.cell? p = some v) : w'.cell? p = some v := (hb.cell (World.block_lt_of_cell? _ _ h)).trans h

end Go.Proofs.Ytgaibngaincahaa
