/-
  Several texts in one: Rpu.
-/
import Derived.Test.YtggieamhbfdmhaaJg
/-
  The specification's l1Put: a number put into a rising list.
-/
namespace Go.Proofs.Ytggieamhbfdmhaa
set_option linter.unusedVariables false
set_option linter.unusedSimpArgs false
open Go.RowKit Go.Sort

theorem putL_at (n : Int) : ∀ (h : List Int) (k : Nat), k ≤ h.length → (∀ t, t < k → el h t < n) → (k < h.length → ¬ el h k < n) →
    putL h n = if k < h.length ∧ el h k = n then h else h.take k ++ n :: h.drop k := by
  intro h
  induction h with
  | nil => intro k hk _ _; simp at hk; subst hk; simp [putL]
  | cons x l ih =>
    intro k hk hlt hge
    cases k with
    | zero =>
      have h0 : ¬ x < n := by simpa [el] using hge (by simp)
      unfold putL
      rw [if_neg h0]
      by_cases e : x = n
      · rw [if_pos e, if_pos ⟨by simp, by simpa [el] using e⟩]
      · rw [if_neg e, if_neg (by simp [el]; exact e)]
        simp
    | succ k =>
      have h0 : x < n := by simpa [el] using hlt 0 (by omega)
      have hs : ∀ t, el (x :: l) (t + 1) = el l t := fun t => by simp [el]
      unfold putL
      rw [if_pos h0, ih k (by simpa using hk) (fun t ht => by rw [← hs]; exact hlt (t + 1) (by omega)) (fun hk' => by rw [← hs]; exact hge (by simpa using hk')), hs]
      by_cases e : k < l.length ∧ el l k = n
      · rw [if_pos e, if_pos ⟨by simpa using e.1, e.2⟩]
      · rw [if_neg e, if_neg (by simpa using e)]
        simp
theorem el_take {xs : List Int} {k i : Nat} (h : i < k) : el (xs.take k) i = el xs i := by simp [el, List.getElem?_take, h]
theorem el_drop {xs : List Int} {k i : Nat} : el (xs.drop k) i = el xs (k + i) := by simp [el, List.getElem?_drop]

theorem app_one {w w2 : World} {g2 o2 c2 m : Nat} {Z : List Int} (ho2 : OSl w2 1 g2 o2 (0 + m) c2 (([] : List Int).map (Value.int .i64) ++ Z.map (Value.int .i64))) (hg2 : (w.alloc (.cells #[] 2)).grownBy w2 (some w.heap.size))
    (hat2 : g2 = w.heap.size ∨ g2 = (w.alloc (.cells #[] 2)).heap.size) : OI w2 g2 o2 m c2 Z ∧ w.heap.size ≤ g2 ∧ Below w.heap.size w w2 ∧ g2 < w2.heap.size := by
  simp only [List.map_nil, List.nil_append, Nat.zero_add] at ho2
  refine ⟨ho2, ?_, below_grown6 ((Below.refl _ _).alloc (Nat.le_refl _) _) hg2 (Nat.le_refl _) (by simp), ho2.blk⟩
  rcases hat2 with h | h
  · rw [h]; exact Nat.le_refl _
  · rw [h]; simp
theorem app_more {w w3 w4 : World} {o : Obj} {g3 g4 o4 c4 m k : Nat} {T : List Int} {n : Int} (hB : Below w.heap.size w w3) (hg : w.heap.size ≤ g3) (ho : OSl w4 1 g4 o4 (k + 1) c4 (T.map (Value.int .i64) ++ [.int .i64 n])) (hg4 : (w3.alloc o).grownBy w4 (some g3))
    (hat : g4 = g3 ∨ g4 = (w3.alloc o).heap.size) : OI w4 g4 o4 (k + 1) c4 (T ++ [n]) ∧ w.heap.size ≤ g4 ∧ Below w.heap.size w w4 := by
  refine ⟨by rw [OI, List.map_append]; exact ho, ?_, below_grown6 (hB.alloc hB.size _) hg4 hg (Nat.le_trans hB.size (by simp))⟩
  rcases hat with h | h
  · rw [h]; exact hg
  · rw [h]; exact Nat.le_trans hB.size (by simp)
theorem app_last {w w4 w5 : World} {g4 g5 o5 c5 m k : Nat} {T D : List Int} {n : Int} (hB : Below w.heap.size w w4) (hg : w.heap.size ≤ g4) (ho : OSl w5 1 g5 o5 (k + 1 + m) c5 ((T ++ [n]).map (Value.int .i64) ++ D.map (Value.int .i64))) (hg5 : w4.grownBy w5 (some g4))
    (hat : g5 = g4 ∨ g5 = w4.heap.size) : OI w5 g5 o5 (k + 1 + m) c5 (T ++ n :: D) ∧ w.heap.size ≤ g5 ∧ Below w.heap.size w w5 := by
  refine ⟨by rw [OI, show T ++ n :: D = (T ++ [n]) ++ D by simp, List.map_append]; exact ho, ?_, below_grown6 hB hg5 hg hB.size⟩
  rcases hat with h | h
  · rw [h]; exact hg
  · rw [h]; exact hB.size

end Go.Proofs.Ytggieamhbfdmhaa
