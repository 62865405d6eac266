/-
  Several texts in one: Lat Bvc.
-/
import Derived.Test.YtbgkfiijfocgiaaGb
/-
  The plain mathematics of vectors that the law FnLattice asks: joins and meets of vectors as long as one another are such vectors; bounds, order, exchange, association, absorption, distribution, sums.
-/
namespace Go.Proofs.Ytbgkfiijfocgiaa
open Go.RowKit

theorem pair_el {f : Int → Int → Int} {A B : List Int} (h : twoB A B = true) {i : Nat} (hi : i < A.length) : el (pairB f A B) i = f (el A i) (el B i) := by
  rw [pairB, if_pos h, jn_el _ _ _ hi]
theorem pair_len {f : Int → Int → Int} {A B : List Int} (h : twoB A B = true) : (pairB f A B).length = A.length := by
  rw [pairB, if_pos h, jn_length]
theorem twoB_of {A B : List Int} (ha : okB A = true) (hb : okB B = true) (hl : A.length = B.length) : twoB A B = true := by
  unfold twoB; simp [ha, hb, hl]
theorem okB_of_el {A : List Int} (h1 : 1 ≤ A.length) (h8 : A.length ≤ 8) (h : ∀ j, j < A.length → 0 ≤ el A j ∧ el A j ≤ 1000000) : okB A = true :=
  okB_true_of h1 h8 (fun j hj => by have := h j hj; unfold inB; simp [this.1, this.2])
theorem pair_ok {f : Int → Int → Int} (hf : ∀ x y, f x y = x ∨ f x y = y) {A B : List Int} (h : twoB A B = true) : okB (pairB f A B) = true := by
  obtain ⟨ha, hb, hl⟩ := twoB_true h
  have := okB_len ha
  refine okB_of_el (by rw [pair_len h]; exact this.1) (by rw [pair_len h]; exact this.2) (fun j hj => ?_)
  rw [pair_len h] at hj
  rw [pair_el h hj]
  have h1 := okB_el ha hj
  have h2 := okB_el hb (i := j) (by omega)
  rcases hf (el A j) (el B j) with e | e <;> rw [e]
  · exact h1
  · exact h2
theorem same_true {X Y : List Int} (hl : X.length = Y.length) (h : ∀ j, j < X.length → el X j = el Y j) : sameB X Y = true := by
  unfold sameB; rw [decide_eq_true_iff]; exact eq_of_all hl h
theorem under_true {X Y : List Int} (h2 : twoB X Y = true) (h : ∀ j, j < X.length → el X j ≤ el Y j) : underB X Y = true := by
  unfold underB; rw [h2, leB_true h]; rfl
theorem sumB_bd (X : List Int) : -1 ≤ sumB X ∧ sumB X ≤ 8000000 := by
  unfold sumB
  by_cases h : okB X = true
  · rw [if_pos h]
    have := sumL_take h X.length (Nat.le_refl _)
    rw [List.take_length] at this
    have h8 := okB_len h
    omega
  · rw [if_neg h]; omega
theorem sum_of {X : List Int} (h : okB X = true) : sumB X = sumL (X.take X.length) := by unfold sumB; rw [if_pos h, List.take_length]

/-- All that the law asks of two vectors A, B and a third one C, as long as one another. -/
structure Lattice (A B C : List Int) : Prop where
  u1 : underB A (pairB max A B) = true
  u2 : underB B (pairB max A B) = true
  u3 : underB (pairB min A B) A = true
  u4 : underB (pairB min A B) B = true
  o1 : sameB (pairB max A B) B = underB A B
  o2 : sameB (pairB min A B) A = underB A B
  l1 : sameB (pairB max B A) (pairB max A B) = true
  l2 : sameB (pairB max (pairB max A B) C) (pairB max A (pairB max B C)) = true
  l3 : sameB (pairB min A (pairB max A B)) A = true
  l4 : sameB (pairB max A (pairB min A B)) A = true
  l5 : sameB (pairB min A (pairB max B C)) (pairB max (pairB min A B) (pairB min A C)) = true
  s : (sumB (pairB max A B) + sumB (pairB min A B) == sumB A + sumB B) = true

theorem lattice {A B C : List Int} (h : twoB A B = true) (hc : okB C = true) (hl : A.length = C.length) : Lattice A B C := by
  obtain ⟨ha, hb, hab⟩ := twoB_true h
  have oJ := pair_ok max_or h
  have oM := pair_ok min_or h
  have lJ := pair_len (f := max) h
  have lM := pair_len (f := min) h
  have hBA := twoB_of hb ha hab.symm
  have hAC := twoB_of ha hc hl
  have hBC := twoB_of hb hc (by omega)
  have oBC := pair_ok max_or hBC
  have oAC := pair_ok min_or hAC
  have lBC := pair_len (f := max) hBC
  have lAC := pair_len (f := min) hAC
  have hAJ := twoB_of ha oJ lJ.symm
  have hBJ := twoB_of hb oJ (by omega)
  have hMA := twoB_of oM ha lM
  have hMB := twoB_of oM hb (by omega)
  have hAM := twoB_of ha oM lM.symm
  have hJC := twoB_of oJ hc (by omega)
  have hA_BC := twoB_of ha oBC (by omega)
  have hM_AC := twoB_of oM oAC (by omega)
  have o1 : sameB (pairB max A B) B = underB A B := by
    unfold sameB underB
    rw [h, Bool.true_and, Bool.eq_iff_iff, decide_eq_true_iff]
    constructor
    · intro e
      refine leB_true (fun j hj => ?_)
      have := pair_el (f := max) h hj
      rw [e] at this; omega
    · intro e
      refine eq_of_all (by omega) (fun j hj => ?_)
      rw [lJ] at hj
      rw [pair_el h hj]
      have := of_decide_eq_true (List.all_eq_true.1 e j (List.mem_range.2 hj))
      omega
  have o2 : sameB (pairB min A B) A = underB A B := by
    unfold sameB underB
    rw [h, Bool.true_and, Bool.eq_iff_iff, decide_eq_true_iff]
    constructor
    · intro e
      refine leB_true (fun j hj => ?_)
      have := pair_el (f := min) h hj
      rw [e] at this; omega
    · intro e
      refine eq_of_all (by omega) (fun j hj => ?_)
      rw [lM] at hj
      rw [pair_el h hj]
      have := of_decide_eq_true (List.all_eq_true.1 e j (List.mem_range.2 hj))
      omega
  have hsum : ∀ k, k ≤ A.length → sumL ((pairB max A B).take k) + sumL ((pairB min A B).take k) = sumL (A.take k) + sumL (B.take k) := by
    intro k
    induction k with
    | zero => intro _; rfl
    | succ k ih =>
      intro hk
      have := ih (by omega)
      rw [take_snoc (by omega), take_snoc (by omega), take_snoc (xs := A) (by omega), take_snoc (xs := B) (by omega), sumL_snoc, sumL_snoc, sumL_snoc, sumL_snoc, pair_el h (by omega), pair_el h (by omega)]
      omega
  exact
    { u1 := under_true hAJ (fun j hj => by rw [pair_el h hj]; omega)
      u2 := under_true hBJ (fun j hj => by rw [pair_el h (by omega)]; omega)
      u3 := under_true hMA (fun j hj => by rw [pair_el h (by omega)]; omega)
      u4 := under_true hMB (fun j hj => by rw [pair_el h (by omega)]; omega)
      o1 := o1
      o2 := o2
      l1 := same_true (by rw [pair_len hBA]; omega) (fun j hj => by rw [pair_len hBA] at hj; rw [pair_el hBA hj, pair_el h (by omega)]; omega)
      l2 := same_true (by rw [pair_len hJC, pair_len hA_BC]; omega) (fun j hj => by
        rw [pair_len hJC, lJ] at hj
        rw [pair_el hJC (by omega), pair_el hA_BC hj, pair_el h hj, pair_el hBC (by omega)]; omega)
      l3 := same_true (by rw [pair_len hAJ]) (fun j hj => by rw [pair_len hAJ] at hj; rw [pair_el hAJ hj, pair_el h hj]; omega)
      l4 := same_true (by rw [pair_len hAM]) (fun j hj => by rw [pair_len hAM] at hj; rw [pair_el hAM hj, pair_el h hj]; omega)
      l5 := same_true (by rw [pair_len hA_BC, pair_len hM_AC]; omega) (fun j hj => by
        rw [pair_len hA_BC] at hj
        rw [pair_el hA_BC hj, pair_el hM_AC (by omega), pair_el hBC (by omega), pair_el h hj, pair_el hAC hj]; omega)
      s := by
        rw [beq_iff_eq, sum_of oJ, sum_of oM, sum_of ha, sum_of hb, lJ, lM, ← hab]
        exact hsum A.length (Nat.le_refl _) }

theorem small_ok {C : List Int} (h : Small C) (h1 : 1 ≤ C.length) (h8 : C.length ≤ 8) : okB C = true :=
  okB_of_el h1 h8 (fun j hj => by have := h _ (el_mem hj); omega)
end Go.Proofs.Ytbgkfiijfocgiaa

/-
  A slice of bytes that came in, as the draws read it.
-/
namespace Go.Proofs.Ytbgkfiijfocgiaa
set_option linter.unusedSimpArgs false
set_option linter.unusedVariables false
open Go.RowKit

theorem IsRow.bvec {w : World} {a : Option Addr} {len cap : Nat} {zs : List Int} (h : IsRow .u8 w a len cap zs) : BVec w a len (fun i => zs.getD i 0) := by
  rcases h with ⟨rfl, rfl, rfl, rfl⟩ | ⟨x, rfl, hl, hm, hz, hcell, hwz⟩
  · exact ⟨fun i hi => absurd hi (Nat.not_lt_zero _), .inl rfl⟩
  · refine ⟨fun i hi => ?_, ?_⟩
    · have := bounds_u8 (hwz (zs.getD i 0) (by
        have hi' : i < zs.length := by omega
        simp [hi']))
      omega
    · by_cases h0 : len = 0
      · exact .inl h0
      · obtain ⟨b, off, spot⟩ := x
        have hc := hcell 0 (by omega)
        have hspot : spot = none := by simpa [Addr.add] using World.cell?_spot hc
        subst hspot
        refine .inr ⟨b, off, rfl, fun i hi => ?_⟩
        have := hcell i (by omega)
        by_cases hi0 : i = 0
        · subst hi0; simpa [Addr.add] using this
        · simpa [Addr.add, hi0] using this
end Go.Proofs.Ytbgkfiijfocgiaa
