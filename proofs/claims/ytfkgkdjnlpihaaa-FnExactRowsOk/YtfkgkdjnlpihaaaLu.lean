/-
  Several texts in one: Fnx.
-/
import Derived.Test.YtfkgkdjnlpihaaaLt
/-
  The walks of the exact laws of stage 13 FROM what the program answers.
-/
namespace Go.Proofs.Ytfkgkdjnlpihaaa
set_option linter.unusedVariables false
set_option linter.unusedSimpArgs false
open Go.RowKit Go.Sort

set_option maxRecDepth 100000 in
set_option maxHeartbeats 3200000 in
theorem lawRowsOk (hI : ImplRowsOk) (a : Option Addr) (cap : Nat) (H : List (List Int)) (w : World) (hv : VV w a H.length cap H) :
    Calls Try.prog 5 #[.slice a H.length cap] w fun e w' => e = .returned (.bool true) ∧ Below w.heap.size w w' := by
  have hf := vv_fits hv
  have hZ := szII_any a H.length cap H 1048576 w hv ⟨by omega, by omega⟩
  have hB0 : Below w.heap.size w w := Below.refl _ _
  have hvX : ∀ X, Below w.heap.size w X → VV X a H.length cap H := fun X hX => hv.below hX
  have hTo : H.length ≤ 1048576 → tot H H.length ≤ 1048576 → ∀ X, Below w.heap.size w X → Calls Try.prog 39 #[.slice a H.length cap] X fun e w' => ∃ a', e = .returned (.slice a' H.length H.length) ∧ It w' [iicl H] [.slice a' H.length H.length] X.heap.size w'.heap.size ∧ Below X.heap.size X w' := fun h1 h2 X hX => toII_it a cap H X (hvX X hX) h1 h2
  have hEq : ∀ X a1 c1 a2 c2 {l1 h1 l2 h2 : Nat}, It X [iicl H] [.slice a1 H.length c1] l1 h1 → It X [iicl H] [.slice a2 H.length c2] l2 h2 → Calls Try.prog 40 #[.slice a1 H.length c1, .slice a2 H.length c2] X fun e w' => e = .returned (.bool true) ∧ Below X.heap.size X w' := fun X a1 c1 a2 c2 l1 h1 l2 h2 i1 i2 => (eqII_any a1 a2 H.length c1 c2 H X (it_vv i1 hf) (it_vv i2 hf)).mono (fun e w' ⟨h1, q, h2⟩ => ⟨h1, by rw [h2]; exact belowN (Below.refl _ _)⟩)
  have hSp : ∀ X a1 c1 {l1 h1 : Nat}, It X [iicl H] [.slice a1 H.length c1] l1 h1 → Calls Try.prog 36 #[.slice a1 H.length c1] X fun e w' => e = .returned (.bool (okFr H)) ∧ Below X.heap.size X w' := fun X a1 c1 l1 h1 i => (froS_any a1 H.length c1 H X (it_vv i hf)).mono (fun e w' ⟨h1, q, h2⟩ => ⟨h1, by rw [h2]; exact belowN (Below.refl _ _)⟩)
  have hIm : ∀ X a1 c1 {l1 h1 : Nat}, It X [iicl H] [.slice a1 H.length c1] l1 h1 → Calls Try.prog 35 #[.slice a1 H.length c1] X fun e w' => e = .returned (.bool (okFr H)) ∧ Below X.heap.size X w' := fun X a1 c1 l1 h1 i => hI a1 c1 H X (it_vv i hf)
  clear hI hv
  generalize (okFr H) = Q at *
  have ne : (Q != Q) = false := by simp
  go_enter Try.func5, Try.ntmps5
  go_wp2_with fail
  refine (hZ).mono ?_
  rintro e w1 ⟨q, rfl, hq, hw1⟩
  have hb1 : Below w.heap.size w w1 := by rw [hw1]; exact Below.refl _ _
  clear hZ hw1
  have B1 : Below w.heap.size w w1 := hB0.trans (hb1.mono hB0.size)
  have sB1 : w.heap.size ≤ w1.heap.size := hb1.size
  clear hB0
  rcases hq with rfl | ⟨hq0, hq1⟩
  · go_wp2
    go_ret
    exact ⟨rfl, B1⟩
  have hqn : decide (q < 0) = false := by simp; omega
  have hT := hTo (by omega) (by omega)
  clear hTo
  go_wp2_with fail
  refine (hT w1 B1).mono ?_
  rintro e w2 ⟨a1, rfl, iw2, hbw2⟩
  have B2 : Below w.heap.size w w2 := B1.trans (hbw2.mono B1.size)
  have sB2 : w1.heap.size ≤ w2.heap.size := hbw2.size
  clear B1
  go_wp2_with fail
  refine (hSp w2 _ _ iw2).mono ?_
  rintro e w3 ⟨rfl, hb3⟩
  clear iw2
  have B3 : Below w.heap.size w w3 := B2.trans (hb3.mono B2.size)
  have sB3 : w2.heap.size ≤ w3.heap.size := hb3.size
  clear B2
  go_wp2_with fail
  refine (hT w3 B3).mono ?_
  rintro e w4 ⟨a2, rfl, iw4, hbw4⟩
  have B4 : Below w.heap.size w w4 := B3.trans (hbw4.mono B3.size)
  have sB4 : w3.heap.size ≤ w4.heap.size := hbw4.size
  clear B3
  go_wp2_with fail
  refine (hIm w4 _ _ iw4).mono ?_
  rintro e w5 ⟨rfl, hb5⟩
  have B5 : Below w.heap.size w w5 := B4.trans (hb5.mono B4.size)
  have sB5 : w4.heap.size ≤ w5.heap.size := hb5.size
  have h6 := iw4.below hb5
  clear B4 iw4
  go_wp2_with fail
  refine (hT w5 B5).mono ?_
  rintro e w6 ⟨a3, rfl, iw6, hbw6⟩
  have B7 : Below w.heap.size w w6 := B5.trans (hbw6.mono B5.size)
  have sB7 : w5.heap.size ≤ w6.heap.size := hbw6.size
  have h8 := h6.below hbw6
  clear B5 h6
  go_wp2_with fail
  refine (hEq w6 _ _ _ _ h8 iw6).mono ?_
  rintro e w7 ⟨rfl, hb7⟩
  have B9 : Below w.heap.size w w7 := B7.trans (hb7.mono B7.size)
  have sB9 : w6.heap.size ≤ w7.heap.size := hb7.size
  have h10 := h8.below hb7
  have h11 := iw6.below hb7
  clear B7 h8 iw6
  go_wp2
  go_ret
  exact ⟨rfl, B9⟩
set_option maxRecDepth 100000 in
set_option maxHeartbeats 3200000 in
theorem lawLag (hI : ImplLag) (a : Option Addr) (cap : Nat) (H : List (List Int)) (k : Int) (w : World) (hv : VV w a H.length cap H) (hk : I64f k) :
    Calls Try.prog 8 #[.slice a H.length cap, .int .i64 k] w fun e w' => e = .returned (.bool true) ∧ Below w.heap.size w w' := by
  have hf := vv_fits hv
  have hZ := szII_any a H.length cap H 1048576 w hv ⟨by omega, by omega⟩
  have hB0 : Below w.heap.size w w := Below.refl _ _
  have hvX : ∀ X, Below w.heap.size w X → VV X a H.length cap H := fun X hX => hv.below hX
  have hTo : H.length ≤ 1048576 → tot H H.length ≤ 1048576 → ∀ X, Below w.heap.size w X → Calls Try.prog 39 #[.slice a H.length cap] X fun e w' => ∃ a', e = .returned (.slice a' H.length H.length) ∧ It w' [iicl H] [.slice a' H.length H.length] X.heap.size w'.heap.size ∧ Below X.heap.size X w' := fun h1 h2 X hX => toII_it a cap H X (hvX X hX) h1 h2
  have hEq : ∀ X a1 c1 a2 c2 {l1 h1 l2 h2 : Nat}, It X [iicl H] [.slice a1 H.length c1] l1 h1 → It X [iicl H] [.slice a2 H.length c2] l2 h2 → Calls Try.prog 40 #[.slice a1 H.length c1, .slice a2 H.length c2] X fun e w' => e = .returned (.bool true) ∧ Below X.heap.size X w' := fun X a1 c1 a2 c2 l1 h1 l2 h2 i1 i2 => (eqII_any a1 a2 H.length c1 c2 H X (it_vv i1 hf) (it_vv i2 hf)).mono (fun e w' ⟨h1, q, h2⟩ => ⟨h1, by rw [h2]; exact belowN (Below.refl _ _)⟩)
  have hSp : ∀ X a1 c1 {l1 h1 : Nat}, It X [iicl H] [.slice a1 H.length c1] l1 h1 → Calls Try.prog 34 #[.slice a1 H.length c1, .int .i64 k] X fun e w' => e = .returned (.int .i64 (lagL H k)) ∧ Below X.heap.size X w' := fun X a1 c1 l1 h1 i => lagS_any a1 H.length c1 H k X (it_vv i hf) hk
  have hIm : ∀ X a1 c1 {l1 h1 : Nat}, It X [iicl H] [.slice a1 H.length c1] l1 h1 → Calls Try.prog 33 #[.slice a1 H.length c1, .int .i64 k] X fun e w' => e = .returned (.int .i64 (lagL H k)) ∧ Below X.heap.size X w' := fun X a1 c1 l1 h1 i => hI a1 c1 H k X (it_vv i hf) hk
  clear hI hv
  generalize (lagL H k) = Q at *
  have ne : (Q != Q) = false := by simp
  go_enter Try.func8, Try.ntmps8
  go_wp2_with fail
  refine (hZ).mono ?_
  rintro e w1 ⟨q, rfl, hq, hw1⟩
  have hb1 : Below w.heap.size w w1 := by rw [hw1]; exact Below.refl _ _
  clear hZ hw1
  have B1 : Below w.heap.size w w1 := hB0.trans (hb1.mono hB0.size)
  have sB1 : w.heap.size ≤ w1.heap.size := hb1.size
  clear hB0
  rcases hq with rfl | ⟨hq0, hq1⟩
  · go_wp2
    go_ret
    exact ⟨rfl, B1⟩
  have hqn : decide (q < 0) = false := by simp; omega
  have hT := hTo (by omega) (by omega)
  clear hTo
  go_wp2_with fail
  refine (hT w1 B1).mono ?_
  rintro e w2 ⟨a1, rfl, iw2, hbw2⟩
  have B2 : Below w.heap.size w w2 := B1.trans (hbw2.mono B1.size)
  have sB2 : w1.heap.size ≤ w2.heap.size := hbw2.size
  clear B1
  go_wp2_with fail
  refine (hSp w2 _ _ iw2).mono ?_
  rintro e w3 ⟨rfl, hb3⟩
  clear iw2
  have B3 : Below w.heap.size w w3 := B2.trans (hb3.mono B2.size)
  have sB3 : w2.heap.size ≤ w3.heap.size := hb3.size
  clear B2
  go_wp2_with fail
  refine (hT w3 B3).mono ?_
  rintro e w4 ⟨a2, rfl, iw4, hbw4⟩
  have B4 : Below w.heap.size w w4 := B3.trans (hbw4.mono B3.size)
  have sB4 : w3.heap.size ≤ w4.heap.size := hbw4.size
  clear B3
  go_wp2_with fail
  refine (hIm w4 _ _ iw4).mono ?_
  rintro e w5 ⟨rfl, hb5⟩
  have B5 : Below w.heap.size w w5 := B4.trans (hb5.mono B4.size)
  have sB5 : w4.heap.size ≤ w5.heap.size := hb5.size
  have h6 := iw4.below hb5
  clear B4 iw4
  go_wp2_with fail
  refine (hT w5 B5).mono ?_
  rintro e w6 ⟨a3, rfl, iw6, hbw6⟩
  have B7 : Below w.heap.size w w6 := B5.trans (hbw6.mono B5.size)
  have sB7 : w5.heap.size ≤ w6.heap.size := hbw6.size
  have h8 := h6.below hbw6
  clear B5 h6
  go_wp2_with fail
  refine (hEq w6 _ _ _ _ h8 iw6).mono ?_
  rintro e w7 ⟨rfl, hb7⟩
  have B9 : Below w.heap.size w w7 := B7.trans (hb7.mono B7.size)
  have sB9 : w6.heap.size ≤ w7.heap.size := hb7.size
  have h10 := h8.below hb7
  have h11 := iw6.below hb7
  clear B7 h8 iw6
  go_wp2
  go_ret
  exact ⟨rfl, B9⟩
set_option maxRecDepth 100000 in
set_option maxHeartbeats 3200000 in
theorem lawColumn (hI : ImplColumn) (a : Option Addr) (cap : Nat) (H : List (List Int)) (k : Int) (w : World) (hv : VV w a H.length cap H) (hk : I64f k) :
    Calls Try.prog 7 #[.slice a H.length cap, .int .i64 k] w fun e w' => e = .returned (.bool true) ∧ Below w.heap.size w w' := by
  have hf := vv_fits hv
  have hZ := szII_any a H.length cap H 1048576 w hv ⟨by omega, by omega⟩
  have hB0 : Below w.heap.size w w := Below.refl _ _
  have hvX : ∀ X, Below w.heap.size w X → VV X a H.length cap H := fun X hX => hv.below hX
  have hTo : H.length ≤ 1048576 → tot H H.length ≤ 1048576 → ∀ X, Below w.heap.size w X → Calls Try.prog 39 #[.slice a H.length cap] X fun e w' => ∃ a', e = .returned (.slice a' H.length H.length) ∧ It w' [iicl H] [.slice a' H.length H.length] X.heap.size w'.heap.size ∧ Below X.heap.size X w' := fun h1 h2 X hX => toII_it a cap H X (hvX X hX) h1 h2
  have hEq : ∀ X a1 c1 a2 c2 {l1 h1 l2 h2 : Nat}, It X [iicl H] [.slice a1 H.length c1] l1 h1 → It X [iicl H] [.slice a2 H.length c2] l2 h2 → Calls Try.prog 40 #[.slice a1 H.length c1, .slice a2 H.length c2] X fun e w' => e = .returned (.bool true) ∧ Below X.heap.size X w' := fun X a1 c1 a2 c2 l1 h1 l2 h2 i1 i2 => (eqII_any a1 a2 H.length c1 c2 H X (it_vv i1 hf) (it_vv i2 hf)).mono (fun e w' ⟨h1, q, h2⟩ => ⟨h1, by rw [h2]; exact belowN (Below.refl _ _)⟩)
  have hSp : ∀ X a1 c1 {l1 h1 : Nat}, It X [iicl H] [.slice a1 H.length c1] l1 h1 → Calls Try.prog 32 #[.slice a1 H.length c1, .int .i64 k] X fun e w' => AnsI3 X w' e (colL H k) := fun X a1 c1 l1 h1 i => (colS_any a1 H.length c1 H k X (it_vv i hf) hk).mono (fun e w' h => h.i3)
  have hIm : ∀ X a1 c1 {l1 h1 : Nat}, It X [iicl H] [.slice a1 H.length c1] l1 h1 → Calls Try.prog 31 #[.slice a1 H.length c1, .int .i64 k] X fun e w' => AnsI3 X w' e (colL H k) := fun X a1 c1 l1 h1 i => hI a1 c1 H k X (it_vv i hf) hk
  obtain ⟨hfZ, hlZ⟩ := colL_fits H k
  clear hI hv
  generalize colL H k = Z at *
  unfold AnsI3 at hSp hIm
  have hEz : ∀ X a1 c1 a2 c2 {l1 h1 l2 h2 : Nat}, It X [icl Z] [.slice a1 Z.length c1] l1 h1 → It X [icl Z] [.slice a2 Z.length c2] l2 h2 → Calls Try.prog 42 #[.slice a1 Z.length c1, .slice a2 Z.length c2] X fun e w' => e = .returned (.bool true) ∧ Below X.heap.size X w' := fun X a1 c1 a2 c2 l1 h1 l2 h2 i1 i2 => (eq_any a1 a2 Z.length c1 Z.length c2 Z Z X (it_vec i1 hfZ) (it_vec i2 hfZ) (by unfold maxLen; omega)).mono (fun e w' ⟨h1, q, h2⟩ => ⟨by rw [h1]; simp, by rw [h2]; exact belowN (Below.refl _ _)⟩)
  obtain ⟨M, hM⟩ : ∃ M : Int, Hid (M = (1 : Int) + (Z.length : Int)) := ⟨_, rfl⟩
  have hM0 : decide (M < 0) = false := by rw [hM.out]; simp; omega
  have hMM : (M != M) = false := by simp
  have hMz : ∀ X a1 c1 lo hi, It X [icl Z] [.slice a1 Z.length c1] lo hi → Calls Try.prog 46 #[.slice a1 Z.length c1, .int .i64 1] X fun e w' => e = .returned (.int .i64 M) ∧ It w' [icl (marks Z.length 1)] [.slice a1 Z.length c1] lo hi ∧ Wrt (Iv lo hi) X w' := fun X a1 c1 lo hi i => by rw [hM.out]; exact mkI_it a1 c1 1 lo hi Z X i (by omega) (by omega)
  have hHz : ∀ X a1 c1 lo hi, It X [icl (marks Z.length 1)] [.slice a1 Z.length c1] lo hi → Calls Try.prog 47 #[.slice a1 Z.length c1, .int .i64 1] X fun e w' => e = .returned (.int .i64 M) ∧ Below X.heap.size X w' := fun X a1 c1 lo hi i => by rw [hM.out]; exact (hdI_it a1 c1 1 Z.length lo hi X i (by omega) (by omega)).mono (fun e w' h => ⟨h.1, by rw [h.2]; exact Below.refl _ _⟩)
  obtain ⟨K1, hK1⟩ : ∃ K1 : Nat, Hid (K1 = 1 + tot H H.length) := ⟨_, rfl⟩
  have hMx : H.length ≤ 1048576 → tot H H.length ≤ 1048576 → ∀ X a1 c1 lo hi, It X [iicl H] [.slice a1 H.length c1] lo hi → Calls Try.prog 44 #[.slice a1 H.length c1, .int .i64 1] X fun e w' => e = .returned (.int .i64 (K1 : Int)) ∧ It w' [iicl (mkd H 1 H.length)] [.slice a1 H.length c1] lo hi ∧ Wrt (Iv lo hi) X w' := fun h1 h2 X a1 c1 lo hi i => by rw [hK1.out]; exact markII_it a1 c1 1 lo hi H X i (by omega) h1 (by omega)
  have hK10 : decide ((K1 : Int) < 0) = false := by simp
  go_enter Try.func7, Try.ntmps7
  go_wp2_with fail
  refine (hZ).mono ?_
  rintro e w1 ⟨q, rfl, hq, hw1⟩
  have hb1 : Below w.heap.size w w1 := by rw [hw1]; exact Below.refl _ _
  clear hZ hw1
  have B1 : Below w.heap.size w w1 := hB0.trans (hb1.mono hB0.size)
  have sB1 : w.heap.size ≤ w1.heap.size := hb1.size
  clear hB0
  rcases hq with rfl | ⟨hq0, hq1⟩
  · go_wp2
    go_ret
    exact ⟨rfl, B1⟩
  have hqn : decide (q < 0) = false := by simp; omega
  have hT := hTo (by omega) (by omega)
  have hMxx := hMx (by omega) (by omega)
  clear hTo
  clear hMx
  go_wp2_with fail
  refine (hT w1 B1).mono ?_
  rintro e w2 ⟨a1, rfl, iw2, hbw2⟩
  have B2 : Below w.heap.size w w2 := B1.trans (hbw2.mono B1.size)
  have sB2 : w1.heap.size ≤ w2.heap.size := hbw2.size
  clear B1
  go_wp2_with fail
  refine (hSp w2 _ _ iw2).mono ?_
  rintro e w3 ⟨av, cv, rfl, nv⟩
  have iv := It.of_newO nv
  obtain ⟨_, _, _, hbv⟩ := nv
  have B3 : Below w.heap.size w w3 := B2.trans (hbv.mono B2.size)
  have sB3 : w2.heap.size ≤ w3.heap.size := hbv.size
  have h4 := iw2.below hbv
  clear B2 iw2
  clear h4
  go_wp2_with fail
  refine (hT w3 B3).mono ?_
  rintro e w4 ⟨a2, rfl, iw4, hbw4⟩
  have B5 : Below w.heap.size w w4 := B3.trans (hbw4.mono B3.size)
  have sB5 : w3.heap.size ≤ w4.heap.size := hbw4.size
  have h6 := iv.below hbw4
  clear B3 iv
  go_wp2_with fail
  refine (hIm w4 _ _ iw4).mono ?_
  rintro e w5 ⟨ag, cg, rfl, ng⟩
  have ig := It.of_newO ng
  obtain ⟨_, _, _, hbg⟩ := ng
  have B7 : Below w.heap.size w w5 := B5.trans (hbg.mono B5.size)
  have sB7 : w4.heap.size ≤ w5.heap.size := hbg.size
  have h8 := h6.below hbg
  have h9 := iw4.below hbg
  clear B5 h6 iw4
  go_wp2_with fail
  refine (hEz w5 _ _ _ _ ig h8).mono ?_
  rintro e w6 ⟨rfl, hbw6⟩
  have B10 : Below w.heap.size w w6 := B7.trans (hbw6.mono B7.size)
  have sB10 : w5.heap.size ≤ w6.heap.size := hbw6.size
  have h11 := h8.below hbw6
  have h12 := h9.below hbw6
  have h13 := ig.below hbw6
  clear B7 h8 h9 ig
  go_wp2_with fail
  refine (hT w6 B10).mono ?_
  rintro e w7 ⟨a3, rfl, iw7, hbw7⟩
  have B14 : Below w.heap.size w w7 := B10.trans (hbw7.mono B10.size)
  have sB14 : w6.heap.size ≤ w7.heap.size := hbw7.size
  have h15 := h11.below hbw7
  have h16 := h12.below hbw7
  have h17 := h13.below hbw7
  clear B10 h11 h12 h13
  go_wp2_with fail
  refine (hEq w7 _ _ _ _ h16 iw7).mono ?_
  rintro e w8 ⟨rfl, hb8⟩
  clear iw7
  have B18 : Below w.heap.size w w8 := B14.trans (hb8.mono B14.size)
  have sB18 : w7.heap.size ≤ w8.heap.size := hb8.size
  have h19 := h15.below hb8
  have h20 := h16.below hb8
  have h21 := h17.below hb8
  clear B14 h15 h16 h17
  go_wp2_with fail
  refine (hMxx w8 _ _ _ _ h20).mono ?_
  rintro e w9 ⟨rfl, i9, hw9⟩
  have sB22 : w8.heap.size ≤ w9.heap.size := hw9.size
  have B22 : Below w.heap.size w w9 := below_iv hw9 B18 B18.size (by omega)
  have h23 := h19.far hw9 (by omega)
  have h24 := h21.far hw9 (by omega)
  clear B18 h19 h20 h21
  go_wp2_with fail
  refine (hEz w9 _ _ _ _ h24 h23).mono ?_
  rintro e w10 ⟨rfl, hbw10⟩
  have B25 : Below w.heap.size w w10 := B22.trans (hbw10.mono B22.size)
  have sB25 : w9.heap.size ≤ w10.heap.size := hbw10.size
  have h26 := h23.below hbw10
  have h27 := i9.below hbw10
  have h28 := h24.below hbw10
  clear B22 h23 i9 h24
  go_wp2_with fail
  refine (hMz w10 _ _ _ _ h28).mono ?_
  rintro e w11 ⟨rfl, iw11, hww11⟩
  have sB29 : w10.heap.size ≤ w11.heap.size := hww11.size
  have B29 : Below w.heap.size w w11 := below_iv hww11 B25 B25.size (by omega)
  have h30 := h26.far hww11 (by omega)
  have h31 := h27.far hww11 (by omega)
  clear B25 h26 h27 h28
  go_wp2_with fail
  refine (hHz w11 _ _ _ _ iw11).mono ?_
  rintro e w12 ⟨rfl, hbw12⟩
  have B32 : Below w.heap.size w w12 := B29.trans (hbw12.mono B29.size)
  have sB32 : w11.heap.size ≤ w12.heap.size := hbw12.size
  have h33 := h30.below hbw12
  have h34 := h31.below hbw12
  have h35 := iw11.below hbw12
  clear B29 h30 h31 iw11
  go_wp2_with fail
  refine (hT w12 B32).mono ?_
  rintro e w13 ⟨a4, rfl, iw13, hbw13⟩
  have B36 : Below w.heap.size w w13 := B32.trans (hbw13.mono B32.size)
  have sB36 : w12.heap.size ≤ w13.heap.size := hbw13.size
  have h37 := h33.below hbw13
  have h38 := h34.below hbw13
  have h39 := h35.below hbw13
  clear B32 h33 h34 h35
  go_wp2_with fail
  refine (hIm w13 _ _ iw13).mono ?_
  rintro e w14 ⟨ah, ch, rfl, nh⟩
  have ih := It.of_newO nh
  obtain ⟨_, _, _, hbh⟩ := nh
  have B40 : Below w.heap.size w w14 := B36.trans (hbh.mono B36.size)
  have sB40 : w13.heap.size ≤ w14.heap.size := hbh.size
  have h41 := h37.below hbh
  have h42 := h38.below hbh
  have h43 := h39.below hbh
  have h44 := iw13.below hbh
  clear B36 h37 h38 h39 iw13
  go_wp2_with fail
  refine (hEz w14 _ _ _ _ ih h41).mono ?_
  rintro e w15 ⟨rfl, hbw15⟩
  have B45 : Below w.heap.size w w15 := B40.trans (hbw15.mono B40.size)
  have sB45 : w14.heap.size ≤ w15.heap.size := hbw15.size
  have h46 := h41.below hbw15
  have h47 := h42.below hbw15
  have h48 := h43.below hbw15
  have h49 := h44.below hbw15
  have h50 := ih.below hbw15
  clear B40 h41 h42 h43 h44 ih
  go_wp2_with fail
  refine (hHz w15 _ _ _ _ h48).mono ?_
  rintro e w16 ⟨rfl, hbw16⟩
  have B51 : Below w.heap.size w w16 := B45.trans (hbw16.mono B45.size)
  have sB51 : w15.heap.size ≤ w16.heap.size := hbw16.size
  have h52 := h46.below hbw16
  have h53 := h47.below hbw16
  have h54 := h48.below hbw16
  have h55 := h49.below hbw16
  have h56 := h50.below hbw16
  clear B45 h46 h47 h48 h49 h50
  go_wp2
  go_ret
  exact ⟨rfl, B51⟩
set_option maxRecDepth 100000 in
set_option maxHeartbeats 3200000 in
theorem lawStable (hI : ImplStable) (a : Option Addr) (cap : Nat) (H : List (List Int)) (a2 : Option Addr) (c2 : Nat) (al : List Bool) (w : World) (hv : VV w a H.length cap H) (hfl : FlS w a2 al) (hlc : al.length ≤ c2) (hcm : c2 ≤ maxLen) :
    Calls Try.prog 6 #[.slice a H.length cap, .slice a2 al.length c2] w fun e w' => e = .returned (.bool true) ∧ Below w.heap.size w w' := by
  have hf := vv_fits hv
  have hZ := szII_any a H.length cap H 1048576 w hv ⟨by omega, by omega⟩
  have hB0 : Below w.heap.size w w := Below.refl _ _
  have hvX : ∀ X, Below w.heap.size w X → VV X a H.length cap H := fun X hX => hv.below hX
  have hTo : H.length ≤ 1048576 → tot H H.length ≤ 1048576 → ∀ X, Below w.heap.size w X → Calls Try.prog 39 #[.slice a H.length cap] X fun e w' => ∃ a', e = .returned (.slice a' H.length H.length) ∧ It w' [iicl H] [.slice a' H.length H.length] X.heap.size w'.heap.size ∧ Below X.heap.size X w' := fun h1 h2 X hX => toII_it a cap H X (hvX X hX) h1 h2
  have hEq : ∀ X a1 c1 a2 c2 {l1 h1 l2 h2 : Nat}, It X [iicl H] [.slice a1 H.length c1] l1 h1 → It X [iicl H] [.slice a2 H.length c2] l2 h2 → Calls Try.prog 40 #[.slice a1 H.length c1, .slice a2 H.length c2] X fun e w' => e = .returned (.bool true) ∧ Below X.heap.size X w' := fun X a1 c1 a2 c2 l1 h1 l2 h2 i1 i2 => (eqII_any a1 a2 H.length c1 c2 H X (it_vv i1 hf) (it_vv i2 hf)).mono (fun e w' ⟨h1, q, h2⟩ => ⟨h1, by rw [h2]; exact belowN (Below.refl _ _)⟩)
  have hml := hlc
  unfold maxLen at hcm
  by_cases hbg : (1048576 : Int) < (al.length : Int)
  · clear hTo hEq hvX hf hI hZ
    go_enter Try.func6, Try.ntmps6
    go_wp2
    go_ret
    exact ⟨rfl, hB0⟩
  have hal : al.length ≤ 1048576 := by omega
  have hTb : ∀ X, Below w.heap.size w X → Calls Try.prog 41 #[.slice a2 al.length c2] X fun e w' => ∃ a' c', e = .returned (.slice a' al.length c') ∧ It w' [bocl al] [.slice a' al.length c'] X.heap.size w'.heap.size ∧ Below X.heap.size X w' := fun X hX => (toF_any a2 c2 al X (hfl.below hX) hal).mono (fun e w' ⟨a', c', h1, h2⟩ => ⟨a', c', h1, It.of_newO h2, h2.choose_spec.2.2⟩)
  have hEb : ∀ X a1 c1 a3 c3 {l1 h1 l2 h2 : Nat}, It X [bocl al] [.slice a1 al.length c1] l1 h1 → It X [bocl al] [.slice a3 al.length c3] l2 h2 → Calls Try.prog 43 #[.slice a1 al.length c1, .slice a3 al.length c3] X fun e w' => e = .returned (.bool true) ∧ Below X.heap.size X w' := fun X a1 c1 a3 c3 l1 h1 l2 h2 i1 i2 => (eqF_any a1 a3 c1 c3 al X (it_fls i1).1 (it_fls i2).1 (by unfold maxLen; omega)).mono (fun e w' h => ⟨h.1, h.2.1⟩)
  have hSp : ∀ X a1 c1 a3 c3 {l1 h1 l2 h2 : Nat}, It X [iicl H] [.slice a1 H.length c1] l1 h1 → It X [bocl al] [.slice a3 al.length c3] l2 h2 → Calls Try.prog 30 #[.slice a1 H.length c1, .slice a3 al.length c3] X fun e w' => AnsI3 X w' e (stL H al) := fun X a1 c1 a3 c3 l1 h1 l2 h2 i j => (stbS_any a1 a3 H.length c1 c3 H al X (it_vv i hf) (it_fls j).1 (by unfold maxLen; omega)).mono (fun e w' h => h.i3)
  have hIm : ∀ X a1 c1 a3 c3 {l1 h1 l2 h2 : Nat}, It X [iicl H] [.slice a1 H.length c1] l1 h1 → It X [bocl al] [.slice a3 al.length c3] l2 h2 → Calls Try.prog 28 #[.slice a1 H.length c1, .slice a3 al.length c3] X fun e w' => AnsI3 X w' e (stL H al) := fun X a1 c1 a3 c3 l1 h1 l2 h2 i j => hI a1 c1 H a3 c3 al X (it_vv i hf) (it_fls j).1 (it_fls j).2.1 (it_fls j).2.2 hal
  obtain ⟨hfZ, hlZ⟩ := stL_fits H al
  clear hI hv hfl
  generalize stL H al = Z at *
  unfold AnsI3 at hSp hIm
  have hEz : ∀ X a1 c1 a2 c2 {l1 h1 l2 h2 : Nat}, It X [icl Z] [.slice a1 Z.length c1] l1 h1 → It X [icl Z] [.slice a2 Z.length c2] l2 h2 → Calls Try.prog 42 #[.slice a1 Z.length c1, .slice a2 Z.length c2] X fun e w' => e = .returned (.bool true) ∧ Below X.heap.size X w' := fun X a1 c1 a2 c2 l1 h1 l2 h2 i1 i2 => (eq_any a1 a2 Z.length c1 Z.length c2 Z Z X (it_vec i1 hfZ) (it_vec i2 hfZ) (by unfold maxLen; omega)).mono (fun e w' ⟨h1, q, h2⟩ => ⟨by rw [h1]; simp, by rw [h2]; exact belowN (Below.refl _ _)⟩)
  obtain ⟨M, hM⟩ : ∃ M : Int, Hid (M = (1 : Int) + (Z.length : Int)) := ⟨_, rfl⟩
  have hM0 : decide (M < 0) = false := by rw [hM.out]; simp; omega
  have hMM : (M != M) = false := by simp
  have hMz : ∀ X a1 c1 lo hi, It X [icl Z] [.slice a1 Z.length c1] lo hi → Calls Try.prog 46 #[.slice a1 Z.length c1, .int .i64 1] X fun e w' => e = .returned (.int .i64 M) ∧ It w' [icl (marks Z.length 1)] [.slice a1 Z.length c1] lo hi ∧ Wrt (Iv lo hi) X w' := fun X a1 c1 lo hi i => by rw [hM.out]; exact mkI_it a1 c1 1 lo hi Z X i (by omega) (by omega)
  have hHz : ∀ X a1 c1 lo hi, It X [icl (marks Z.length 1)] [.slice a1 Z.length c1] lo hi → Calls Try.prog 47 #[.slice a1 Z.length c1, .int .i64 1] X fun e w' => e = .returned (.int .i64 M) ∧ Below X.heap.size X w' := fun X a1 c1 lo hi i => by rw [hM.out]; exact (hdI_it a1 c1 1 Z.length lo hi X i (by omega) (by omega)).mono (fun e w' h => ⟨h.1, by rw [h.2]; exact Below.refl _ _⟩)
  obtain ⟨K1, hK1⟩ : ∃ K1 : Nat, Hid (K1 = 1 + tot H H.length) := ⟨_, rfl⟩
  have hMx : H.length ≤ 1048576 → tot H H.length ≤ 1048576 → ∀ X a1 c1 lo hi, It X [iicl H] [.slice a1 H.length c1] lo hi → Calls Try.prog 44 #[.slice a1 H.length c1, .int .i64 1] X fun e w' => e = .returned (.int .i64 (K1 : Int)) ∧ It w' [iicl (mkd H 1 H.length)] [.slice a1 H.length c1] lo hi ∧ Wrt (Iv lo hi) X w' := fun h1 h2 X a1 c1 lo hi i => by rw [hK1.out]; exact markII_it a1 c1 1 lo hi H X i (by omega) h1 (by omega)
  obtain ⟨K2, hK2⟩ : ∃ K2 : Int, Hid (K2 = ((K1 + al.length : Nat) : Int)) := ⟨_, rfl⟩
  have hK20 : decide (K2 < 0) = false := by rw [hK2.out]; simp; omega
  have hMb : tot H H.length ≤ 1048576 → ∀ X a1 c1 lo hi, It X [bocl al] [.slice a1 al.length c1] lo hi → Calls Try.prog 45 #[.slice a1 al.length c1, .int .i64 (K1 : Int)] X fun e w' => e = .returned (.int .i64 K2) ∧ It w' [bocl (mkF al K1 al.length)] [.slice a1 al.length c1] lo hi ∧ Wrt (Iv lo hi) X w' := fun h2 X a1 c1 lo hi i => by rw [hK2.out]; exact markF_it a1 c1 K1 lo hi al X i (by rw [hK1.out]; omega) (by omega)
  go_enter Try.func6, Try.ntmps6
  go_wp2_with fail
  refine (hZ).mono ?_
  rintro e w1 ⟨q, rfl, hq, hw1⟩
  have hb1 : Below w.heap.size w w1 := by rw [hw1]; exact Below.refl _ _
  clear hZ hw1
  have B1 : Below w.heap.size w w1 := hB0.trans (hb1.mono hB0.size)
  have sB1 : w.heap.size ≤ w1.heap.size := hb1.size
  clear hB0
  rcases hq with rfl | ⟨hq0, hq1⟩
  · go_wp2
    go_ret
    exact ⟨rfl, B1⟩
  have hqn : decide (q < 0) = false := by simp; omega
  have hT := hTo (by omega) (by omega)
  have hMxx := hMx (by omega) (by omega)
  have hMbb := hMb (by omega)
  clear hTo
  clear hMx hMb
  go_wp2_with fail
  refine (hT w1 B1).mono ?_
  rintro e w2 ⟨a1, rfl, iw2, hbw2⟩
  have B2 : Below w.heap.size w w2 := B1.trans (hbw2.mono B1.size)
  have sB2 : w1.heap.size ≤ w2.heap.size := hbw2.size
  clear B1
  go_wp2_with fail
  refine (hTb w2 B2).mono ?_
  rintro e w3 ⟨d1, cd1, rfl, iw3, hbw3⟩
  have B3 : Below w.heap.size w w3 := B2.trans (hbw3.mono B2.size)
  have sB3 : w2.heap.size ≤ w3.heap.size := hbw3.size
  have h4 := iw2.below hbw3
  clear B2 iw2
  go_wp2_with fail
  refine (hSp w3 _ _ _ _ h4 iw3).mono ?_
  rintro e w4 ⟨av, cv, rfl, nv⟩
  have iv := It.of_newO nv
  obtain ⟨_, _, _, hbv⟩ := nv
  have B5 : Below w.heap.size w w4 := B3.trans (hbv.mono B3.size)
  have sB5 : w3.heap.size ≤ w4.heap.size := hbv.size
  have h6 := h4.below hbv
  have h7 := iw3.below hbv
  clear B3 h4 iw3
  clear h6
  clear h7
  go_wp2_with fail
  refine (hT w4 B5).mono ?_
  rintro e w5 ⟨a5, rfl, iw5, hbw5⟩
  have B8 : Below w.heap.size w w5 := B5.trans (hbw5.mono B5.size)
  have sB8 : w4.heap.size ≤ w5.heap.size := hbw5.size
  have h9 := iv.below hbw5
  clear B5 iv
  go_wp2_with fail
  refine (hTb w5 B8).mono ?_
  rintro e w6 ⟨d2, cd2, rfl, iw6, hbw6⟩
  have B10 : Below w.heap.size w w6 := B8.trans (hbw6.mono B8.size)
  have sB10 : w5.heap.size ≤ w6.heap.size := hbw6.size
  have h11 := h9.below hbw6
  have h12 := iw5.below hbw6
  clear B8 h9 iw5
  go_wp2_with fail
  refine (hIm w6 _ _ _ _ h12 iw6).mono ?_
  rintro e w7 ⟨ag, cg, rfl, ng⟩
  have ig := It.of_newO ng
  obtain ⟨_, _, _, hbg⟩ := ng
  have B13 : Below w.heap.size w w7 := B10.trans (hbg.mono B10.size)
  have sB13 : w6.heap.size ≤ w7.heap.size := hbg.size
  have h14 := h11.below hbg
  have h15 := h12.below hbg
  have h16 := iw6.below hbg
  clear B10 h11 h12 iw6
  go_wp2_with fail
  refine (hEz w7 _ _ _ _ ig h14).mono ?_
  rintro e w8 ⟨rfl, hbw8⟩
  have B17 : Below w.heap.size w w8 := B13.trans (hbw8.mono B13.size)
  have sB17 : w7.heap.size ≤ w8.heap.size := hbw8.size
  have h18 := h14.below hbw8
  have h19 := h15.below hbw8
  have h20 := h16.below hbw8
  have h21 := ig.below hbw8
  clear B13 h14 h15 h16 ig
  go_wp2_with fail
  refine (hT w8 B17).mono ?_
  rintro e w9 ⟨a6, rfl, iw9, hbw9⟩
  have B22 : Below w.heap.size w w9 := B17.trans (hbw9.mono B17.size)
  have sB22 : w8.heap.size ≤ w9.heap.size := hbw9.size
  have h23 := h18.below hbw9
  have h24 := h19.below hbw9
  have h25 := h20.below hbw9
  have h26 := h21.below hbw9
  clear B17 h18 h19 h20 h21
  go_wp2_with fail
  refine (hEq w9 _ _ _ _ h24 iw9).mono ?_
  rintro e w10 ⟨rfl, hb10⟩
  clear iw9
  have B27 : Below w.heap.size w w10 := B22.trans (hb10.mono B22.size)
  have sB27 : w9.heap.size ≤ w10.heap.size := hb10.size
  have h28 := h23.below hb10
  have h29 := h24.below hb10
  have h30 := h25.below hb10
  have h31 := h26.below hb10
  clear B22 h23 h24 h25 h26
  go_wp2_with fail
  refine (hTb w10 B27).mono ?_
  rintro e w11 ⟨d3, cd3, rfl, iw11, hbw11⟩
  have B32 : Below w.heap.size w w11 := B27.trans (hbw11.mono B27.size)
  have sB32 : w10.heap.size ≤ w11.heap.size := hbw11.size
  have h33 := h28.below hbw11
  have h34 := h29.below hbw11
  have h35 := h30.below hbw11
  have h36 := h31.below hbw11
  clear B27 h28 h29 h30 h31
  go_wp2_with fail
  refine (hEb w11 _ _ _ _ h35 iw11).mono ?_
  rintro e w12 ⟨rfl, hb12⟩
  clear iw11
  have B37 : Below w.heap.size w w12 := B32.trans (hb12.mono B32.size)
  have sB37 : w11.heap.size ≤ w12.heap.size := hb12.size
  have h38 := h33.below hb12
  have h39 := h34.below hb12
  have h40 := h35.below hb12
  have h41 := h36.below hb12
  clear B32 h33 h34 h35 h36
  go_wp2_with fail
  refine (hMxx w12 _ _ _ _ h39).mono ?_
  rintro e w13 ⟨rfl, i13, hw13⟩
  have sB42 : w12.heap.size ≤ w13.heap.size := hw13.size
  have B42 : Below w.heap.size w w13 := below_iv hw13 B37 B37.size (by omega)
  have h43 := h38.far hw13 (by omega)
  have h44 := h40.far hw13 (by omega)
  have h45 := h41.far hw13 (by omega)
  clear B37 h38 h39 h40 h41
  go_wp2_with fail
  refine (hMbb w13 _ _ _ _ h44).mono ?_
  rintro e w14 ⟨rfl, i14, hw14⟩
  have sB46 : w13.heap.size ≤ w14.heap.size := hw14.size
  have B46 : Below w.heap.size w w14 := below_iv hw14 B42 B42.size (by omega)
  have h47 := h43.far hw14 (by omega)
  have h48 := i13.far hw14 (by omega)
  have h49 := h45.far hw14 (by omega)
  clear B42 h43 i13 h44 h45
  go_wp2_with fail
  refine (hEz w14 _ _ _ _ h49 h47).mono ?_
  rintro e w15 ⟨rfl, hbw15⟩
  have B50 : Below w.heap.size w w15 := B46.trans (hbw15.mono B46.size)
  have sB50 : w14.heap.size ≤ w15.heap.size := hbw15.size
  have h51 := h47.below hbw15
  have h52 := h48.below hbw15
  have h53 := i14.below hbw15
  have h54 := h49.below hbw15
  clear B46 h47 h48 i14 h49
  go_wp2_with fail
  refine (hMz w15 _ _ _ _ h54).mono ?_
  rintro e w16 ⟨rfl, iw16, hww16⟩
  have sB55 : w15.heap.size ≤ w16.heap.size := hww16.size
  have B55 : Below w.heap.size w w16 := below_iv hww16 B50 B50.size (by omega)
  have h56 := h51.far hww16 (by omega)
  have h57 := h52.far hww16 (by omega)
  have h58 := h53.far hww16 (by omega)
  clear B50 h51 h52 h53 h54
  go_wp2_with fail
  refine (hHz w16 _ _ _ _ iw16).mono ?_
  rintro e w17 ⟨rfl, hbw17⟩
  have B59 : Below w.heap.size w w17 := B55.trans (hbw17.mono B55.size)
  have sB59 : w16.heap.size ≤ w17.heap.size := hbw17.size
  have h60 := h56.below hbw17
  have h61 := h57.below hbw17
  have h62 := h58.below hbw17
  have h63 := iw16.below hbw17
  clear B55 h56 h57 h58 iw16
  go_wp2_with fail
  refine (hT w17 B59).mono ?_
  rintro e w18 ⟨a7, rfl, iw18, hbw18⟩
  have B64 : Below w.heap.size w w18 := B59.trans (hbw18.mono B59.size)
  have sB64 : w17.heap.size ≤ w18.heap.size := hbw18.size
  have h65 := h60.below hbw18
  have h66 := h61.below hbw18
  have h67 := h62.below hbw18
  have h68 := h63.below hbw18
  clear B59 h60 h61 h62 h63
  go_wp2_with fail
  refine (hTb w18 B64).mono ?_
  rintro e w19 ⟨d4, cd4, rfl, iw19, hbw19⟩
  have B69 : Below w.heap.size w w19 := B64.trans (hbw19.mono B64.size)
  have sB69 : w18.heap.size ≤ w19.heap.size := hbw19.size
  have h70 := h65.below hbw19
  have h71 := h66.below hbw19
  have h72 := h67.below hbw19
  have h73 := h68.below hbw19
  have h74 := iw18.below hbw19
  clear B64 h65 h66 h67 h68 iw18
  go_wp2_with fail
  refine (hIm w19 _ _ _ _ h74 iw19).mono ?_
  rintro e w20 ⟨ah, ch, rfl, nh⟩
  have ih := It.of_newO nh
  obtain ⟨_, _, _, hbh⟩ := nh
  have B75 : Below w.heap.size w w20 := B69.trans (hbh.mono B69.size)
  have sB75 : w19.heap.size ≤ w20.heap.size := hbh.size
  have h76 := h70.below hbh
  have h77 := h71.below hbh
  have h78 := h72.below hbh
  have h79 := h73.below hbh
  have h80 := h74.below hbh
  have h81 := iw19.below hbh
  clear B69 h70 h71 h72 h73 h74 iw19
  go_wp2_with fail
  refine (hEz w20 _ _ _ _ ih h76).mono ?_
  rintro e w21 ⟨rfl, hbw21⟩
  have B82 : Below w.heap.size w w21 := B75.trans (hbw21.mono B75.size)
  have sB82 : w20.heap.size ≤ w21.heap.size := hbw21.size
  have h83 := h76.below hbw21
  have h84 := h77.below hbw21
  have h85 := h78.below hbw21
  have h86 := h79.below hbw21
  have h87 := h80.below hbw21
  have h88 := h81.below hbw21
  have h89 := ih.below hbw21
  clear B75 h76 h77 h78 h79 h80 h81 ih
  go_wp2_with fail
  refine (hHz w21 _ _ _ _ h86).mono ?_
  rintro e w22 ⟨rfl, hbw22⟩
  have B90 : Below w.heap.size w w22 := B82.trans (hbw22.mono B82.size)
  have sB90 : w21.heap.size ≤ w22.heap.size := hbw22.size
  have h91 := h83.below hbw22
  have h92 := h84.below hbw22
  have h93 := h85.below hbw22
  have h94 := h86.below hbw22
  have h95 := h87.below hbw22
  have h96 := h88.below hbw22
  have h97 := h89.below hbw22
  clear B82 h83 h84 h85 h86 h87 h88 h89
  go_wp2
  go_ret
  exact ⟨rfl, B90⟩
end Go.Proofs.Ytfkgkdjnlpihaaa
