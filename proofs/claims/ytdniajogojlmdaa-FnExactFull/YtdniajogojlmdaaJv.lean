/-
  Several texts in one: Lre Lrn.
-/
import Derived.Test.YtdniajogojlmdaaJu
import Derived.Deep.RegionHeld3
/-
  The walks of the exact laws of RelayOk and Full FROM what the program answers.
-/
namespace Go.Proofs.Ytdniajogojlmdaa
set_option linter.unusedVariables false
set_option linter.unusedSimpArgs false
open Go.RowKit Go.Sort

set_option maxRecDepth 100000 in
set_option maxHeartbeats 3200000 in
theorem lawRelayOk (hI : ImplRelayOk) (N B : Int) (a : Option Addr) (cap : Nat) (H : List (List Int)) (w : World) (hN : I64r N) (hB : I64r B) (hv : VV w a H.length cap H) (hf : FitsH H) :
    Calls Try.prog 5 #[rlV N B a H.length cap] w fun e w' => e = .returned (.bool true) ∧ Below w.heap.size w w' := by
  have hP := Bx.new w 51 #[.int .i64 N, .int .i64 B, .slice a H.length cap]
  have hB0 := one_alloc10 w (.cells #[.int .i64 N, .int .i64 B, .slice a H.length cap] 51)
  generalize hW0 : w.alloc (.cells #[.int .i64 N, .int .i64 B, .slice a H.length cap] 51) = W0 at *
  have k00 : w.heap.size < W0.heap.size := hP.lt
  have hZ := szR_any N B a H.length cap H W0 (hv.below hB0)
  have hvX : ∀ X, Below w.heap.size w X → VV X a H.length cap H := fun X hX => hv.below hX
  have hTo : H.length ≤ 1048576 → tot H H.length ≤ 1048576 → ∀ X, Below w.heap.size w X → Calls Try.prog 47 #[rlV N B a H.length cap] X fun e w' => ∃ a', e = .returned (rlV N B a' H.length H.length) ∧ It w' [iicl H] [.slice a' H.length H.length] X.heap.size w'.heap.size ∧ Below X.heap.size X w' := fun h1 h2 X hX => toR_it N B a cap H X (hvX X hX) h1 h2
  have hSp : ∀ X a' c', VV X a' H.length c' H → Calls Try.prog 42 #[rlV N B a' H.length c'] X fun e w' => e = .returned (.bool (decide (okRel N B H))) ∧ Below X.heap.size X w' := fun X a' c' h => (rokS_any N B a' H.length c' H X h).mono (fun e w' h => ⟨h.1, h.2.1⟩)
  have hIm : ∀ X a' c', VV X a' H.length c' H → Calls Try.prog 41 #[rlV N B a' H.length c'] X fun e w' => e = .returned (.bool (decide (okRel N B H))) ∧ Below X.heap.size X w' := fun X a' c' h => hI N B a' c' H X hN hB h
  have hEq : ∀ X a1 c1 a2 c2, VV X a1 H.length c1 H → VV X a2 H.length c2 H → Calls Try.prog 48 #[rlV N B a1 H.length c1, rlV N B a2 H.length c2] X fun e w' => e = .returned (.bool true) ∧ Below X.heap.size X w' := fun X a1 c1 a2 c2 h1 h2 => eqR_any N B a1 a2 H.length c1 c2 H X h1 h2
  generalize (decide (okRel N B H)) = Q at *
  have ne : (Q != Q) = false := by simp
  clear hI hv
  unfold rlV at *
  obtain ⟨p0, p1, p2⟩ := hP.r3
  go_enter Try.func5, Try.ntmps5
  go_wp2_with fail
  refine (hZ).mono ?_
  rintro e w1 ⟨q, rfl, hq, hb1⟩
  clear p0 p1 p2 hZ
  have B1 : Below w.heap.size w w1 := hB0.trans (hb1.mono hB0.size)
  have sB1 : W0.heap.size ≤ w1.heap.size := hb1.size
  have h2 := hP.below hb1
  clear hB0 hP
  rcases hq with rfl | ⟨hq0, hq1⟩
  · go_wp2
    go_ret
    exact ⟨rfl, B1⟩
  have hqn : decide (q < 0) = false := by simp; omega
  have hT := hTo (by omega) (by omega)
  clear hTo
  obtain ⟨c3a, c3b, c3c⟩ := h2.r3
  go_wp2_with fail
  refine (hT w1 B1).mono ?_
  rintro e w2 ⟨a1, rfl, i1, hb2⟩
  clear c3a c3b c3c
  have B4 : Below w.heap.size w w2 := B1.trans (hb2.mono B1.size)
  have sB4 : w1.heap.size ≤ w2.heap.size := hb2.size
  have h5 := h2.below hb2
  clear B1 h2
  go_wp2_with fail
  refine (hSp w2 _ _ (it_vv i1 hf)).mono ?_
  rintro e w3 ⟨rfl, hb3⟩
  clear i1
  have B6 : Below w.heap.size w w3 := B4.trans (hb3.mono B4.size)
  have sB6 : w2.heap.size ≤ w3.heap.size := hb3.size
  have h7 := h5.below hb3
  clear B4 h5
  obtain ⟨c8a, c8b, c8c⟩ := h7.r3
  go_wp2_with fail
  refine (hT w3 B6).mono ?_
  rintro e w4 ⟨a2, rfl, i2, hb4⟩
  clear c8a c8b c8c
  have B9 : Below w.heap.size w w4 := B6.trans (hb4.mono B6.size)
  have sB9 : w3.heap.size ≤ w4.heap.size := hb4.size
  have h10 := h7.below hb4
  clear B6 h7
  have b12 := one_alloc10 w4 (.cells #[.int .i64 N, .int .i64 B, .slice a2 H.length H.length] 35)
  have h13 := Bx.new w4 35 #[.int .i64 N, .int .i64 B, .slice a2 H.length H.length]
  generalize hX11 : w4.alloc (.cells #[.int .i64 N, .int .i64 B, .slice a2 H.length H.length] 35) = X11 at *
  have B15 : Below w.heap.size w X11 := B9.trans (b12.mono B9.size)
  have sB15 : w4.heap.size ≤ X11.heap.size := b12.size
  have h16 := h10.below b12
  have h17 := i2.below b12
  clear B9 h10 i2
  have k14 : w4.heap.size < X11.heap.size := h13.lt
  clear b12
  obtain ⟨c18a, c18b, c18c⟩ := h13.r3
  go_wp2_with fail
  refine (hIm X11 _ _ (it_vv h17 hf)).mono ?_
  rintro e w5 ⟨rfl, hb5⟩
  clear c18a c18b c18c
  have B19 : Below w.heap.size w w5 := B15.trans (hb5.mono B15.size)
  have sB19 : X11.heap.size ≤ w5.heap.size := hb5.size
  have h20 := h16.below hb5
  have h21 := h17.below hb5
  have h22 := h13.below hb5
  clear B15 h16 h17 h13
  have KS : ∀ X, Below w5.heap.size w5 X → (X.cell? ⟨w.heap.size, 0, none⟩ = some (.int .i64 N) ∧ X.cell? ⟨w.heap.size, 1, none⟩ = some (.int .i64 B) ∧ X.cell? ⟨w.heap.size, 2, none⟩ = some (.slice a H.length cap)) ∧ X.cell? ⟨w4.heap.size, 0, none⟩ = some (.int .i64 N) ∧ X.cell? ⟨w4.heap.size, 1, none⟩ = some (.int .i64 B) ∧ X.cell? ⟨w4.heap.size, 2, none⟩ = some (.slice a2 H.length H.length) := fun X hX => ⟨(h20.below hX).r3, (h22.below hX).r3⟩
  have bd : Below w5.heap.size w5 (w5.drewN 1) := belowN (Below.refl _ _)
  have hTo2 := fun X (h : Below w5.heap.size w5 X) => hT X (B19.trans (h.mono B19.size))
  have hEq2 := fun X (a7 : Option Addr) (h : Below w5.heap.size w5 X) (h7 : ∃ lo hi, It X [iicl H] [.slice a7 H.length H.length] lo hi) => hEq X a2 H.length a7 H.length (it_vv (h21.below h) hf) (by obtain ⟨_, _, h7⟩ := h7; exact it_vv h7 hf)
  have hmix := mixedR
  go_wp2_with fail
  go_region_held3 (fun X => (X.cell? ⟨w.heap.size, 0, none⟩ = some (.int .i64 N) ∧ X.cell? ⟨w.heap.size, 1, none⟩ = some (.int .i64 B) ∧ X.cell? ⟨w.heap.size, 2, none⟩ = some (.slice a H.length cap)) ∧ X.cell? ⟨w4.heap.size, 0, none⟩ = some (.int .i64 N) ∧ X.cell? ⟨w4.heap.size, 1, none⟩ = some (.int .i64 B) ∧ X.cell? ⟨w4.heap.size, 2, none⟩ = some (.slice a2 H.length H.length))
    (first | exact KS _ b8 | exact KS _ b7b | exact KS _ bd)
    (first
      | (go_at_call 47; refine (hTo2 _ bd).mono ?_; rintro e u7 ⟨a7, rfl, i7, hb7⟩; have b7b : Below w5.heap.size w5 u7 := bd.trans (hb7.mono bd.size))
      | (go_at_call 48; refine (hEq2 u7 a7 b7b ⟨_, _, i7⟩).mono ?_; rintro e u8 ⟨rfl, hb8⟩; have b8 : Below w5.heap.size w5 u8 := b7b.trans (hb8.mono b7b.size)))
  have HBB : Hid (Below w.heap.size w u8) := B19.trans (b8.mono B19.size)
  go_wp2
  go_ret
  exact ⟨rfl, HBB.out⟩

set_option maxRecDepth 100000 in
set_option maxHeartbeats 3200000 in
theorem lawFull (hI : ImplFull) (N B : Int) (a : Option Addr) (cap : Nat) (H : List (List Int)) (w : World) (hN : I64r N) (hB : I64r B) (hv : VV w a H.length cap H) (hf : FitsH H) :
    Calls Try.prog 8 #[rlV N B a H.length cap] w fun e w' => e = .returned (.bool true) ∧ Below w.heap.size w w' := by
  have hP := Bx.new w 51 #[.int .i64 N, .int .i64 B, .slice a H.length cap]
  have hB0 := one_alloc10 w (.cells #[.int .i64 N, .int .i64 B, .slice a H.length cap] 51)
  generalize hW0 : w.alloc (.cells #[.int .i64 N, .int .i64 B, .slice a H.length cap] 51) = W0 at *
  have k00 : w.heap.size < W0.heap.size := hP.lt
  have hZ := szR_any N B a H.length cap H W0 (hv.below hB0)
  have hvX : ∀ X, Below w.heap.size w X → VV X a H.length cap H := fun X hX => hv.below hX
  have hTo : H.length ≤ 1048576 → tot H H.length ≤ 1048576 → ∀ X, Below w.heap.size w X → Calls Try.prog 47 #[rlV N B a H.length cap] X fun e w' => ∃ a', e = .returned (rlV N B a' H.length H.length) ∧ It w' [iicl H] [.slice a' H.length H.length] X.heap.size w'.heap.size ∧ Below X.heap.size X w' := fun h1 h2 X hX => toR_it N B a cap H X (hvX X hX) h1 h2
  have hSp : ∀ X a' c', VV X a' H.length c' H → Calls Try.prog 40 #[rlV N B a' H.length c'] X fun e w' => e = .returned (.bool (fullB N B H)) ∧ Below X.heap.size X w' := fun X a' c' h => (fulS_any N B a' H.length c' H X h).mono (fun e w' h => ⟨h.1, h.2.1⟩)
  have hIm : ∀ X a' c', VV X a' H.length c' H → Calls Try.prog 39 #[rlV N B a' H.length c'] X fun e w' => e = .returned (.bool (fullB N B H)) ∧ Below X.heap.size X w' := fun X a' c' h => hI N B a' c' H X hN hB h
  have hEq : ∀ X a1 c1 a2 c2, VV X a1 H.length c1 H → VV X a2 H.length c2 H → Calls Try.prog 48 #[rlV N B a1 H.length c1, rlV N B a2 H.length c2] X fun e w' => e = .returned (.bool true) ∧ Below X.heap.size X w' := fun X a1 c1 a2 c2 h1 h2 => eqR_any N B a1 a2 H.length c1 c2 H X h1 h2
  generalize (fullB N B H) = Q at *
  have ne : (Q != Q) = false := by simp
  clear hI hv
  unfold rlV at *
  obtain ⟨p0, p1, p2⟩ := hP.r3
  go_enter Try.func8, Try.ntmps8
  go_wp2_with fail
  refine (hZ).mono ?_
  rintro e w1 ⟨q, rfl, hq, hb1⟩
  clear p0 p1 p2 hZ
  have B1 : Below w.heap.size w w1 := hB0.trans (hb1.mono hB0.size)
  have sB1 : W0.heap.size ≤ w1.heap.size := hb1.size
  have h2 := hP.below hb1
  clear hB0 hP
  rcases hq with rfl | ⟨hq0, hq1⟩
  · go_wp2
    go_ret
    exact ⟨rfl, B1⟩
  have hqn : decide (q < 0) = false := by simp; omega
  have hT := hTo (by omega) (by omega)
  clear hTo
  obtain ⟨c3a, c3b, c3c⟩ := h2.r3
  go_wp2_with fail
  refine (hT w1 B1).mono ?_
  rintro e w2 ⟨a1, rfl, i1, hb2⟩
  clear c3a c3b c3c
  have B4 : Below w.heap.size w w2 := B1.trans (hb2.mono B1.size)
  have sB4 : w1.heap.size ≤ w2.heap.size := hb2.size
  have h5 := h2.below hb2
  clear B1 h2
  go_wp2_with fail
  refine (hSp w2 _ _ (it_vv i1 hf)).mono ?_
  rintro e w3 ⟨rfl, hb3⟩
  clear i1
  have B6 : Below w.heap.size w w3 := B4.trans (hb3.mono B4.size)
  have sB6 : w2.heap.size ≤ w3.heap.size := hb3.size
  have h7 := h5.below hb3
  clear B4 h5
  obtain ⟨c8a, c8b, c8c⟩ := h7.r3
  go_wp2_with fail
  refine (hT w3 B6).mono ?_
  rintro e w4 ⟨a2, rfl, i2, hb4⟩
  clear c8a c8b c8c
  have B9 : Below w.heap.size w w4 := B6.trans (hb4.mono B6.size)
  have sB9 : w3.heap.size ≤ w4.heap.size := hb4.size
  have h10 := h7.below hb4
  clear B6 h7
  have b12 := one_alloc10 w4 (.cells #[.int .i64 N, .int .i64 B, .slice a2 H.length H.length] 35)
  have h13 := Bx.new w4 35 #[.int .i64 N, .int .i64 B, .slice a2 H.length H.length]
  generalize hX11 : w4.alloc (.cells #[.int .i64 N, .int .i64 B, .slice a2 H.length H.length] 35) = X11 at *
  have B15 : Below w.heap.size w X11 := B9.trans (b12.mono B9.size)
  have sB15 : w4.heap.size ≤ X11.heap.size := b12.size
  have h16 := h10.below b12
  have h17 := i2.below b12
  clear B9 h10 i2
  have k14 : w4.heap.size < X11.heap.size := h13.lt
  clear b12
  obtain ⟨c18a, c18b, c18c⟩ := h13.r3
  go_wp2_with fail
  refine (hIm X11 _ _ (it_vv h17 hf)).mono ?_
  rintro e w5 ⟨rfl, hb5⟩
  clear c18a c18b c18c
  have B19 : Below w.heap.size w w5 := B15.trans (hb5.mono B15.size)
  have sB19 : X11.heap.size ≤ w5.heap.size := hb5.size
  have h20 := h16.below hb5
  have h21 := h17.below hb5
  have h22 := h13.below hb5
  clear B15 h16 h17 h13
  have KS : ∀ X, Below w5.heap.size w5 X → (X.cell? ⟨w.heap.size, 0, none⟩ = some (.int .i64 N) ∧ X.cell? ⟨w.heap.size, 1, none⟩ = some (.int .i64 B) ∧ X.cell? ⟨w.heap.size, 2, none⟩ = some (.slice a H.length cap)) ∧ X.cell? ⟨w4.heap.size, 0, none⟩ = some (.int .i64 N) ∧ X.cell? ⟨w4.heap.size, 1, none⟩ = some (.int .i64 B) ∧ X.cell? ⟨w4.heap.size, 2, none⟩ = some (.slice a2 H.length H.length) := fun X hX => ⟨(h20.below hX).r3, (h22.below hX).r3⟩
  have bd : Below w5.heap.size w5 (w5.drewN 1) := belowN (Below.refl _ _)
  have hTo2 := fun X (h : Below w5.heap.size w5 X) => hT X (B19.trans (h.mono B19.size))
  have hEq2 := fun X (a7 : Option Addr) (h : Below w5.heap.size w5 X) (h7 : ∃ lo hi, It X [iicl H] [.slice a7 H.length H.length] lo hi) => hEq X a2 H.length a7 H.length (it_vv (h21.below h) hf) (by obtain ⟨_, _, h7⟩ := h7; exact it_vv h7 hf)
  have hmix := mixedR
  go_wp2_with fail
  go_region_held3 (fun X => (X.cell? ⟨w.heap.size, 0, none⟩ = some (.int .i64 N) ∧ X.cell? ⟨w.heap.size, 1, none⟩ = some (.int .i64 B) ∧ X.cell? ⟨w.heap.size, 2, none⟩ = some (.slice a H.length cap)) ∧ X.cell? ⟨w4.heap.size, 0, none⟩ = some (.int .i64 N) ∧ X.cell? ⟨w4.heap.size, 1, none⟩ = some (.int .i64 B) ∧ X.cell? ⟨w4.heap.size, 2, none⟩ = some (.slice a2 H.length H.length))
    (first | exact KS _ b8 | exact KS _ b7b | exact KS _ bd)
    (first
      | (go_at_call 47; refine (hTo2 _ bd).mono ?_; rintro e u7 ⟨a7, rfl, i7, hb7⟩; have b7b : Below w5.heap.size w5 u7 := bd.trans (hb7.mono bd.size))
      | (go_at_call 48; refine (hEq2 u7 a7 b7b ⟨_, _, i7⟩).mono ?_; rintro e u8 ⟨rfl, hb8⟩; have b8 : Below w5.heap.size w5 u8 := b7b.trans (hb8.mono b7b.size)))
  have HBB : Hid (Below w.heap.size w u8) := B19.trans (b8.mono B19.size)
  go_wp2
  go_ret
  exact ⟨rfl, HBB.out⟩
end Go.Proofs.Ytdniajogojlmdaa

/-
  The walk of the exact law of NewRelay FROM what the program answers.
-/
namespace Go.Proofs.Ytdniajogojlmdaa
set_option linter.unusedVariables false
set_option linter.unusedSimpArgs false
open Go.RowKit Go.Sort

set_option maxRecDepth 100000 in
set_option maxHeartbeats 3200000 in
theorem lawNewRelay (hI : ImplNewRelay) (N B : Int) (w : World) (hN : I64r N) (hB : I64r B) :
    Calls Try.prog 6 #[.int .i64 N, .int .i64 B] w fun e w' => e = .returned (.bool true) ∧ Below w.heap.size w w' := by
  have hS := newS_any N B
  have hIm := fun X => hI N B X hN hB
  obtain ⟨hfZ, hlZ, htZ⟩ := newL_small N B
  clear hI
  generalize newL N B = R at *
  obtain ⟨⟨RN, RB, Z⟩, ok⟩ := R
  simp only [] at hfZ hlZ htZ
  unfold AnsRl at hS hIm
  simp only [] at hS hIm
  have hok : (ok != ok) = false := by cases ok <;> rfl
  have B0 : Below w.heap.size w w := Below.refl _ _
  have hEz : ∀ X a1 c1 a2 c2 {l1 h1 l2 h2 : Nat}, It X [iicl Z] [.slice a1 Z.length c1] l1 h1 → It X [iicl Z] [.slice a2 Z.length c2] l2 h2 → Calls Try.prog 48 #[rlV RN RB a1 Z.length c1, rlV RN RB a2 Z.length c2] X fun e w' => e = .returned (.bool true) ∧ Below X.heap.size X w' := fun X a1 c1 a2 c2 l1 h1 l2 h2 i1 i2 => eqR_any RN RB a1 a2 Z.length c1 c2 Z X (it_vv i1 hfZ) (it_vv i2 hfZ)
  obtain ⟨M, hM⟩ : ∃ M : Int, Hid (M = ((1 + tot Z Z.length : Nat) : Int)) := ⟨_, rfl⟩
  have hM0 : decide (M < 0) = false := by rw [hM.out]; simp; omega
  have hMM : (M != M) = false := by simp
  have hMz : ∀ X a1 c1 lo hi, It X [iicl Z] [.slice a1 Z.length c1] lo hi → Calls Try.prog 49 #[rlV RN RB a1 Z.length c1, .int .i64 1] X fun e w' => e = .returned (.int .i64 M) ∧ It w' [iicl (mkd Z 1 Z.length)] [.slice a1 Z.length c1] lo hi ∧ Wrt (Iv lo hi) X w' := fun X a1 c1 lo hi i => by rw [hM.out]; exact markR_it RN RB a1 c1 1 lo hi Z X i (by omega) (by omega) (by omega)
  have hHz : ∀ X a1 c1 lo hi, It X [iicl (mkd Z 1 Z.length)] [.slice a1 Z.length c1] lo hi → Calls Try.prog 50 #[rlV RN RB a1 Z.length c1, .int .i64 1] X fun e w' => e = .returned (.int .i64 M) ∧ Below X.heap.size X w' := fun X a1 c1 lo hi i => by rw [hM.out]; exact heldR_it RN RB a1 c1 1 lo hi Z X i (by omega) (by omega) (by omega)
  unfold rlV at *
  go_enter Try.func6, Try.ntmps6
  go_wp2_with fail
  refine (hS w).mono ?_
  rintro e w1 ⟨av, cv, rfl, nv⟩
  have iv := It.of_newO nv
  obtain ⟨_, _, _, hbv⟩ := nv
  have B1 : Below w.heap.size w w1 := B0.trans (hbv.mono B0.size)
  have sB1 : w.heap.size ≤ w1.heap.size := hbv.size
  clear B0
  have b3 := one_alloc10 w1 (.cells #[.int .i64 RN, .int .i64 RB, .slice av Z.length cv] 35)
  have h4 := Bx.new w1 35 #[.int .i64 RN, .int .i64 RB, .slice av Z.length cv]
  generalize hX2 : w1.alloc (.cells #[.int .i64 RN, .int .i64 RB, .slice av Z.length cv] 35) = X2 at *
  have B6 : Below w.heap.size w X2 := B1.trans (b3.mono B1.size)
  have sB6 : w1.heap.size ≤ X2.heap.size := b3.size
  have h7 := iv.below b3
  clear B1 iv
  have k5 : w1.heap.size < X2.heap.size := h4.lt
  clear b3
  go_wp2_with fail
  refine (hIm X2).mono ?_
  rintro e w2 ⟨ag, cg, rfl, ng⟩
  have ig := It.of_newO ng
  obtain ⟨_, _, _, hbg⟩ := ng
  have B8 : Below w.heap.size w w2 := B6.trans (hbg.mono B6.size)
  have sB8 : X2.heap.size ≤ w2.heap.size := hbg.size
  have h9 := h7.below hbg
  have h10 := h4.below hbg
  clear B6 h7 h4
  have b12 := one_alloc10 w2 (.cells #[.int .i64 RN, .int .i64 RB, .slice ag Z.length cg] 35)
  have h13 := Bx.new w2 35 #[.int .i64 RN, .int .i64 RB, .slice ag Z.length cg]
  generalize hX11 : w2.alloc (.cells #[.int .i64 RN, .int .i64 RB, .slice ag Z.length cg] 35) = X11 at *
  have B15 : Below w.heap.size w X11 := B8.trans (b12.mono B8.size)
  have sB15 : w2.heap.size ≤ X11.heap.size := b12.size
  have h16 := h9.below b12
  have h17 := h10.below b12
  have h18 := ig.below b12
  clear B8 h9 h10 ig
  have k14 : w2.heap.size < X11.heap.size := h13.lt
  clear b12
  obtain ⟨c19a, c19b, c19c⟩ := h13.r3
  obtain ⟨c20a, c20b, c20c⟩ := h17.r3
  go_wp2_with fail
  refine (hEz X11 _ _ _ _ h18 h16).mono ?_
  rintro e w3 ⟨rfl, hbw3⟩
  clear c19a c19b c19c c20a c20b c20c
  have B21 : Below w.heap.size w w3 := B15.trans (hbw3.mono B15.size)
  have sB21 : X11.heap.size ≤ w3.heap.size := hbw3.size
  have h22 := h16.below hbw3
  have h23 := h17.below hbw3
  have h24 := h18.below hbw3
  have h25 := h13.below hbw3
  clear B15 h16 h17 h18 h13
  obtain ⟨c26a, c26b, c26c⟩ := h25.r3
  go_wp2_with fail
  refine (hMz w3 _ _ _ _ h24).mono ?_
  rintro e w4 ⟨rfl, iw4, hww4⟩
  clear c26a c26b c26c
  have sB27 : w3.heap.size ≤ w4.heap.size := hww4.size
  have B27 : Below w.heap.size w w4 := below_iv hww4 B21 B21.size (by omega)
  have h28 := h22.far hww4 (by omega)
  have h29 := h23.iv hww4 (by omega)
  have h30 := h25.iv hww4 (by omega)
  clear B21 h22 h23 h24 h25
  obtain ⟨c31a, c31b, c31c⟩ := h30.r3
  go_wp2_with fail
  refine (hHz w4 _ _ _ _ iw4).mono ?_
  rintro e w5 ⟨rfl, hbw5⟩
  clear c31a c31b c31c
  have B32 : Below w.heap.size w w5 := B27.trans (hbw5.mono B27.size)
  have sB32 : w4.heap.size ≤ w5.heap.size := hbw5.size
  have h33 := h28.below hbw5
  have h34 := h29.below hbw5
  have h35 := iw4.below hbw5
  have h36 := h30.below hbw5
  clear B27 h28 h29 iw4 h30
  go_wp2_with fail
  refine (hIm w5).mono ?_
  rintro e w6 ⟨ah, ch, rfl, nh⟩
  have ih := It.of_newO nh
  obtain ⟨_, _, _, hbh⟩ := nh
  have B37 : Below w.heap.size w w6 := B32.trans (hbh.mono B32.size)
  have sB37 : w5.heap.size ≤ w6.heap.size := hbh.size
  have h38 := h33.below hbh
  have h39 := h34.below hbh
  have h40 := h35.below hbh
  have h41 := h36.below hbh
  clear B32 h33 h34 h35 h36
  have b43 := one_alloc10 w6 (.cells #[.int .i64 RN, .int .i64 RB, .slice ah Z.length ch] 35)
  have h44 := Bx.new w6 35 #[.int .i64 RN, .int .i64 RB, .slice ah Z.length ch]
  generalize hX42 : w6.alloc (.cells #[.int .i64 RN, .int .i64 RB, .slice ah Z.length ch] 35) = X42 at *
  have B46 : Below w.heap.size w X42 := B37.trans (b43.mono B37.size)
  have sB46 : w6.heap.size ≤ X42.heap.size := b43.size
  have h47 := h38.below b43
  have h48 := h39.below b43
  have h49 := h40.below b43
  have h50 := h41.below b43
  have h51 := ih.below b43
  clear B37 h38 h39 h40 h41 ih
  have k45 : w6.heap.size < X42.heap.size := h44.lt
  clear b43
  obtain ⟨c52a, c52b, c52c⟩ := h44.r3
  obtain ⟨c53a, c53b, c53c⟩ := h48.r3
  go_wp2_with fail
  refine (hEz X42 _ _ _ _ h51 h47).mono ?_
  rintro e w7 ⟨rfl, hbw7⟩
  clear c52a c52b c52c c53a c53b c53c
  have B54 : Below w.heap.size w w7 := B46.trans (hbw7.mono B46.size)
  have sB54 : X42.heap.size ≤ w7.heap.size := hbw7.size
  have h55 := h47.below hbw7
  have h56 := h48.below hbw7
  have h57 := h49.below hbw7
  have h58 := h50.below hbw7
  have h59 := h51.below hbw7
  have h60 := h44.below hbw7
  clear B46 h47 h48 h49 h50 h51 h44
  obtain ⟨c61a, c61b, c61c⟩ := h58.r3
  go_wp2_with fail
  refine (hHz w7 _ _ _ _ h57).mono ?_
  rintro e w8 ⟨rfl, hbw8⟩
  clear c61a c61b c61c
  have B62 : Below w.heap.size w w8 := B54.trans (hbw8.mono B54.size)
  have sB62 : w7.heap.size ≤ w8.heap.size := hbw8.size
  have h63 := h55.below hbw8
  have h64 := h56.below hbw8
  have h65 := h57.below hbw8
  have h66 := h58.below hbw8
  have h67 := h59.below hbw8
  have h68 := h60.below hbw8
  clear B54 h55 h56 h57 h58 h59 h60
  go_wp2
  go_ret
  exact ⟨rfl, B62⟩
end Go.Proofs.Ytdniajogojlmdaa
