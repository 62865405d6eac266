/-
  Several texts in one: Lgy Lgz.
-/
import Derived.Test.YtbnpliobigjapaaLa
import Derived.Test.YtbnpliobigjapaaKz
import Derived.Deep.RegionHeld3
/-
  The walks of the exact laws of Shorter and Cut FROM what the program answers.
-/
namespace Go.Proofs.Ytbnpliobigjapaa
set_option linter.unusedVariables false
set_option linter.unusedSimpArgs false
open Go.RowKit Go.Sort
attribute [local irreducible] sv

theorem shLg_len (l : Lg) (b : Int) : (shLg l b).2.length ≤ 40 := by
  unfold shLg
  split
  · rename_i h
    have := h.2.1
    simp only [List.length_drop]
    omega
  · simp [zeroLg]
theorem cuLg_len (l : Lg) (b : Int) : (cuLg l b).2.length ≤ 40 := by
  unfold cuLg
  split
  · rename_i h
    have := h.2.1
    simp only [List.length_take]
    omega
  · simp [zeroLg]
set_option maxRecDepth 100000 in
set_option maxHeartbeats 3200000 in
theorem lawShorter (hI : ImplShorter) (F : Int) (a : Option Addr) (cap : Nat) (T : List (List UInt8)) (v : Int) (w : World) (hF : I64l F) (hv : TxS w a T) (hlg : LongT T) (hm : T.length ≤ maxLen) (hvr : I64l v) :
    Calls Try.prog 8 #[lgV F a T.length cap, .int .i64 v] w fun e w' => e = .returned (.bool true) ∧ Below w.heap.size w w' := by
  have hP := Bx.new w 43 #[.int .i64 F, .slice a T.length cap]
  have hB0 := oneA w (.cells #[.int .i64 F, .slice a T.length cap] 43)
  generalize hW0 : w.alloc (.cells #[.int .i64 F, .slice a T.length cap] 43) = W0 at *
  have k00 : w.heap.size < W0.heap.size := hP.lt
  have hZ := szLg_any F a cap T 1048576 W0 (hv.below hB0) hlg hm ⟨by omega, by omega⟩
  have hTo : T.length ≤ 1048576 → ∀ X, Below w.heap.size w X → Calls Try.prog 40 #[lgV F a T.length cap] X fun e w' => ∃ a' c', e = .returned (lgV F a' T.length c') ∧ It w' [scl T] [.slice a' T.length c'] X.heap.size w'.heap.size ∧ Below X.heap.size X w' := fun h X hX => (toLg_any F a cap T X (hv.below hX) h).mono (fun e w' h => by obtain ⟨a', c', h1, h2⟩ := h; exact ⟨a', c', h1, It.of_newO h2, by obtain ⟨_, _, _, h3⟩ := h2; exact h3⟩)
  have hSh : totS T T.length ≤ 1048576 → ShortT T := fun h i hi => Nat.le_trans (totS_at T hi) h
  have hEq : T.length ≤ 1048576 → ∀ X a1 c1 a2 c2, TxS X a1 T → TxS X a2 T → Calls Try.prog 41 #[lgV F a1 T.length c1, lgV F a2 T.length c2] X fun e w' => e = .returned (.bool true) ∧ Below X.heap.size X w' := fun h X a1 c1 a2 c2 h1 h2 => (eqLg_any F a1 a2 c1 c2 T X h1 h2 hm).mono (fun e w' h => ⟨h.1, h.2.1⟩)
  have hSp : T.length ≤ 1048576 → ∀ X a' c', TxP X a' c' T → Calls Try.prog 35 #[lgV F a' T.length c', .int .i64 v] X fun e w' => AnsLg X w' e (shLg (F, T) v) := fun h1 X a' c' h => lghS_any F a' c' T v X h h1
  have hIm : T.length ≤ 1048576 → ShortT T → ∀ X a' c', TxP X a' c' T → Calls Try.prog 29 #[lgV F a' T.length c', .int .i64 v] X fun e w' => AnsLg X w' e (shLg (F, T) v) := fun h1 h2 X a' c' h => hI F a' c' T v X hF hvr h h1 h2
  have hlZ := shLg_len (F, T) v
  generalize shLg (F, T) v = RR at *
  obtain ⟨ZF, Z⟩ := RR
  simp only [] at hlZ
  unfold AnsLg at hSp hIm
  simp only [] at hSp hIm
  have hEz : ∀ X a1 c1 a2 c2 {l1 h1 l2 h2 : Nat}, It X [scl Z] [.slice a1 Z.length c1] l1 h1 → It X [scl Z] [.slice a2 Z.length c2] l2 h2 → Calls Try.prog 41 #[lgV ZF a1 Z.length c1, lgV ZF a2 Z.length c2] X fun e w' => e = .returned (.bool true) ∧ Below X.heap.size X w' := fun X a1 c1 a2 c2 l1 h1 l2 h2 i1 i2 => (eqLg_any ZF a1 a2 c1 c2 Z X (it_scl i1).1 (it_scl i2).1 (by unfold maxLen; omega)).mono (fun e w' h => ⟨h.1, h.2.1⟩)
  obtain ⟨M, hM⟩ : ∃ M : Int, Hid (M = ((1 : Nat) : Int) + (Z.length : Int)) := ⟨_, rfl⟩
  have hM0 : decide (M < 0) = false := by rw [hM.out]; simp; omega
  have hMM : (M != M) = false := by simp
  have hMz : ∀ X a1 c1 lo hi, It X [scl Z] [.slice a1 Z.length c1] lo hi → Calls Try.prog 44 #[lgV ZF a1 Z.length c1, .int .i64 1] X fun e w' => e = .returned (.int .i64 M) ∧ It w' [scl (marksS Z.length 1)] [.slice a1 Z.length c1] lo hi ∧ Wrt (Iv lo hi) X w' := fun X a1 c1 lo hi i => by rw [hM.out]; exact markLg_it ZF a1 c1 1 lo hi Z X i (by omega) (by omega) (by omega)
  have hHz : ∀ X a1 c1 lo hi, It X [scl (marksS Z.length 1)] [.slice a1 Z.length c1] lo hi → Calls Try.prog 45 #[lgV ZF a1 Z.length c1, .int .i64 1] X fun e w' => e = .returned (.int .i64 M) ∧ Below X.heap.size X w' := fun X a1 c1 lo hi i => by rw [hM.out]; exact heldLg_it ZF a1 c1 1 Z.length lo hi X i (by omega) (by omega) (by omega)
  obtain ⟨K1, hK1⟩ : ∃ K1 : Int, Hid (K1 = ((1 : Nat) : Int) + (T.length : Int)) := ⟨_, rfl⟩
  have hK0 : decide (K1 < 0) = false := by rw [hK1.out]; simp; omega
  have hMx : T.length ≤ 1048576 → ∀ X a1 c1 lo hi, It X [scl T] [.slice a1 T.length c1] lo hi → Calls Try.prog 44 #[lgV F a1 T.length c1, .int .i64 1] X fun e w' => e = .returned (.int .i64 K1) ∧ It w' [scl (marksS T.length 1)] [.slice a1 T.length c1] lo hi ∧ Wrt (Iv lo hi) X w' := fun h1 X a1 c1 lo hi i => by rw [hK1.out]; exact markLg_it F a1 c1 1 lo hi T X i (by omega) (by omega) (by omega)
  clear hI hv
  unfold lgV at *
  obtain ⟨p0, p1⟩ := hP.r2
  go_enter Try.func8, Try.ntmps8
  go_wp2_with fail
  refine (hZ).mono ?_
  rintro e w1 ⟨q, rfl, hq, hb1⟩
  clear p0 p1 hZ
  have B1 : Below w.heap.size w w1 := hB0.trans (hb1.mono hB0.size)
  have sB1 : W0.heap.size ≤ w1.heap.size := hb1.size
  have h2 := hP.below hb1
  clear hB0 hP
  rcases hq with rfl | ⟨hq0, hq1⟩
  · go_wp2
    go_ret
    exact ⟨rfl, B1⟩
  have hqn : decide (q < 0) = false := by simp; omega
  have hT := hTo (by omega)
  have hE := hEq (by omega)
  have hS2 := hSp (by omega)
  have hI2 := hIm (by omega) (hSh (by omega))
  have hMxx := hMx (by omega)
  clear hIm hSp hMx
  clear hTo hEq hSh
  obtain ⟨c3a, c3b⟩ := h2.r2
  go_wp2_with fail
  refine (hT w1 B1).mono ?_
  rintro e w2 ⟨a1, c1, rfl, i1, hb1⟩
  clear c3a c3b
  have B4 : Below w.heap.size w w2 := B1.trans (hb1.mono B1.size)
  have sB4 : w1.heap.size ≤ w2.heap.size := hb1.size
  have h5 := h2.below hb1
  clear B1 h2
  go_wp2_with fail
  refine (hS2 w2 _ _ (it_txp i1)).mono ?_
  rintro e w3 ⟨av, cv, rfl, nv⟩
  have iv := It.of_newO nv
  obtain ⟨_, _, _, hbv⟩ := nv
  have B6 : Below w.heap.size w w3 := B4.trans (hbv.mono B4.size)
  have sB6 : w2.heap.size ≤ w3.heap.size := hbv.size
  have h7 := h5.below hbv
  have h8 := i1.below hbv
  clear B4 h5 i1
  have b10 := oneA w3 (.cells #[.int .i64 ZF, .slice av Z.length cv] 35)
  have h11 := Bx.new w3 35 #[.int .i64 ZF, .slice av Z.length cv]
  generalize hX9 : w3.alloc (.cells #[.int .i64 ZF, .slice av Z.length cv] 35) = X9 at *
  have B13 : Below w.heap.size w X9 := B6.trans (b10.mono B6.size)
  have sB13 : w3.heap.size ≤ X9.heap.size := b10.size
  have h14 := h7.below b10
  have h15 := h8.below b10
  have h16 := iv.below b10
  clear B6 h7 h8 iv
  have k12 : w3.heap.size < X9.heap.size := h11.lt
  clear b10
  clear h15
  obtain ⟨c17a, c17b⟩ := h14.r2
  go_wp2_with fail
  refine (hT X9 B13).mono ?_
  rintro e w4 ⟨a2, c2, rfl, i2, hb2⟩
  clear c17a c17b
  have B18 : Below w.heap.size w w4 := B13.trans (hb2.mono B13.size)
  have sB18 : X9.heap.size ≤ w4.heap.size := hb2.size
  have h19 := h14.below hb2
  have h20 := h16.below hb2
  have h21 := h11.below hb2
  clear B13 h14 h16 h11
  have b23 := oneA w4 (.cells #[.int .i64 F, .slice a2 T.length c2] 35)
  have h24 := Bx.new w4 35 #[.int .i64 F, .slice a2 T.length c2]
  generalize hX22 : w4.alloc (.cells #[.int .i64 F, .slice a2 T.length c2] 35) = X22 at *
  have B26 : Below w.heap.size w X22 := B18.trans (b23.mono B18.size)
  have sB26 : w4.heap.size ≤ X22.heap.size := b23.size
  have h27 := h19.below b23
  have h28 := h20.below b23
  have h29 := h21.below b23
  have h30 := i2.below b23
  clear B18 h19 h20 h21 i2
  have k25 : w4.heap.size < X22.heap.size := h24.lt
  clear b23
  obtain ⟨c31a, c31b⟩ := h24.r2
  go_wp2_with fail
  refine (hI2 X22 _ _ (it_txp h30)).mono ?_
  rintro e w5 ⟨ag, cg, rfl, ng⟩
  have ig := It.of_newO ng
  obtain ⟨_, _, _, hbg⟩ := ng
  have B32 : Below w.heap.size w w5 := B26.trans (hbg.mono B26.size)
  have sB32 : X22.heap.size ≤ w5.heap.size := hbg.size
  have h33 := h27.below hbg
  have h34 := h28.below hbg
  have h35 := h29.below hbg
  have h36 := h30.below hbg
  have h37 := h24.below hbg
  clear B26 h27 h28 h29 h30 h24
  have b39 := oneA w5 (.cells #[.int .i64 ZF, .slice ag Z.length cg] 35)
  have h40 := Bx.new w5 35 #[.int .i64 ZF, .slice ag Z.length cg]
  generalize hX38 : w5.alloc (.cells #[.int .i64 ZF, .slice ag Z.length cg] 35) = X38 at *
  have B42 : Below w.heap.size w X38 := B32.trans (b39.mono B32.size)
  have sB42 : w5.heap.size ≤ X38.heap.size := b39.size
  have h43 := h33.below b39
  have h44 := h34.below b39
  have h45 := h35.below b39
  have h46 := h36.below b39
  have h47 := h37.below b39
  have h48 := ig.below b39
  clear B32 h33 h34 h35 h36 h37 ig
  have k41 : w5.heap.size < X38.heap.size := h40.lt
  clear b39
  clear c31a c31b
  obtain ⟨c49a, c49b⟩ := h40.r2
  obtain ⟨c50a, c50b⟩ := h45.r2
  go_wp2_with fail
  refine (hEz X38 _ _ _ _ h48 h44).mono ?_
  rintro e w6 ⟨rfl, hbw6⟩
  clear c49a c49b c50a c50b
  have B51 : Below w.heap.size w w6 := B42.trans (hbw6.mono B42.size)
  have sB51 : X38.heap.size ≤ w6.heap.size := hbw6.size
  have h52 := h43.below hbw6
  have h53 := h44.below hbw6
  have h54 := h45.below hbw6
  have h55 := h46.below hbw6
  have h56 := h47.below hbw6
  have h57 := h48.below hbw6
  have h58 := h40.below hbw6
  clear B42 h43 h44 h45 h46 h47 h48 h40
  have KS : ∀ X, Below w6.heap.size w6 X → (X.cell? ⟨w.heap.size, 0, none⟩ = some (.int .i64 F) ∧ X.cell? ⟨w.heap.size, 1, none⟩ = some (.slice a T.length cap)) ∧ X.cell? ⟨w4.heap.size, 0, none⟩ = some (.int .i64 F) ∧ X.cell? ⟨w4.heap.size, 1, none⟩ = some (.slice a2 T.length c2) := fun X hX => ⟨(h52.below hX).r2, (h56.below hX).r2⟩
  have bd : Below w6.heap.size w6 (w6.drewN 1) := belowN (Below.refl _ _)
  have hTo2 := fun X (h : Below w6.heap.size w6 X) => hT X (B51.trans (h.mono B51.size))
  have hEq2 := fun X (a7 : Option Addr) (c7 : Nat) (h : Below w6.heap.size w6 X) (h7 : ∃ lo hi, It X [scl T] [.slice a7 T.length c7] lo hi) => hE X a2 c2 a7 c7 (it_scl (h55.below h)).1 (by obtain ⟨_, _, h7⟩ := h7; exact (it_scl h7).1)
  go_wp2_with fail
  go_region_held3 (fun X => (X.cell? ⟨w.heap.size, 0, none⟩ = some (.int .i64 F) ∧ X.cell? ⟨w.heap.size, 1, none⟩ = some (.slice a T.length cap)) ∧ X.cell? ⟨w4.heap.size, 0, none⟩ = some (.int .i64 F) ∧ X.cell? ⟨w4.heap.size, 1, none⟩ = some (.slice a2 T.length c2))
    (first | exact KS _ b8 | exact KS _ b7b | exact KS _ bd)
    (first
      | (go_at_call 40; refine (hTo2 _ bd).mono ?_; rintro e u7 ⟨a7, c7, rfl, i7, hb7⟩; have b7b : Below w6.heap.size w6 u7 := bd.trans (hb7.mono bd.size))
      | (go_at_call 41; refine (hEq2 u7 a7 c7 b7b ⟨_, _, i7⟩).mono ?_; rintro e u8 ⟨rfl, hb8⟩; have b8 : Below w6.heap.size w6 u8 := b7b.trans (hb8.mono b7b.size)))
  have HBB : Hid (Below w.heap.size w u8) := B51.trans (b8.mono B51.size)
  clear KS bd hTo2 hEq2 i7 hb7 b7b hb8 HBB
  have B59 : Below w.heap.size w u8 := B51.trans (b8.mono B51.size)
  have sB59 : w6.heap.size ≤ u8.heap.size := b8.size
  have h60 := h52.below b8
  have h61 := h53.below b8
  have h62 := h54.below b8
  have h63 := h55.below b8
  have h64 := h56.below b8
  have h65 := h57.below b8
  have h66 := h58.below b8
  clear B51 h52 h53 h54 h55 h56 h57 h58
  obtain ⟨c67a, c67b⟩ := h64.r2
  go_wp2_with fail
  refine (hMxx u8 _ _ _ _ h63).mono ?_
  rintro e w12 ⟨rfl, i12, hw12⟩
  clear c67a c67b
  have sB68 : u8.heap.size ≤ w12.heap.size := hw12.size
  have B68 : Below w.heap.size w w12 := below_iv hw12 B59 B59.size (by omega)
  have h69 := h60.iv hw12 (by omega)
  have h70 := h61.far hw12 (by omega)
  have h71 := h62.iv hw12 (by omega)
  have h72 := h64.iv hw12 (by omega)
  have h73 := h65.far hw12 (by omega)
  have h74 := h66.iv hw12 (by omega)
  clear B59 h60 h61 h62 h63 h64 h65 h66
  obtain ⟨c75a, c75b⟩ := h74.r2
  obtain ⟨c76a, c76b⟩ := h71.r2
  go_wp2_with fail
  refine (hEz w12 _ _ _ _ h73 h70).mono ?_
  rintro e w13 ⟨rfl, hbw13⟩
  clear c75a c75b c76a c76b
  have B77 : Below w.heap.size w w13 := B68.trans (hbw13.mono B68.size)
  have sB77 : w12.heap.size ≤ w13.heap.size := hbw13.size
  have h78 := h69.below hbw13
  have h79 := h70.below hbw13
  have h80 := h71.below hbw13
  have h81 := i12.below hbw13
  have h82 := h72.below hbw13
  have h83 := h73.below hbw13
  have h84 := h74.below hbw13
  clear B68 h69 h70 h71 i12 h72 h73 h74
  obtain ⟨c85a, c85b⟩ := h84.r2
  go_wp2_with fail
  refine (hMz w13 _ _ _ _ h83).mono ?_
  rintro e w14 ⟨rfl, iw14, hww14⟩
  clear c85a c85b
  have sB86 : w13.heap.size ≤ w14.heap.size := hww14.size
  have B86 : Below w.heap.size w w14 := below_iv hww14 B77 B77.size (by omega)
  have h87 := h78.iv hww14 (by omega)
  have h88 := h79.far hww14 (by omega)
  have h89 := h80.iv hww14 (by omega)
  have h90 := h81.far hww14 (by omega)
  have h91 := h82.iv hww14 (by omega)
  have h92 := h84.iv hww14 (by omega)
  clear B77 h78 h79 h80 h81 h82 h83 h84
  obtain ⟨c93a, c93b⟩ := h92.r2
  go_wp2_with fail
  refine (hHz w14 _ _ _ _ iw14).mono ?_
  rintro e w15 ⟨rfl, hbw15⟩
  clear c93a c93b
  have B94 : Below w.heap.size w w15 := B86.trans (hbw15.mono B86.size)
  have sB94 : w14.heap.size ≤ w15.heap.size := hbw15.size
  have h95 := h87.below hbw15
  have h96 := h88.below hbw15
  have h97 := h89.below hbw15
  have h98 := h90.below hbw15
  have h99 := h91.below hbw15
  have h100 := iw14.below hbw15
  have h101 := h92.below hbw15
  clear B86 h87 h88 h89 h90 h91 iw14 h92
  obtain ⟨c102a, c102b⟩ := h95.r2
  go_wp2_with fail
  refine (hT w15 B94).mono ?_
  rintro e w16 ⟨a9, c9, rfl, i9, hb9⟩
  clear c102a c102b
  have B103 : Below w.heap.size w w16 := B94.trans (hb9.mono B94.size)
  have sB103 : w15.heap.size ≤ w16.heap.size := hb9.size
  have h104 := h95.below hb9
  have h105 := h96.below hb9
  have h106 := h97.below hb9
  have h107 := h98.below hb9
  have h108 := h99.below hb9
  have h109 := h100.below hb9
  have h110 := h101.below hb9
  clear B94 h95 h96 h97 h98 h99 h100 h101
  go_wp2_with fail
  refine (hI2 w16 _ _ (it_txp i9)).mono ?_
  rintro e w17 ⟨ah, ch, rfl, nh⟩
  have ih := It.of_newO nh
  obtain ⟨_, _, _, hbh⟩ := nh
  have B111 : Below w.heap.size w w17 := B103.trans (hbh.mono B103.size)
  have sB111 : w16.heap.size ≤ w17.heap.size := hbh.size
  have h112 := h104.below hbh
  have h113 := h105.below hbh
  have h114 := h106.below hbh
  have h115 := h107.below hbh
  have h116 := h108.below hbh
  have h117 := h109.below hbh
  have h118 := h110.below hbh
  have h119 := i9.below hbh
  clear B103 h104 h105 h106 h107 h108 h109 h110 i9
  have b121 := oneA w17 (.cells #[.int .i64 ZF, .slice ah Z.length ch] 35)
  have h122 := Bx.new w17 35 #[.int .i64 ZF, .slice ah Z.length ch]
  generalize hX120 : w17.alloc (.cells #[.int .i64 ZF, .slice ah Z.length ch] 35) = X120 at *
  have B124 : Below w.heap.size w X120 := B111.trans (b121.mono B111.size)
  have sB124 : w17.heap.size ≤ X120.heap.size := b121.size
  have h125 := h112.below b121
  have h126 := h113.below b121
  have h127 := h114.below b121
  have h128 := h115.below b121
  have h129 := h116.below b121
  have h130 := h117.below b121
  have h131 := h118.below b121
  have h132 := h119.below b121
  have h133 := ih.below b121
  clear B111 h112 h113 h114 h115 h116 h117 h118 h119 ih
  have k123 : w17.heap.size < X120.heap.size := h122.lt
  clear b121
  obtain ⟨c134a, c134b⟩ := h122.r2
  obtain ⟨c135a, c135b⟩ := h127.r2
  go_wp2_with fail
  refine (hEz X120 _ _ _ _ h133 h126).mono ?_
  rintro e w18 ⟨rfl, hbw18⟩
  clear c134a c134b c135a c135b
  have B136 : Below w.heap.size w w18 := B124.trans (hbw18.mono B124.size)
  have sB136 : X120.heap.size ≤ w18.heap.size := hbw18.size
  have h137 := h125.below hbw18
  have h138 := h126.below hbw18
  have h139 := h127.below hbw18
  have h140 := h128.below hbw18
  have h141 := h129.below hbw18
  have h142 := h130.below hbw18
  have h143 := h131.below hbw18
  have h144 := h132.below hbw18
  have h145 := h133.below hbw18
  have h146 := h122.below hbw18
  clear B124 h125 h126 h127 h128 h129 h130 h131 h132 h133 h122
  obtain ⟨c147a, c147b⟩ := h143.r2
  go_wp2_with fail
  refine (hHz w18 _ _ _ _ h142).mono ?_
  rintro e w19 ⟨rfl, hbw19⟩
  clear c147a c147b
  have B148 : Below w.heap.size w w19 := B136.trans (hbw19.mono B136.size)
  have sB148 : w18.heap.size ≤ w19.heap.size := hbw19.size
  have h149 := h137.below hbw19
  have h150 := h138.below hbw19
  have h151 := h139.below hbw19
  have h152 := h140.below hbw19
  have h153 := h141.below hbw19
  have h154 := h142.below hbw19
  have h155 := h143.below hbw19
  have h156 := h144.below hbw19
  have h157 := h145.below hbw19
  have h158 := h146.below hbw19
  clear B136 h137 h138 h139 h140 h141 h142 h143 h144 h145 h146
  go_wp2
  go_ret
  exact ⟨rfl, B148⟩

set_option maxRecDepth 100000 in
set_option maxHeartbeats 3200000 in
theorem lawCut (hI : ImplCut) (F : Int) (a : Option Addr) (cap : Nat) (T : List (List UInt8)) (v : Int) (w : World) (hF : I64l F) (hv : TxS w a T) (hlg : LongT T) (hm : T.length ≤ maxLen) (hvr : I64l v) :
    Calls Try.prog 9 #[lgV F a T.length cap, .int .i64 v] w fun e w' => e = .returned (.bool true) ∧ Below w.heap.size w w' := by
  have hP := Bx.new w 43 #[.int .i64 F, .slice a T.length cap]
  have hB0 := oneA w (.cells #[.int .i64 F, .slice a T.length cap] 43)
  generalize hW0 : w.alloc (.cells #[.int .i64 F, .slice a T.length cap] 43) = W0 at *
  have k00 : w.heap.size < W0.heap.size := hP.lt
  have hZ := szLg_any F a cap T 1048576 W0 (hv.below hB0) hlg hm ⟨by omega, by omega⟩
  have hTo : T.length ≤ 1048576 → ∀ X, Below w.heap.size w X → Calls Try.prog 40 #[lgV F a T.length cap] X fun e w' => ∃ a' c', e = .returned (lgV F a' T.length c') ∧ It w' [scl T] [.slice a' T.length c'] X.heap.size w'.heap.size ∧ Below X.heap.size X w' := fun h X hX => (toLg_any F a cap T X (hv.below hX) h).mono (fun e w' h => by obtain ⟨a', c', h1, h2⟩ := h; exact ⟨a', c', h1, It.of_newO h2, by obtain ⟨_, _, _, h3⟩ := h2; exact h3⟩)
  have hSh : totS T T.length ≤ 1048576 → ShortT T := fun h i hi => Nat.le_trans (totS_at T hi) h
  have hEq : T.length ≤ 1048576 → ∀ X a1 c1 a2 c2, TxS X a1 T → TxS X a2 T → Calls Try.prog 41 #[lgV F a1 T.length c1, lgV F a2 T.length c2] X fun e w' => e = .returned (.bool true) ∧ Below X.heap.size X w' := fun h X a1 c1 a2 c2 h1 h2 => (eqLg_any F a1 a2 c1 c2 T X h1 h2 hm).mono (fun e w' h => ⟨h.1, h.2.1⟩)
  have hSp : T.length ≤ 1048576 → ∀ X a' c', TxP X a' c' T → Calls Try.prog 36 #[lgV F a' T.length c', .int .i64 v] X fun e w' => AnsLg X w' e (cuLg (F, T) v) := fun h1 X a' c' h => lguS_any F a' c' T v X h h1
  have hIm : T.length ≤ 1048576 → ShortT T → ∀ X a' c', TxP X a' c' T → Calls Try.prog 30 #[lgV F a' T.length c', .int .i64 v] X fun e w' => AnsLg X w' e (cuLg (F, T) v) := fun h1 h2 X a' c' h => hI F a' c' T v X hF hvr h h1 h2
  have hlZ := cuLg_len (F, T) v
  generalize cuLg (F, T) v = RR at *
  obtain ⟨ZF, Z⟩ := RR
  simp only [] at hlZ
  unfold AnsLg at hSp hIm
  simp only [] at hSp hIm
  have hEz : ∀ X a1 c1 a2 c2 {l1 h1 l2 h2 : Nat}, It X [scl Z] [.slice a1 Z.length c1] l1 h1 → It X [scl Z] [.slice a2 Z.length c2] l2 h2 → Calls Try.prog 41 #[lgV ZF a1 Z.length c1, lgV ZF a2 Z.length c2] X fun e w' => e = .returned (.bool true) ∧ Below X.heap.size X w' := fun X a1 c1 a2 c2 l1 h1 l2 h2 i1 i2 => (eqLg_any ZF a1 a2 c1 c2 Z X (it_scl i1).1 (it_scl i2).1 (by unfold maxLen; omega)).mono (fun e w' h => ⟨h.1, h.2.1⟩)
  obtain ⟨M, hM⟩ : ∃ M : Int, Hid (M = ((1 : Nat) : Int) + (Z.length : Int)) := ⟨_, rfl⟩
  have hM0 : decide (M < 0) = false := by rw [hM.out]; simp; omega
  have hMM : (M != M) = false := by simp
  have hMz : ∀ X a1 c1 lo hi, It X [scl Z] [.slice a1 Z.length c1] lo hi → Calls Try.prog 44 #[lgV ZF a1 Z.length c1, .int .i64 1] X fun e w' => e = .returned (.int .i64 M) ∧ It w' [scl (marksS Z.length 1)] [.slice a1 Z.length c1] lo hi ∧ Wrt (Iv lo hi) X w' := fun X a1 c1 lo hi i => by rw [hM.out]; exact markLg_it ZF a1 c1 1 lo hi Z X i (by omega) (by omega) (by omega)
  have hHz : ∀ X a1 c1 lo hi, It X [scl (marksS Z.length 1)] [.slice a1 Z.length c1] lo hi → Calls Try.prog 45 #[lgV ZF a1 Z.length c1, .int .i64 1] X fun e w' => e = .returned (.int .i64 M) ∧ Below X.heap.size X w' := fun X a1 c1 lo hi i => by rw [hM.out]; exact heldLg_it ZF a1 c1 1 Z.length lo hi X i (by omega) (by omega) (by omega)
  obtain ⟨K1, hK1⟩ : ∃ K1 : Int, Hid (K1 = ((1 : Nat) : Int) + (T.length : Int)) := ⟨_, rfl⟩
  have hK0 : decide (K1 < 0) = false := by rw [hK1.out]; simp; omega
  have hMx : T.length ≤ 1048576 → ∀ X a1 c1 lo hi, It X [scl T] [.slice a1 T.length c1] lo hi → Calls Try.prog 44 #[lgV F a1 T.length c1, .int .i64 1] X fun e w' => e = .returned (.int .i64 K1) ∧ It w' [scl (marksS T.length 1)] [.slice a1 T.length c1] lo hi ∧ Wrt (Iv lo hi) X w' := fun h1 X a1 c1 lo hi i => by rw [hK1.out]; exact markLg_it F a1 c1 1 lo hi T X i (by omega) (by omega) (by omega)
  clear hI hv
  unfold lgV at *
  obtain ⟨p0, p1⟩ := hP.r2
  go_enter Try.func9, Try.ntmps9
  go_wp2_with fail
  refine (hZ).mono ?_
  rintro e w1 ⟨q, rfl, hq, hb1⟩
  clear p0 p1 hZ
  have B1 : Below w.heap.size w w1 := hB0.trans (hb1.mono hB0.size)
  have sB1 : W0.heap.size ≤ w1.heap.size := hb1.size
  have h2 := hP.below hb1
  clear hB0 hP
  rcases hq with rfl | ⟨hq0, hq1⟩
  · go_wp2
    go_ret
    exact ⟨rfl, B1⟩
  have hqn : decide (q < 0) = false := by simp; omega
  have hT := hTo (by omega)
  have hE := hEq (by omega)
  have hS2 := hSp (by omega)
  have hI2 := hIm (by omega) (hSh (by omega))
  have hMxx := hMx (by omega)
  clear hIm hSp hMx
  clear hTo hEq hSh
  obtain ⟨c3a, c3b⟩ := h2.r2
  go_wp2_with fail
  refine (hT w1 B1).mono ?_
  rintro e w2 ⟨a1, c1, rfl, i1, hb1⟩
  clear c3a c3b
  have B4 : Below w.heap.size w w2 := B1.trans (hb1.mono B1.size)
  have sB4 : w1.heap.size ≤ w2.heap.size := hb1.size
  have h5 := h2.below hb1
  clear B1 h2
  go_wp2_with fail
  refine (hS2 w2 _ _ (it_txp i1)).mono ?_
  rintro e w3 ⟨av, cv, rfl, nv⟩
  have iv := It.of_newO nv
  obtain ⟨_, _, _, hbv⟩ := nv
  have B6 : Below w.heap.size w w3 := B4.trans (hbv.mono B4.size)
  have sB6 : w2.heap.size ≤ w3.heap.size := hbv.size
  have h7 := h5.below hbv
  have h8 := i1.below hbv
  clear B4 h5 i1
  have b10 := oneA w3 (.cells #[.int .i64 ZF, .slice av Z.length cv] 35)
  have h11 := Bx.new w3 35 #[.int .i64 ZF, .slice av Z.length cv]
  generalize hX9 : w3.alloc (.cells #[.int .i64 ZF, .slice av Z.length cv] 35) = X9 at *
  have B13 : Below w.heap.size w X9 := B6.trans (b10.mono B6.size)
  have sB13 : w3.heap.size ≤ X9.heap.size := b10.size
  have h14 := h7.below b10
  have h15 := h8.below b10
  have h16 := iv.below b10
  clear B6 h7 h8 iv
  have k12 : w3.heap.size < X9.heap.size := h11.lt
  clear b10
  clear h15
  obtain ⟨c17a, c17b⟩ := h14.r2
  go_wp2_with fail
  refine (hT X9 B13).mono ?_
  rintro e w4 ⟨a2, c2, rfl, i2, hb2⟩
  clear c17a c17b
  have B18 : Below w.heap.size w w4 := B13.trans (hb2.mono B13.size)
  have sB18 : X9.heap.size ≤ w4.heap.size := hb2.size
  have h19 := h14.below hb2
  have h20 := h16.below hb2
  have h21 := h11.below hb2
  clear B13 h14 h16 h11
  have b23 := oneA w4 (.cells #[.int .i64 F, .slice a2 T.length c2] 35)
  have h24 := Bx.new w4 35 #[.int .i64 F, .slice a2 T.length c2]
  generalize hX22 : w4.alloc (.cells #[.int .i64 F, .slice a2 T.length c2] 35) = X22 at *
  have B26 : Below w.heap.size w X22 := B18.trans (b23.mono B18.size)
  have sB26 : w4.heap.size ≤ X22.heap.size := b23.size
  have h27 := h19.below b23
  have h28 := h20.below b23
  have h29 := h21.below b23
  have h30 := i2.below b23
  clear B18 h19 h20 h21 i2
  have k25 : w4.heap.size < X22.heap.size := h24.lt
  clear b23
  obtain ⟨c31a, c31b⟩ := h24.r2
  go_wp2_with fail
  refine (hI2 X22 _ _ (it_txp h30)).mono ?_
  rintro e w5 ⟨ag, cg, rfl, ng⟩
  have ig := It.of_newO ng
  obtain ⟨_, _, _, hbg⟩ := ng
  have B32 : Below w.heap.size w w5 := B26.trans (hbg.mono B26.size)
  have sB32 : X22.heap.size ≤ w5.heap.size := hbg.size
  have h33 := h27.below hbg
  have h34 := h28.below hbg
  have h35 := h29.below hbg
  have h36 := h30.below hbg
  have h37 := h24.below hbg
  clear B26 h27 h28 h29 h30 h24
  have b39 := oneA w5 (.cells #[.int .i64 ZF, .slice ag Z.length cg] 35)
  have h40 := Bx.new w5 35 #[.int .i64 ZF, .slice ag Z.length cg]
  generalize hX38 : w5.alloc (.cells #[.int .i64 ZF, .slice ag Z.length cg] 35) = X38 at *
  have B42 : Below w.heap.size w X38 := B32.trans (b39.mono B32.size)
  have sB42 : w5.heap.size ≤ X38.heap.size := b39.size
  have h43 := h33.below b39
  have h44 := h34.below b39
  have h45 := h35.below b39
  have h46 := h36.below b39
  have h47 := h37.below b39
  have h48 := ig.below b39
  clear B32 h33 h34 h35 h36 h37 ig
  have k41 : w5.heap.size < X38.heap.size := h40.lt
  clear b39
  clear c31a c31b
  obtain ⟨c49a, c49b⟩ := h40.r2
  obtain ⟨c50a, c50b⟩ := h45.r2
  go_wp2_with fail
  refine (hEz X38 _ _ _ _ h48 h44).mono ?_
  rintro e w6 ⟨rfl, hbw6⟩
  clear c49a c49b c50a c50b
  have B51 : Below w.heap.size w w6 := B42.trans (hbw6.mono B42.size)
  have sB51 : X38.heap.size ≤ w6.heap.size := hbw6.size
  have h52 := h43.below hbw6
  have h53 := h44.below hbw6
  have h54 := h45.below hbw6
  have h55 := h46.below hbw6
  have h56 := h47.below hbw6
  have h57 := h48.below hbw6
  have h58 := h40.below hbw6
  clear B42 h43 h44 h45 h46 h47 h48 h40
  have KS : ∀ X, Below w6.heap.size w6 X → (X.cell? ⟨w.heap.size, 0, none⟩ = some (.int .i64 F) ∧ X.cell? ⟨w.heap.size, 1, none⟩ = some (.slice a T.length cap)) ∧ X.cell? ⟨w4.heap.size, 0, none⟩ = some (.int .i64 F) ∧ X.cell? ⟨w4.heap.size, 1, none⟩ = some (.slice a2 T.length c2) := fun X hX => ⟨(h52.below hX).r2, (h56.below hX).r2⟩
  have bd : Below w6.heap.size w6 (w6.drewN 1) := belowN (Below.refl _ _)
  have hTo2 := fun X (h : Below w6.heap.size w6 X) => hT X (B51.trans (h.mono B51.size))
  have hEq2 := fun X (a7 : Option Addr) (c7 : Nat) (h : Below w6.heap.size w6 X) (h7 : ∃ lo hi, It X [scl T] [.slice a7 T.length c7] lo hi) => hE X a2 c2 a7 c7 (it_scl (h55.below h)).1 (by obtain ⟨_, _, h7⟩ := h7; exact (it_scl h7).1)
  go_wp2_with fail
  go_region_held3 (fun X => (X.cell? ⟨w.heap.size, 0, none⟩ = some (.int .i64 F) ∧ X.cell? ⟨w.heap.size, 1, none⟩ = some (.slice a T.length cap)) ∧ X.cell? ⟨w4.heap.size, 0, none⟩ = some (.int .i64 F) ∧ X.cell? ⟨w4.heap.size, 1, none⟩ = some (.slice a2 T.length c2))
    (first | exact KS _ b8 | exact KS _ b7b | exact KS _ bd)
    (first
      | (go_at_call 40; refine (hTo2 _ bd).mono ?_; rintro e u7 ⟨a7, c7, rfl, i7, hb7⟩; have b7b : Below w6.heap.size w6 u7 := bd.trans (hb7.mono bd.size))
      | (go_at_call 41; refine (hEq2 u7 a7 c7 b7b ⟨_, _, i7⟩).mono ?_; rintro e u8 ⟨rfl, hb8⟩; have b8 : Below w6.heap.size w6 u8 := b7b.trans (hb8.mono b7b.size)))
  have HBB : Hid (Below w.heap.size w u8) := B51.trans (b8.mono B51.size)
  clear KS bd hTo2 hEq2 i7 hb7 b7b hb8 HBB
  have B59 : Below w.heap.size w u8 := B51.trans (b8.mono B51.size)
  have sB59 : w6.heap.size ≤ u8.heap.size := b8.size
  have h60 := h52.below b8
  have h61 := h53.below b8
  have h62 := h54.below b8
  have h63 := h55.below b8
  have h64 := h56.below b8
  have h65 := h57.below b8
  have h66 := h58.below b8
  clear B51 h52 h53 h54 h55 h56 h57 h58
  obtain ⟨c67a, c67b⟩ := h64.r2
  go_wp2_with fail
  refine (hMxx u8 _ _ _ _ h63).mono ?_
  rintro e w12 ⟨rfl, i12, hw12⟩
  clear c67a c67b
  have sB68 : u8.heap.size ≤ w12.heap.size := hw12.size
  have B68 : Below w.heap.size w w12 := below_iv hw12 B59 B59.size (by omega)
  have h69 := h60.iv hw12 (by omega)
  have h70 := h61.far hw12 (by omega)
  have h71 := h62.iv hw12 (by omega)
  have h72 := h64.iv hw12 (by omega)
  have h73 := h65.far hw12 (by omega)
  have h74 := h66.iv hw12 (by omega)
  clear B59 h60 h61 h62 h63 h64 h65 h66
  obtain ⟨c75a, c75b⟩ := h74.r2
  obtain ⟨c76a, c76b⟩ := h71.r2
  go_wp2_with fail
  refine (hEz w12 _ _ _ _ h73 h70).mono ?_
  rintro e w13 ⟨rfl, hbw13⟩
  clear c75a c75b c76a c76b
  have B77 : Below w.heap.size w w13 := B68.trans (hbw13.mono B68.size)
  have sB77 : w12.heap.size ≤ w13.heap.size := hbw13.size
  have h78 := h69.below hbw13
  have h79 := h70.below hbw13
  have h80 := h71.below hbw13
  have h81 := i12.below hbw13
  have h82 := h72.below hbw13
  have h83 := h73.below hbw13
  have h84 := h74.below hbw13
  clear B68 h69 h70 h71 i12 h72 h73 h74
  obtain ⟨c85a, c85b⟩ := h84.r2
  go_wp2_with fail
  refine (hMz w13 _ _ _ _ h83).mono ?_
  rintro e w14 ⟨rfl, iw14, hww14⟩
  clear c85a c85b
  have sB86 : w13.heap.size ≤ w14.heap.size := hww14.size
  have B86 : Below w.heap.size w w14 := below_iv hww14 B77 B77.size (by omega)
  have h87 := h78.iv hww14 (by omega)
  have h88 := h79.far hww14 (by omega)
  have h89 := h80.iv hww14 (by omega)
  have h90 := h81.far hww14 (by omega)
  have h91 := h82.iv hww14 (by omega)
  have h92 := h84.iv hww14 (by omega)
  clear B77 h78 h79 h80 h81 h82 h83 h84
  obtain ⟨c93a, c93b⟩ := h92.r2
  go_wp2_with fail
  refine (hHz w14 _ _ _ _ iw14).mono ?_
  rintro e w15 ⟨rfl, hbw15⟩
  clear c93a c93b
  have B94 : Below w.heap.size w w15 := B86.trans (hbw15.mono B86.size)
  have sB94 : w14.heap.size ≤ w15.heap.size := hbw15.size
  have h95 := h87.below hbw15
  have h96 := h88.below hbw15
  have h97 := h89.below hbw15
  have h98 := h90.below hbw15
  have h99 := h91.below hbw15
  have h100 := iw14.below hbw15
  have h101 := h92.below hbw15
  clear B86 h87 h88 h89 h90 h91 iw14 h92
  obtain ⟨c102a, c102b⟩ := h95.r2
  go_wp2_with fail
  refine (hT w15 B94).mono ?_
  rintro e w16 ⟨a9, c9, rfl, i9, hb9⟩
  clear c102a c102b
  have B103 : Below w.heap.size w w16 := B94.trans (hb9.mono B94.size)
  have sB103 : w15.heap.size ≤ w16.heap.size := hb9.size
  have h104 := h95.below hb9
  have h105 := h96.below hb9
  have h106 := h97.below hb9
  have h107 := h98.below hb9
  have h108 := h99.below hb9
  have h109 := h100.below hb9
  have h110 := h101.below hb9
  clear B94 h95 h96 h97 h98 h99 h100 h101
  go_wp2_with fail
  refine (hI2 w16 _ _ (it_txp i9)).mono ?_
  rintro e w17 ⟨ah, ch, rfl, nh⟩
  have ih := It.of_newO nh
  obtain ⟨_, _, _, hbh⟩ := nh
  have B111 : Below w.heap.size w w17 := B103.trans (hbh.mono B103.size)
  have sB111 : w16.heap.size ≤ w17.heap.size := hbh.size
  have h112 := h104.below hbh
  have h113 := h105.below hbh
  have h114 := h106.below hbh
  have h115 := h107.below hbh
  have h116 := h108.below hbh
  have h117 := h109.below hbh
  have h118 := h110.below hbh
  have h119 := i9.below hbh
  clear B103 h104 h105 h106 h107 h108 h109 h110 i9
  have b121 := oneA w17 (.cells #[.int .i64 ZF, .slice ah Z.length ch] 35)
  have h122 := Bx.new w17 35 #[.int .i64 ZF, .slice ah Z.length ch]
  generalize hX120 : w17.alloc (.cells #[.int .i64 ZF, .slice ah Z.length ch] 35) = X120 at *
  have B124 : Below w.heap.size w X120 := B111.trans (b121.mono B111.size)
  have sB124 : w17.heap.size ≤ X120.heap.size := b121.size
  have h125 := h112.below b121
  have h126 := h113.below b121
  have h127 := h114.below b121
  have h128 := h115.below b121
  have h129 := h116.below b121
  have h130 := h117.below b121
  have h131 := h118.below b121
  have h132 := h119.below b121
  have h133 := ih.below b121
  clear B111 h112 h113 h114 h115 h116 h117 h118 h119 ih
  have k123 : w17.heap.size < X120.heap.size := h122.lt
  clear b121
  obtain ⟨c134a, c134b⟩ := h122.r2
  obtain ⟨c135a, c135b⟩ := h127.r2
  go_wp2_with fail
  refine (hEz X120 _ _ _ _ h133 h126).mono ?_
  rintro e w18 ⟨rfl, hbw18⟩
  clear c134a c134b c135a c135b
  have B136 : Below w.heap.size w w18 := B124.trans (hbw18.mono B124.size)
  have sB136 : X120.heap.size ≤ w18.heap.size := hbw18.size
  have h137 := h125.below hbw18
  have h138 := h126.below hbw18
  have h139 := h127.below hbw18
  have h140 := h128.below hbw18
  have h141 := h129.below hbw18
  have h142 := h130.below hbw18
  have h143 := h131.below hbw18
  have h144 := h132.below hbw18
  have h145 := h133.below hbw18
  have h146 := h122.below hbw18
  clear B124 h125 h126 h127 h128 h129 h130 h131 h132 h133 h122
  obtain ⟨c147a, c147b⟩ := h143.r2
  go_wp2_with fail
  refine (hHz w18 _ _ _ _ h142).mono ?_
  rintro e w19 ⟨rfl, hbw19⟩
  clear c147a c147b
  have B148 : Below w.heap.size w w19 := B136.trans (hbw19.mono B136.size)
  have sB148 : w18.heap.size ≤ w19.heap.size := hbw19.size
  have h149 := h137.below hbw19
  have h150 := h138.below hbw19
  have h151 := h139.below hbw19
  have h152 := h140.below hbw19
  have h153 := h141.below hbw19
  have h154 := h142.below hbw19
  have h155 := h143.below hbw19
  have h156 := h144.below hbw19
  have h157 := h145.below hbw19
  have h158 := h146.below hbw19
  clear B136 h137 h138 h139 h140 h141 h142 h143 h144 h145 h146
  go_wp2
  go_ret
  exact ⟨rfl, B148⟩
end Go.Proofs.Ytbnpliobigjapaa

/-
  The walk of the exact law of Added FROM what the program answers.
-/
namespace Go.Proofs.Ytbnpliobigjapaa
set_option linter.unusedVariables false
set_option linter.unusedSimpArgs false
open Go.RowKit Go.Sort
attribute [local irreducible] sv

theorem addLg_len (l : Lg) (v : Int) (s : List UInt8) : (addLg l v s).1.2.length ≤ 40 := by
  unfold addLg
  split
  · rename_i h
    have := h.2.1
    split
    · rename_i h2
      have := h2.2.1
      simp only [List.length_append, List.length_cons, List.length_nil]
      omega
    · exact this
  · simp [zeroLg]
set_option maxRecDepth 100000 in
set_option maxHeartbeats 3200000 in
theorem lawAdded (hI : ImplAdded) (F : Int) (a : Option Addr) (cap : Nat) (T : List (List UInt8)) (v : Int) (s : List UInt8) (w : World) (hF : I64l F) (hv : TxS w a T) (hlg : LongT T) (hm : T.length ≤ maxLen) (hvr : I64l v) (hs0 : s.length ≤ 9223372036854775807) :
    Calls Try.prog 6 #[lgV F a T.length cap, .int .i64 v, .string (sv s)] w fun e w' => e = .returned (.bool true) ∧ Below w.heap.size w w' := by
  have hP := Bx.new w 43 #[.int .i64 F, .slice a T.length cap]
  have hB0 := oneA w (.cells #[.int .i64 F, .slice a T.length cap] 43)
  generalize hW0 : w.alloc (.cells #[.int .i64 F, .slice a T.length cap] 43) = W0 at *
  have k00 : w.heap.size < W0.heap.size := hP.lt
  have hZ := szLg_any F a cap T 1048576 W0 (hv.below hB0) hlg hm ⟨by omega, by omega⟩
  have hTo : T.length ≤ 1048576 → ∀ X, Below w.heap.size w X → Calls Try.prog 40 #[lgV F a T.length cap] X fun e w' => ∃ a' c', e = .returned (lgV F a' T.length c') ∧ It w' [scl T] [.slice a' T.length c'] X.heap.size w'.heap.size ∧ Below X.heap.size X w' := fun h X hX => (toLg_any F a cap T X (hv.below hX) h).mono (fun e w' h => by obtain ⟨a', c', h1, h2⟩ := h; exact ⟨a', c', h1, It.of_newO h2, by obtain ⟨_, _, _, h3⟩ := h2; exact h3⟩)
  have hSh : totS T T.length ≤ 1048576 → ShortT T := fun h i hi => Nat.le_trans (totS_at T hi) h
  have hEq : T.length ≤ 1048576 → ∀ X a1 c1 a2 c2, TxS X a1 T → TxS X a2 T → Calls Try.prog 41 #[lgV F a1 T.length c1, lgV F a2 T.length c2] X fun e w' => e = .returned (.bool true) ∧ Below X.heap.size X w' := fun h X a1 c1 a2 c2 h1 h2 => (eqLg_any F a1 a2 c1 c2 T X h1 h2 hm).mono (fun e w' h => ⟨h.1, h.2.1⟩)
  have hsz := sv_size s
  by_cases hs : s.length ≤ 1048576
  rotate_left
  · have hs2 : (1048576 : Int) < (s.length : Int) := by omega
    clear hI hZ hTo hEq
    unfold lgV at *
    go_enter Try.func6, Try.ntmps6
    go_wp2
    go_ret
    exact ⟨rfl, hB0⟩
  have hSp : T.length ≤ 1048576 → ∀ X a' c', TxP X a' c' T → Calls Try.prog 42 #[lgV F a' T.length c', .int .i64 v, .string (sv s)] X fun e w' => AnsLb X w' e (addLg (F, T) v s) := fun h1 X a' c' h => lgaS_any F a' c' T v s X h h1 (by omega)
  have hIm : T.length ≤ 1048576 → ShortT T → ∀ X a' c', TxP X a' c' T → Calls Try.prog 43 #[lgV F a' T.length c', .int .i64 v, .string (sv s)] X fun e w' => AnsLb X w' e (addLg (F, T) v s) := fun h1 h2 X a' c' h => hI F a' c' T v s X hF hvr h h1 h2 hs
  have hlZ := addLg_len (F, T) v s
  generalize addLg (F, T) v s = RR at *
  obtain ⟨⟨ZF, Z⟩, ok⟩ := RR
  have hok : (ok != ok) = false := by cases ok <;> rfl
  simp only [] at hlZ
  unfold AnsLb at hSp hIm
  simp only [] at hSp hIm
  have hEz : ∀ X a1 c1 a2 c2 {l1 h1 l2 h2 : Nat}, It X [scl Z] [.slice a1 Z.length c1] l1 h1 → It X [scl Z] [.slice a2 Z.length c2] l2 h2 → Calls Try.prog 41 #[lgV ZF a1 Z.length c1, lgV ZF a2 Z.length c2] X fun e w' => e = .returned (.bool true) ∧ Below X.heap.size X w' := fun X a1 c1 a2 c2 l1 h1 l2 h2 i1 i2 => (eqLg_any ZF a1 a2 c1 c2 Z X (it_scl i1).1 (it_scl i2).1 (by unfold maxLen; omega)).mono (fun e w' h => ⟨h.1, h.2.1⟩)
  obtain ⟨M, hM⟩ : ∃ M : Int, Hid (M = ((1 : Nat) : Int) + (Z.length : Int)) := ⟨_, rfl⟩
  have hM0 : decide (M < 0) = false := by rw [hM.out]; simp; omega
  have hMM : (M != M) = false := by simp
  have hMz : ∀ X a1 c1 lo hi, It X [scl Z] [.slice a1 Z.length c1] lo hi → Calls Try.prog 44 #[lgV ZF a1 Z.length c1, .int .i64 1] X fun e w' => e = .returned (.int .i64 M) ∧ It w' [scl (marksS Z.length 1)] [.slice a1 Z.length c1] lo hi ∧ Wrt (Iv lo hi) X w' := fun X a1 c1 lo hi i => by rw [hM.out]; exact markLg_it ZF a1 c1 1 lo hi Z X i (by omega) (by omega) (by omega)
  have hHz : ∀ X a1 c1 lo hi, It X [scl (marksS Z.length 1)] [.slice a1 Z.length c1] lo hi → Calls Try.prog 45 #[lgV ZF a1 Z.length c1, .int .i64 1] X fun e w' => e = .returned (.int .i64 M) ∧ Below X.heap.size X w' := fun X a1 c1 lo hi i => by rw [hM.out]; exact heldLg_it ZF a1 c1 1 Z.length lo hi X i (by omega) (by omega) (by omega)
  obtain ⟨K1, hK1⟩ : ∃ K1 : Int, Hid (K1 = ((1 : Nat) : Int) + (T.length : Int)) := ⟨_, rfl⟩
  have hK0 : decide (K1 < 0) = false := by rw [hK1.out]; simp; omega
  have hMx : T.length ≤ 1048576 → ∀ X a1 c1 lo hi, It X [scl T] [.slice a1 T.length c1] lo hi → Calls Try.prog 44 #[lgV F a1 T.length c1, .int .i64 1] X fun e w' => e = .returned (.int .i64 K1) ∧ It w' [scl (marksS T.length 1)] [.slice a1 T.length c1] lo hi ∧ Wrt (Iv lo hi) X w' := fun h1 X a1 c1 lo hi i => by rw [hK1.out]; exact markLg_it F a1 c1 1 lo hi T X i (by omega) (by omega) (by omega)
  have hs2 : ¬ ((1048576 : Int) < (s.length : Int)) := by omega
  clear hI hv
  unfold lgV at *
  obtain ⟨p0, p1⟩ := hP.r2
  go_enter Try.func6, Try.ntmps6
  go_wp2_with fail
  refine (hZ).mono ?_
  rintro e w1 ⟨q, rfl, hq, hb1⟩
  clear p0 p1 hZ
  have B1 : Below w.heap.size w w1 := hB0.trans (hb1.mono hB0.size)
  have sB1 : W0.heap.size ≤ w1.heap.size := hb1.size
  have h2 := hP.below hb1
  clear hB0 hP
  rcases hq with rfl | ⟨hq0, hq1⟩
  · go_wp2
    go_ret
    exact ⟨rfl, B1⟩
  have hqn : decide (q < 0) = false := by simp; omega
  have hT := hTo (by omega)
  have hE := hEq (by omega)
  have hS2 := hSp (by omega)
  have hI2 := hIm (by omega) (hSh (by omega))
  have hMxx := hMx (by omega)
  clear hIm hSp hMx
  clear hTo hEq hSh
  obtain ⟨c3a, c3b⟩ := h2.r2
  go_wp2_with fail
  refine (hT w1 B1).mono ?_
  rintro e w2 ⟨a1, c1, rfl, i1, hb1⟩
  clear c3a c3b
  have B4 : Below w.heap.size w w2 := B1.trans (hb1.mono B1.size)
  have sB4 : w1.heap.size ≤ w2.heap.size := hb1.size
  have h5 := h2.below hb1
  clear B1 h2
  go_wp2_with fail
  refine (hS2 w2 _ _ (it_txp i1)).mono ?_
  rintro e w3 ⟨av, cv, rfl, nv⟩
  have iv := It.of_newO nv
  obtain ⟨_, _, _, hbv⟩ := nv
  have B6 : Below w.heap.size w w3 := B4.trans (hbv.mono B4.size)
  have sB6 : w2.heap.size ≤ w3.heap.size := hbv.size
  have h7 := h5.below hbv
  have h8 := i1.below hbv
  clear B4 h5 i1
  have b10 := oneA w3 (.cells #[.int .i64 ZF, .slice av Z.length cv] 35)
  have h11 := Bx.new w3 35 #[.int .i64 ZF, .slice av Z.length cv]
  generalize hX9 : w3.alloc (.cells #[.int .i64 ZF, .slice av Z.length cv] 35) = X9 at *
  have B13 : Below w.heap.size w X9 := B6.trans (b10.mono B6.size)
  have sB13 : w3.heap.size ≤ X9.heap.size := b10.size
  have h14 := h7.below b10
  have h15 := h8.below b10
  have h16 := iv.below b10
  clear B6 h7 h8 iv
  have k12 : w3.heap.size < X9.heap.size := h11.lt
  clear b10
  clear h15
  obtain ⟨c17a, c17b⟩ := h14.r2
  go_wp2_with fail
  refine (hT X9 B13).mono ?_
  rintro e w4 ⟨a2, c2, rfl, i2, hb2⟩
  clear c17a c17b
  have B18 : Below w.heap.size w w4 := B13.trans (hb2.mono B13.size)
  have sB18 : X9.heap.size ≤ w4.heap.size := hb2.size
  have h19 := h14.below hb2
  have h20 := h16.below hb2
  have h21 := h11.below hb2
  clear B13 h14 h16 h11
  have b23 := oneA w4 (.cells #[.int .i64 F, .slice a2 T.length c2] 35)
  have h24 := Bx.new w4 35 #[.int .i64 F, .slice a2 T.length c2]
  generalize hX22 : w4.alloc (.cells #[.int .i64 F, .slice a2 T.length c2] 35) = X22 at *
  have B26 : Below w.heap.size w X22 := B18.trans (b23.mono B18.size)
  have sB26 : w4.heap.size ≤ X22.heap.size := b23.size
  have h27 := h19.below b23
  have h28 := h20.below b23
  have h29 := h21.below b23
  have h30 := i2.below b23
  clear B18 h19 h20 h21 i2
  have k25 : w4.heap.size < X22.heap.size := h24.lt
  clear b23
  obtain ⟨c31a, c31b⟩ := h24.r2
  go_wp2_with fail
  refine (hI2 X22 _ _ (it_txp h30)).mono ?_
  rintro e w5 ⟨ag, cg, rfl, ng⟩
  have ig := It.of_newO ng
  obtain ⟨_, _, _, hbg⟩ := ng
  have B32 : Below w.heap.size w w5 := B26.trans (hbg.mono B26.size)
  have sB32 : X22.heap.size ≤ w5.heap.size := hbg.size
  have h33 := h27.below hbg
  have h34 := h28.below hbg
  have h35 := h29.below hbg
  have h36 := h30.below hbg
  have h37 := h24.below hbg
  clear B26 h27 h28 h29 h30 h24
  have b39 := oneA w5 (.cells #[.int .i64 ZF, .slice ag Z.length cg] 35)
  have h40 := Bx.new w5 35 #[.int .i64 ZF, .slice ag Z.length cg]
  generalize hX38 : w5.alloc (.cells #[.int .i64 ZF, .slice ag Z.length cg] 35) = X38 at *
  have B42 : Below w.heap.size w X38 := B32.trans (b39.mono B32.size)
  have sB42 : w5.heap.size ≤ X38.heap.size := b39.size
  have h43 := h33.below b39
  have h44 := h34.below b39
  have h45 := h35.below b39
  have h46 := h36.below b39
  have h47 := h37.below b39
  have h48 := ig.below b39
  clear B32 h33 h34 h35 h36 h37 ig
  have k41 : w5.heap.size < X38.heap.size := h40.lt
  clear b39
  clear c31a c31b
  obtain ⟨c49a, c49b⟩ := h40.r2
  obtain ⟨c50a, c50b⟩ := h45.r2
  go_wp2_with fail
  refine (hEz X38 _ _ _ _ h48 h44).mono ?_
  rintro e w6 ⟨rfl, hbw6⟩
  clear c49a c49b c50a c50b
  have B51 : Below w.heap.size w w6 := B42.trans (hbw6.mono B42.size)
  have sB51 : X38.heap.size ≤ w6.heap.size := hbw6.size
  have h52 := h43.below hbw6
  have h53 := h44.below hbw6
  have h54 := h45.below hbw6
  have h55 := h46.below hbw6
  have h56 := h47.below hbw6
  have h57 := h48.below hbw6
  have h58 := h40.below hbw6
  clear B42 h43 h44 h45 h46 h47 h48 h40
  have KS : ∀ X, Below w6.heap.size w6 X → (X.cell? ⟨w.heap.size, 0, none⟩ = some (.int .i64 F) ∧ X.cell? ⟨w.heap.size, 1, none⟩ = some (.slice a T.length cap)) ∧ X.cell? ⟨w4.heap.size, 0, none⟩ = some (.int .i64 F) ∧ X.cell? ⟨w4.heap.size, 1, none⟩ = some (.slice a2 T.length c2) := fun X hX => ⟨(h52.below hX).r2, (h56.below hX).r2⟩
  have bd : Below w6.heap.size w6 (w6.drewN 1) := belowN (Below.refl _ _)
  have hTo2 := fun X (h : Below w6.heap.size w6 X) => hT X (B51.trans (h.mono B51.size))
  have hEq2 := fun X (a7 : Option Addr) (c7 : Nat) (h : Below w6.heap.size w6 X) (h7 : ∃ lo hi, It X [scl T] [.slice a7 T.length c7] lo hi) => hE X a2 c2 a7 c7 (it_scl (h55.below h)).1 (by obtain ⟨_, _, h7⟩ := h7; exact (it_scl h7).1)
  go_wp2_with fail
  go_region_held3 (fun X => (X.cell? ⟨w.heap.size, 0, none⟩ = some (.int .i64 F) ∧ X.cell? ⟨w.heap.size, 1, none⟩ = some (.slice a T.length cap)) ∧ X.cell? ⟨w4.heap.size, 0, none⟩ = some (.int .i64 F) ∧ X.cell? ⟨w4.heap.size, 1, none⟩ = some (.slice a2 T.length c2))
    (first | exact KS _ b8 | exact KS _ b7b | exact KS _ bd)
    (first
      | (go_at_call 40; refine (hTo2 _ bd).mono ?_; rintro e u7 ⟨a7, c7, rfl, i7, hb7⟩; have b7b : Below w6.heap.size w6 u7 := bd.trans (hb7.mono bd.size))
      | (go_at_call 41; refine (hEq2 u7 a7 c7 b7b ⟨_, _, i7⟩).mono ?_; rintro e u8 ⟨rfl, hb8⟩; have b8 : Below w6.heap.size w6 u8 := b7b.trans (hb8.mono b7b.size)))
  have HBB : Hid (Below w.heap.size w u8) := B51.trans (b8.mono B51.size)
  clear KS bd hTo2 hEq2 i7 hb7 b7b hb8 HBB
  have B59 : Below w.heap.size w u8 := B51.trans (b8.mono B51.size)
  have sB59 : w6.heap.size ≤ u8.heap.size := b8.size
  have h60 := h52.below b8
  have h61 := h53.below b8
  have h62 := h54.below b8
  have h63 := h55.below b8
  have h64 := h56.below b8
  have h65 := h57.below b8
  have h66 := h58.below b8
  clear B51 h52 h53 h54 h55 h56 h57 h58
  obtain ⟨c67a, c67b⟩ := h64.r2
  go_wp2_with fail
  refine (hMxx u8 _ _ _ _ h63).mono ?_
  rintro e w12 ⟨rfl, i12, hw12⟩
  clear c67a c67b
  have sB68 : u8.heap.size ≤ w12.heap.size := hw12.size
  have B68 : Below w.heap.size w w12 := below_iv hw12 B59 B59.size (by omega)
  have h69 := h60.iv hw12 (by omega)
  have h70 := h61.far hw12 (by omega)
  have h71 := h62.iv hw12 (by omega)
  have h72 := h64.iv hw12 (by omega)
  have h73 := h65.far hw12 (by omega)
  have h74 := h66.iv hw12 (by omega)
  clear B59 h60 h61 h62 h63 h64 h65 h66
  obtain ⟨c75a, c75b⟩ := h74.r2
  obtain ⟨c76a, c76b⟩ := h71.r2
  go_wp2_with fail
  refine (hEz w12 _ _ _ _ h73 h70).mono ?_
  rintro e w13 ⟨rfl, hbw13⟩
  clear c75a c75b c76a c76b
  have B77 : Below w.heap.size w w13 := B68.trans (hbw13.mono B68.size)
  have sB77 : w12.heap.size ≤ w13.heap.size := hbw13.size
  have h78 := h69.below hbw13
  have h79 := h70.below hbw13
  have h80 := h71.below hbw13
  have h81 := i12.below hbw13
  have h82 := h72.below hbw13
  have h83 := h73.below hbw13
  have h84 := h74.below hbw13
  clear B68 h69 h70 h71 i12 h72 h73 h74
  obtain ⟨c85a, c85b⟩ := h84.r2
  go_wp2_with fail
  refine (hMz w13 _ _ _ _ h83).mono ?_
  rintro e w14 ⟨rfl, iw14, hww14⟩
  clear c85a c85b
  have sB86 : w13.heap.size ≤ w14.heap.size := hww14.size
  have B86 : Below w.heap.size w w14 := below_iv hww14 B77 B77.size (by omega)
  have h87 := h78.iv hww14 (by omega)
  have h88 := h79.far hww14 (by omega)
  have h89 := h80.iv hww14 (by omega)
  have h90 := h81.far hww14 (by omega)
  have h91 := h82.iv hww14 (by omega)
  have h92 := h84.iv hww14 (by omega)
  clear B77 h78 h79 h80 h81 h82 h83 h84
  obtain ⟨c93a, c93b⟩ := h92.r2
  go_wp2_with fail
  refine (hHz w14 _ _ _ _ iw14).mono ?_
  rintro e w15 ⟨rfl, hbw15⟩
  clear c93a c93b
  have B94 : Below w.heap.size w w15 := B86.trans (hbw15.mono B86.size)
  have sB94 : w14.heap.size ≤ w15.heap.size := hbw15.size
  have h95 := h87.below hbw15
  have h96 := h88.below hbw15
  have h97 := h89.below hbw15
  have h98 := h90.below hbw15
  have h99 := h91.below hbw15
  have h100 := iw14.below hbw15
  have h101 := h92.below hbw15
  clear B86 h87 h88 h89 h90 h91 iw14 h92
  obtain ⟨c102a, c102b⟩ := h95.r2
  go_wp2_with fail
  refine (hT w15 B94).mono ?_
  rintro e w16 ⟨a9, c9, rfl, i9, hb9⟩
  clear c102a c102b
  have B103 : Below w.heap.size w w16 := B94.trans (hb9.mono B94.size)
  have sB103 : w15.heap.size ≤ w16.heap.size := hb9.size
  have h104 := h95.below hb9
  have h105 := h96.below hb9
  have h106 := h97.below hb9
  have h107 := h98.below hb9
  have h108 := h99.below hb9
  have h109 := h100.below hb9
  have h110 := h101.below hb9
  clear B94 h95 h96 h97 h98 h99 h100 h101
  go_wp2_with fail
  refine (hI2 w16 _ _ (it_txp i9)).mono ?_
  rintro e w17 ⟨ah, ch, rfl, nh⟩
  have ih := It.of_newO nh
  obtain ⟨_, _, _, hbh⟩ := nh
  have B111 : Below w.heap.size w w17 := B103.trans (hbh.mono B103.size)
  have sB111 : w16.heap.size ≤ w17.heap.size := hbh.size
  have h112 := h104.below hbh
  have h113 := h105.below hbh
  have h114 := h106.below hbh
  have h115 := h107.below hbh
  have h116 := h108.below hbh
  have h117 := h109.below hbh
  have h118 := h110.below hbh
  have h119 := i9.below hbh
  clear B103 h104 h105 h106 h107 h108 h109 h110 i9
  have b121 := oneA w17 (.cells #[.int .i64 ZF, .slice ah Z.length ch] 35)
  have h122 := Bx.new w17 35 #[.int .i64 ZF, .slice ah Z.length ch]
  generalize hX120 : w17.alloc (.cells #[.int .i64 ZF, .slice ah Z.length ch] 35) = X120 at *
  have B124 : Below w.heap.size w X120 := B111.trans (b121.mono B111.size)
  have sB124 : w17.heap.size ≤ X120.heap.size := b121.size
  have h125 := h112.below b121
  have h126 := h113.below b121
  have h127 := h114.below b121
  have h128 := h115.below b121
  have h129 := h116.below b121
  have h130 := h117.below b121
  have h131 := h118.below b121
  have h132 := h119.below b121
  have h133 := ih.below b121
  clear B111 h112 h113 h114 h115 h116 h117 h118 h119 ih
  have k123 : w17.heap.size < X120.heap.size := h122.lt
  clear b121
  obtain ⟨c134a, c134b⟩ := h122.r2
  obtain ⟨c135a, c135b⟩ := h127.r2
  go_wp2_with fail
  refine (hEz X120 _ _ _ _ h133 h126).mono ?_
  rintro e w18 ⟨rfl, hbw18⟩
  clear c134a c134b c135a c135b
  have B136 : Below w.heap.size w w18 := B124.trans (hbw18.mono B124.size)
  have sB136 : X120.heap.size ≤ w18.heap.size := hbw18.size
  have h137 := h125.below hbw18
  have h138 := h126.below hbw18
  have h139 := h127.below hbw18
  have h140 := h128.below hbw18
  have h141 := h129.below hbw18
  have h142 := h130.below hbw18
  have h143 := h131.below hbw18
  have h144 := h132.below hbw18
  have h145 := h133.below hbw18
  have h146 := h122.below hbw18
  clear B124 h125 h126 h127 h128 h129 h130 h131 h132 h133 h122
  obtain ⟨c147a, c147b⟩ := h143.r2
  go_wp2_with fail
  refine (hHz w18 _ _ _ _ h142).mono ?_
  rintro e w19 ⟨rfl, hbw19⟩
  clear c147a c147b
  have B148 : Below w.heap.size w w19 := B136.trans (hbw19.mono B136.size)
  have sB148 : w18.heap.size ≤ w19.heap.size := hbw19.size
  have h149 := h137.below hbw19
  have h150 := h138.below hbw19
  have h151 := h139.below hbw19
  have h152 := h140.below hbw19
  have h153 := h141.below hbw19
  have h154 := h142.below hbw19
  have h155 := h143.below hbw19
  have h156 := h144.below hbw19
  have h157 := h145.below hbw19
  have h158 := h146.below hbw19
  clear B136 h137 h138 h139 h140 h141 h142 h143 h144 h145 h146
  go_wp2
  go_ret
  exact ⟨rfl, B148⟩
end Go.Proofs.Ytbnpliobigjapaa
