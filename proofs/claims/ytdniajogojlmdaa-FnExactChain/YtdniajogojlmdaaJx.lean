/-
  Several texts in one: Lrc.
-/
import Derived.Test.YtdniajogojlmdaaJu
import Derived.Deep.RegionHeld3
/-
  The walk of the exact law of Chain FROM what the program answers.
-/
namespace Go.Proofs.Ytdniajogojlmdaa
set_option linter.unusedVariables false
set_option linter.unusedSimpArgs false
open Go.RowKit Go.Sort

set_option maxRecDepth 100000 in
set_option maxHeartbeats 3200000 in
theorem lawChain (hI : ImplChain) (N B : Int) (a : Option Addr) (cap : Nat) (H : List (List Int)) (w : World) (hN : I64r N) (hB : I64r B) (hv : VV w a H.length cap H) (hf : FitsH H) :
    Calls Try.prog 9 #[rlV N B a H.length cap] w fun e w' => e = .returned (.bool true) ∧ Below w.heap.size w w' := by
  have hP := Bx.new w 51 #[.int .i64 N, .int .i64 B, .slice a H.length cap]
  have hB0 := one_alloc10 w (.cells #[.int .i64 N, .int .i64 B, .slice a H.length cap] 51)
  generalize hW0 : w.alloc (.cells #[.int .i64 N, .int .i64 B, .slice a H.length cap] 51) = W0 at *
  have k00 : w.heap.size < W0.heap.size := hP.lt
  have hZ := szR_any N B a H.length cap H W0 (hv.below hB0)
  have hvX : ∀ X, Below w.heap.size w X → VV X a H.length cap H := fun X hX => hv.below hX
  have hTo : H.length ≤ 1048576 → tot H H.length ≤ 1048576 → ∀ X, Below w.heap.size w X → Calls Try.prog 47 #[rlV N B a H.length cap] X fun e w' => ∃ a', e = .returned (rlV N B a' H.length H.length) ∧ It w' [iicl H] [.slice a' H.length H.length] X.heap.size w'.heap.size ∧ Below X.heap.size X w' := fun h1 h2 X hX => toR_it N B a cap H X (hvX X hX) h1 h2
  have hSp : ∀ X a1 c1 {l1 h1 : Nat}, It X [iicl H] [.slice a1 H.length c1] l1 h1 → Calls Try.prog 38 #[rlV N B a1 H.length c1] X fun e w' => AnsPs X w' e (chainL N B H) := fun X a1 c1 l1 h1 i1 => (chnS_any N B a1 H.length c1 H X (it_vv i1 hf)).mono (fun e w' h => h.ps)
  have hIm : ∀ X a1 c1 {l1 h1 : Nat}, It X [iicl H] [.slice a1 H.length c1] l1 h1 → Calls Try.prog 37 #[rlV N B a1 H.length c1] X fun e w' => AnsPs X w' e (chainL N B H) := fun X a1 c1 l1 h1 i1 => hI N B a1 c1 H X hN hB (it_vv i1 hf)
  have hEq : ∀ X a1 c1 a2 c2, VV X a1 H.length c1 H → VV X a2 H.length c2 H → Calls Try.prog 48 #[rlV N B a1 H.length c1, rlV N B a2 H.length c2] X fun e w' => e = .returned (.bool true) ∧ Below X.heap.size X w' := fun X a1 c1 a2 c2 h1 h2 => eqR_any N B a1 a2 H.length c1 c2 H X h1 h2
  have hlZ := chainL_len N B H
  clear hI hv
  generalize chainL N B H = Z at *
  unfold AnsPs at hSp hIm
  have hEp : ∀ X a1 c1 a2 c2 {l1 h1 l2 h2 : Nat}, It X [pcl Z] [.slice a1 Z.length c1] l1 h1 → It X [pcl Z] [.slice a2 Z.length c2] l2 h2 → Calls Try.prog 53 #[.slice a1 Z.length c1, .slice a2 Z.length c2] X fun e w' => e = .returned (.bool true) ∧ Below X.heap.size X w' := fun X a1 c1 a2 c2 l1 h1 l2 h2 i1 i2 => (eqPsV_any a1 a2 Z.length c1 c2 Z X (it_ps i1) (it_ps i2) (by unfold maxLen; omega)).mono (fun e w' h => ⟨h.1, h.2.1⟩)
  obtain ⟨K1, hK1⟩ : ∃ K1 : Nat, Hid (K1 = 1 + tot H H.length) := ⟨_, rfl⟩
  have hK10 : decide ((K1 : Int) < 0) = false := by simp
  obtain ⟨M, hM⟩ : ∃ M : Int, Hid (M = ((1 + Z.length * 3 : Nat) : Int)) := ⟨_, rfl⟩
  have hM0 : decide (M < 0) = false := by rw [hM.out]; simp; omega
  have hMM : (M != M) = false := by simp
  have hMx : H.length ≤ 1048576 → tot H H.length ≤ 1048576 → ∀ X a1 c1 lo hi, It X [iicl H] [.slice a1 H.length c1] lo hi → Calls Try.prog 49 #[rlV N B a1 H.length c1, .int .i64 1] X fun e w' => e = .returned (.int .i64 (K1 : Int)) ∧ It w' [iicl (mkd H 1 H.length)] [.slice a1 H.length c1] lo hi ∧ Wrt (Iv lo hi) X w' := fun h1 h2 X a1 c1 lo hi i => by rw [hK1.out]; exact markR_it N B a1 c1 1 lo hi H X i (by omega) h1 (by omega)
  have hMp : ∀ X ap cp lo hi, It X [pcl Z] [.slice ap Z.length cp] lo hi → Calls Try.prog 54 #[.slice ap Z.length cp, .int .i64 1] X fun e w' => e = .returned (.int .i64 M) ∧ It w' [tcl Z.length (marks (Z.length * 3) 1)] [.slice ap Z.length cp] lo hi ∧ Wrt (Iv lo hi) X w' := fun X ap cp lo hi i => by rw [hM.out]; exact markPs_it ap Z.length cp 1 lo hi (fl3 Z) X (by rw [← pcl_tcl]; exact i) (by omega) (by omega)
  have hHp : ∀ X ap cp lo hi, It X [tcl Z.length (marks (Z.length * 3) 1)] [.slice ap Z.length cp] lo hi → Calls Try.prog 55 #[.slice ap Z.length cp, .int .i64 1] X fun e w' => e = .returned (.int .i64 M) ∧ Below X.heap.size X w' := fun X ap cp lo hi i => by rw [hM.out]; exact (heldPs_it ap Z.length cp lo hi X i (by omega)).mono (fun e w' h => ⟨h.1, h.2 ▸ Below.refl _ _⟩)
  clear hvX
  unfold rlV at *
  obtain ⟨p0, p1, p2⟩ := hP.r3
  go_enter Try.func9, Try.ntmps9
  go_wp2_with fail
  refine (hZ).mono ?_
  rintro e w1 ⟨q, rfl, hq, hb1⟩
  clear p0 p1 p2 hZ
  have B1 : Below w.heap.size w w1 := hB0.trans (hb1.mono hB0.size)
  have sB1 : W0.heap.size ≤ w1.heap.size := hb1.size
  have h2 := hP.below hb1
  clear hB0 hP
  rcases hq with rfl | ⟨hq0, hq1⟩
  · go_wp2
    go_ret
    exact ⟨rfl, B1⟩
  have hqn : decide (q < 0) = false := by simp; omega
  have hT := hTo (by omega) (by omega)
  have hMxx := hMx (by omega) (by omega)
  clear hTo hMx
  obtain ⟨c3a, c3b, c3c⟩ := h2.r3
  go_wp2_with fail
  refine (hT w1 B1).mono ?_
  rintro e w3 ⟨a1, rfl, i1, hb3⟩
  clear c3a c3b c3c
  have B4 : Below w.heap.size w w3 := B1.trans (hb3.mono B1.size)
  have sB4 : w1.heap.size ≤ w3.heap.size := hb3.size
  have h5 := h2.below hb3
  clear B1 h2
  go_wp2_with fail
  refine (hSp w3 _ _ i1).mono ?_
  rintro e w4 ⟨av, cv, rfl, nv⟩
  have iv := It.of_newO nv
  obtain ⟨_, _, _, hbv⟩ := nv
  have B6 : Below w.heap.size w w4 := B4.trans (hbv.mono B4.size)
  have sB6 : w3.heap.size ≤ w4.heap.size := hbv.size
  have h7 := h5.below hbv
  clear B4 h5
  clear i1
  obtain ⟨c8a, c8b, c8c⟩ := h7.r3
  go_wp2_with fail
  refine (hT w4 B6).mono ?_
  rintro e w6 ⟨a2, rfl, i2, hb6⟩
  clear c8a c8b c8c
  have B9 : Below w.heap.size w w6 := B6.trans (hb6.mono B6.size)
  have sB9 : w4.heap.size ≤ w6.heap.size := hb6.size
  have h10 := h7.below hb6
  have h11 := iv.below hb6
  clear B6 h7 iv
  have b13 := one_alloc10 w6 (.cells #[.int .i64 N, .int .i64 B, .slice a2 H.length H.length] 35)
  have h14 := Bx.new w6 35 #[.int .i64 N, .int .i64 B, .slice a2 H.length H.length]
  generalize hX12 : w6.alloc (.cells #[.int .i64 N, .int .i64 B, .slice a2 H.length H.length] 35) = X12 at *
  have B16 : Below w.heap.size w X12 := B9.trans (b13.mono B9.size)
  have sB16 : w6.heap.size ≤ X12.heap.size := b13.size
  have h17 := h10.below b13
  have h18 := h11.below b13
  have h19 := i2.below b13
  clear B9 h10 h11 i2
  have k15 : w6.heap.size < X12.heap.size := h14.lt
  clear b13
  obtain ⟨c20a, c20b, c20c⟩ := h14.r3
  go_wp2_with fail
  refine (hIm X12 _ _ h19).mono ?_
  rintro e w8 ⟨ag, cg, rfl, ng⟩
  have ig := It.of_newO ng
  obtain ⟨_, _, _, hbg⟩ := ng
  have B21 : Below w.heap.size w w8 := B16.trans (hbg.mono B16.size)
  have sB21 : X12.heap.size ≤ w8.heap.size := hbg.size
  have h22 := h17.below hbg
  have h23 := h18.below hbg
  have h24 := h19.below hbg
  have h25 := h14.below hbg
  clear B16 h17 h18 h19 h14
  clear c20a c20b c20c
  go_wp2_with fail
  refine (hEp w8 _ _ _ _ ig h23).mono ?_
  rintro e w9 ⟨rfl, hbw9⟩
  have B26 : Below w.heap.size w w9 := B21.trans (hbw9.mono B21.size)
  have sB26 : w8.heap.size ≤ w9.heap.size := hbw9.size
  have h27 := h22.below hbw9
  have h28 := h23.below hbw9
  have h29 := h24.below hbw9
  have h30 := h25.below hbw9
  have h31 := ig.below hbw9
  clear B21 h22 h23 h24 h25 ig
  have KS : ∀ X, Below w9.heap.size w9 X → (X.cell? ⟨w.heap.size, 0, none⟩ = some (.int .i64 N) ∧ X.cell? ⟨w.heap.size, 1, none⟩ = some (.int .i64 B) ∧ X.cell? ⟨w.heap.size, 2, none⟩ = some (.slice a H.length cap)) ∧ X.cell? ⟨w6.heap.size, 0, none⟩ = some (.int .i64 N) ∧ X.cell? ⟨w6.heap.size, 1, none⟩ = some (.int .i64 B) ∧ X.cell? ⟨w6.heap.size, 2, none⟩ = some (.slice a2 H.length H.length) := fun X hX => ⟨(h27.below hX).r3, (h30.below hX).r3⟩
  have bd : Below w9.heap.size w9 (w9.drewN 1) := belowN (Below.refl _ _)
  have hTo2 := fun X (h : Below w9.heap.size w9 X) => hT X (B26.trans (h.mono B26.size))
  have hEq2 := fun X (a7 : Option Addr) (h : Below w9.heap.size w9 X) (h7 : ∃ lo hi, It X [iicl H] [.slice a7 H.length H.length] lo hi) => hEq X a2 H.length a7 H.length (it_vv (h29.below h) hf) (by obtain ⟨_, _, h7⟩ := h7; exact it_vv h7 hf)
  have hmix := mixedR
  go_wp2_with fail
  go_region_held3 (fun X => (X.cell? ⟨w.heap.size, 0, none⟩ = some (.int .i64 N) ∧ X.cell? ⟨w.heap.size, 1, none⟩ = some (.int .i64 B) ∧ X.cell? ⟨w.heap.size, 2, none⟩ = some (.slice a H.length cap)) ∧ X.cell? ⟨w6.heap.size, 0, none⟩ = some (.int .i64 N) ∧ X.cell? ⟨w6.heap.size, 1, none⟩ = some (.int .i64 B) ∧ X.cell? ⟨w6.heap.size, 2, none⟩ = some (.slice a2 H.length H.length))
    (first | exact KS _ b8 | exact KS _ b7b | exact KS _ bd)
    (first
      | (go_at_call 47; refine (hTo2 _ bd).mono ?_; rintro e u7 ⟨a7, rfl, i7, hb7⟩; have b7b : Below w9.heap.size w9 u7 := bd.trans (hb7.mono bd.size))
      | (go_at_call 48; refine (hEq2 u7 a7 b7b ⟨_, _, i7⟩).mono ?_; rintro e u8 ⟨rfl, hb8⟩; have b8 : Below w9.heap.size w9 u8 := b7b.trans (hb8.mono b7b.size)))
  have HBB : Hid (Below w.heap.size w u8) := B26.trans (b8.mono B26.size)
  clear KS bd hTo2 hEq2 i7 hb7 b7b hb8 HBB
  have B32 : Below w.heap.size w u8 := B26.trans (b8.mono B26.size)
  have sB32 : w9.heap.size ≤ u8.heap.size := b8.size
  have h33 := h27.below b8
  have h34 := h28.below b8
  have h35 := h29.below b8
  have h36 := h30.below b8
  have h37 := h31.below b8
  clear B26 h27 h28 h29 h30 h31
  obtain ⟨c38a, c38b, c38c⟩ := h36.r3
  go_wp2_with fail
  refine (hMxx u8 _ _ _ _ h35).mono ?_
  rintro e w12 ⟨rfl, i12, hw12⟩
  clear c38a c38b c38c
  have sB39 : u8.heap.size ≤ w12.heap.size := hw12.size
  have B39 : Below w.heap.size w w12 := below_iv hw12 B32 B32.size (by omega)
  have h40 := h33.iv hw12 (by omega)
  have h41 := h34.far hw12 (by omega)
  have h42 := h36.iv hw12 (by omega)
  have h43 := h37.far hw12 (by omega)
  clear B32 h33 h34 h35 h36 h37
  go_wp2_with fail
  refine (hEp w12 _ _ _ _ h43 h41).mono ?_
  rintro e w13 ⟨rfl, hbw13⟩
  have B44 : Below w.heap.size w w13 := B39.trans (hbw13.mono B39.size)
  have sB44 : w12.heap.size ≤ w13.heap.size := hbw13.size
  have h45 := h40.below hbw13
  have h46 := h41.below hbw13
  have h47 := i12.below hbw13
  have h48 := h42.below hbw13
  have h49 := h43.below hbw13
  clear B39 h40 h41 i12 h42 h43
  go_wp2_with fail
  refine (hMp w13 _ _ _ _ h49).mono ?_
  rintro e w14 ⟨rfl, i14, hw14⟩
  have sB50 : w13.heap.size ≤ w14.heap.size := hw14.size
  have B50 : Below w.heap.size w w14 := below_iv hw14 B44 B44.size (by omega)
  have h51 := h45.iv hw14 (by omega)
  have h52 := h46.far hw14 (by omega)
  have h53 := h47.far hw14 (by omega)
  have h54 := h48.iv hw14 (by omega)
  clear B44 h45 h46 h47 h48 h49
  go_wp2_with fail
  refine (hHp w14 _ _ _ _ i14).mono ?_
  rintro e w15 ⟨rfl, hbw15⟩
  have B55 : Below w.heap.size w w15 := B50.trans (hbw15.mono B50.size)
  have sB55 : w14.heap.size ≤ w15.heap.size := hbw15.size
  have h56 := h51.below hbw15
  have h57 := h52.below hbw15
  have h58 := h53.below hbw15
  have h59 := h54.below hbw15
  have h60 := i14.below hbw15
  clear B50 h51 h52 h53 h54 i14
  obtain ⟨c61a, c61b, c61c⟩ := h56.r3
  go_wp2_with fail
  refine (hT w15 B55).mono ?_
  rintro e w17 ⟨a9, rfl, i9, hb17⟩
  clear c61a c61b c61c
  have B62 : Below w.heap.size w w17 := B55.trans (hb17.mono B55.size)
  have sB62 : w15.heap.size ≤ w17.heap.size := hb17.size
  have h63 := h56.below hb17
  have h64 := h57.below hb17
  have h65 := h58.below hb17
  have h66 := h59.below hb17
  have h67 := h60.below hb17
  clear B55 h56 h57 h58 h59 h60
  go_wp2_with fail
  refine (hIm w17 _ _ i9).mono ?_
  rintro e w19 ⟨ah, ch, rfl, nh⟩
  have ih := It.of_newO nh
  obtain ⟨_, _, _, hbh⟩ := nh
  have B68 : Below w.heap.size w w19 := B62.trans (hbh.mono B62.size)
  have sB68 : w17.heap.size ≤ w19.heap.size := hbh.size
  have h69 := h63.below hbh
  have h70 := h64.below hbh
  have h71 := h65.below hbh
  have h72 := h66.below hbh
  have h73 := h67.below hbh
  clear B62 h63 h64 h65 h66 h67
  go_wp2_with fail
  refine (hEp w19 _ _ _ _ ih h70).mono ?_
  rintro e w20 ⟨rfl, hbw20⟩
  have B74 : Below w.heap.size w w20 := B68.trans (hbw20.mono B68.size)
  have sB74 : w19.heap.size ≤ w20.heap.size := hbw20.size
  have h75 := h69.below hbw20
  have h76 := h70.below hbw20
  have h77 := h71.below hbw20
  have h78 := h72.below hbw20
  have h79 := h73.below hbw20
  have h80 := ih.below hbw20
  clear B68 h69 h70 h71 h72 h73 ih
  go_wp2_with fail
  refine (hHp w20 _ _ _ _ h79).mono ?_
  rintro e w21 ⟨rfl, hbw21⟩
  have B81 : Below w.heap.size w w21 := B74.trans (hbw21.mono B74.size)
  have sB81 : w20.heap.size ≤ w21.heap.size := hbw21.size
  have h82 := h75.below hbw21
  have h83 := h76.below hbw21
  have h84 := h77.below hbw21
  have h85 := h78.below hbw21
  have h86 := h79.below hbw21
  have h87 := h80.below hbw21
  clear B74 h75 h76 h77 h78 h79 h80
  go_wp2
  go_ret
  exact ⟨rfl, B81⟩
end Go.Proofs.Ytdniajogojlmdaa
