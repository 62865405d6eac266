/-
  Several texts in one: Lrt.
-/
import Derived.Test.YtdniajogojlmdaaJu
import Derived.Deep.RegionHeld3
/-
  The walk of the exact law of Turn FROM what the program answers.
-/
namespace Go.Proofs.Ytdniajogojlmdaa
set_option linter.unusedVariables false
set_option linter.unusedSimpArgs false
open Go.RowKit Go.Sort

set_option maxRecDepth 100000 in
set_option maxHeartbeats 3200000 in
theorem lawTurn (hI : ImplTurn) (N B : Int) (a : Option Addr) (cap : Nat) (H : List (List Int)) (ca : Option Addr) (cc : Nat) (cs : List Ps) (w : World) (hN : I64r N) (hB : I64r B) (hv : VV w a H.length cap H) (hf : FitsH H) (hp : PsS w ca cs.length cs) (hpf : FitsP cs) (hcc : cs.length ≤ cc) (hcm : cc ≤ maxLen) :
    Calls Try.prog 7 #[rlV N B a H.length cap, .slice ca cs.length cc] w fun e w' => e = .returned (.bool true) ∧ Below w.heap.size w w' := by
  have hP := Bx.new w 51 #[.int .i64 N, .int .i64 B, .slice a H.length cap]
  have hB0 := one_alloc10 w (.cells #[.int .i64 N, .int .i64 B, .slice a H.length cap] 51)
  generalize hW0 : w.alloc (.cells #[.int .i64 N, .int .i64 B, .slice a H.length cap] 51) = W0 at *
  have k00 : w.heap.size < W0.heap.size := hP.lt
  have hZ := szR_any N B a H.length cap H W0 (hv.below hB0)
  have hvX : ∀ X, Below w.heap.size w X → VV X a H.length cap H := fun X hX => hv.below hX
  have hTo : H.length ≤ 1048576 → tot H H.length ≤ 1048576 → ∀ X, Below w.heap.size w X → Calls Try.prog 47 #[rlV N B a H.length cap] X fun e w' => ∃ a', e = .returned (rlV N B a' H.length H.length) ∧ It w' [iicl H] [.slice a' H.length H.length] X.heap.size w'.heap.size ∧ Below X.heap.size X w' := fun h1 h2 X hX => toR_it N B a cap H X (hvX X hX) h1 h2
  have hpX : ∀ X, Below w.heap.size w X → PsS X ca cs.length cs := fun X hX => hp.below hX
  have hTp : cs.length ≤ 1048576 → ∀ X, Below w.heap.size w X → Calls Try.prog 52 #[.slice ca cs.length cc] X fun e w' => ∃ ap, e = .returned (.slice ap cs.length cs.length) ∧ It w' [pcl cs] [.slice ap cs.length cs.length] X.heap.size w'.heap.size ∧ Below X.heap.size X w' := fun h1 X hX => (toPs_any ca cs.length cc cs X (hpX X hX) h1).mono (fun e w' h => ⟨_, h.1, it_op h.2.1 rfl ⟨Nat.le_refl _, h.2.1.blk⟩, h.2.2⟩)
  have hZ2 := fun X q (hq : 0 ≤ q ∧ q ≤ 1048576) => szP_any ca cs.length cc q X (Nat.le_trans hcc hcm) hq
  have hSp : cs.length ≤ 1048576 → ∀ X a1 c1 ap cp {l1 h1 l2 h2 : Nat}, It X [iicl H] [.slice a1 H.length c1] l1 h1 → It X [pcl cs] [.slice ap cs.length cp] l2 h2 → Calls Try.prog 34 #[rlV N B a1 H.length c1, .slice ap cs.length cp] X fun e w' => AnsRl X w' e (turnL N B H cs) := fun hl X a1 c1 ap cp l1 h1 l2 h2 i1 i2 => turnS_any N B a1 H.length c1 H ap cs.length cp cs X (it_vv i1 hf) (it_ps i2) (by omega)
  have hIm : cs.length ≤ 1048576 → ∀ X a1 c1 ap {l1 h1 l2 h2 : Nat}, It X [iicl H] [.slice a1 H.length c1] l1 h1 → It X [pcl cs] [.slice ap cs.length cs.length] l2 h2 → Calls Try.prog 29 #[rlV N B a1 H.length c1, .slice ap cs.length cs.length] X fun e w' => AnsRl X w' e (turnL N B H cs) := fun hl X a1 c1 ap l1 h1 l2 h2 i1 i2 => hI N B a1 c1 H ap cs.length cs X hN hB (it_vv i1 hf) (it_ps i2) hpf (Nat.le_refl _) (by unfold maxLen; omega) hl
  have hEq : ∀ X a1 c1 a2 c2, VV X a1 H.length c1 H → VV X a2 H.length c2 H → Calls Try.prog 48 #[rlV N B a1 H.length c1, rlV N B a2 H.length c2] X fun e w' => e = .returned (.bool true) ∧ Below X.heap.size X w' := fun X a1 c1 a2 c2 h1 h2 => eqR_any N B a1 a2 H.length c1 c2 H X h1 h2
  have hEp : cs.length ≤ 1048576 → ∀ X a1 a2 c1 c2 {l1 h1 l2 h2 : Nat}, It X [pcl cs] [.slice a1 cs.length c1] l1 h1 → It X [pcl cs] [.slice a2 cs.length c2] l2 h2 → Calls Try.prog 53 #[.slice a1 cs.length c1, .slice a2 cs.length c2] X fun e w' => e = .returned (.bool true) ∧ Below X.heap.size X w' := fun hl X a1 a2 c1 c2 l1 h1 l2 h2 i1 i2 => (eqPsV_any a1 a2 cs.length c1 c2 cs X (it_ps i1) (it_ps i2) (by unfold maxLen; omega)).mono (fun e w' h => ⟨h.1, h.2.1⟩)
  obtain ⟨hfZ, hlZ, htZ⟩ := turnL_small N B H cs
  clear hI hv hp
  generalize turnL N B H cs = RR at *
  obtain ⟨⟨RN, RB, Z⟩, ok⟩ := RR
  simp only [] at hfZ hlZ htZ
  unfold AnsRl at hSp hIm
  simp only [] at hSp hIm
  have hok : (ok != ok) = false := by cases ok <;> rfl
  have hEz : ∀ X a1 c1 a2 c2 {l1 h1 l2 h2 : Nat}, It X [iicl Z] [.slice a1 Z.length c1] l1 h1 → It X [iicl Z] [.slice a2 Z.length c2] l2 h2 → Calls Try.prog 48 #[rlV RN RB a1 Z.length c1, rlV RN RB a2 Z.length c2] X fun e w' => e = .returned (.bool true) ∧ Below X.heap.size X w' := fun X a1 c1 a2 c2 l1 h1 l2 h2 i1 i2 => eqR_any RN RB a1 a2 Z.length c1 c2 Z X (it_vv i1 hfZ) (it_vv i2 hfZ)
  obtain ⟨M, hM⟩ : ∃ M : Int, Hid (M = ((1 + tot Z Z.length : Nat) : Int)) := ⟨_, rfl⟩
  have hM0 : decide (M < 0) = false := by rw [hM.out]; simp; omega
  have hMM : (M != M) = false := by simp
  have hMz : ∀ X a1 c1 lo hi, It X [iicl Z] [.slice a1 Z.length c1] lo hi → Calls Try.prog 49 #[rlV RN RB a1 Z.length c1, .int .i64 1] X fun e w' => e = .returned (.int .i64 M) ∧ It w' [iicl (mkd Z 1 Z.length)] [.slice a1 Z.length c1] lo hi ∧ Wrt (Iv lo hi) X w' := fun X a1 c1 lo hi i => by rw [hM.out]; exact markR_it RN RB a1 c1 1 lo hi Z X i (by omega) (by omega) (by omega)
  have hHz : ∀ X a1 c1 lo hi, It X [iicl (mkd Z 1 Z.length)] [.slice a1 Z.length c1] lo hi → Calls Try.prog 50 #[rlV RN RB a1 Z.length c1, .int .i64 1] X fun e w' => e = .returned (.int .i64 M) ∧ Below X.heap.size X w' := fun X a1 c1 lo hi i => by rw [hM.out]; exact heldR_it RN RB a1 c1 1 lo hi Z X i (by omega) (by omega) (by omega)
  obtain ⟨K1, hK1⟩ : ∃ K1 : Nat, Hid (K1 = 1 + tot H H.length) := ⟨_, rfl⟩
  obtain ⟨K2, hK2⟩ : ∃ K2 : Int, Hid (K2 = ((K1 + cs.length * 3 : Nat) : Int)) := ⟨_, rfl⟩
  have hK20 : decide (K2 < 0) = false := by rw [hK2.out]; simp; omega
  have hMx : H.length ≤ 1048576 → tot H H.length ≤ 1048576 → ∀ X a1 c1 lo hi, It X [iicl H] [.slice a1 H.length c1] lo hi → Calls Try.prog 49 #[rlV N B a1 H.length c1, .int .i64 1] X fun e w' => e = .returned (.int .i64 (K1 : Int)) ∧ It w' [iicl (mkd H 1 H.length)] [.slice a1 H.length c1] lo hi ∧ Wrt (Iv lo hi) X w' := fun h1 h2 X a1 c1 lo hi i => by rw [hK1.out]; exact markR_it N B a1 c1 1 lo hi H X i (by omega) h1 (by omega)
  have hMp : cs.length ≤ 1048576 → tot H H.length ≤ 1048576 → ∀ X ap cp lo hi, It X [pcl cs] [.slice ap cs.length cp] lo hi → Calls Try.prog 54 #[.slice ap cs.length cp, .int .i64 (K1 : Int)] X fun e w' => e = .returned (.int .i64 K2) ∧ It w' [tcl cs.length (marks (cs.length * 3) K1)] [.slice ap cs.length cp] lo hi ∧ Wrt (Iv lo hi) X w' := fun h1 h2 X ap cp lo hi i => by rw [hK2.out]; exact markPs_it ap cs.length cp K1 lo hi (fl3 cs) X (by rw [← pcl_tcl]; exact i) h1 (by rw [hK1.out]; omega)
  clear hvX hpX
  unfold rlV at *
  obtain ⟨p0, p1, p2⟩ := hP.r3
  go_enter Try.func7, Try.ntmps7
  go_wp2_with fail
  refine (hZ).mono ?_
  rintro e w1 ⟨q, rfl, hq, hb1⟩
  clear p0 p1 p2 hZ
  have B1 : Below w.heap.size w w1 := hB0.trans (hb1.mono hB0.size)
  have sB1 : W0.heap.size ≤ w1.heap.size := hb1.size
  have h2 := hP.below hb1
  clear hB0 hP
  rcases hq with rfl | ⟨hq0, hq1⟩
  · go_wp2
    go_ret
    exact ⟨rfl, B1⟩
  have hqn : decide (q < 0) = false := by simp; omega
  have hZ3 := hZ2 w1 q ⟨hq0, by omega⟩
  clear hZ2
  by_cases hcq : (cs.length : Int) ≤ q
  rotate_left
  · rw [if_neg hcq] at hZ3
    go_wp2_with fail
    refine hZ3.mono ?_
    rintro e w2 ⟨rfl, hw2⟩
    rw [hw2]
    clear hw2
    go_wp2
    go_ret
    exact ⟨rfl, B1⟩
  rw [if_pos hcq] at hZ3
  have hqn2 : decide (q - (cs.length : Int) < 0) = false := by simp; omega
  have hT := hTo (by omega) (by omega)
  have hcl : cs.length ≤ 1048576 := by omega
  have hTq := hTp hcl
  have hSq := hSp hcl
  have hIq := hIm hcl
  have hEq2p := hEp hcl
  have hMxx := hMx (by omega) (by omega)
  have hMpp := hMp hcl (by omega)
  clear hTo hTp hSp hIm hEp hMx hMp
  obtain ⟨c3a, c3b, c3c⟩ := h2.r3
  go_wp2_with fail
  refine hZ3.mono ?_
  rintro e w2 ⟨rfl, hw2⟩
  rw [hw2]
  clear hw2 hZ3
  go_wp2_with fail
  refine (hT w1 B1).mono ?_
  rintro e w3 ⟨a1, rfl, i1, hb3⟩
  clear c3a c3b c3c
  clear hqn hqn2
  have B4 : Below w.heap.size w w3 := B1.trans (hb3.mono B1.size)
  have sB4 : w1.heap.size ≤ w3.heap.size := hb3.size
  have h5 := h2.below hb3
  clear B1 h2
  go_wp2_with fail
  refine (hTq w3 B4).mono ?_
  rintro e w4 ⟨d1, rfl, j1, hb4⟩
  have B6 : Below w.heap.size w w4 := B4.trans (hb4.mono B4.size)
  have sB6 : w3.heap.size ≤ w4.heap.size := hb4.size
  have h7 := h5.below hb4
  have h8 := i1.below hb4
  clear B4 h5 i1
  go_wp2_with fail
  refine (hSq w4 _ _ _ _ h8 j1).mono ?_
  rintro e w5 ⟨av, cv, rfl, nv⟩
  have iv := It.of_newO nv
  obtain ⟨_, _, _, hbv⟩ := nv
  have B9 : Below w.heap.size w w5 := B6.trans (hbv.mono B6.size)
  have sB9 : w4.heap.size ≤ w5.heap.size := hbv.size
  have h10 := h7.below hbv
  have h11 := h8.below hbv
  clear B6 h7 h8
  have b13 := one_alloc10 w5 (.cells #[.int .i64 RN, .int .i64 RB, .slice av Z.length cv] 35)
  have h14 := Bx.new w5 35 #[.int .i64 RN, .int .i64 RB, .slice av Z.length cv]
  generalize hX12 : w5.alloc (.cells #[.int .i64 RN, .int .i64 RB, .slice av Z.length cv] 35) = X12 at *
  have B16 : Below w.heap.size w X12 := B9.trans (b13.mono B9.size)
  have sB16 : w5.heap.size ≤ X12.heap.size := b13.size
  have h17 := h10.below b13
  have h18 := h11.below b13
  have h19 := iv.below b13
  clear B9 h10 h11 iv
  have k15 : w5.heap.size < X12.heap.size := h14.lt
  clear b13
  clear j1 h18
  obtain ⟨c20a, c20b, c20c⟩ := h17.r3
  go_wp2_with fail
  refine (hT X12 B16).mono ?_
  rintro e w6 ⟨a2, rfl, i2, hb6⟩
  clear c20a c20b c20c
  have B21 : Below w.heap.size w w6 := B16.trans (hb6.mono B16.size)
  have sB21 : X12.heap.size ≤ w6.heap.size := hb6.size
  have h22 := h17.below hb6
  have h23 := h19.below hb6
  have h24 := h14.below hb6
  clear B16 h17 h19 h14
  have b26 := one_alloc10 w6 (.cells #[.int .i64 N, .int .i64 B, .slice a2 H.length H.length] 35)
  have h27 := Bx.new w6 35 #[.int .i64 N, .int .i64 B, .slice a2 H.length H.length]
  generalize hX25 : w6.alloc (.cells #[.int .i64 N, .int .i64 B, .slice a2 H.length H.length] 35) = X25 at *
  have B29 : Below w.heap.size w X25 := B21.trans (b26.mono B21.size)
  have sB29 : w6.heap.size ≤ X25.heap.size := b26.size
  have h30 := h22.below b26
  have h31 := h23.below b26
  have h32 := h24.below b26
  have h33 := i2.below b26
  clear B21 h22 h23 h24 i2
  have k28 : w6.heap.size < X25.heap.size := h27.lt
  clear b26
  go_wp2_with fail
  refine (hTq X25 B29).mono ?_
  rintro e w7 ⟨d2, rfl, j2, hb7'⟩
  have B34 : Below w.heap.size w w7 := B29.trans (hb7'.mono B29.size)
  have sB34 : X25.heap.size ≤ w7.heap.size := hb7'.size
  have h35 := h30.below hb7'
  have h36 := h31.below hb7'
  have h37 := h32.below hb7'
  have h38 := h33.below hb7'
  have h39 := h27.below hb7'
  clear B29 h30 h31 h32 h33 h27
  obtain ⟨c40a, c40b, c40c⟩ := h39.r3
  go_wp2_with fail
  refine (hIq w7 _ _ _ h38 j2).mono ?_
  rintro e w8 ⟨ag, cg, rfl, ng⟩
  have ig := It.of_newO ng
  obtain ⟨_, _, _, hbg⟩ := ng
  have B41 : Below w.heap.size w w8 := B34.trans (hbg.mono B34.size)
  have sB41 : w7.heap.size ≤ w8.heap.size := hbg.size
  have h42 := h35.below hbg
  have h43 := h36.below hbg
  have h44 := h37.below hbg
  have h45 := h38.below hbg
  have h46 := h39.below hbg
  have h47 := j2.below hbg
  clear B34 h35 h36 h37 h38 h39 j2
  have b49 := one_alloc10 w8 (.cells #[.int .i64 RN, .int .i64 RB, .slice ag Z.length cg] 35)
  have h50 := Bx.new w8 35 #[.int .i64 RN, .int .i64 RB, .slice ag Z.length cg]
  generalize hX48 : w8.alloc (.cells #[.int .i64 RN, .int .i64 RB, .slice ag Z.length cg] 35) = X48 at *
  have B52 : Below w.heap.size w X48 := B41.trans (b49.mono B41.size)
  have sB52 : w8.heap.size ≤ X48.heap.size := b49.size
  have h53 := h42.below b49
  have h54 := h43.below b49
  have h55 := h44.below b49
  have h56 := h45.below b49
  have h57 := h46.below b49
  have h58 := h47.below b49
  have h59 := ig.below b49
  clear B41 h42 h43 h44 h45 h46 h47 ig
  have k51 : w8.heap.size < X48.heap.size := h50.lt
  clear b49
  clear c40a c40b c40c
  obtain ⟨c60a, c60b, c60c⟩ := h50.r3
  obtain ⟨c61a, c61b, c61c⟩ := h55.r3
  go_wp2_with fail
  refine (hEz X48 _ _ _ _ h59 h54).mono ?_
  rintro e w9 ⟨rfl, hbw9⟩
  clear c60a c60b c60c c61a c61b c61c
  have B62 : Below w.heap.size w w9 := B52.trans (hbw9.mono B52.size)
  have sB62 : X48.heap.size ≤ w9.heap.size := hbw9.size
  have h63 := h53.below hbw9
  have h64 := h54.below hbw9
  have h65 := h55.below hbw9
  have h66 := h56.below hbw9
  have h67 := h57.below hbw9
  have h68 := h58.below hbw9
  have h69 := h59.below hbw9
  have h70 := h50.below hbw9
  clear B52 h53 h54 h55 h56 h57 h58 h59 h50
  have KS : ∀ X, Below w9.heap.size w9 X → (X.cell? ⟨w.heap.size, 0, none⟩ = some (.int .i64 N) ∧ X.cell? ⟨w.heap.size, 1, none⟩ = some (.int .i64 B) ∧ X.cell? ⟨w.heap.size, 2, none⟩ = some (.slice a H.length cap)) ∧ X.cell? ⟨w6.heap.size, 0, none⟩ = some (.int .i64 N) ∧ X.cell? ⟨w6.heap.size, 1, none⟩ = some (.int .i64 B) ∧ X.cell? ⟨w6.heap.size, 2, none⟩ = some (.slice a2 H.length H.length) := fun X hX => ⟨(h63.below hX).r3, (h67.below hX).r3⟩
  have bd : Below w9.heap.size w9 (w9.drewN 1) := belowN (Below.refl _ _)
  have hTo2 := fun X (h : Below w9.heap.size w9 X) => hT X (B62.trans (h.mono B62.size))
  have hEq2 := fun X (a7 : Option Addr) (h : Below w9.heap.size w9 X) (h7 : ∃ lo hi, It X [iicl H] [.slice a7 H.length H.length] lo hi) => hEq X a2 H.length a7 H.length (it_vv (h66.below h) hf) (by obtain ⟨_, _, h7⟩ := h7; exact it_vv h7 hf)
  have hmix := mixedR
  go_wp2_with fail
  go_region_held3 (fun X => (X.cell? ⟨w.heap.size, 0, none⟩ = some (.int .i64 N) ∧ X.cell? ⟨w.heap.size, 1, none⟩ = some (.int .i64 B) ∧ X.cell? ⟨w.heap.size, 2, none⟩ = some (.slice a H.length cap)) ∧ X.cell? ⟨w6.heap.size, 0, none⟩ = some (.int .i64 N) ∧ X.cell? ⟨w6.heap.size, 1, none⟩ = some (.int .i64 B) ∧ X.cell? ⟨w6.heap.size, 2, none⟩ = some (.slice a2 H.length H.length))
    (first | exact KS _ b8 | exact KS _ b7b | exact KS _ bd)
    (first
      | (go_at_call 47; refine (hTo2 _ bd).mono ?_; rintro e u7 ⟨a7, rfl, i7, hb7⟩; have b7b : Below w9.heap.size w9 u7 := bd.trans (hb7.mono bd.size))
      | (go_at_call 48; refine (hEq2 u7 a7 b7b ⟨_, _, i7⟩).mono ?_; rintro e u8 ⟨rfl, hb8⟩; have b8 : Below w9.heap.size w9 u8 := b7b.trans (hb8.mono b7b.size)))
  have HBB : Hid (Below w.heap.size w u8) := B62.trans (b8.mono B62.size)
  clear KS bd hTo2 hEq2 i7 hb7 b7b hb8 HBB
  have B71 : Below w.heap.size w u8 := B62.trans (b8.mono B62.size)
  have sB71 : w9.heap.size ≤ u8.heap.size := b8.size
  have h72 := h63.below b8
  have h73 := h64.below b8
  have h74 := h65.below b8
  have h75 := h66.below b8
  have h76 := h67.below b8
  have h77 := h68.below b8
  have h78 := h69.below b8
  have h79 := h70.below b8
  clear B62 h63 h64 h65 h66 h67 h68 h69 h70
  go_wp2_with fail
  refine (hTq u8 B71).mono ?_
  rintro e w10 ⟨d3, rfl, j3, hb10⟩
  have B80 : Below w.heap.size w w10 := B71.trans (hb10.mono B71.size)
  have sB80 : u8.heap.size ≤ w10.heap.size := hb10.size
  have h81 := h72.below hb10
  have h82 := h73.below hb10
  have h83 := h74.below hb10
  have h84 := h75.below hb10
  have h85 := h76.below hb10
  have h86 := h77.below hb10
  have h87 := h78.below hb10
  have h88 := h79.below hb10
  clear B71 h72 h73 h74 h75 h76 h77 h78 h79
  go_wp2_with fail
  refine (hEq2p w10 _ _ _ _ h86 j3).mono ?_
  rintro e w11 ⟨rfl, hb11⟩
  clear j3
  have B89 : Below w.heap.size w w11 := B80.trans (hb11.mono B80.size)
  have sB89 : w10.heap.size ≤ w11.heap.size := hb11.size
  have h90 := h81.below hb11
  have h91 := h82.below hb11
  have h92 := h83.below hb11
  have h93 := h84.below hb11
  have h94 := h85.below hb11
  have h95 := h86.below hb11
  have h96 := h87.below hb11
  have h97 := h88.below hb11
  clear B80 h81 h82 h83 h84 h85 h86 h87 h88
  obtain ⟨c98a, c98b, c98c⟩ := h94.r3
  go_wp2_with fail
  refine (hMxx w11 _ _ _ _ h93).mono ?_
  rintro e w12 ⟨rfl, i12, hw12⟩
  clear c98a c98b c98c
  have sB99 : w11.heap.size ≤ w12.heap.size := hw12.size
  have B99 : Below w.heap.size w w12 := below_iv hw12 B89 B89.size (by omega)
  have h100 := h90.iv hw12 (by omega)
  have h101 := h91.far hw12 (by omega)
  have h102 := h92.iv hw12 (by omega)
  have h103 := h94.iv hw12 (by omega)
  have h104 := h95.far hw12 (by omega)
  have h105 := h96.far hw12 (by omega)
  have h106 := h97.iv hw12 (by omega)
  clear B89 h90 h91 h92 h93 h94 h95 h96 h97
  go_wp2_with fail
  refine (hMpp w12 _ _ _ _ h104).mono ?_
  rintro e w13 ⟨rfl, i13, hw13⟩
  have sB107 : w12.heap.size ≤ w13.heap.size := hw13.size
  have B107 : Below w.heap.size w w13 := below_iv hw13 B99 B99.size (by omega)
  have h108 := h100.iv hw13 (by omega)
  have h109 := h101.far hw13 (by omega)
  have h110 := h102.iv hw13 (by omega)
  have h111 := i12.far hw13 (by omega)
  have h112 := h103.iv hw13 (by omega)
  have h113 := h105.far hw13 (by omega)
  have h114 := h106.iv hw13 (by omega)
  clear B99 h100 h101 h102 i12 h103 h104 h105 h106
  obtain ⟨c115a, c115b, c115c⟩ := h114.r3
  obtain ⟨c116a, c116b, c116c⟩ := h110.r3
  go_wp2_with fail
  refine (hEz w13 _ _ _ _ h113 h109).mono ?_
  rintro e w14 ⟨rfl, hbw14⟩
  clear c115a c115b c115c c116a c116b c116c
  have B117 : Below w.heap.size w w14 := B107.trans (hbw14.mono B107.size)
  have sB117 : w13.heap.size ≤ w14.heap.size := hbw14.size
  have h118 := h108.below hbw14
  have h119 := h109.below hbw14
  have h120 := h110.below hbw14
  have h121 := h111.below hbw14
  have h122 := h112.below hbw14
  have h123 := i13.below hbw14
  have h124 := h113.below hbw14
  have h125 := h114.below hbw14
  clear B107 h108 h109 h110 h111 h112 i13 h113 h114
  obtain ⟨c126a, c126b, c126c⟩ := h125.r3
  go_wp2_with fail
  refine (hMz w14 _ _ _ _ h124).mono ?_
  rintro e w15 ⟨rfl, iw15, hww15⟩
  clear c126a c126b c126c
  have sB127 : w14.heap.size ≤ w15.heap.size := hww15.size
  have B127 : Below w.heap.size w w15 := below_iv hww15 B117 B117.size (by omega)
  have h128 := h118.iv hww15 (by omega)
  have h129 := h119.far hww15 (by omega)
  have h130 := h120.iv hww15 (by omega)
  have h131 := h121.far hww15 (by omega)
  have h132 := h122.iv hww15 (by omega)
  have h133 := h123.far hww15 (by omega)
  have h134 := h125.iv hww15 (by omega)
  clear B117 h118 h119 h120 h121 h122 h123 h124 h125
  obtain ⟨c135a, c135b, c135c⟩ := h134.r3
  go_wp2_with fail
  refine (hHz w15 _ _ _ _ iw15).mono ?_
  rintro e w16 ⟨rfl, hbw16⟩
  clear c135a c135b c135c
  have B136 : Below w.heap.size w w16 := B127.trans (hbw16.mono B127.size)
  have sB136 : w15.heap.size ≤ w16.heap.size := hbw16.size
  have h137 := h128.below hbw16
  have h138 := h129.below hbw16
  have h139 := h130.below hbw16
  have h140 := h131.below hbw16
  have h141 := h132.below hbw16
  have h142 := h133.below hbw16
  have h143 := iw15.below hbw16
  have h144 := h134.below hbw16
  clear B127 h128 h129 h130 h131 h132 h133 iw15 h134
  obtain ⟨c145a, c145b, c145c⟩ := h137.r3
  go_wp2_with fail
  refine (hT w16 B136).mono ?_
  rintro e w17 ⟨a9, rfl, i9, hb17⟩
  clear c145a c145b c145c
  have B146 : Below w.heap.size w w17 := B136.trans (hb17.mono B136.size)
  have sB146 : w16.heap.size ≤ w17.heap.size := hb17.size
  have h147 := h137.below hb17
  have h148 := h138.below hb17
  have h149 := h139.below hb17
  have h150 := h140.below hb17
  have h151 := h141.below hb17
  have h152 := h142.below hb17
  have h153 := h143.below hb17
  have h154 := h144.below hb17
  clear B136 h137 h138 h139 h140 h141 h142 h143 h144
  go_wp2_with fail
  refine (hTq w17 B146).mono ?_
  rintro e w18 ⟨d9, rfl, j9, hb18⟩
  have B155 : Below w.heap.size w w18 := B146.trans (hb18.mono B146.size)
  have sB155 : w17.heap.size ≤ w18.heap.size := hb18.size
  have h156 := h147.below hb18
  have h157 := h148.below hb18
  have h158 := h149.below hb18
  have h159 := h150.below hb18
  have h160 := h151.below hb18
  have h161 := h152.below hb18
  have h162 := h153.below hb18
  have h163 := h154.below hb18
  have h164 := i9.below hb18
  clear B146 h147 h148 h149 h150 h151 h152 h153 h154 i9
  go_wp2_with fail
  refine (hIq w18 _ _ _ h164 j9).mono ?_
  rintro e w19 ⟨ah, ch, rfl, nh⟩
  have ih := It.of_newO nh
  obtain ⟨_, _, _, hbh⟩ := nh
  have B165 : Below w.heap.size w w19 := B155.trans (hbh.mono B155.size)
  have sB165 : w18.heap.size ≤ w19.heap.size := hbh.size
  have h166 := h156.below hbh
  have h167 := h157.below hbh
  have h168 := h158.below hbh
  have h169 := h159.below hbh
  have h170 := h160.below hbh
  have h171 := h161.below hbh
  have h172 := h162.below hbh
  have h173 := h163.below hbh
  have h174 := h164.below hbh
  clear B155 h156 h157 h158 h159 h160 h161 h162 h163 h164
  have b176 := one_alloc10 w19 (.cells #[.int .i64 RN, .int .i64 RB, .slice ah Z.length ch] 35)
  have h177 := Bx.new w19 35 #[.int .i64 RN, .int .i64 RB, .slice ah Z.length ch]
  generalize hX175 : w19.alloc (.cells #[.int .i64 RN, .int .i64 RB, .slice ah Z.length ch] 35) = X175 at *
  have B179 : Below w.heap.size w X175 := B165.trans (b176.mono B165.size)
  have sB179 : w19.heap.size ≤ X175.heap.size := b176.size
  have h180 := h166.below b176
  have h181 := h167.below b176
  have h182 := h168.below b176
  have h183 := h169.below b176
  have h184 := h170.below b176
  have h185 := h171.below b176
  have h186 := h172.below b176
  have h187 := h173.below b176
  have h188 := h174.below b176
  have h189 := ih.below b176
  clear B165 h166 h167 h168 h169 h170 h171 h172 h173 h174 ih
  have k178 : w19.heap.size < X175.heap.size := h177.lt
  clear b176
  obtain ⟨c190a, c190b, c190c⟩ := h177.r3
  obtain ⟨c191a, c191b, c191c⟩ := h182.r3
  go_wp2_with fail
  refine (hEz X175 _ _ _ _ h189 h181).mono ?_
  rintro e w20 ⟨rfl, hbw20⟩
  clear c190a c190b c190c c191a c191b c191c
  have B192 : Below w.heap.size w w20 := B179.trans (hbw20.mono B179.size)
  have sB192 : X175.heap.size ≤ w20.heap.size := hbw20.size
  have h193 := h180.below hbw20
  have h194 := h181.below hbw20
  have h195 := h182.below hbw20
  have h196 := h183.below hbw20
  have h197 := h184.below hbw20
  have h198 := h185.below hbw20
  have h199 := h186.below hbw20
  have h200 := h187.below hbw20
  have h201 := h188.below hbw20
  have h202 := h189.below hbw20
  have h203 := h177.below hbw20
  clear B179 h180 h181 h182 h183 h184 h185 h186 h187 h188 h189 h177
  obtain ⟨c204a, c204b, c204c⟩ := h200.r3
  go_wp2_with fail
  refine (hHz w20 _ _ _ _ h199).mono ?_
  rintro e w21 ⟨rfl, hbw21⟩
  clear c204a c204b c204c
  have B205 : Below w.heap.size w w21 := B192.trans (hbw21.mono B192.size)
  have sB205 : w20.heap.size ≤ w21.heap.size := hbw21.size
  have h206 := h193.below hbw21
  have h207 := h194.below hbw21
  have h208 := h195.below hbw21
  have h209 := h196.below hbw21
  have h210 := h197.below hbw21
  have h211 := h198.below hbw21
  have h212 := h199.below hbw21
  have h213 := h200.below hbw21
  have h214 := h201.below hbw21
  have h215 := h202.below hbw21
  have h216 := h203.below hbw21
  clear B192 h193 h194 h195 h196 h197 h198 h199 h200 h201 h202 h203
  go_wp2
  go_ret
  exact ⟨rfl, B205⟩
end Go.Proofs.Ytdniajogojlmdaa
