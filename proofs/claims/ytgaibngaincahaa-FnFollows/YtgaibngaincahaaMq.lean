/-
  Several texts in one: Rzl Rzx Rzy.
-/
import Derived.Test.YtgaibngaincahaaMp
import Derived.Deep.RegionHeld3
/-
  The laws' own likeRow, at rows that are alike.
-/
namespace Go.Proofs.Ytgaibngaincahaa
set_option linter.unusedVariables false
set_option linter.unusedSimpArgs false
open Go.RowKit Go.Sort

attribute [local irreducible] sv
set_option maxRecDepth 100000 in
set_option maxHeartbeats 3200000 in
theorem likeRw_any (A B : Ra) (r : Rw) (w : World) (hv : RwS w A r) (hu : RwS w B r) :
    Calls Try.prog 37 #[rwV A r, rwV B r] w fun e w' => e = .returned (.bool true) ∧ Grew w w' := by
  have hB0 : Grew w ((w.alloc (.cells (rwC A r) 35)).alloc (.cells (rwC B r) 35)) := ((Grew.refl _).alloc _).alloc _
  have hx : Bx ((w.alloc (.cells (rwC A r) 35)).alloc (.cells (rwC B r) 35)) w.heap.size 35 (rwC A r) := (Bx.new w _ _).alloc _
  have hy : Bx ((w.alloc (.cells (rwC A r) 35)).alloc (.cells (rwC B r) 35)) (w.heap.size + 1) 35 (rwC B r) := by
    have := Bx.new (w.alloc (.cells (rwC A r) 35)) 35 (rwC B r)
    simpa using this
  have h0 := hv.below hB0.1
  have g0 := hu.below hB0.1
  have hT := likeSV_any A.ta B.ta A.tc B.tc r.txt _ h0.txt g0.txt h0.mt
  have hE : ∀ X, Below w.heap.size w X → ∀ (x y : Option Addr) (c d : Nat) (l : List Int), Vec w x l.length l → Vec w y l.length l → l.length ≤ maxLen → Calls Try.prog 15 #[.slice x l.length c, .slice y l.length d] X fun e w' => e = .returned (.bool true) ∧ Grew X w' := fun X h x y c d l h1 h2 h3 => (like_any x y l.length c l.length d l l X (h1.below h (Nat.le_refl _)) (h2.below h (Nat.le_refl _)) h3).mono (fun e w' ⟨h4, q, h5⟩ => ⟨by rw [h4, sameB_self], by rw [h5]; exact (Grew.refl _).drewN q⟩)
  obtain ⟨ver, txt, got, sus, wed, rdy, by_, trm⟩ := r
  obtain ⟨ta, tc, ga, gc, sa, sc, ma, mc⟩ := A
  obtain ⟨ub, uc, vb, vc, xb, xc, yb, yc⟩ := B
  have HV : Hid (RwS w ⟨ta, tc, ga, gc, sa, sc, ma, mc⟩ ⟨ver, txt, got, sus, wed, rdy, by_, trm⟩) := hv
  have HU : Hid (RwS w ⟨ub, uc, vb, vc, xb, xc, yb, yc⟩ ⟨ver, txt, got, sus, wed, rdy, by_, trm⟩) := hu
  have hG := fun X h => hE X h ga vb gc vc got HV.out.got HU.out.got HV.out.mg
  have hS := fun X h => hE X h sa xb sc xc sus HV.out.sus HU.out.sus HV.out.ms
  have hM := fun X h => hE X h ma yb mc yc trm HV.out.trm HU.out.trm HV.out.mm
  have HX : Hid (∀ X, Grew ((w.alloc (.cells (rwC ⟨ta, tc, ga, gc, sa, sc, ma, mc⟩ ⟨ver, txt, got, sus, wed, rdy, by_, trm⟩) 35)).alloc (.cells (rwC ⟨ub, uc, vb, vc, xb, xc, yb, yc⟩ ⟨ver, txt, got, sus, wed, rdy, by_, trm⟩) 35)) X → Bx X w.heap.size 35 #[.int .i64 ver, .slice ta txt.length tc, .slice ga got.length gc, .slice sa sus.length sc, .bool wed, .bool rdy, .int .i64 by_, .slice ma trm.length mc] ∧ Bx X (w.heap.size + 1) 35 #[.int .i64 ver, .slice ub txt.length uc, .slice vb got.length vc, .slice xb sus.length xc, .bool wed, .bool rdy, .int .i64 by_, .slice yb trm.length yc]) := fun X h => ⟨hx.below h.1, hy.below h.1⟩
  have n1 : (ver == ver) = true := by simp
  have n2 : (by_ == by_) = true := by simp
  have n3 : (wed == wed) = true := by simp
  have n4 : (rdy == rdy) = true := by simp
  unfold rwV
  unfold rwC at *
  simp only at hT ⊢
  generalize hWW : (w.alloc (.cells #[.int .i64 ver, .slice ta txt.length tc, .slice ga got.length gc, .slice sa sus.length sc, .bool wed, .bool rdy, .int .i64 by_, .slice ma trm.length mc] 35)).alloc (.cells #[.int .i64 ver, .slice ub txt.length uc, .slice vb got.length vc, .slice xb sus.length xc, .bool wed, .bool rdy, .int .i64 by_, .slice yb trm.length yc] 35) = W at *
  have HG0 : Hid (Grew w W) := hB0
  obtain ⟨⟨c0, c1, _, _⟩, _⟩ := Bx.r8 (HX.out W (Grew.refl _)).1
  obtain ⟨⟨d0, d1, _, _⟩, _⟩ := Bx.r8 (HX.out W (Grew.refl _)).2
  clear hv hu hx hy h0 g0 hE hB0
  go_enter Try.func37, Try.ntmps37
  go_wp2_with fail
  refine hT.mono ?_
  rintro e w1 ⟨rfl, hg1⟩
  obtain ⟨⟨_, _, c2, _⟩, _⟩ := Bx.r8 (HX.out w1 hg1).1
  obtain ⟨⟨_, _, d2, _⟩, _⟩ := Bx.r8 (HX.out w1 hg1).2
  have HG1 : Hid (Grew W w1) := hg1
  clear hT hg1 c0 c1 d0 d1
  go_wp2_with fail
  refine (hG w1 (HG0.out.trans HG1.out).1).mono ?_
  rintro e w2 ⟨rfl, hg2⟩
  have HG2 : Hid (Grew W w2) := HG1.out.trans hg2
  obtain ⟨⟨_, _, _, c3⟩, _⟩ := Bx.r8 (HX.out w2 HG2.out).1
  obtain ⟨⟨_, _, _, d3⟩, _⟩ := Bx.r8 (HX.out w2 HG2.out).2
  clear hg2 c2 d2 hG
  go_wp2_with fail
  refine (hS w2 (HG0.out.trans HG2.out).1).mono ?_
  rintro e w3 ⟨rfl, hg3⟩
  have HG3 : Hid (Grew W w3) := HG2.out.trans hg3
  obtain ⟨_, c4, c5, c6, c7⟩ := Bx.r8 (HX.out w3 HG3.out).1
  obtain ⟨_, d4, d5, d6, d7⟩ := Bx.r8 (HX.out w3 HG3.out).2
  clear hg3 c3 d3 hS
  go_wp2_with fail
  refine (hM w3 (HG0.out.trans HG3.out).1).mono ?_
  rintro e w4 ⟨rfl, hg4⟩
  have HG4 : Hid (Grew w w4) := HG0.out.trans (HG3.out.trans hg4)
  clear hg4 c4 c5 c6 c7 d4 d5 d6 d7 hM
  go_wp2
  go_ret
  exact ⟨rfl, HG4.out⟩
end Go.Proofs.Ytgaibngaincahaa

/-
  The walks of the exact laws of RowOk, Later and Follows FROM what the program answers.
-/
namespace Go.Proofs.Ytgaibngaincahaa
set_option linter.unusedVariables false
set_option linter.unusedSimpArgs false
open Go.RowKit Go.Sort

set_option maxRecDepth 100000 in
set_option maxHeartbeats 6400000 in
theorem lawRowOk (hI : ImplRowOk) (A0 : Ra) (r : Rw) (n : Int) (w : World) (hv0 : RwS w A0 r) (hg0 : LongT r.txt) (h60 : Rw64 r) (h61 : I64v n) :
    Calls Try.prog 5 #[rwV A0 r, .int .i64 n] w fun e w' => e = .returned (.bool true) ∧ Below w.heap.size w w' := by
  have hf0 : FitR r := hv0.fit
  have hZ0 : ∀ (X : World) (left : Int), Below w.heap.size w X → (0 ≤ left ∧ left ≤ 1048576) → Calls Try.prog 40 #[rwV A0 r, .int .i64 left] X fun e w' => ∃ q : Int, e = .returned (.int .i64 q) ∧ (q = -1 ∨ 0 ≤ q ∧ q + (szRw r : Int) = left) ∧ Below X.heap.size X w' := fun X left hX hl => szRw_any A0 r left X (hv0.below hX) hg0 hl
  have hTo0 : szRw r ≤ 1048576 → ∀ X, Below w.heap.size w X → Calls Try.prog 41 #[rwV A0 r] X fun e w' => ∃ A', e = .returned (rwV A' r) ∧ It w' (rwCels r) (rwVals A' r) X.heap.size w'.heap.size ∧ Below X.heap.size X w' := fun hs X hX => (toRw_any A0 r X (hv0.below hX) (by unfold szRw at hs; omega) (by unfold szRw at hs; omega) (by unfold szRw at hs; omega) (by unfold szRw at hs; omega)).mono (fun e w' h => h.it)
  have hE0 : szRw r ≤ 1048576 → ∀ (X : World) (A1 A2 : Ra) {l1 h1 l2 h2 : Nat}, It X (rwCels r) (rwVals A1 r) l1 h1 → It X (rwCels r) (rwVals A2 r) l2 h2 → Calls Try.prog 42 #[rwV A1 r, rwV A2 r] X fun e w' => e = .returned (.bool true) ∧ Below X.heap.size X w' := fun hs X A1 A2 l1 h1 l2 h2 i1 i2 => eqRw_any A1 A2 r X (it_rws i1 hf0 hs) (it_rws i2 hf0 hs)
  have hSp : szRw r ≤ 1048576 → ∀ (X : World) (B0 : Ra) {l0 u0 : Nat}, It X (rwCels r) (rwVals B0 r) l0 u0 → Calls Try.prog 36 #[rwV B0 r, .int .i64 n] X fun e w' => e = .returned (.bool (okRw r n)) ∧ Below X.heap.size X w' := fun hs0 X B0 l0 u0 i0 => rowS_any B0 r n X (it_rws i0 hf0 hs0)
  have hIm : szRw r ≤ 1048576 → ∀ (X : World) (B0 : Ra) {l0 u0 : Nat}, It X (rwCels r) (rwVals B0 r) l0 u0 → Calls Try.prog 35 #[rwV B0 r, .int .i64 n] X fun e w' => e = .returned (.bool (okRw r n)) ∧ Below X.heap.size X w' := fun hs0 X B0 l0 u0 i0 => hI B0 r n X (it_rwp i0 hf0 h60 hs0) h61
  generalize okRw r n = Q at *
  have ne : (Q != Q) = false := by simp
  clear hI hv0
  unfold rwV rwC at *
  have hb00 : Below w.heap.size w w := Below.refl _ _
  have b2 := oneA16 w (.cells #[.int .i64 r.ver, .slice A0.ta r.txt.length A0.tc, .slice A0.ga r.got.length A0.gc, .slice A0.sa r.sus.length A0.sc, .bool r.wed, .bool r.rdy, .int .i64 r.by_, .slice A0.ma r.trm.length A0.mc] 47)
  have h3 := Bx.new w 47 #[.int .i64 r.ver, .slice A0.ta r.txt.length A0.tc, .slice A0.ga r.got.length A0.gc, .slice A0.sa r.sus.length A0.sc, .bool r.wed, .bool r.rdy, .int .i64 r.by_, .slice A0.ma r.trm.length A0.mc]
  generalize hX1 : w.alloc (.cells #[.int .i64 r.ver, .slice A0.ta r.txt.length A0.tc, .slice A0.ga r.got.length A0.gc, .slice A0.sa r.sus.length A0.sc, .bool r.wed, .bool r.rdy, .int .i64 r.by_, .slice A0.ma r.trm.length A0.mc] 47) = X1 at *
  have B5 : Below w.heap.size w X1 := hb00.trans (b2.mono hb00.size)
  have sB5 : w.heap.size ≤ X1.heap.size := b2.size
  clear hb00
  have k4 : w.heap.size < X1.heap.size := h3.lt
  clear b2
  go_enter Try.func5, Try.ntmps5
  obtain ⟨⟨c60, c61, c62, c63⟩, c64, c65, c66, c67⟩ := Bx.r8 h3
  go_wp2_with fail
  refine (hZ0 X1 1048576 B5 ⟨by omega, by omega⟩).mono ?_
  rintro e z0 ⟨q0, rfl, hq0, hbz0⟩
  clear c60 c61 c62 c63 c64 c65 c66 c67
  have B7 : Below w.heap.size w z0 := B5.trans (hbz0.mono B5.size)
  have sB7 : X1.heap.size ≤ z0.heap.size := hbz0.size
  have h8 := h3.below hbz0
  clear B5 h3
  rcases hq0 with rfl | ⟨hqa0, hqb0⟩
  · go_wp2
    go_ret
    exact ⟨rfl, B7⟩
  have hqn0 : decide (q0 < 0) = false := by simp; omega
  have hs0 : szRw r ≤ 1048576 := by omega
  have hT0 := hTo0 hs0
  have hEE0 := hE0 hs0
  have hS2 := hSp hs0
  have hI2 := hIm hs0
  clear hSp hIm hTo0 hE0 hZ0
  obtain ⟨⟨c90, c91, c92, c93⟩, c94, c95, c96, c97⟩ := Bx.r8 h8
  go_wp2_with fail
  refine (hT0 z0 B7).mono ?_
  rintro e s0 ⟨As0, rfl, is0, hbs0⟩
  clear c90 c91 c92 c93 c94 c95 c96 c97
  have B10 : Below w.heap.size w s0 := B7.trans (hbs0.mono B7.size)
  have sB10 : z0.heap.size ≤ s0.heap.size := hbs0.size
  have h11 := h8.below hbs0
  clear B7 h8
  go_wp2_with fail
  refine (hS2 s0 _ is0).mono ?_
  rintro e ws ⟨rfl, hbs⟩
  have B12 : Below w.heap.size w ws := B10.trans (hbs.mono B10.size)
  have sB12 : s0.heap.size ≤ ws.heap.size := hbs.size
  have h13 := h11.below hbs
  have h14 := is0.below hbs
  clear B10 h11 is0
  clear h14
  obtain ⟨⟨c150, c151, c152, c153⟩, c154, c155, c156, c157⟩ := Bx.r8 h13
  go_wp2_with fail
  refine (hT0 ws B12).mono ?_
  rintro e wx0 ⟨Ax0, rfl, ix0, hbx0⟩
  clear c150 c151 c152 c153 c154 c155 c156 c157
  have B16 : Below w.heap.size w wx0 := B12.trans (hbx0.mono B12.size)
  have sB16 : ws.heap.size ≤ wx0.heap.size := hbx0.size
  have h17 := h13.below hbx0
  clear B12 h13
  have b19 := oneA16 wx0 (.cells #[.int .i64 r.ver, .slice Ax0.ta r.txt.length Ax0.tc, .slice Ax0.ga r.got.length Ax0.gc, .slice Ax0.sa r.sus.length Ax0.sc, .bool r.wed, .bool r.rdy, .int .i64 r.by_, .slice Ax0.ma r.trm.length Ax0.mc] 35)
  have h20 := Bx.new wx0 35 #[.int .i64 r.ver, .slice Ax0.ta r.txt.length Ax0.tc, .slice Ax0.ga r.got.length Ax0.gc, .slice Ax0.sa r.sus.length Ax0.sc, .bool r.wed, .bool r.rdy, .int .i64 r.by_, .slice Ax0.ma r.trm.length Ax0.mc]
  generalize hX18 : wx0.alloc (.cells #[.int .i64 r.ver, .slice Ax0.ta r.txt.length Ax0.tc, .slice Ax0.ga r.got.length Ax0.gc, .slice Ax0.sa r.sus.length Ax0.sc, .bool r.wed, .bool r.rdy, .int .i64 r.by_, .slice Ax0.ma r.trm.length Ax0.mc] 35) = X18 at *
  have B22 : Below w.heap.size w X18 := B16.trans (b19.mono B16.size)
  have sB22 : wx0.heap.size ≤ X18.heap.size := b19.size
  have h23 := h17.below b19
  have h24 := ix0.below b19
  clear B16 h17 ix0
  have k21 : wx0.heap.size < X18.heap.size := h20.lt
  clear b19
  obtain ⟨⟨c250, c251, c252, c253⟩, c254, c255, c256, c257⟩ := Bx.r8 h20
  go_wp2_with fail
  refine (hI2 X18 _ h24).mono ?_
  rintro e wi ⟨rfl, hbi⟩
  have B26 : Below w.heap.size w wi := B22.trans (hbi.mono B22.size)
  have sB26 : X18.heap.size ≤ wi.heap.size := hbi.size
  have h27 := h23.below hbi
  have h28 := h24.below hbi
  have h29 := h20.below hbi
  clear B22 h23 h24 h20
  clear c250 c251 c252 c253 c254 c255 c256 c257
  have KS : ∀ X, Below wi.heap.size wi X → ((X.cell? ⟨w.heap.size, 0, none⟩ = some (.int .i64 r.ver) ∧ X.cell? ⟨w.heap.size, 1, none⟩ = some (.slice A0.ta r.txt.length A0.tc) ∧ X.cell? ⟨w.heap.size, 2, none⟩ = some (.slice A0.ga r.got.length A0.gc) ∧ X.cell? ⟨w.heap.size, 3, none⟩ = some (.slice A0.sa r.sus.length A0.sc)) ∧ X.cell? ⟨w.heap.size, 4, none⟩ = some (.bool r.wed) ∧ X.cell? ⟨w.heap.size, 5, none⟩ = some (.bool r.rdy) ∧ X.cell? ⟨w.heap.size, 6, none⟩ = some (.int .i64 r.by_) ∧ X.cell? ⟨w.heap.size, 7, none⟩ = some (.slice A0.ma r.trm.length A0.mc)) ∧ ((X.cell? ⟨wx0.heap.size, 0, none⟩ = some (.int .i64 r.ver) ∧ X.cell? ⟨wx0.heap.size, 1, none⟩ = some (.slice Ax0.ta r.txt.length Ax0.tc) ∧ X.cell? ⟨wx0.heap.size, 2, none⟩ = some (.slice Ax0.ga r.got.length Ax0.gc) ∧ X.cell? ⟨wx0.heap.size, 3, none⟩ = some (.slice Ax0.sa r.sus.length Ax0.sc)) ∧ X.cell? ⟨wx0.heap.size, 4, none⟩ = some (.bool r.wed) ∧ X.cell? ⟨wx0.heap.size, 5, none⟩ = some (.bool r.rdy) ∧ X.cell? ⟨wx0.heap.size, 6, none⟩ = some (.int .i64 r.by_) ∧ X.cell? ⟨wx0.heap.size, 7, none⟩ = some (.slice Ax0.ma r.trm.length Ax0.mc)) := fun X hX => ⟨Bx.r8 (h27.below hX), Bx.r8 (h29.below hX)⟩
  have bd : Below wi.heap.size wi (wi.drewN 1) := belowN (Below.refl _ _)
  have hTo2 := fun X (h : Below wi.heap.size wi X) => hT0 X (B26.trans (h.mono B26.size))
  have hEq2 := fun X (A7 : Ra) (h : Below wi.heap.size wi X) (h7 : ∃ lo hi, It X (rwCels r) (rwVals A7 r) lo hi) => hEE0 X Ax0 A7 (h28.below h) h7.choose_spec.choose_spec
  skip
  go_wp2_with fail
  go_region_held3 (fun X => ((X.cell? ⟨w.heap.size, 0, none⟩ = some (.int .i64 r.ver) ∧ X.cell? ⟨w.heap.size, 1, none⟩ = some (.slice A0.ta r.txt.length A0.tc) ∧ X.cell? ⟨w.heap.size, 2, none⟩ = some (.slice A0.ga r.got.length A0.gc) ∧ X.cell? ⟨w.heap.size, 3, none⟩ = some (.slice A0.sa r.sus.length A0.sc)) ∧ X.cell? ⟨w.heap.size, 4, none⟩ = some (.bool r.wed) ∧ X.cell? ⟨w.heap.size, 5, none⟩ = some (.bool r.rdy) ∧ X.cell? ⟨w.heap.size, 6, none⟩ = some (.int .i64 r.by_) ∧ X.cell? ⟨w.heap.size, 7, none⟩ = some (.slice A0.ma r.trm.length A0.mc)) ∧ ((X.cell? ⟨wx0.heap.size, 0, none⟩ = some (.int .i64 r.ver) ∧ X.cell? ⟨wx0.heap.size, 1, none⟩ = some (.slice Ax0.ta r.txt.length Ax0.tc) ∧ X.cell? ⟨wx0.heap.size, 2, none⟩ = some (.slice Ax0.ga r.got.length Ax0.gc) ∧ X.cell? ⟨wx0.heap.size, 3, none⟩ = some (.slice Ax0.sa r.sus.length Ax0.sc)) ∧ X.cell? ⟨wx0.heap.size, 4, none⟩ = some (.bool r.wed) ∧ X.cell? ⟨wx0.heap.size, 5, none⟩ = some (.bool r.rdy) ∧ X.cell? ⟨wx0.heap.size, 6, none⟩ = some (.int .i64 r.by_) ∧ X.cell? ⟨wx0.heap.size, 7, none⟩ = some (.slice Ax0.ma r.trm.length Ax0.mc)))
    (first | exact KS _ b8 | exact KS _ b7b | exact KS _ bd)
    (first
      | (go_at_call 41; refine (hTo2 _ bd).mono ?_; rintro e t0 ⟨A7, rfl, i7, hb7⟩; have b7b : Below wi.heap.size wi t0 := bd.trans (hb7.mono bd.size))
      | (go_at_call 42; refine (hEq2 t0 A7 b7b ⟨_, _, i7⟩).mono ?_; rintro e u0 ⟨rfl, hb8⟩; have b8 : Below wi.heap.size wi u0 := b7b.trans (hb8.mono b7b.size)))
  clear KS bd hTo2 hEq2 i7 hb7 b7b hb8
  have B30 : Below w.heap.size w u0 := B26.trans (b8.mono B26.size)
  have sB30 : wi.heap.size ≤ u0.heap.size := b8.size
  have h31 := h27.below b8
  have h32 := h28.below b8
  have h33 := h29.below b8
  clear B26 h27 h28 h29
  go_wp2
  go_ret
  exact ⟨rfl, B30⟩

set_option maxRecDepth 100000 in
set_option maxHeartbeats 6400000 in
theorem lawLater (hI : ImplLater) (A0 : Ra) (r : Rw) (A1 : Ra) (s : Rw) (w : World) (hv0 : RwS w A0 r) (hg0 : LongT r.txt) (h60 : Rw64 r) (hv1 : RwS w A1 s) (hg1 : LongT s.txt) (h61 : Rw64 s) :
    Calls Try.prog 8 #[rwV A0 r, rwV A1 s] w fun e w' => e = .returned (.bool true) ∧ Below w.heap.size w w' := by
  have hf0 : FitR r := hv0.fit
  have hZ0 : ∀ (X : World) (left : Int), Below w.heap.size w X → (0 ≤ left ∧ left ≤ 1048576) → Calls Try.prog 40 #[rwV A0 r, .int .i64 left] X fun e w' => ∃ q : Int, e = .returned (.int .i64 q) ∧ (q = -1 ∨ 0 ≤ q ∧ q + (szRw r : Int) = left) ∧ Below X.heap.size X w' := fun X left hX hl => szRw_any A0 r left X (hv0.below hX) hg0 hl
  have hTo0 : szRw r ≤ 1048576 → ∀ X, Below w.heap.size w X → Calls Try.prog 41 #[rwV A0 r] X fun e w' => ∃ A', e = .returned (rwV A' r) ∧ It w' (rwCels r) (rwVals A' r) X.heap.size w'.heap.size ∧ Below X.heap.size X w' := fun hs X hX => (toRw_any A0 r X (hv0.below hX) (by unfold szRw at hs; omega) (by unfold szRw at hs; omega) (by unfold szRw at hs; omega) (by unfold szRw at hs; omega)).mono (fun e w' h => h.it)
  have hE0 : szRw r ≤ 1048576 → ∀ (X : World) (A1 A2 : Ra) {l1 h1 l2 h2 : Nat}, It X (rwCels r) (rwVals A1 r) l1 h1 → It X (rwCels r) (rwVals A2 r) l2 h2 → Calls Try.prog 42 #[rwV A1 r, rwV A2 r] X fun e w' => e = .returned (.bool true) ∧ Below X.heap.size X w' := fun hs X A1 A2 l1 h1 l2 h2 i1 i2 => eqRw_any A1 A2 r X (it_rws i1 hf0 hs) (it_rws i2 hf0 hs)
  have hf1 : FitR s := hv1.fit
  have hZ1 : ∀ (X : World) (left : Int), Below w.heap.size w X → (0 ≤ left ∧ left ≤ 1048576) → Calls Try.prog 40 #[rwV A1 s, .int .i64 left] X fun e w' => ∃ q : Int, e = .returned (.int .i64 q) ∧ (q = -1 ∨ 0 ≤ q ∧ q + (szRw s : Int) = left) ∧ Below X.heap.size X w' := fun X left hX hl => szRw_any A1 s left X (hv1.below hX) hg1 hl
  have hTo1 : szRw s ≤ 1048576 → ∀ X, Below w.heap.size w X → Calls Try.prog 41 #[rwV A1 s] X fun e w' => ∃ A', e = .returned (rwV A' s) ∧ It w' (rwCels s) (rwVals A' s) X.heap.size w'.heap.size ∧ Below X.heap.size X w' := fun hs X hX => (toRw_any A1 s X (hv1.below hX) (by unfold szRw at hs; omega) (by unfold szRw at hs; omega) (by unfold szRw at hs; omega) (by unfold szRw at hs; omega)).mono (fun e w' h => h.it)
  have hE1 : szRw s ≤ 1048576 → ∀ (X : World) (A1 A2 : Ra) {l1 h1 l2 h2 : Nat}, It X (rwCels s) (rwVals A1 s) l1 h1 → It X (rwCels s) (rwVals A2 s) l2 h2 → Calls Try.prog 42 #[rwV A1 s, rwV A2 s] X fun e w' => e = .returned (.bool true) ∧ Below X.heap.size X w' := fun hs X A1 A2 l1 h1 l2 h2 i1 i2 => eqRw_any A1 A2 s X (it_rws i1 hf1 hs) (it_rws i2 hf1 hs)
  have hSp : szRw r ≤ 1048576 → szRw s ≤ 1048576 → ∀ (X : World) (B0 : Ra) (B1 : Ra) {l0 u0 : Nat} {l1 u1 : Nat}, It X (rwCels r) (rwVals B0 r) l0 u0 → It X (rwCels s) (rwVals B1 s) l1 u1 → Calls Try.prog 34 #[rwV B0 r, rwV B1 s] X fun e w' => e = .returned (.bool (decide (s.ver < r.ver))) ∧ Below X.heap.size X w' := fun hs0 hs1 X B0 B1 l0 u0 l1 u1 i0 i1 => latS_any B0 B1 r s X
  have hIm : szRw r ≤ 1048576 → szRw s ≤ 1048576 → ∀ (X : World) (B0 : Ra) (B1 : Ra) {l0 u0 : Nat} {l1 u1 : Nat}, It X (rwCels r) (rwVals B0 r) l0 u0 → It X (rwCels s) (rwVals B1 s) l1 u1 → Calls Try.prog 33 #[rwV B0 r, rwV B1 s] X fun e w' => e = .returned (.bool (decide (s.ver < r.ver))) ∧ Below X.heap.size X w' := fun hs0 hs1 X B0 B1 l0 u0 l1 u1 i0 i1 => hI B0 B1 r s X (it_rwp i0 hf0 h60 hs0) (it_rwp i1 hf1 h61 hs1)
  generalize decide (s.ver < r.ver) = Q at *
  have ne : (Q != Q) = false := by simp
  clear hI hv0 hv1
  unfold rwV rwC at *
  have hb00 : Below w.heap.size w w := Below.refl _ _
  have b2 := oneA16 w (.cells #[.int .i64 r.ver, .slice A0.ta r.txt.length A0.tc, .slice A0.ga r.got.length A0.gc, .slice A0.sa r.sus.length A0.sc, .bool r.wed, .bool r.rdy, .int .i64 r.by_, .slice A0.ma r.trm.length A0.mc] 47)
  have h3 := Bx.new w 47 #[.int .i64 r.ver, .slice A0.ta r.txt.length A0.tc, .slice A0.ga r.got.length A0.gc, .slice A0.sa r.sus.length A0.sc, .bool r.wed, .bool r.rdy, .int .i64 r.by_, .slice A0.ma r.trm.length A0.mc]
  generalize hX1 : w.alloc (.cells #[.int .i64 r.ver, .slice A0.ta r.txt.length A0.tc, .slice A0.ga r.got.length A0.gc, .slice A0.sa r.sus.length A0.sc, .bool r.wed, .bool r.rdy, .int .i64 r.by_, .slice A0.ma r.trm.length A0.mc] 47) = X1 at *
  have B5 : Below w.heap.size w X1 := hb00.trans (b2.mono hb00.size)
  have sB5 : w.heap.size ≤ X1.heap.size := b2.size
  clear hb00
  have k4 : w.heap.size < X1.heap.size := h3.lt
  clear b2
  have b7 := oneA16 X1 (.cells #[.int .i64 s.ver, .slice A1.ta s.txt.length A1.tc, .slice A1.ga s.got.length A1.gc, .slice A1.sa s.sus.length A1.sc, .bool s.wed, .bool s.rdy, .int .i64 s.by_, .slice A1.ma s.trm.length A1.mc] 47)
  have h8 := Bx.new X1 47 #[.int .i64 s.ver, .slice A1.ta s.txt.length A1.tc, .slice A1.ga s.got.length A1.gc, .slice A1.sa s.sus.length A1.sc, .bool s.wed, .bool s.rdy, .int .i64 s.by_, .slice A1.ma s.trm.length A1.mc]
  generalize hX6 : X1.alloc (.cells #[.int .i64 s.ver, .slice A1.ta s.txt.length A1.tc, .slice A1.ga s.got.length A1.gc, .slice A1.sa s.sus.length A1.sc, .bool s.wed, .bool s.rdy, .int .i64 s.by_, .slice A1.ma s.trm.length A1.mc] 47) = X6 at *
  have B10 : Below w.heap.size w X6 := B5.trans (b7.mono B5.size)
  have sB10 : X1.heap.size ≤ X6.heap.size := b7.size
  have h11 := h3.below b7
  clear B5 h3
  have k9 : X1.heap.size < X6.heap.size := h8.lt
  clear b7
  go_enter Try.func8, Try.ntmps8
  obtain ⟨⟨c120, c121, c122, c123⟩, c124, c125, c126, c127⟩ := Bx.r8 h11
  go_wp2_with fail
  refine (hZ0 X6 1048576 B10 ⟨by omega, by omega⟩).mono ?_
  rintro e z0 ⟨q0, rfl, hq0, hbz0⟩
  clear c120 c121 c122 c123 c124 c125 c126 c127
  have B13 : Below w.heap.size w z0 := B10.trans (hbz0.mono B10.size)
  have sB13 : X6.heap.size ≤ z0.heap.size := hbz0.size
  have h14 := h11.below hbz0
  have h15 := h8.below hbz0
  clear B10 h11 h8
  rcases hq0 with rfl | ⟨hqa0, hqb0⟩
  · go_wp2
    go_ret
    exact ⟨rfl, B13⟩
  have hqn0 : decide (q0 < 0) = false := by simp; omega
  obtain ⟨⟨c160, c161, c162, c163⟩, c164, c165, c166, c167⟩ := Bx.r8 h15
  go_wp2_with fail
  refine (hZ1 z0 q0 B13 ⟨by omega, by omega⟩).mono ?_
  rintro e z1 ⟨q1, rfl, hq1, hbz1⟩
  clear c160 c161 c162 c163 c164 c165 c166 c167
  have B17 : Below w.heap.size w z1 := B13.trans (hbz1.mono B13.size)
  have sB17 : z0.heap.size ≤ z1.heap.size := hbz1.size
  have h18 := h14.below hbz1
  have h19 := h15.below hbz1
  clear B13 h14 h15
  rcases hq1 with rfl | ⟨hqa1, hqb1⟩
  · go_wp2
    go_ret
    exact ⟨rfl, B17⟩
  have hqn1 : decide (q1 < 0) = false := by simp; omega
  have hs0 : szRw r ≤ 1048576 := by omega
  have hs1 : szRw s ≤ 1048576 := by omega
  have hT0 := hTo0 hs0
  have hEE0 := hE0 hs0
  have hT1 := hTo1 hs1
  have hEE1 := hE1 hs1
  have hS2 := hSp hs0 hs1
  have hI2 := hIm hs0 hs1
  clear hSp hIm hTo0 hE0 hZ0 hTo1 hE1 hZ1
  have KS : ∀ X, Below z1.heap.size z1 X → ((X.cell? ⟨w.heap.size, 0, none⟩ = some (.int .i64 r.ver) ∧ X.cell? ⟨w.heap.size, 1, none⟩ = some (.slice A0.ta r.txt.length A0.tc) ∧ X.cell? ⟨w.heap.size, 2, none⟩ = some (.slice A0.ga r.got.length A0.gc) ∧ X.cell? ⟨w.heap.size, 3, none⟩ = some (.slice A0.sa r.sus.length A0.sc)) ∧ X.cell? ⟨w.heap.size, 4, none⟩ = some (.bool r.wed) ∧ X.cell? ⟨w.heap.size, 5, none⟩ = some (.bool r.rdy) ∧ X.cell? ⟨w.heap.size, 6, none⟩ = some (.int .i64 r.by_) ∧ X.cell? ⟨w.heap.size, 7, none⟩ = some (.slice A0.ma r.trm.length A0.mc)) ∧ ((X.cell? ⟨X1.heap.size, 0, none⟩ = some (.int .i64 s.ver) ∧ X.cell? ⟨X1.heap.size, 1, none⟩ = some (.slice A1.ta s.txt.length A1.tc) ∧ X.cell? ⟨X1.heap.size, 2, none⟩ = some (.slice A1.ga s.got.length A1.gc) ∧ X.cell? ⟨X1.heap.size, 3, none⟩ = some (.slice A1.sa s.sus.length A1.sc)) ∧ X.cell? ⟨X1.heap.size, 4, none⟩ = some (.bool s.wed) ∧ X.cell? ⟨X1.heap.size, 5, none⟩ = some (.bool s.rdy) ∧ X.cell? ⟨X1.heap.size, 6, none⟩ = some (.int .i64 s.by_) ∧ X.cell? ⟨X1.heap.size, 7, none⟩ = some (.slice A1.ma s.trm.length A1.mc)) := fun X hX => ⟨Bx.r8 (h18.below hX), Bx.r8 (h19.below hX)⟩
  have bd : Below z1.heap.size z1 (z1.drewN 1) := belowN (Below.refl _ _)
  have hTa := fun X (h : Below z1.heap.size z1 X) => hT0 X (B17.trans (h.mono B17.size))
  have hTb := fun X (h : Below z1.heap.size z1 X) => hT1 X (B17.trans (h.mono B17.size))
  go_wp2_with fail
  go_region_held3 (fun X => ((X.cell? ⟨w.heap.size, 0, none⟩ = some (.int .i64 r.ver) ∧ X.cell? ⟨w.heap.size, 1, none⟩ = some (.slice A0.ta r.txt.length A0.tc) ∧ X.cell? ⟨w.heap.size, 2, none⟩ = some (.slice A0.ga r.got.length A0.gc) ∧ X.cell? ⟨w.heap.size, 3, none⟩ = some (.slice A0.sa r.sus.length A0.sc)) ∧ X.cell? ⟨w.heap.size, 4, none⟩ = some (.bool r.wed) ∧ X.cell? ⟨w.heap.size, 5, none⟩ = some (.bool r.rdy) ∧ X.cell? ⟨w.heap.size, 6, none⟩ = some (.int .i64 r.by_) ∧ X.cell? ⟨w.heap.size, 7, none⟩ = some (.slice A0.ma r.trm.length A0.mc)) ∧ ((X.cell? ⟨X1.heap.size, 0, none⟩ = some (.int .i64 s.ver) ∧ X.cell? ⟨X1.heap.size, 1, none⟩ = some (.slice A1.ta s.txt.length A1.tc) ∧ X.cell? ⟨X1.heap.size, 2, none⟩ = some (.slice A1.ga s.got.length A1.gc) ∧ X.cell? ⟨X1.heap.size, 3, none⟩ = some (.slice A1.sa s.sus.length A1.sc)) ∧ X.cell? ⟨X1.heap.size, 4, none⟩ = some (.bool s.wed) ∧ X.cell? ⟨X1.heap.size, 5, none⟩ = some (.bool s.rdy) ∧ X.cell? ⟨X1.heap.size, 6, none⟩ = some (.int .i64 s.by_) ∧ X.cell? ⟨X1.heap.size, 7, none⟩ = some (.slice A1.ma s.trm.length A1.mc)))
    (first | exact KS _ bws | exact KS _ bs1 | exact KS _ bs0 | exact KS _ bd)
    (first
      | (go_at_call 41; refine (hTb _ bs0).mono ?_; rintro e s1 ⟨As1, rfl, is1, hbs1⟩; have bs1 : Below z1.heap.size z1 s1 := bs0.trans (hbs1.mono bs0.size); have is2 := is0.below hbs1)
      | (go_at_call 41; refine (hTa _ bd).mono ?_; rintro e s0 ⟨As0, rfl, is0, hbs0⟩; have bs0 : Below z1.heap.size z1 s0 := bd.trans (hbs0.mono bd.size))
      | (go_at_call 34; refine (hS2 _ _ _ is2 is1).mono ?_; rintro e ws ⟨rfl, hbs⟩; have bws : Below z1.heap.size z1 ws := bs1.trans (hbs.mono bs1.size)))
  clear KS bd hTa hTb is0 is1 is2 hbs0 hbs1 bs0 bs1 hbs
  have B20 : Below w.heap.size w ws := B17.trans (bws.mono B17.size)
  have sB20 : z1.heap.size ≤ ws.heap.size := bws.size
  have h21 := h18.below bws
  have h22 := h19.below bws
  clear B17 h18 h19
  obtain ⟨⟨c230, c231, c232, c233⟩, c234, c235, c236, c237⟩ := Bx.r8 h21
  go_wp2_with fail
  refine (hT0 ws B20).mono ?_
  rintro e wx0 ⟨Ax0, rfl, ix0, hbx0⟩
  clear c230 c231 c232 c233 c234 c235 c236 c237
  have B24 : Below w.heap.size w wx0 := B20.trans (hbx0.mono B20.size)
  have sB24 : ws.heap.size ≤ wx0.heap.size := hbx0.size
  have h25 := h21.below hbx0
  have h26 := h22.below hbx0
  clear B20 h21 h22
  have b28 := oneA16 wx0 (.cells #[.int .i64 r.ver, .slice Ax0.ta r.txt.length Ax0.tc, .slice Ax0.ga r.got.length Ax0.gc, .slice Ax0.sa r.sus.length Ax0.sc, .bool r.wed, .bool r.rdy, .int .i64 r.by_, .slice Ax0.ma r.trm.length Ax0.mc] 35)
  have h29 := Bx.new wx0 35 #[.int .i64 r.ver, .slice Ax0.ta r.txt.length Ax0.tc, .slice Ax0.ga r.got.length Ax0.gc, .slice Ax0.sa r.sus.length Ax0.sc, .bool r.wed, .bool r.rdy, .int .i64 r.by_, .slice Ax0.ma r.trm.length Ax0.mc]
  generalize hX27 : wx0.alloc (.cells #[.int .i64 r.ver, .slice Ax0.ta r.txt.length Ax0.tc, .slice Ax0.ga r.got.length Ax0.gc, .slice Ax0.sa r.sus.length Ax0.sc, .bool r.wed, .bool r.rdy, .int .i64 r.by_, .slice Ax0.ma r.trm.length Ax0.mc] 35) = X27 at *
  have B31 : Below w.heap.size w X27 := B24.trans (b28.mono B24.size)
  have sB31 : wx0.heap.size ≤ X27.heap.size := b28.size
  have h32 := h25.below b28
  have h33 := h26.below b28
  have h34 := ix0.below b28
  clear B24 h25 h26 ix0
  have k30 : wx0.heap.size < X27.heap.size := h29.lt
  clear b28
  obtain ⟨⟨c350, c351, c352, c353⟩, c354, c355, c356, c357⟩ := Bx.r8 h33
  go_wp2_with fail
  refine (hT1 X27 B31).mono ?_
  rintro e wx1 ⟨Ax1, rfl, ix1, hbx1⟩
  clear c350 c351 c352 c353 c354 c355 c356 c357
  have B36 : Below w.heap.size w wx1 := B31.trans (hbx1.mono B31.size)
  have sB36 : X27.heap.size ≤ wx1.heap.size := hbx1.size
  have h37 := h32.below hbx1
  have h38 := h33.below hbx1
  have h39 := h34.below hbx1
  have h40 := h29.below hbx1
  clear B31 h32 h33 h34 h29
  have b42 := oneA16 wx1 (.cells #[.int .i64 s.ver, .slice Ax1.ta s.txt.length Ax1.tc, .slice Ax1.ga s.got.length Ax1.gc, .slice Ax1.sa s.sus.length Ax1.sc, .bool s.wed, .bool s.rdy, .int .i64 s.by_, .slice Ax1.ma s.trm.length Ax1.mc] 35)
  have h43 := Bx.new wx1 35 #[.int .i64 s.ver, .slice Ax1.ta s.txt.length Ax1.tc, .slice Ax1.ga s.got.length Ax1.gc, .slice Ax1.sa s.sus.length Ax1.sc, .bool s.wed, .bool s.rdy, .int .i64 s.by_, .slice Ax1.ma s.trm.length Ax1.mc]
  generalize hX41 : wx1.alloc (.cells #[.int .i64 s.ver, .slice Ax1.ta s.txt.length Ax1.tc, .slice Ax1.ga s.got.length Ax1.gc, .slice Ax1.sa s.sus.length Ax1.sc, .bool s.wed, .bool s.rdy, .int .i64 s.by_, .slice Ax1.ma s.trm.length Ax1.mc] 35) = X41 at *
  have B45 : Below w.heap.size w X41 := B36.trans (b42.mono B36.size)
  have sB45 : wx1.heap.size ≤ X41.heap.size := b42.size
  have h46 := h37.below b42
  have h47 := h38.below b42
  have h48 := h39.below b42
  have h49 := h40.below b42
  have h50 := ix1.below b42
  clear B36 h37 h38 h39 h40 ix1
  have k44 : wx1.heap.size < X41.heap.size := h43.lt
  clear b42
  obtain ⟨⟨c510, c511, c512, c513⟩, c514, c515, c516, c517⟩ := Bx.r8 h49
  obtain ⟨⟨c520, c521, c522, c523⟩, c524, c525, c526, c527⟩ := Bx.r8 h43
  go_wp2_with fail
  refine (hI2 X41 _ _ h48 h50).mono ?_
  rintro e wi ⟨rfl, hbi⟩
  have B53 : Below w.heap.size w wi := B45.trans (hbi.mono B45.size)
  have sB53 : X41.heap.size ≤ wi.heap.size := hbi.size
  have h54 := h46.below hbi
  have h55 := h47.below hbi
  have h56 := h48.below hbi
  have h57 := h49.below hbi
  have h58 := h50.below hbi
  have h59 := h43.below hbi
  clear B45 h46 h47 h48 h49 h50 h43
  clear c510 c511 c512 c513 c514 c515 c516 c517 c520 c521 c522 c523 c524 c525 c526 c527
  have KS : ∀ X, Below wi.heap.size wi X → ((X.cell? ⟨w.heap.size, 0, none⟩ = some (.int .i64 r.ver) ∧ X.cell? ⟨w.heap.size, 1, none⟩ = some (.slice A0.ta r.txt.length A0.tc) ∧ X.cell? ⟨w.heap.size, 2, none⟩ = some (.slice A0.ga r.got.length A0.gc) ∧ X.cell? ⟨w.heap.size, 3, none⟩ = some (.slice A0.sa r.sus.length A0.sc)) ∧ X.cell? ⟨w.heap.size, 4, none⟩ = some (.bool r.wed) ∧ X.cell? ⟨w.heap.size, 5, none⟩ = some (.bool r.rdy) ∧ X.cell? ⟨w.heap.size, 6, none⟩ = some (.int .i64 r.by_) ∧ X.cell? ⟨w.heap.size, 7, none⟩ = some (.slice A0.ma r.trm.length A0.mc)) ∧ ((X.cell? ⟨wx0.heap.size, 0, none⟩ = some (.int .i64 r.ver) ∧ X.cell? ⟨wx0.heap.size, 1, none⟩ = some (.slice Ax0.ta r.txt.length Ax0.tc) ∧ X.cell? ⟨wx0.heap.size, 2, none⟩ = some (.slice Ax0.ga r.got.length Ax0.gc) ∧ X.cell? ⟨wx0.heap.size, 3, none⟩ = some (.slice Ax0.sa r.sus.length Ax0.sc)) ∧ X.cell? ⟨wx0.heap.size, 4, none⟩ = some (.bool r.wed) ∧ X.cell? ⟨wx0.heap.size, 5, none⟩ = some (.bool r.rdy) ∧ X.cell? ⟨wx0.heap.size, 6, none⟩ = some (.int .i64 r.by_) ∧ X.cell? ⟨wx0.heap.size, 7, none⟩ = some (.slice Ax0.ma r.trm.length Ax0.mc)) := fun X hX => ⟨Bx.r8 (h54.below hX), Bx.r8 (h57.below hX)⟩
  have bd : Below wi.heap.size wi (wi.drewN 1) := belowN (Below.refl _ _)
  have hTo2 := fun X (h : Below wi.heap.size wi X) => hT0 X (B53.trans (h.mono B53.size))
  have hEq2 := fun X (A7 : Ra) (h : Below wi.heap.size wi X) (h7 : ∃ lo hi, It X (rwCels r) (rwVals A7 r) lo hi) => hEE0 X Ax0 A7 (h56.below h) h7.choose_spec.choose_spec
  skip
  go_wp2_with fail
  go_region_held3 (fun X => ((X.cell? ⟨w.heap.size, 0, none⟩ = some (.int .i64 r.ver) ∧ X.cell? ⟨w.heap.size, 1, none⟩ = some (.slice A0.ta r.txt.length A0.tc) ∧ X.cell? ⟨w.heap.size, 2, none⟩ = some (.slice A0.ga r.got.length A0.gc) ∧ X.cell? ⟨w.heap.size, 3, none⟩ = some (.slice A0.sa r.sus.length A0.sc)) ∧ X.cell? ⟨w.heap.size, 4, none⟩ = some (.bool r.wed) ∧ X.cell? ⟨w.heap.size, 5, none⟩ = some (.bool r.rdy) ∧ X.cell? ⟨w.heap.size, 6, none⟩ = some (.int .i64 r.by_) ∧ X.cell? ⟨w.heap.size, 7, none⟩ = some (.slice A0.ma r.trm.length A0.mc)) ∧ ((X.cell? ⟨wx0.heap.size, 0, none⟩ = some (.int .i64 r.ver) ∧ X.cell? ⟨wx0.heap.size, 1, none⟩ = some (.slice Ax0.ta r.txt.length Ax0.tc) ∧ X.cell? ⟨wx0.heap.size, 2, none⟩ = some (.slice Ax0.ga r.got.length Ax0.gc) ∧ X.cell? ⟨wx0.heap.size, 3, none⟩ = some (.slice Ax0.sa r.sus.length Ax0.sc)) ∧ X.cell? ⟨wx0.heap.size, 4, none⟩ = some (.bool r.wed) ∧ X.cell? ⟨wx0.heap.size, 5, none⟩ = some (.bool r.rdy) ∧ X.cell? ⟨wx0.heap.size, 6, none⟩ = some (.int .i64 r.by_) ∧ X.cell? ⟨wx0.heap.size, 7, none⟩ = some (.slice Ax0.ma r.trm.length Ax0.mc)))
    (first | exact KS _ b8 | exact KS _ b7b | exact KS _ bd)
    (first
      | (go_at_call 41; refine (hTo2 _ bd).mono ?_; rintro e t0 ⟨A7, rfl, i7, hb7⟩; have b7b : Below wi.heap.size wi t0 := bd.trans (hb7.mono bd.size))
      | (go_at_call 42; refine (hEq2 t0 A7 b7b ⟨_, _, i7⟩).mono ?_; rintro e u0 ⟨rfl, hb8⟩; have b8 : Below wi.heap.size wi u0 := b7b.trans (hb8.mono b7b.size)))
  clear KS bd hTo2 hEq2 i7 hb7 b7b hb8
  have B60 : Below w.heap.size w u0 := B53.trans (b8.mono B53.size)
  have sB60 : wi.heap.size ≤ u0.heap.size := b8.size
  have h61 := h54.below b8
  have h62 := h55.below b8
  have h63 := h56.below b8
  have h64 := h57.below b8
  have h65 := h58.below b8
  have h66 := h59.below b8
  clear B53 h54 h55 h56 h57 h58 h59
  have KS : ∀ X, Below u0.heap.size u0 X → ((X.cell? ⟨X1.heap.size, 0, none⟩ = some (.int .i64 s.ver) ∧ X.cell? ⟨X1.heap.size, 1, none⟩ = some (.slice A1.ta s.txt.length A1.tc) ∧ X.cell? ⟨X1.heap.size, 2, none⟩ = some (.slice A1.ga s.got.length A1.gc) ∧ X.cell? ⟨X1.heap.size, 3, none⟩ = some (.slice A1.sa s.sus.length A1.sc)) ∧ X.cell? ⟨X1.heap.size, 4, none⟩ = some (.bool s.wed) ∧ X.cell? ⟨X1.heap.size, 5, none⟩ = some (.bool s.rdy) ∧ X.cell? ⟨X1.heap.size, 6, none⟩ = some (.int .i64 s.by_) ∧ X.cell? ⟨X1.heap.size, 7, none⟩ = some (.slice A1.ma s.trm.length A1.mc)) ∧ ((X.cell? ⟨wx1.heap.size, 0, none⟩ = some (.int .i64 s.ver) ∧ X.cell? ⟨wx1.heap.size, 1, none⟩ = some (.slice Ax1.ta s.txt.length Ax1.tc) ∧ X.cell? ⟨wx1.heap.size, 2, none⟩ = some (.slice Ax1.ga s.got.length Ax1.gc) ∧ X.cell? ⟨wx1.heap.size, 3, none⟩ = some (.slice Ax1.sa s.sus.length Ax1.sc)) ∧ X.cell? ⟨wx1.heap.size, 4, none⟩ = some (.bool s.wed) ∧ X.cell? ⟨wx1.heap.size, 5, none⟩ = some (.bool s.rdy) ∧ X.cell? ⟨wx1.heap.size, 6, none⟩ = some (.int .i64 s.by_) ∧ X.cell? ⟨wx1.heap.size, 7, none⟩ = some (.slice Ax1.ma s.trm.length Ax1.mc)) := fun X hX => ⟨Bx.r8 (h62.below hX), Bx.r8 (h66.below hX)⟩
  have bd : Below u0.heap.size u0 (u0.drewN 1) := belowN (Below.refl _ _)
  have hTo2 := fun X (h : Below u0.heap.size u0 X) => hT1 X (B60.trans (h.mono B60.size))
  have hEq2 := fun X (A7 : Ra) (h : Below u0.heap.size u0 X) (h7 : ∃ lo hi, It X (rwCels s) (rwVals A7 s) lo hi) => hEE1 X Ax1 A7 (h65.below h) h7.choose_spec.choose_spec
  skip
  go_wp2_with fail
  go_region_held3 (fun X => ((X.cell? ⟨X1.heap.size, 0, none⟩ = some (.int .i64 s.ver) ∧ X.cell? ⟨X1.heap.size, 1, none⟩ = some (.slice A1.ta s.txt.length A1.tc) ∧ X.cell? ⟨X1.heap.size, 2, none⟩ = some (.slice A1.ga s.got.length A1.gc) ∧ X.cell? ⟨X1.heap.size, 3, none⟩ = some (.slice A1.sa s.sus.length A1.sc)) ∧ X.cell? ⟨X1.heap.size, 4, none⟩ = some (.bool s.wed) ∧ X.cell? ⟨X1.heap.size, 5, none⟩ = some (.bool s.rdy) ∧ X.cell? ⟨X1.heap.size, 6, none⟩ = some (.int .i64 s.by_) ∧ X.cell? ⟨X1.heap.size, 7, none⟩ = some (.slice A1.ma s.trm.length A1.mc)) ∧ ((X.cell? ⟨wx1.heap.size, 0, none⟩ = some (.int .i64 s.ver) ∧ X.cell? ⟨wx1.heap.size, 1, none⟩ = some (.slice Ax1.ta s.txt.length Ax1.tc) ∧ X.cell? ⟨wx1.heap.size, 2, none⟩ = some (.slice Ax1.ga s.got.length Ax1.gc) ∧ X.cell? ⟨wx1.heap.size, 3, none⟩ = some (.slice Ax1.sa s.sus.length Ax1.sc)) ∧ X.cell? ⟨wx1.heap.size, 4, none⟩ = some (.bool s.wed) ∧ X.cell? ⟨wx1.heap.size, 5, none⟩ = some (.bool s.rdy) ∧ X.cell? ⟨wx1.heap.size, 6, none⟩ = some (.int .i64 s.by_) ∧ X.cell? ⟨wx1.heap.size, 7, none⟩ = some (.slice Ax1.ma s.trm.length Ax1.mc)))
    (first | exact KS _ b8 | exact KS _ b7b | exact KS _ bd)
    (first
      | (go_at_call 41; refine (hTo2 _ bd).mono ?_; rintro e t1 ⟨A7, rfl, i7, hb7⟩; have b7b : Below u0.heap.size u0 t1 := bd.trans (hb7.mono bd.size))
      | (go_at_call 42; refine (hEq2 t1 A7 b7b ⟨_, _, i7⟩).mono ?_; rintro e u1 ⟨rfl, hb8⟩; have b8 : Below u0.heap.size u0 u1 := b7b.trans (hb8.mono b7b.size)))
  clear KS bd hTo2 hEq2 i7 hb7 b7b hb8
  have B67 : Below w.heap.size w u1 := B60.trans (b8.mono B60.size)
  have sB67 : u0.heap.size ≤ u1.heap.size := b8.size
  have h68 := h61.below b8
  have h69 := h62.below b8
  have h70 := h63.below b8
  have h71 := h64.below b8
  have h72 := h65.below b8
  have h73 := h66.below b8
  clear B60 h61 h62 h63 h64 h65 h66
  go_wp2
  go_ret
  exact ⟨rfl, B67⟩

set_option maxRecDepth 100000 in
set_option maxHeartbeats 6400000 in
theorem lawFollows (hI : ImplFollows) (A0 : Ra) (r : Rw) (A1 : Ra) (s : Rw) (n : Int) (w : World) (hv0 : RwS w A0 r) (hg0 : LongT r.txt) (h60 : Rw64 r) (hv1 : RwS w A1 s) (hg1 : LongT s.txt) (h61 : Rw64 s) (h62 : I64v n) :
    Calls Try.prog 7 #[rwV A0 r, rwV A1 s, .int .i64 n] w fun e w' => e = .returned (.bool true) ∧ Below w.heap.size w w' := by
  have hf0 : FitR r := hv0.fit
  have hZ0 : ∀ (X : World) (left : Int), Below w.heap.size w X → (0 ≤ left ∧ left ≤ 1048576) → Calls Try.prog 40 #[rwV A0 r, .int .i64 left] X fun e w' => ∃ q : Int, e = .returned (.int .i64 q) ∧ (q = -1 ∨ 0 ≤ q ∧ q + (szRw r : Int) = left) ∧ Below X.heap.size X w' := fun X left hX hl => szRw_any A0 r left X (hv0.below hX) hg0 hl
  have hTo0 : szRw r ≤ 1048576 → ∀ X, Below w.heap.size w X → Calls Try.prog 41 #[rwV A0 r] X fun e w' => ∃ A', e = .returned (rwV A' r) ∧ It w' (rwCels r) (rwVals A' r) X.heap.size w'.heap.size ∧ Below X.heap.size X w' := fun hs X hX => (toRw_any A0 r X (hv0.below hX) (by unfold szRw at hs; omega) (by unfold szRw at hs; omega) (by unfold szRw at hs; omega) (by unfold szRw at hs; omega)).mono (fun e w' h => h.it)
  have hE0 : szRw r ≤ 1048576 → ∀ (X : World) (A1 A2 : Ra) {l1 h1 l2 h2 : Nat}, It X (rwCels r) (rwVals A1 r) l1 h1 → It X (rwCels r) (rwVals A2 r) l2 h2 → Calls Try.prog 42 #[rwV A1 r, rwV A2 r] X fun e w' => e = .returned (.bool true) ∧ Below X.heap.size X w' := fun hs X A1 A2 l1 h1 l2 h2 i1 i2 => eqRw_any A1 A2 r X (it_rws i1 hf0 hs) (it_rws i2 hf0 hs)
  have hf1 : FitR s := hv1.fit
  have hZ1 : ∀ (X : World) (left : Int), Below w.heap.size w X → (0 ≤ left ∧ left ≤ 1048576) → Calls Try.prog 40 #[rwV A1 s, .int .i64 left] X fun e w' => ∃ q : Int, e = .returned (.int .i64 q) ∧ (q = -1 ∨ 0 ≤ q ∧ q + (szRw s : Int) = left) ∧ Below X.heap.size X w' := fun X left hX hl => szRw_any A1 s left X (hv1.below hX) hg1 hl
  have hTo1 : szRw s ≤ 1048576 → ∀ X, Below w.heap.size w X → Calls Try.prog 41 #[rwV A1 s] X fun e w' => ∃ A', e = .returned (rwV A' s) ∧ It w' (rwCels s) (rwVals A' s) X.heap.size w'.heap.size ∧ Below X.heap.size X w' := fun hs X hX => (toRw_any A1 s X (hv1.below hX) (by unfold szRw at hs; omega) (by unfold szRw at hs; omega) (by unfold szRw at hs; omega) (by unfold szRw at hs; omega)).mono (fun e w' h => h.it)
  have hE1 : szRw s ≤ 1048576 → ∀ (X : World) (A1 A2 : Ra) {l1 h1 l2 h2 : Nat}, It X (rwCels s) (rwVals A1 s) l1 h1 → It X (rwCels s) (rwVals A2 s) l2 h2 → Calls Try.prog 42 #[rwV A1 s, rwV A2 s] X fun e w' => e = .returned (.bool true) ∧ Below X.heap.size X w' := fun hs X A1 A2 l1 h1 l2 h2 i1 i2 => eqRw_any A1 A2 s X (it_rws i1 hf1 hs) (it_rws i2 hf1 hs)
  have hSp : szRw r ≤ 1048576 → szRw s ≤ 1048576 → ∀ (X : World) (B0 : Ra) (B1 : Ra) {l0 u0 : Nat} {l1 u1 : Nat}, It X (rwCels r) (rwVals B0 r) l0 u0 → It X (rwCels s) (rwVals B1 s) l1 u1 → Calls Try.prog 32 #[rwV B0 r, rwV B1 s, .int .i64 n] X fun e w' => e = .returned (.bool (folB r s n)) ∧ Below X.heap.size X w' := fun hs0 hs1 X B0 B1 l0 u0 l1 u1 i0 i1 => folS_any B0 B1 r s n X (it_rws i0 hf0 hs0) (it_rws i1 hf1 hs1)
  have hIm : szRw r ≤ 1048576 → szRw s ≤ 1048576 → ∀ (X : World) (B0 : Ra) (B1 : Ra) {l0 u0 : Nat} {l1 u1 : Nat}, It X (rwCels r) (rwVals B0 r) l0 u0 → It X (rwCels s) (rwVals B1 s) l1 u1 → Calls Try.prog 28 #[rwV B0 r, rwV B1 s, .int .i64 n] X fun e w' => e = .returned (.bool (folB r s n)) ∧ Below X.heap.size X w' := fun hs0 hs1 X B0 B1 l0 u0 l1 u1 i0 i1 => hI B0 B1 r s n X (it_rwp i0 hf0 h60 hs0) (it_rwp i1 hf1 h61 hs1) h62
  generalize folB r s n = Q at *
  have ne : (Q != Q) = false := by simp
  clear hI hv0 hv1
  unfold rwV rwC at *
  have hb00 : Below w.heap.size w w := Below.refl _ _
  have b2 := oneA16 w (.cells #[.int .i64 r.ver, .slice A0.ta r.txt.length A0.tc, .slice A0.ga r.got.length A0.gc, .slice A0.sa r.sus.length A0.sc, .bool r.wed, .bool r.rdy, .int .i64 r.by_, .slice A0.ma r.trm.length A0.mc] 47)
  have h3 := Bx.new w 47 #[.int .i64 r.ver, .slice A0.ta r.txt.length A0.tc, .slice A0.ga r.got.length A0.gc, .slice A0.sa r.sus.length A0.sc, .bool r.wed, .bool r.rdy, .int .i64 r.by_, .slice A0.ma r.trm.length A0.mc]
  generalize hX1 : w.alloc (.cells #[.int .i64 r.ver, .slice A0.ta r.txt.length A0.tc, .slice A0.ga r.got.length A0.gc, .slice A0.sa r.sus.length A0.sc, .bool r.wed, .bool r.rdy, .int .i64 r.by_, .slice A0.ma r.trm.length A0.mc] 47) = X1 at *
  have B5 : Below w.heap.size w X1 := hb00.trans (b2.mono hb00.size)
  have sB5 : w.heap.size ≤ X1.heap.size := b2.size
  clear hb00
  have k4 : w.heap.size < X1.heap.size := h3.lt
  clear b2
  have b7 := oneA16 X1 (.cells #[.int .i64 s.ver, .slice A1.ta s.txt.length A1.tc, .slice A1.ga s.got.length A1.gc, .slice A1.sa s.sus.length A1.sc, .bool s.wed, .bool s.rdy, .int .i64 s.by_, .slice A1.ma s.trm.length A1.mc] 47)
  have h8 := Bx.new X1 47 #[.int .i64 s.ver, .slice A1.ta s.txt.length A1.tc, .slice A1.ga s.got.length A1.gc, .slice A1.sa s.sus.length A1.sc, .bool s.wed, .bool s.rdy, .int .i64 s.by_, .slice A1.ma s.trm.length A1.mc]
  generalize hX6 : X1.alloc (.cells #[.int .i64 s.ver, .slice A1.ta s.txt.length A1.tc, .slice A1.ga s.got.length A1.gc, .slice A1.sa s.sus.length A1.sc, .bool s.wed, .bool s.rdy, .int .i64 s.by_, .slice A1.ma s.trm.length A1.mc] 47) = X6 at *
  have B10 : Below w.heap.size w X6 := B5.trans (b7.mono B5.size)
  have sB10 : X1.heap.size ≤ X6.heap.size := b7.size
  have h11 := h3.below b7
  clear B5 h3
  have k9 : X1.heap.size < X6.heap.size := h8.lt
  clear b7
  go_enter Try.func7, Try.ntmps7
  obtain ⟨⟨c120, c121, c122, c123⟩, c124, c125, c126, c127⟩ := Bx.r8 h11
  go_wp2_with fail
  refine (hZ0 X6 1048576 B10 ⟨by omega, by omega⟩).mono ?_
  rintro e z0 ⟨q0, rfl, hq0, hbz0⟩
  clear c120 c121 c122 c123 c124 c125 c126 c127
  have B13 : Below w.heap.size w z0 := B10.trans (hbz0.mono B10.size)
  have sB13 : X6.heap.size ≤ z0.heap.size := hbz0.size
  have h14 := h11.below hbz0
  have h15 := h8.below hbz0
  clear B10 h11 h8
  rcases hq0 with rfl | ⟨hqa0, hqb0⟩
  · go_wp2
    go_ret
    exact ⟨rfl, B13⟩
  have hqn0 : decide (q0 < 0) = false := by simp; omega
  obtain ⟨⟨c160, c161, c162, c163⟩, c164, c165, c166, c167⟩ := Bx.r8 h15
  go_wp2_with fail
  refine (hZ1 z0 q0 B13 ⟨by omega, by omega⟩).mono ?_
  rintro e z1 ⟨q1, rfl, hq1, hbz1⟩
  clear c160 c161 c162 c163 c164 c165 c166 c167
  have B17 : Below w.heap.size w z1 := B13.trans (hbz1.mono B13.size)
  have sB17 : z0.heap.size ≤ z1.heap.size := hbz1.size
  have h18 := h14.below hbz1
  have h19 := h15.below hbz1
  clear B13 h14 h15
  rcases hq1 with rfl | ⟨hqa1, hqb1⟩
  · go_wp2
    go_ret
    exact ⟨rfl, B17⟩
  have hqn1 : decide (q1 < 0) = false := by simp; omega
  have hs0 : szRw r ≤ 1048576 := by omega
  have hs1 : szRw s ≤ 1048576 := by omega
  have hT0 := hTo0 hs0
  have hEE0 := hE0 hs0
  have hT1 := hTo1 hs1
  have hEE1 := hE1 hs1
  have hS2 := hSp hs0 hs1
  have hI2 := hIm hs0 hs1
  clear hSp hIm hTo0 hE0 hZ0 hTo1 hE1 hZ1
  have KS : ∀ X, Below z1.heap.size z1 X → ((X.cell? ⟨w.heap.size, 0, none⟩ = some (.int .i64 r.ver) ∧ X.cell? ⟨w.heap.size, 1, none⟩ = some (.slice A0.ta r.txt.length A0.tc) ∧ X.cell? ⟨w.heap.size, 2, none⟩ = some (.slice A0.ga r.got.length A0.gc) ∧ X.cell? ⟨w.heap.size, 3, none⟩ = some (.slice A0.sa r.sus.length A0.sc)) ∧ X.cell? ⟨w.heap.size, 4, none⟩ = some (.bool r.wed) ∧ X.cell? ⟨w.heap.size, 5, none⟩ = some (.bool r.rdy) ∧ X.cell? ⟨w.heap.size, 6, none⟩ = some (.int .i64 r.by_) ∧ X.cell? ⟨w.heap.size, 7, none⟩ = some (.slice A0.ma r.trm.length A0.mc)) ∧ ((X.cell? ⟨X1.heap.size, 0, none⟩ = some (.int .i64 s.ver) ∧ X.cell? ⟨X1.heap.size, 1, none⟩ = some (.slice A1.ta s.txt.length A1.tc) ∧ X.cell? ⟨X1.heap.size, 2, none⟩ = some (.slice A1.ga s.got.length A1.gc) ∧ X.cell? ⟨X1.heap.size, 3, none⟩ = some (.slice A1.sa s.sus.length A1.sc)) ∧ X.cell? ⟨X1.heap.size, 4, none⟩ = some (.bool s.wed) ∧ X.cell? ⟨X1.heap.size, 5, none⟩ = some (.bool s.rdy) ∧ X.cell? ⟨X1.heap.size, 6, none⟩ = some (.int .i64 s.by_) ∧ X.cell? ⟨X1.heap.size, 7, none⟩ = some (.slice A1.ma s.trm.length A1.mc)) := fun X hX => ⟨Bx.r8 (h18.below hX), Bx.r8 (h19.below hX)⟩
  have bd : Below z1.heap.size z1 (z1.drewN 1) := belowN (Below.refl _ _)
  have hTa := fun X (h : Below z1.heap.size z1 X) => hT0 X (B17.trans (h.mono B17.size))
  have hTb := fun X (h : Below z1.heap.size z1 X) => hT1 X (B17.trans (h.mono B17.size))
  go_wp2_with fail
  go_region_held3 (fun X => ((X.cell? ⟨w.heap.size, 0, none⟩ = some (.int .i64 r.ver) ∧ X.cell? ⟨w.heap.size, 1, none⟩ = some (.slice A0.ta r.txt.length A0.tc) ∧ X.cell? ⟨w.heap.size, 2, none⟩ = some (.slice A0.ga r.got.length A0.gc) ∧ X.cell? ⟨w.heap.size, 3, none⟩ = some (.slice A0.sa r.sus.length A0.sc)) ∧ X.cell? ⟨w.heap.size, 4, none⟩ = some (.bool r.wed) ∧ X.cell? ⟨w.heap.size, 5, none⟩ = some (.bool r.rdy) ∧ X.cell? ⟨w.heap.size, 6, none⟩ = some (.int .i64 r.by_) ∧ X.cell? ⟨w.heap.size, 7, none⟩ = some (.slice A0.ma r.trm.length A0.mc)) ∧ ((X.cell? ⟨X1.heap.size, 0, none⟩ = some (.int .i64 s.ver) ∧ X.cell? ⟨X1.heap.size, 1, none⟩ = some (.slice A1.ta s.txt.length A1.tc) ∧ X.cell? ⟨X1.heap.size, 2, none⟩ = some (.slice A1.ga s.got.length A1.gc) ∧ X.cell? ⟨X1.heap.size, 3, none⟩ = some (.slice A1.sa s.sus.length A1.sc)) ∧ X.cell? ⟨X1.heap.size, 4, none⟩ = some (.bool s.wed) ∧ X.cell? ⟨X1.heap.size, 5, none⟩ = some (.bool s.rdy) ∧ X.cell? ⟨X1.heap.size, 6, none⟩ = some (.int .i64 s.by_) ∧ X.cell? ⟨X1.heap.size, 7, none⟩ = some (.slice A1.ma s.trm.length A1.mc)))
    (first | exact KS _ bws | exact KS _ bs1 | exact KS _ bs0 | exact KS _ bd)
    (first
      | (go_at_call 41; refine (hTb _ bs0).mono ?_; rintro e s1 ⟨As1, rfl, is1, hbs1⟩; have bs1 : Below z1.heap.size z1 s1 := bs0.trans (hbs1.mono bs0.size); have is2 := is0.below hbs1)
      | (go_at_call 41; refine (hTa _ bd).mono ?_; rintro e s0 ⟨As0, rfl, is0, hbs0⟩; have bs0 : Below z1.heap.size z1 s0 := bd.trans (hbs0.mono bd.size))
      | (go_at_call 32; refine (hS2 _ _ _ is2 is1).mono ?_; rintro e ws ⟨rfl, hbs⟩; have bws : Below z1.heap.size z1 ws := bs1.trans (hbs.mono bs1.size)))
  clear KS bd hTa hTb is0 is1 is2 hbs0 hbs1 bs0 bs1 hbs
  have B20 : Below w.heap.size w ws := B17.trans (bws.mono B17.size)
  have sB20 : z1.heap.size ≤ ws.heap.size := bws.size
  have h21 := h18.below bws
  have h22 := h19.below bws
  clear B17 h18 h19
  obtain ⟨⟨c230, c231, c232, c233⟩, c234, c235, c236, c237⟩ := Bx.r8 h21
  go_wp2_with fail
  refine (hT0 ws B20).mono ?_
  rintro e wx0 ⟨Ax0, rfl, ix0, hbx0⟩
  clear c230 c231 c232 c233 c234 c235 c236 c237
  have B24 : Below w.heap.size w wx0 := B20.trans (hbx0.mono B20.size)
  have sB24 : ws.heap.size ≤ wx0.heap.size := hbx0.size
  have h25 := h21.below hbx0
  have h26 := h22.below hbx0
  clear B20 h21 h22
  have b28 := oneA16 wx0 (.cells #[.int .i64 r.ver, .slice Ax0.ta r.txt.length Ax0.tc, .slice Ax0.ga r.got.length Ax0.gc, .slice Ax0.sa r.sus.length Ax0.sc, .bool r.wed, .bool r.rdy, .int .i64 r.by_, .slice Ax0.ma r.trm.length Ax0.mc] 35)
  have h29 := Bx.new wx0 35 #[.int .i64 r.ver, .slice Ax0.ta r.txt.length Ax0.tc, .slice Ax0.ga r.got.length Ax0.gc, .slice Ax0.sa r.sus.length Ax0.sc, .bool r.wed, .bool r.rdy, .int .i64 r.by_, .slice Ax0.ma r.trm.length Ax0.mc]
  generalize hX27 : wx0.alloc (.cells #[.int .i64 r.ver, .slice Ax0.ta r.txt.length Ax0.tc, .slice Ax0.ga r.got.length Ax0.gc, .slice Ax0.sa r.sus.length Ax0.sc, .bool r.wed, .bool r.rdy, .int .i64 r.by_, .slice Ax0.ma r.trm.length Ax0.mc] 35) = X27 at *
  have B31 : Below w.heap.size w X27 := B24.trans (b28.mono B24.size)
  have sB31 : wx0.heap.size ≤ X27.heap.size := b28.size
  have h32 := h25.below b28
  have h33 := h26.below b28
  have h34 := ix0.below b28
  clear B24 h25 h26 ix0
  have k30 : wx0.heap.size < X27.heap.size := h29.lt
  clear b28
  obtain ⟨⟨c350, c351, c352, c353⟩, c354, c355, c356, c357⟩ := Bx.r8 h33
  go_wp2_with fail
  refine (hT1 X27 B31).mono ?_
  rintro e wx1 ⟨Ax1, rfl, ix1, hbx1⟩
  clear c350 c351 c352 c353 c354 c355 c356 c357
  have B36 : Below w.heap.size w wx1 := B31.trans (hbx1.mono B31.size)
  have sB36 : X27.heap.size ≤ wx1.heap.size := hbx1.size
  have h37 := h32.below hbx1
  have h38 := h33.below hbx1
  have h39 := h34.below hbx1
  have h40 := h29.below hbx1
  clear B31 h32 h33 h34 h29
  have b42 := oneA16 wx1 (.cells #[.int .i64 s.ver, .slice Ax1.ta s.txt.length Ax1.tc, .slice Ax1.ga s.got.length Ax1.gc, .slice Ax1.sa s.sus.length Ax1.sc, .bool s.wed, .bool s.rdy, .int .i64 s.by_, .slice Ax1.ma s.trm.length Ax1.mc] 35)
  have h43 := Bx.new wx1 35 #[.int .i64 s.ver, .slice Ax1.ta s.txt.length Ax1.tc, .slice Ax1.ga s.got.length Ax1.gc, .slice Ax1.sa s.sus.length Ax1.sc, .bool s.wed, .bool s.rdy, .int .i64 s.by_, .slice Ax1.ma s.trm.length Ax1.mc]
  generalize hX41 : wx1.alloc (.cells #[.int .i64 s.ver, .slice Ax1.ta s.txt.length Ax1.tc, .slice Ax1.ga s.got.length Ax1.gc, .slice Ax1.sa s.sus.length Ax1.sc, .bool s.wed, .bool s.rdy, .int .i64 s.by_, .slice Ax1.ma s.trm.length Ax1.mc] 35) = X41 at *
  have B45 : Below w.heap.size w X41 := B36.trans (b42.mono B36.size)
  have sB45 : wx1.heap.size ≤ X41.heap.size := b42.size
  have h46 := h37.below b42
  have h47 := h38.below b42
  have h48 := h39.below b42
  have h49 := h40.below b42
  have h50 := ix1.below b42
  clear B36 h37 h38 h39 h40 ix1
  have k44 : wx1.heap.size < X41.heap.size := h43.lt
  clear b42
  obtain ⟨⟨c510, c511, c512, c513⟩, c514, c515, c516, c517⟩ := Bx.r8 h49
  obtain ⟨⟨c520, c521, c522, c523⟩, c524, c525, c526, c527⟩ := Bx.r8 h43
  go_wp2_with fail
  refine (hI2 X41 _ _ h48 h50).mono ?_
  rintro e wi ⟨rfl, hbi⟩
  have B53 : Below w.heap.size w wi := B45.trans (hbi.mono B45.size)
  have sB53 : X41.heap.size ≤ wi.heap.size := hbi.size
  have h54 := h46.below hbi
  have h55 := h47.below hbi
  have h56 := h48.below hbi
  have h57 := h49.below hbi
  have h58 := h50.below hbi
  have h59 := h43.below hbi
  clear B45 h46 h47 h48 h49 h50 h43
  clear c510 c511 c512 c513 c514 c515 c516 c517 c520 c521 c522 c523 c524 c525 c526 c527
  have KS : ∀ X, Below wi.heap.size wi X → ((X.cell? ⟨w.heap.size, 0, none⟩ = some (.int .i64 r.ver) ∧ X.cell? ⟨w.heap.size, 1, none⟩ = some (.slice A0.ta r.txt.length A0.tc) ∧ X.cell? ⟨w.heap.size, 2, none⟩ = some (.slice A0.ga r.got.length A0.gc) ∧ X.cell? ⟨w.heap.size, 3, none⟩ = some (.slice A0.sa r.sus.length A0.sc)) ∧ X.cell? ⟨w.heap.size, 4, none⟩ = some (.bool r.wed) ∧ X.cell? ⟨w.heap.size, 5, none⟩ = some (.bool r.rdy) ∧ X.cell? ⟨w.heap.size, 6, none⟩ = some (.int .i64 r.by_) ∧ X.cell? ⟨w.heap.size, 7, none⟩ = some (.slice A0.ma r.trm.length A0.mc)) ∧ ((X.cell? ⟨wx0.heap.size, 0, none⟩ = some (.int .i64 r.ver) ∧ X.cell? ⟨wx0.heap.size, 1, none⟩ = some (.slice Ax0.ta r.txt.length Ax0.tc) ∧ X.cell? ⟨wx0.heap.size, 2, none⟩ = some (.slice Ax0.ga r.got.length Ax0.gc) ∧ X.cell? ⟨wx0.heap.size, 3, none⟩ = some (.slice Ax0.sa r.sus.length Ax0.sc)) ∧ X.cell? ⟨wx0.heap.size, 4, none⟩ = some (.bool r.wed) ∧ X.cell? ⟨wx0.heap.size, 5, none⟩ = some (.bool r.rdy) ∧ X.cell? ⟨wx0.heap.size, 6, none⟩ = some (.int .i64 r.by_) ∧ X.cell? ⟨wx0.heap.size, 7, none⟩ = some (.slice Ax0.ma r.trm.length Ax0.mc)) := fun X hX => ⟨Bx.r8 (h54.below hX), Bx.r8 (h57.below hX)⟩
  have bd : Below wi.heap.size wi (wi.drewN 1) := belowN (Below.refl _ _)
  have hTo2 := fun X (h : Below wi.heap.size wi X) => hT0 X (B53.trans (h.mono B53.size))
  have hEq2 := fun X (A7 : Ra) (h : Below wi.heap.size wi X) (h7 : ∃ lo hi, It X (rwCels r) (rwVals A7 r) lo hi) => hEE0 X Ax0 A7 (h56.below h) h7.choose_spec.choose_spec
  skip
  go_wp2_with fail
  go_region_held3 (fun X => ((X.cell? ⟨w.heap.size, 0, none⟩ = some (.int .i64 r.ver) ∧ X.cell? ⟨w.heap.size, 1, none⟩ = some (.slice A0.ta r.txt.length A0.tc) ∧ X.cell? ⟨w.heap.size, 2, none⟩ = some (.slice A0.ga r.got.length A0.gc) ∧ X.cell? ⟨w.heap.size, 3, none⟩ = some (.slice A0.sa r.sus.length A0.sc)) ∧ X.cell? ⟨w.heap.size, 4, none⟩ = some (.bool r.wed) ∧ X.cell? ⟨w.heap.size, 5, none⟩ = some (.bool r.rdy) ∧ X.cell? ⟨w.heap.size, 6, none⟩ = some (.int .i64 r.by_) ∧ X.cell? ⟨w.heap.size, 7, none⟩ = some (.slice A0.ma r.trm.length A0.mc)) ∧ ((X.cell? ⟨wx0.heap.size, 0, none⟩ = some (.int .i64 r.ver) ∧ X.cell? ⟨wx0.heap.size, 1, none⟩ = some (.slice Ax0.ta r.txt.length Ax0.tc) ∧ X.cell? ⟨wx0.heap.size, 2, none⟩ = some (.slice Ax0.ga r.got.length Ax0.gc) ∧ X.cell? ⟨wx0.heap.size, 3, none⟩ = some (.slice Ax0.sa r.sus.length Ax0.sc)) ∧ X.cell? ⟨wx0.heap.size, 4, none⟩ = some (.bool r.wed) ∧ X.cell? ⟨wx0.heap.size, 5, none⟩ = some (.bool r.rdy) ∧ X.cell? ⟨wx0.heap.size, 6, none⟩ = some (.int .i64 r.by_) ∧ X.cell? ⟨wx0.heap.size, 7, none⟩ = some (.slice Ax0.ma r.trm.length Ax0.mc)))
    (first | exact KS _ b8 | exact KS _ b7b | exact KS _ bd)
    (first
      | (go_at_call 41; refine (hTo2 _ bd).mono ?_; rintro e t0 ⟨A7, rfl, i7, hb7⟩; have b7b : Below wi.heap.size wi t0 := bd.trans (hb7.mono bd.size))
      | (go_at_call 42; refine (hEq2 t0 A7 b7b ⟨_, _, i7⟩).mono ?_; rintro e u0 ⟨rfl, hb8⟩; have b8 : Below wi.heap.size wi u0 := b7b.trans (hb8.mono b7b.size)))
  clear KS bd hTo2 hEq2 i7 hb7 b7b hb8
  have B60 : Below w.heap.size w u0 := B53.trans (b8.mono B53.size)
  have sB60 : wi.heap.size ≤ u0.heap.size := b8.size
  have h61 := h54.below b8
  have h62 := h55.below b8
  have h63 := h56.below b8
  have h64 := h57.below b8
  have h65 := h58.below b8
  have h66 := h59.below b8
  clear B53 h54 h55 h56 h57 h58 h59
  have KS : ∀ X, Below u0.heap.size u0 X → ((X.cell? ⟨X1.heap.size, 0, none⟩ = some (.int .i64 s.ver) ∧ X.cell? ⟨X1.heap.size, 1, none⟩ = some (.slice A1.ta s.txt.length A1.tc) ∧ X.cell? ⟨X1.heap.size, 2, none⟩ = some (.slice A1.ga s.got.length A1.gc) ∧ X.cell? ⟨X1.heap.size, 3, none⟩ = some (.slice A1.sa s.sus.length A1.sc)) ∧ X.cell? ⟨X1.heap.size, 4, none⟩ = some (.bool s.wed) ∧ X.cell? ⟨X1.heap.size, 5, none⟩ = some (.bool s.rdy) ∧ X.cell? ⟨X1.heap.size, 6, none⟩ = some (.int .i64 s.by_) ∧ X.cell? ⟨X1.heap.size, 7, none⟩ = some (.slice A1.ma s.trm.length A1.mc)) ∧ ((X.cell? ⟨wx1.heap.size, 0, none⟩ = some (.int .i64 s.ver) ∧ X.cell? ⟨wx1.heap.size, 1, none⟩ = some (.slice Ax1.ta s.txt.length Ax1.tc) ∧ X.cell? ⟨wx1.heap.size, 2, none⟩ = some (.slice Ax1.ga s.got.length Ax1.gc) ∧ X.cell? ⟨wx1.heap.size, 3, none⟩ = some (.slice Ax1.sa s.sus.length Ax1.sc)) ∧ X.cell? ⟨wx1.heap.size, 4, none⟩ = some (.bool s.wed) ∧ X.cell? ⟨wx1.heap.size, 5, none⟩ = some (.bool s.rdy) ∧ X.cell? ⟨wx1.heap.size, 6, none⟩ = some (.int .i64 s.by_) ∧ X.cell? ⟨wx1.heap.size, 7, none⟩ = some (.slice Ax1.ma s.trm.length Ax1.mc)) := fun X hX => ⟨Bx.r8 (h62.below hX), Bx.r8 (h66.below hX)⟩
  have bd : Below u0.heap.size u0 (u0.drewN 1) := belowN (Below.refl _ _)
  have hTo2 := fun X (h : Below u0.heap.size u0 X) => hT1 X (B60.trans (h.mono B60.size))
  have hEq2 := fun X (A7 : Ra) (h : Below u0.heap.size u0 X) (h7 : ∃ lo hi, It X (rwCels s) (rwVals A7 s) lo hi) => hEE1 X Ax1 A7 (h65.below h) h7.choose_spec.choose_spec
  skip
  go_wp2_with fail
  go_region_held3 (fun X => ((X.cell? ⟨X1.heap.size, 0, none⟩ = some (.int .i64 s.ver) ∧ X.cell? ⟨X1.heap.size, 1, none⟩ = some (.slice A1.ta s.txt.length A1.tc) ∧ X.cell? ⟨X1.heap.size, 2, none⟩ = some (.slice A1.ga s.got.length A1.gc) ∧ X.cell? ⟨X1.heap.size, 3, none⟩ = some (.slice A1.sa s.sus.length A1.sc)) ∧ X.cell? ⟨X1.heap.size, 4, none⟩ = some (.bool s.wed) ∧ X.cell? ⟨X1.heap.size, 5, none⟩ = some (.bool s.rdy) ∧ X.cell? ⟨X1.heap.size, 6, none⟩ = some (.int .i64 s.by_) ∧ X.cell? ⟨X1.heap.size, 7, none⟩ = some (.slice A1.ma s.trm.length A1.mc)) ∧ ((X.cell? ⟨wx1.heap.size, 0, none⟩ = some (.int .i64 s.ver) ∧ X.cell? ⟨wx1.heap.size, 1, none⟩ = some (.slice Ax1.ta s.txt.length Ax1.tc) ∧ X.cell? ⟨wx1.heap.size, 2, none⟩ = some (.slice Ax1.ga s.got.length Ax1.gc) ∧ X.cell? ⟨wx1.heap.size, 3, none⟩ = some (.slice Ax1.sa s.sus.length Ax1.sc)) ∧ X.cell? ⟨wx1.heap.size, 4, none⟩ = some (.bool s.wed) ∧ X.cell? ⟨wx1.heap.size, 5, none⟩ = some (.bool s.rdy) ∧ X.cell? ⟨wx1.heap.size, 6, none⟩ = some (.int .i64 s.by_) ∧ X.cell? ⟨wx1.heap.size, 7, none⟩ = some (.slice Ax1.ma s.trm.length Ax1.mc)))
    (first | exact KS _ b8 | exact KS _ b7b | exact KS _ bd)
    (first
      | (go_at_call 41; refine (hTo2 _ bd).mono ?_; rintro e t1 ⟨A7, rfl, i7, hb7⟩; have b7b : Below u0.heap.size u0 t1 := bd.trans (hb7.mono bd.size))
      | (go_at_call 42; refine (hEq2 t1 A7 b7b ⟨_, _, i7⟩).mono ?_; rintro e u1 ⟨rfl, hb8⟩; have b8 : Below u0.heap.size u0 u1 := b7b.trans (hb8.mono b7b.size)))
  clear KS bd hTo2 hEq2 i7 hb7 b7b hb8
  have B67 : Below w.heap.size w u1 := B60.trans (b8.mono B60.size)
  have sB67 : u0.heap.size ≤ u1.heap.size := b8.size
  have h68 := h61.below b8
  have h69 := h62.below b8
  have h70 := h63.below b8
  have h71 := h64.below b8
  have h72 := h65.below b8
  have h73 := h66.below b8
  clear B60 h61 h62 h63 h64 h65 h66
  go_wp2
  go_ret
  exact ⟨rfl, B67⟩
end Go.Proofs.Ytgaibngaincahaa

/-
  The walk of the exact law of NewRow FROM what the program answers.
-/
namespace Go.Proofs.Ytgaibngaincahaa
set_option linter.unusedVariables false
set_option linter.unusedSimpArgs false
open Go.RowKit Go.Sort

set_option maxRecDepth 100000 in
set_option maxHeartbeats 6400000 in
theorem lawNewRow (hI : ImplNewRow) (n : Int) (w : World) (h60 : I64v n) :
    Calls Try.prog 6 #[.int .i64 n] w fun e w' => e = .returned (.bool true) ∧ Below w.heap.size w w' := by
  obtain ⟨hfZ, h6Z, hs5, hc5⟩ := newRw_small n
  have hsZ : szRw (newRw n) ≤ 1048576 := by omega
  have hSp : ∀ (X : World) , Calls Try.prog 39 #[.int .i64 n] X fun e w' => ∃ A', e = .returned (rwV A' (newRw n)) ∧ It w' (rwCels (newRw n)) (rwVals A' (newRw n)) X.heap.size w'.heap.size ∧ Below X.heap.size X w' := fun X    => (nrwS_any n X).mono (fun e w' h => h.it)
  have hIm : ∀ (X : World) , Calls Try.prog 38 #[.int .i64 n] X fun e w' => ∃ A', e = .returned (rwV A' (newRw n)) ∧ It w' (rwCels (newRw n)) (rwVals A' (newRw n)) X.heap.size w'.heap.size ∧ Below X.heap.size X w' := fun X    => (hI n X h60).mono (fun e w' h => h.it)
  generalize newRw n = Z at *
  obtain ⟨N, hN⟩ : ∃ N : Int, Hid (N = ((1 + cntRw Z : Nat) : Int)) := ⟨_, rfl⟩
  have hN0 : decide (N < 0) = false := by rw [hN.out]; simp; omega
  have hNN : (N != N) = false := by simp
  have hEz : ∀ (X : World) (A1 A2 : Ra) {l1 h1 l2 h2 : Nat}, It X (rwCels Z) (rwVals A1 Z) l1 h1 → It X (rwCels Z) (rwVals A2 Z) l2 h2 → Calls Try.prog 42 #[rwV A1 Z, rwV A2 Z] X fun e w' => e = .returned (.bool true) ∧ Below X.heap.size X w' := fun X A1 A2 l1 h1 l2 h2 i1 i2 => eqRw_any A1 A2 Z X (it_rws i1 hfZ hsZ) (it_rws i2 hfZ hsZ)
  have hMz : ∀ (X : World) (A1 : Ra) (lo hi : Nat), It X (rwCels Z) (rwVals A1 Z) lo hi → hi ≤ X.heap.size → Calls Try.prog 43 #[rwV A1 Z, .int .i64 1] X fun e w' => e = .returned (.int .i64 N) ∧ It w' (rwCels (mkRw Z 1)) (rwVals A1 Z) lo hi ∧ Wrt (Iv lo hi) X w' := fun X A1 lo hi i hh => by rw [hN.out]; exact markRw_it A1 Z 1 lo hi X i hh (by omega) (by omega) (by omega)
  have hHz : ∀ (X : World) (A1 : Ra) (lo hi : Nat), It X (rwCels (mkRw Z 1)) (rwVals A1 Z) lo hi → Calls Try.prog 44 #[rwV A1 Z, .int .i64 1] X fun e w' => e = .returned (.int .i64 N) ∧ Below X.heap.size X w' := fun X A1 lo hi i => by rw [hN.out]; exact heldRw_it A1 Z 1 lo hi X i (by omega) (by omega) (by omega)
  clear hI
  unfold rwV rwC at *
  have hb00 : Below w.heap.size w w := Below.refl _ _
  go_enter Try.func6, Try.ntmps6
  have hS2 := hSp 
  have hI2 := hIm 
  clear hSp hIm
  go_wp2_with fail
  refine (hS2 w).mono ?_
  rintro e ws ⟨Av, rfl, iv, hbv⟩
  have B1 : Below w.heap.size w ws := hb00.trans (hbv.mono hb00.size)
  have sB1 : w.heap.size ≤ ws.heap.size := hbv.size
  clear hb00
  have b3 := oneA16 ws (.cells #[.int .i64 Z.ver, .slice Av.ta Z.txt.length Av.tc, .slice Av.ga Z.got.length Av.gc, .slice Av.sa Z.sus.length Av.sc, .bool Z.wed, .bool Z.rdy, .int .i64 Z.by_, .slice Av.ma Z.trm.length Av.mc] 35)
  have h4 := Bx.new ws 35 #[.int .i64 Z.ver, .slice Av.ta Z.txt.length Av.tc, .slice Av.ga Z.got.length Av.gc, .slice Av.sa Z.sus.length Av.sc, .bool Z.wed, .bool Z.rdy, .int .i64 Z.by_, .slice Av.ma Z.trm.length Av.mc]
  generalize hX2 : ws.alloc (.cells #[.int .i64 Z.ver, .slice Av.ta Z.txt.length Av.tc, .slice Av.ga Z.got.length Av.gc, .slice Av.sa Z.sus.length Av.sc, .bool Z.wed, .bool Z.rdy, .int .i64 Z.by_, .slice Av.ma Z.trm.length Av.mc] 35) = X2 at *
  have B6 : Below w.heap.size w X2 := B1.trans (b3.mono B1.size)
  have sB6 : ws.heap.size ≤ X2.heap.size := b3.size
  have h7 := iv.below b3
  clear B1 iv
  have k5 : ws.heap.size < X2.heap.size := h4.lt
  clear b3
  go_wp2_with fail
  refine (hI2 X2).mono ?_
  rintro e wi ⟨Ag, rfl, ig, hbg⟩
  have B8 : Below w.heap.size w wi := B6.trans (hbg.mono B6.size)
  have sB8 : X2.heap.size ≤ wi.heap.size := hbg.size
  have h9 := h7.below hbg
  have h10 := h4.below hbg
  clear B6 h7 h4
  have b12 := oneA16 wi (.cells #[.int .i64 Z.ver, .slice Ag.ta Z.txt.length Ag.tc, .slice Ag.ga Z.got.length Ag.gc, .slice Ag.sa Z.sus.length Ag.sc, .bool Z.wed, .bool Z.rdy, .int .i64 Z.by_, .slice Ag.ma Z.trm.length Ag.mc] 35)
  have h13 := Bx.new wi 35 #[.int .i64 Z.ver, .slice Ag.ta Z.txt.length Ag.tc, .slice Ag.ga Z.got.length Ag.gc, .slice Ag.sa Z.sus.length Ag.sc, .bool Z.wed, .bool Z.rdy, .int .i64 Z.by_, .slice Ag.ma Z.trm.length Ag.mc]
  generalize hX11 : wi.alloc (.cells #[.int .i64 Z.ver, .slice Ag.ta Z.txt.length Ag.tc, .slice Ag.ga Z.got.length Ag.gc, .slice Ag.sa Z.sus.length Ag.sc, .bool Z.wed, .bool Z.rdy, .int .i64 Z.by_, .slice Ag.ma Z.trm.length Ag.mc] 35) = X11 at *
  have B15 : Below w.heap.size w X11 := B8.trans (b12.mono B8.size)
  have sB15 : wi.heap.size ≤ X11.heap.size := b12.size
  have h16 := h9.below b12
  have h17 := h10.below b12
  have h18 := ig.below b12
  clear B8 h9 h10 ig
  have k14 : wi.heap.size < X11.heap.size := h13.lt
  clear b12
  obtain ⟨⟨c190, c191, c192, c193⟩, c194, c195, c196, c197⟩ := Bx.r8 h13
  obtain ⟨⟨c200, c201, c202, c203⟩, c204, c205, c206, c207⟩ := Bx.r8 h17
  go_wp2_with fail
  refine (hEz X11 _ _ h18 h16).mono ?_
  rintro e we ⟨rfl, hbwe⟩
  clear c190 c191 c192 c193 c194 c195 c196 c197 c200 c201 c202 c203 c204 c205 c206 c207
  have B21 : Below w.heap.size w we := B15.trans (hbwe.mono B15.size)
  have sB21 : X11.heap.size ≤ we.heap.size := hbwe.size
  have h22 := h16.below hbwe
  have h23 := h17.below hbwe
  have h24 := h18.below hbwe
  have h25 := h13.below hbwe
  clear B15 h16 h17 h18 h13
  obtain ⟨⟨c260, c261, c262, c263⟩, c264, c265, c266, c267⟩ := Bx.r8 h25
  go_wp2_with fail
  refine (hMz we _ _ _ h24 (by omega)).mono ?_
  rintro e wm ⟨rfl, im, hwm⟩
  clear c260 c261 c262 c263 c264 c265 c266 c267
  have sB27 : we.heap.size ≤ wm.heap.size := hwm.size
  have B27 : Below w.heap.size w wm := below_iv hwm B21 B21.size (by omega)
  have h28 := h22.far hwm (by omega)
  have h29 := h23.iv hwm (by omega)
  have h30 := h25.iv hwm (by omega)
  clear B21 h22 h23 h24 h25
  obtain ⟨⟨c310, c311, c312, c313⟩, c314, c315, c316, c317⟩ := Bx.r8 h30
  go_wp2_with fail
  refine (hHz wm _ _ _ im).mono ?_
  rintro e wh ⟨rfl, hbh⟩
  clear c310 c311 c312 c313 c314 c315 c316 c317
  have B32 : Below w.heap.size w wh := B27.trans (hbh.mono B27.size)
  have sB32 : wm.heap.size ≤ wh.heap.size := hbh.size
  have h33 := h28.below hbh
  have h34 := h29.below hbh
  have h35 := im.below hbh
  have h36 := h30.below hbh
  clear B27 h28 h29 im h30
  go_wp2_with fail
  refine (hI2 wh).mono ?_
  rintro e wj ⟨Ah, rfl, ih, hbh⟩
  have B37 : Below w.heap.size w wj := B32.trans (hbh.mono B32.size)
  have sB37 : wh.heap.size ≤ wj.heap.size := hbh.size
  have h38 := h33.below hbh
  have h39 := h34.below hbh
  have h40 := h35.below hbh
  have h41 := h36.below hbh
  clear B32 h33 h34 h35 h36
  have b43 := oneA16 wj (.cells #[.int .i64 Z.ver, .slice Ah.ta Z.txt.length Ah.tc, .slice Ah.ga Z.got.length Ah.gc, .slice Ah.sa Z.sus.length Ah.sc, .bool Z.wed, .bool Z.rdy, .int .i64 Z.by_, .slice Ah.ma Z.trm.length Ah.mc] 35)
  have h44 := Bx.new wj 35 #[.int .i64 Z.ver, .slice Ah.ta Z.txt.length Ah.tc, .slice Ah.ga Z.got.length Ah.gc, .slice Ah.sa Z.sus.length Ah.sc, .bool Z.wed, .bool Z.rdy, .int .i64 Z.by_, .slice Ah.ma Z.trm.length Ah.mc]
  generalize hX42 : wj.alloc (.cells #[.int .i64 Z.ver, .slice Ah.ta Z.txt.length Ah.tc, .slice Ah.ga Z.got.length Ah.gc, .slice Ah.sa Z.sus.length Ah.sc, .bool Z.wed, .bool Z.rdy, .int .i64 Z.by_, .slice Ah.ma Z.trm.length Ah.mc] 35) = X42 at *
  have B46 : Below w.heap.size w X42 := B37.trans (b43.mono B37.size)
  have sB46 : wj.heap.size ≤ X42.heap.size := b43.size
  have h47 := h38.below b43
  have h48 := h39.below b43
  have h49 := h40.below b43
  have h50 := h41.below b43
  have h51 := ih.below b43
  clear B37 h38 h39 h40 h41 ih
  have k45 : wj.heap.size < X42.heap.size := h44.lt
  clear b43
  obtain ⟨⟨c520, c521, c522, c523⟩, c524, c525, c526, c527⟩ := Bx.r8 h44
  obtain ⟨⟨c530, c531, c532, c533⟩, c534, c535, c536, c537⟩ := Bx.r8 h48
  go_wp2_with fail
  refine (hEz X42 _ _ h51 h47).mono ?_
  rintro e wk ⟨rfl, hbwk⟩
  clear c520 c521 c522 c523 c524 c525 c526 c527 c530 c531 c532 c533 c534 c535 c536 c537
  have B54 : Below w.heap.size w wk := B46.trans (hbwk.mono B46.size)
  have sB54 : X42.heap.size ≤ wk.heap.size := hbwk.size
  have h55 := h47.below hbwk
  have h56 := h48.below hbwk
  have h57 := h49.below hbwk
  have h58 := h50.below hbwk
  have h59 := h51.below hbwk
  have h60 := h44.below hbwk
  clear B46 h47 h48 h49 h50 h51 h44
  obtain ⟨⟨c610, c611, c612, c613⟩, c614, c615, c616, c617⟩ := Bx.r8 h58
  go_wp2_with fail
  refine (hHz wk _ _ _ h57).mono ?_
  rintro e wl ⟨rfl, hbl⟩
  clear c610 c611 c612 c613 c614 c615 c616 c617
  have B62 : Below w.heap.size w wl := B54.trans (hbl.mono B54.size)
  have sB62 : wk.heap.size ≤ wl.heap.size := hbl.size
  have h63 := h55.below hbl
  have h64 := h56.below hbl
  have h65 := h57.below hbl
  have h66 := h58.below hbl
  have h67 := h59.below hbl
  have h68 := h60.below hbl
  clear B54 h55 h56 h57 h58 h59 h60
  go_wp2
  go_ret
  exact ⟨rfl, B62⟩
end Go.Proofs.Ytgaibngaincahaa
