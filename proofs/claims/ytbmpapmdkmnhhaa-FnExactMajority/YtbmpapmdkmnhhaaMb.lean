/-
  Several texts in one: Vwx Vwy Vwz.
-/
import Derived.Test.YtbmpapmdkmnhhaaMa
import Derived.Deep.RegionHeld3
/-
  The walks of the exact laws of ViewOk and Rank FROM what the program answers.
-/
namespace Go.Proofs.Ytbmpapmdkmnhhaa
set_option linter.unusedVariables false
set_option linter.unusedSimpArgs false
open Go.RowKit Go.Sort

set_option maxRecDepth 100000 in
set_option maxHeartbeats 3200000 in
theorem lawViewOk (hI : ImplViewOk) (F : Int) (a : Option Addr) (cap : Nat) (M : List Int) (w : World) (hF : I64v F) (hv : Vec w a M.length M) (hm : M.length ≤ maxLen) :
    Calls Try.prog 6 #[vwV F a M.length cap] w fun e w' => e = .returned (.bool true) ∧ Below w.heap.size w w' := by
  have hP := Bx.new w 50 #[.int .i64 F, .slice a M.length cap]
  have hB0 := one14 w (.cells #[.int .i64 F, .slice a M.length cap] 50)
  generalize hW0 : w.alloc (.cells #[.int .i64 F, .slice a M.length cap] 50) = W0 at *
  have k00 : w.heap.size < W0.heap.size := hP.lt
  have hZ := szVw_any F a cap M 1048576 W0 hm ⟨by omega, by omega⟩
  have hft : Fits M := fun x hx => by have := hv.2.1 x hx; omega
  have hTo : M.length ≤ 1048576 → ∀ X, Below w.heap.size w X → Calls Try.prog 47 #[vwV F a M.length cap] X fun e w' => ∃ a' c', e = .returned (vwV F a' M.length c') ∧ It w' [icl M] [.slice a' M.length c'] X.heap.size w'.heap.size ∧ Below X.heap.size X w' := fun h X hX => (toVw_any F a cap M X (hv.below hX (Nat.le_refl _)) h).mono (fun e w' h => by obtain ⟨a', c', h1, h2⟩ := h; exact ⟨a', c', h1, It.of_newO h2, by obtain ⟨_, _, _, h3⟩ := h2; exact h3⟩)
  have hE : ∀ X a1 c1 a2 c2, Vec X a1 M.length M → Vec X a2 M.length M → Calls Try.prog 48 #[vwV F a1 M.length c1, vwV F a2 M.length c2] X fun e w' => e = .returned (.bool true) ∧ Below X.heap.size X w' := fun X a1 c1 a2 c2 h1 h2 => (eqVw_any F a1 a2 c1 c2 M X h1 h2 hm).mono (fun e w' h => ⟨h.1, h.2.1⟩)
  have hSp : M.length ≤ 1048576 → ∀ X a' c' {l1 h1 : Nat}, It X [icl M] [.slice a' M.length c'] l1 h1 → Calls Try.prog 35 #[vwV F a' M.length c'] X fun e w' => e = .returned (.bool (decide (okVw (F, M)))) ∧ Below X.heap.size X w' := fun hq X a' c' l1 h1 i => (vwkS_any F a' c' M X (it_vec i hft) hm).mono (fun e w' h => ⟨h.1, h.2.1⟩)
  have hIm : M.length ≤ 1048576 → ∀ X a' c' {l1 h1 : Nat}, It X [icl M] [.slice a' M.length c'] l1 h1 → Calls Try.prog 34 #[vwV F a' M.length c'] X fun e w' => e = .returned (.bool (decide (okVw (F, M)))) ∧ Below X.heap.size X w' := fun hq X a' c' l1 h1 i => hI F a' c' M X hF (it_vcp i hft) hq
  generalize (decide (okVw (F, M))) = Q at *
  have ne : (Q != Q) = false := by simp
  clear hI hv
  unfold vwV at *
  obtain ⟨p0, p1⟩ := bx2 hP
  go_enter Try.func6, Try.ntmps6
  go_wp2_with fail
  refine (hZ).mono ?_
  rintro e w1 ⟨q, rfl, hq, hb1⟩
  clear p0 p1 hZ
  have B1 : Below w.heap.size w w1 := hB0.trans (hb1.mono hB0.size)
  have sB1 : W0.heap.size ≤ w1.heap.size := hb1.size
  have h2 := hP.below hb1
  clear hB0 hP
  rcases hq with rfl | ⟨hq0, hq1⟩
  · go_wp2
    go_ret
    exact ⟨rfl, B1⟩
  have hqn : decide (q < 0) = false := by simp; omega
  have hT := hTo (by omega)
  have hS2 := hSp (by omega)
  have hI2 := hIm (by omega)
  clear hIm hSp
  clear hTo
  obtain ⟨c3a, c3b⟩ := bx2 h2
  go_wp2_with fail
  refine (hT w1 B1).mono ?_
  rintro e w2 ⟨a1, c1, rfl, i1, hb1⟩
  clear c3a c3b
  have B4 : Below w.heap.size w w2 := B1.trans (hb1.mono B1.size)
  have sB4 : w1.heap.size ≤ w2.heap.size := hb1.size
  have h5 := h2.below hb1
  clear B1 h2
  go_wp2_with fail
  refine (hS2 w2 _ _ i1).mono ?_
  rintro e w3 ⟨rfl, hb3⟩
  clear i1
  have B6 : Below w.heap.size w w3 := B4.trans (hb3.mono B4.size)
  have sB6 : w2.heap.size ≤ w3.heap.size := hb3.size
  have h7 := h5.below hb3
  clear B4 h5
  obtain ⟨c8a, c8b⟩ := bx2 h7
  go_wp2_with fail
  refine (hT w3 B6).mono ?_
  rintro e w4 ⟨a2, c2, rfl, i2, hb2⟩
  clear c8a c8b
  have B9 : Below w.heap.size w w4 := B6.trans (hb2.mono B6.size)
  have sB9 : w3.heap.size ≤ w4.heap.size := hb2.size
  have h10 := h7.below hb2
  clear B6 h7
  have b12 := one14 w4 (.cells #[.int .i64 F, .slice a2 M.length c2] 34)
  have h13 := Bx.new w4 34 #[.int .i64 F, .slice a2 M.length c2]
  generalize hX11 : w4.alloc (.cells #[.int .i64 F, .slice a2 M.length c2] 34) = X11 at *
  have B15 : Below w.heap.size w X11 := B9.trans (b12.mono B9.size)
  have sB15 : w4.heap.size ≤ X11.heap.size := b12.size
  have h16 := h10.below b12
  have h17 := i2.below b12
  clear B9 h10 i2
  have k14 : w4.heap.size < X11.heap.size := h13.lt
  clear b12
  obtain ⟨c18a, c18b⟩ := bx2 h13
  go_wp2_with fail
  refine (hI2 X11 _ _ h17).mono ?_
  rintro e w5 ⟨rfl, hb5⟩
  clear c18a c18b
  have B19 : Below w.heap.size w w5 := B15.trans (hb5.mono B15.size)
  have sB19 : X11.heap.size ≤ w5.heap.size := hb5.size
  have h20 := h16.below hb5
  have h21 := h17.below hb5
  have h22 := h13.below hb5
  clear B15 h16 h17 h13
  have KS : ∀ X, Below w5.heap.size w5 X → (X.cell? ⟨w.heap.size, 0, none⟩ = some (.int .i64 F) ∧ X.cell? ⟨w.heap.size, 1, none⟩ = some (.slice a M.length cap)) ∧ X.cell? ⟨w4.heap.size, 0, none⟩ = some (.int .i64 F) ∧ X.cell? ⟨w4.heap.size, 1, none⟩ = some (.slice a2 M.length c2) := fun X hX => ⟨bx2 (h20.below hX), bx2 (h22.below hX)⟩
  have bd : Below w5.heap.size w5 (w5.drewN 1) := belowN (Below.refl _ _)
  have hTo2 := fun X (h : Below w5.heap.size w5 X) => hT X (B19.trans (h.mono B19.size))
  have hEq2 := fun X (a7 : Option Addr) (c7 : Nat) (h : Below w5.heap.size w5 X) (h7 : ∃ lo hi, It X [icl M] [.slice a7 M.length c7] lo hi) => hE X a2 c2 a7 c7 (it_vec (h21.below h) hft) (by obtain ⟨_, _, h7⟩ := h7; exact it_vec h7 hft)
  go_wp2_with fail
  go_region_held3 (fun X => (X.cell? ⟨w.heap.size, 0, none⟩ = some (.int .i64 F) ∧ X.cell? ⟨w.heap.size, 1, none⟩ = some (.slice a M.length cap)) ∧ X.cell? ⟨w4.heap.size, 0, none⟩ = some (.int .i64 F) ∧ X.cell? ⟨w4.heap.size, 1, none⟩ = some (.slice a2 M.length c2))
    (first | exact KS _ b8 | exact KS _ b7b | exact KS _ bd)
    (first
      | (go_at_call 47; refine (hTo2 _ bd).mono ?_; rintro e u7 ⟨a7, c7, rfl, i7, hb7⟩; have b7b : Below w5.heap.size w5 u7 := bd.trans (hb7.mono bd.size))
      | (go_at_call 48; refine (hEq2 u7 a7 c7 b7b ⟨_, _, i7⟩).mono ?_; rintro e u8 ⟨rfl, hb8⟩; have b8 : Below w5.heap.size w5 u8 := b7b.trans (hb8.mono b7b.size)))
  have HBB : Hid (Below w.heap.size w u8) := B19.trans (b8.mono B19.size)
  go_wp2
  go_ret
  exact ⟨rfl, HBB.out⟩

set_option maxRecDepth 100000 in
set_option maxHeartbeats 3200000 in
theorem lawRank (hI : ImplRank) (F : Int) (a : Option Addr) (cap : Nat) (M : List Int) (v : Int) (w : World) (hF : I64v F) (hv : Vec w a M.length M) (hm : M.length ≤ maxLen) (hvr : I64v v) :
    Calls Try.prog 10 #[vwV F a M.length cap, .int .i64 v] w fun e w' => e = .returned (.bool true) ∧ Below w.heap.size w w' := by
  have hP := Bx.new w 50 #[.int .i64 F, .slice a M.length cap]
  have hB0 := one14 w (.cells #[.int .i64 F, .slice a M.length cap] 50)
  generalize hW0 : w.alloc (.cells #[.int .i64 F, .slice a M.length cap] 50) = W0 at *
  have k00 : w.heap.size < W0.heap.size := hP.lt
  have hZ := szVw_any F a cap M 1048576 W0 hm ⟨by omega, by omega⟩
  have hft : Fits M := fun x hx => by have := hv.2.1 x hx; omega
  have hTo : M.length ≤ 1048576 → ∀ X, Below w.heap.size w X → Calls Try.prog 47 #[vwV F a M.length cap] X fun e w' => ∃ a' c', e = .returned (vwV F a' M.length c') ∧ It w' [icl M] [.slice a' M.length c'] X.heap.size w'.heap.size ∧ Below X.heap.size X w' := fun h X hX => (toVw_any F a cap M X (hv.below hX (Nat.le_refl _)) h).mono (fun e w' h => by obtain ⟨a', c', h1, h2⟩ := h; exact ⟨a', c', h1, It.of_newO h2, by obtain ⟨_, _, _, h3⟩ := h2; exact h3⟩)
  have hE : ∀ X a1 c1 a2 c2, Vec X a1 M.length M → Vec X a2 M.length M → Calls Try.prog 48 #[vwV F a1 M.length c1, vwV F a2 M.length c2] X fun e w' => e = .returned (.bool true) ∧ Below X.heap.size X w' := fun X a1 c1 a2 c2 h1 h2 => (eqVw_any F a1 a2 c1 c2 M X h1 h2 hm).mono (fun e w' h => ⟨h.1, h.2.1⟩)
  have hSp : M.length ≤ 1048576 → ∀ X a' c' {l1 h1 : Nat}, It X [icl M] [.slice a' M.length c'] l1 h1 → Calls Try.prog 45 #[vwV F a' M.length c', .int .i64 v] X fun e w' => e = .returned (.int .i64 (rnkL (F, M) v)) ∧ Below X.heap.size X w' := fun hq X a' c' l1 h1 i => (rnkS_any F a' c' M v X (it_vec i hft) hm).mono (fun e w' h => ⟨h.1, h.2.1⟩)
  have hIm : M.length ≤ 1048576 → ∀ X a' c' {l1 h1 : Nat}, It X [icl M] [.slice a' M.length c'] l1 h1 → Calls Try.prog 44 #[vwV F a' M.length c', .int .i64 v] X fun e w' => e = .returned (.int .i64 (rnkL (F, M) v)) ∧ Below X.heap.size X w' := fun hq X a' c' l1 h1 i => hI F a' c' M v X hF (it_vcp i hft) hq hvr
  generalize (rnkL (F, M) v) = Q at *
  have ne : (Q != Q) = false := by simp
  clear hI hv
  unfold vwV at *
  obtain ⟨p0, p1⟩ := bx2 hP
  go_enter Try.func10, Try.ntmps10
  go_wp2_with fail
  refine (hZ).mono ?_
  rintro e w1 ⟨q, rfl, hq, hb1⟩
  clear p0 p1 hZ
  have B1 : Below w.heap.size w w1 := hB0.trans (hb1.mono hB0.size)
  have sB1 : W0.heap.size ≤ w1.heap.size := hb1.size
  have h2 := hP.below hb1
  clear hB0 hP
  rcases hq with rfl | ⟨hq0, hq1⟩
  · go_wp2
    go_ret
    exact ⟨rfl, B1⟩
  have hqn : decide (q < 0) = false := by simp; omega
  have hT := hTo (by omega)
  have hS2 := hSp (by omega)
  have hI2 := hIm (by omega)
  clear hIm hSp
  clear hTo
  obtain ⟨c3a, c3b⟩ := bx2 h2
  go_wp2_with fail
  refine (hT w1 B1).mono ?_
  rintro e w2 ⟨a1, c1, rfl, i1, hb1⟩
  clear c3a c3b
  have B4 : Below w.heap.size w w2 := B1.trans (hb1.mono B1.size)
  have sB4 : w1.heap.size ≤ w2.heap.size := hb1.size
  have h5 := h2.below hb1
  clear B1 h2
  go_wp2_with fail
  refine (hS2 w2 _ _ i1).mono ?_
  rintro e w3 ⟨rfl, hb3⟩
  clear i1
  have B6 : Below w.heap.size w w3 := B4.trans (hb3.mono B4.size)
  have sB6 : w2.heap.size ≤ w3.heap.size := hb3.size
  have h7 := h5.below hb3
  clear B4 h5
  obtain ⟨c8a, c8b⟩ := bx2 h7
  go_wp2_with fail
  refine (hT w3 B6).mono ?_
  rintro e w4 ⟨a2, c2, rfl, i2, hb2⟩
  clear c8a c8b
  have B9 : Below w.heap.size w w4 := B6.trans (hb2.mono B6.size)
  have sB9 : w3.heap.size ≤ w4.heap.size := hb2.size
  have h10 := h7.below hb2
  clear B6 h7
  have b12 := one14 w4 (.cells #[.int .i64 F, .slice a2 M.length c2] 34)
  have h13 := Bx.new w4 34 #[.int .i64 F, .slice a2 M.length c2]
  generalize hX11 : w4.alloc (.cells #[.int .i64 F, .slice a2 M.length c2] 34) = X11 at *
  have B15 : Below w.heap.size w X11 := B9.trans (b12.mono B9.size)
  have sB15 : w4.heap.size ≤ X11.heap.size := b12.size
  have h16 := h10.below b12
  have h17 := i2.below b12
  clear B9 h10 i2
  have k14 : w4.heap.size < X11.heap.size := h13.lt
  clear b12
  obtain ⟨c18a, c18b⟩ := bx2 h13
  go_wp2_with fail
  refine (hI2 X11 _ _ h17).mono ?_
  rintro e w5 ⟨rfl, hb5⟩
  clear c18a c18b
  have B19 : Below w.heap.size w w5 := B15.trans (hb5.mono B15.size)
  have sB19 : X11.heap.size ≤ w5.heap.size := hb5.size
  have h20 := h16.below hb5
  have h21 := h17.below hb5
  have h22 := h13.below hb5
  clear B15 h16 h17 h13
  have KS : ∀ X, Below w5.heap.size w5 X → (X.cell? ⟨w.heap.size, 0, none⟩ = some (.int .i64 F) ∧ X.cell? ⟨w.heap.size, 1, none⟩ = some (.slice a M.length cap)) ∧ X.cell? ⟨w4.heap.size, 0, none⟩ = some (.int .i64 F) ∧ X.cell? ⟨w4.heap.size, 1, none⟩ = some (.slice a2 M.length c2) := fun X hX => ⟨bx2 (h20.below hX), bx2 (h22.below hX)⟩
  have bd : Below w5.heap.size w5 (w5.drewN 1) := belowN (Below.refl _ _)
  have hTo2 := fun X (h : Below w5.heap.size w5 X) => hT X (B19.trans (h.mono B19.size))
  have hEq2 := fun X (a7 : Option Addr) (c7 : Nat) (h : Below w5.heap.size w5 X) (h7 : ∃ lo hi, It X [icl M] [.slice a7 M.length c7] lo hi) => hE X a2 c2 a7 c7 (it_vec (h21.below h) hft) (by obtain ⟨_, _, h7⟩ := h7; exact it_vec h7 hft)
  go_wp2_with fail
  go_region_held3 (fun X => (X.cell? ⟨w.heap.size, 0, none⟩ = some (.int .i64 F) ∧ X.cell? ⟨w.heap.size, 1, none⟩ = some (.slice a M.length cap)) ∧ X.cell? ⟨w4.heap.size, 0, none⟩ = some (.int .i64 F) ∧ X.cell? ⟨w4.heap.size, 1, none⟩ = some (.slice a2 M.length c2))
    (first | exact KS _ b8 | exact KS _ b7b | exact KS _ bd)
    (first
      | (go_at_call 47; refine (hTo2 _ bd).mono ?_; rintro e u7 ⟨a7, c7, rfl, i7, hb7⟩; have b7b : Below w5.heap.size w5 u7 := bd.trans (hb7.mono bd.size))
      | (go_at_call 48; refine (hEq2 u7 a7 c7 b7b ⟨_, _, i7⟩).mono ?_; rintro e u8 ⟨rfl, hb8⟩; have b8 : Below w5.heap.size w5 u8 := b7b.trans (hb8.mono b7b.size)))
  have HBB : Hid (Below w.heap.size w u8) := B19.trans (b8.mono B19.size)
  go_wp2
  go_ret
  exact ⟨rfl, HBB.out⟩
end Go.Proofs.Ytbmpapmdkmnhhaa

/-
  The walks of the exact laws of Leader and Majority FROM what the program answers.
-/
namespace Go.Proofs.Ytbmpapmdkmnhhaa
set_option linter.unusedVariables false
set_option linter.unusedSimpArgs false
open Go.RowKit Go.Sort

set_option maxRecDepth 100000 in
set_option maxHeartbeats 3200000 in
theorem lawLeader (hI : ImplLeader) (F : Int) (a : Option Addr) (cap : Nat) (M : List Int) (bs : Option Addr) (ds : Nat) (s : List Int) (w : World) (hF : I64v F) (hv : Vec w a M.length M) (hm : M.length ≤ maxLen) (hvs : Vec w bs s.length s) (hms : s.length ≤ maxLen) :
    Calls Try.prog 7 #[vwV F a M.length cap, .slice bs s.length ds] w fun e w' => e = .returned (.bool true) ∧ Below w.heap.size w w' := by
  have hP := Bx.new w 50 #[.int .i64 F, .slice a M.length cap]
  have hB0 := one14 w (.cells #[.int .i64 F, .slice a M.length cap] 50)
  generalize hW0 : w.alloc (.cells #[.int .i64 F, .slice a M.length cap] 50) = W0 at *
  have k00 : w.heap.size < W0.heap.size := hP.lt
  have hZ := szVw_any F a cap M 1048576 W0 hm ⟨by omega, by omega⟩
  have hft : Fits M := fun x hx => by have := hv.2.1 x hx; omega
  have hTo : M.length ≤ 1048576 → ∀ X, Below w.heap.size w X → Calls Try.prog 47 #[vwV F a M.length cap] X fun e w' => ∃ a' c', e = .returned (vwV F a' M.length c') ∧ It w' [icl M] [.slice a' M.length c'] X.heap.size w'.heap.size ∧ Below X.heap.size X w' := fun h X hX => (toVw_any F a cap M X (hv.below hX (Nat.le_refl _)) h).mono (fun e w' h => by obtain ⟨a', c', h1, h2⟩ := h; exact ⟨a', c', h1, It.of_newO h2, by obtain ⟨_, _, _, h3⟩ := h2; exact h3⟩)
  have hE : ∀ X a1 c1 a2 c2, Vec X a1 M.length M → Vec X a2 M.length M → Calls Try.prog 48 #[vwV F a1 M.length c1, vwV F a2 M.length c2] X fun e w' => e = .returned (.bool true) ∧ Below X.heap.size X w' := fun X a1 c1 a2 c2 h1 h2 => (eqVw_any F a1 a2 c1 c2 M X h1 h2 hm).mono (fun e w' h => ⟨h.1, h.2.1⟩)
  unfold maxLen at hms
  by_cases hbs : (1048576 : Int) < (s.length : Int)
  · clear hI hv hZ hTo hE
    unfold vwV at *
    go_enter Try.func7, Try.ntmps7
    go_wp2
    go_ret
    exact ⟨rfl, hB0⟩
  have hls : s.length ≤ 1048576 := by omega
  have hfs : Fits s := fun x hx => by have := hvs.2.1 x hx; omega
  have hTs : ∀ X, Below w.heap.size w X → Calls Try.prog 49 #[.slice bs s.length ds] X fun e w' => ∃ a' c', e = .returned (.slice a' s.length c') ∧ It w' [icl s] [.slice a' s.length c'] X.heap.size w'.heap.size ∧ Below X.heap.size X w' := fun X hX => (copy_any bs s.length ds s X (hvs.below hX (Nat.le_refl _)) (by omega)).mono (fun e w' h => by obtain ⟨b, h1, h2, h3, h4⟩ := h; exact ⟨_, _, h1, It.of_newO ⟨fun c => c = b, ow_icl.2 ⟨_, _, some b, rfl, OSo.of (OI.own (RowOf.own h3 (by unfold maxLen; omega))), fun c => by simp [eq_comm]⟩, fun c hc => by rw [hc]; exact h2, h4⟩, h4⟩)
  have hEs : ∀ X a1 c1 a2 c2 {l1 h1 l2 h2 : Nat}, It X [icl s] [.slice a1 s.length c1] l1 h1 → It X [icl s] [.slice a2 s.length c2] l2 h2 → Calls Try.prog 50 #[.slice a1 s.length c1, .slice a2 s.length c2] X fun e w' => e = .returned (.bool true) ∧ Below X.heap.size X w' := fun X a1 c1 a2 c2 l1 h1 l2 h2 i1 i2 => (eq_any a1 a2 s.length c1 s.length c2 s s X (it_vec i1 hfs) (it_vec i2 hfs) (by unfold maxLen; omega)).mono (fun e w' ⟨h1, q, h2⟩ => ⟨by rw [h1]; simp, by rw [h2]; exact belowN (Below.refl _ _)⟩)
  have hSp : M.length ≤ 1048576 → ∀ X a' c' b' d' {l1 h1 l2 h2 : Nat}, It X [icl M] [.slice a' M.length c'] l1 h1 → It X [icl s] [.slice b' s.length d'] l2 h2 → Calls Try.prog 43 #[vwV F a' M.length c', .slice b' s.length d'] X fun e w' => e = .returned (.int .i64 (ldL (F, M) s)) ∧ Below X.heap.size X w' := fun hq X a' c' b' d' l1 h1 l2 h2 i j => (ldrS_any F a' c' M b' d' s X (it_vec i hft) hm (it_vec j hfs) (by unfold maxLen; omega)).mono (fun e w' h => ⟨h.1, h.2.1⟩)
  have hIm : M.length ≤ 1048576 → ∀ X a' c' b' d' {l1 h1 l2 h2 : Nat}, It X [icl M] [.slice a' M.length c'] l1 h1 → It X [icl s] [.slice b' s.length d'] l2 h2 → Calls Try.prog 41 #[vwV F a' M.length c', .slice b' s.length d'] X fun e w' => e = .returned (.int .i64 (ldL (F, M) s)) ∧ Below X.heap.size X w' := fun hq X a' c' b' d' l1 h1 l2 h2 i j => hI F a' c' M b' d' s X hF (it_vcp i hft) hq (it_vcp j hfs) hls
  generalize (ldL (F, M) s) = Q at *
  have ne : (Q != Q) = false := by simp
  clear hI hv hvs
  unfold vwV at *
  obtain ⟨p0, p1⟩ := bx2 hP
  go_enter Try.func7, Try.ntmps7
  go_wp2_with fail
  refine (hZ).mono ?_
  rintro e w1 ⟨q, rfl, hq, hb1⟩
  clear p0 p1 hZ
  have B1 : Below w.heap.size w w1 := hB0.trans (hb1.mono hB0.size)
  have sB1 : W0.heap.size ≤ w1.heap.size := hb1.size
  have h2 := hP.below hb1
  clear hB0 hP
  rcases hq with rfl | ⟨hq0, hq1⟩
  · go_wp2
    go_ret
    exact ⟨rfl, B1⟩
  have hqn : decide (q < 0) = false := by simp; omega
  have hT := hTo (by omega)
  have hS2 := hSp (by omega)
  have hI2 := hIm (by omega)
  clear hIm hSp
  clear hTo
  obtain ⟨c3a, c3b⟩ := bx2 h2
  go_wp2_with fail
  refine (hT w1 B1).mono ?_
  rintro e w2 ⟨a1, c1, rfl, i1, hb1⟩
  clear c3a c3b
  have B4 : Below w.heap.size w w2 := B1.trans (hb1.mono B1.size)
  have sB4 : w1.heap.size ≤ w2.heap.size := hb1.size
  have h5 := h2.below hb1
  clear B1 h2
  go_wp2_with fail
  refine (hTs w2 B4).mono ?_
  rintro e w2b ⟨as1, cs1, rfl, is1, hbs1⟩
  have B6 : Below w.heap.size w w2b := B4.trans (hbs1.mono B4.size)
  have sB6 : w2.heap.size ≤ w2b.heap.size := hbs1.size
  have h7 := h5.below hbs1
  have h8 := i1.below hbs1
  clear B4 h5 i1
  go_wp2_with fail
  refine (hS2 w2b _ _ _ _ h8 is1).mono ?_
  rintro e w3 ⟨rfl, hb3⟩
  clear h8
  clear is1
  have B9 : Below w.heap.size w w3 := B6.trans (hb3.mono B6.size)
  have sB9 : w2b.heap.size ≤ w3.heap.size := hb3.size
  have h10 := h7.below hb3
  clear B6 h7
  obtain ⟨c11a, c11b⟩ := bx2 h10
  go_wp2_with fail
  refine (hT w3 B9).mono ?_
  rintro e w4 ⟨a2, c2, rfl, i2, hb2⟩
  clear c11a c11b
  have B12 : Below w.heap.size w w4 := B9.trans (hb2.mono B9.size)
  have sB12 : w3.heap.size ≤ w4.heap.size := hb2.size
  have h13 := h10.below hb2
  clear B9 h10
  have b15 := one14 w4 (.cells #[.int .i64 F, .slice a2 M.length c2] 34)
  have h16 := Bx.new w4 34 #[.int .i64 F, .slice a2 M.length c2]
  generalize hX14 : w4.alloc (.cells #[.int .i64 F, .slice a2 M.length c2] 34) = X14 at *
  have B18 : Below w.heap.size w X14 := B12.trans (b15.mono B12.size)
  have sB18 : w4.heap.size ≤ X14.heap.size := b15.size
  have h19 := h13.below b15
  have h20 := i2.below b15
  clear B12 h13 i2
  have k17 : w4.heap.size < X14.heap.size := h16.lt
  clear b15
  go_wp2_with fail
  refine (hTs X14 B18).mono ?_
  rintro e w4b ⟨as2, cs2, rfl, is2, hbs2⟩
  have B21 : Below w.heap.size w w4b := B18.trans (hbs2.mono B18.size)
  have sB21 : X14.heap.size ≤ w4b.heap.size := hbs2.size
  have h22 := h19.below hbs2
  have h23 := h20.below hbs2
  have h24 := h16.below hbs2
  clear B18 h19 h20 h16
  obtain ⟨c25a, c25b⟩ := bx2 h24
  go_wp2_with fail
  refine (hI2 w4b _ _ _ _ h23 is2).mono ?_
  rintro e w5 ⟨rfl, hb5⟩
  clear c25a c25b
  have B26 : Below w.heap.size w w5 := B21.trans (hb5.mono B21.size)
  have sB26 : w4b.heap.size ≤ w5.heap.size := hb5.size
  have h27 := h22.below hb5
  have h28 := h23.below hb5
  have h29 := h24.below hb5
  have h30 := is2.below hb5
  clear B21 h22 h23 h24 is2
  have KS : ∀ X, Below w5.heap.size w5 X → (X.cell? ⟨w.heap.size, 0, none⟩ = some (.int .i64 F) ∧ X.cell? ⟨w.heap.size, 1, none⟩ = some (.slice a M.length cap)) ∧ X.cell? ⟨w4.heap.size, 0, none⟩ = some (.int .i64 F) ∧ X.cell? ⟨w4.heap.size, 1, none⟩ = some (.slice a2 M.length c2) := fun X hX => ⟨bx2 (h27.below hX), bx2 (h29.below hX)⟩
  have bd : Below w5.heap.size w5 (w5.drewN 1) := belowN (Below.refl _ _)
  have hTo2 := fun X (h : Below w5.heap.size w5 X) => hT X (B26.trans (h.mono B26.size))
  have hEq2 := fun X (a7 : Option Addr) (c7 : Nat) (h : Below w5.heap.size w5 X) (h7 : ∃ lo hi, It X [icl M] [.slice a7 M.length c7] lo hi) => hE X a2 c2 a7 c7 (it_vec (h28.below h) hft) (by obtain ⟨_, _, h7⟩ := h7; exact it_vec h7 hft)
  go_wp2_with fail
  go_region_held3 (fun X => (X.cell? ⟨w.heap.size, 0, none⟩ = some (.int .i64 F) ∧ X.cell? ⟨w.heap.size, 1, none⟩ = some (.slice a M.length cap)) ∧ X.cell? ⟨w4.heap.size, 0, none⟩ = some (.int .i64 F) ∧ X.cell? ⟨w4.heap.size, 1, none⟩ = some (.slice a2 M.length c2))
    (first | exact KS _ b8 | exact KS _ b7b | exact KS _ bd)
    (first
      | (go_at_call 47; refine (hTo2 _ bd).mono ?_; rintro e u7 ⟨a7, c7, rfl, i7, hb7⟩; have b7b : Below w5.heap.size w5 u7 := bd.trans (hb7.mono bd.size))
      | (go_at_call 48; refine (hEq2 u7 a7 c7 b7b ⟨_, _, i7⟩).mono ?_; rintro e u8 ⟨rfl, hb8⟩; have b8 : Below w5.heap.size w5 u8 := b7b.trans (hb8.mono b7b.size)))
  have HBB : Hid (Below w.heap.size w u8) := B26.trans (b8.mono B26.size)
  clear KS bd hTo2 hEq2 i7 hb7 b7b hb8 HBB
  have B31 : Below w.heap.size w u8 := B26.trans (b8.mono B26.size)
  have sB31 : w5.heap.size ≤ u8.heap.size := b8.size
  have h32 := h27.below b8
  have h33 := h28.below b8
  have h34 := h29.below b8
  have h35 := h30.below b8
  clear B26 h27 h28 h29 h30
  go_wp2_with fail
  refine (hTs u8 B31).mono ?_
  rintro e w9 ⟨as3, cs3, rfl, is3, hbs3⟩
  have B36 : Below w.heap.size w w9 := B31.trans (hbs3.mono B31.size)
  have sB36 : u8.heap.size ≤ w9.heap.size := hbs3.size
  have h37 := h32.below hbs3
  have h38 := h33.below hbs3
  have h39 := h34.below hbs3
  have h40 := h35.below hbs3
  clear B31 h32 h33 h34 h35
  go_wp2_with fail
  refine (hEs w9 _ _ _ _ h40 is3).mono ?_
  rintro e w10 ⟨rfl, hbw10⟩
  have B41 : Below w.heap.size w w10 := B36.trans (hbw10.mono B36.size)
  have sB41 : w9.heap.size ≤ w10.heap.size := hbw10.size
  have h42 := h37.below hbw10
  have h43 := h38.below hbw10
  have h44 := h39.below hbw10
  have h45 := h40.below hbw10
  have h46 := is3.below hbw10
  clear B36 h37 h38 h39 h40 is3
  go_wp2
  go_ret
  exact ⟨rfl, B41⟩

set_option maxRecDepth 100000 in
set_option maxHeartbeats 3200000 in
theorem lawMajority (hI : ImplMajority) (F : Int) (a : Option Addr) (cap : Nat) (M : List Int) (bs : Option Addr) (ds : Nat) (s : List Int) (w : World) (hF : I64v F) (hv : Vec w a M.length M) (hm : M.length ≤ maxLen) (hvs : Vec w bs s.length s) (hms : s.length ≤ maxLen) :
    Calls Try.prog 8 #[vwV F a M.length cap, .slice bs s.length ds] w fun e w' => e = .returned (.bool true) ∧ Below w.heap.size w w' := by
  have hP := Bx.new w 50 #[.int .i64 F, .slice a M.length cap]
  have hB0 := one14 w (.cells #[.int .i64 F, .slice a M.length cap] 50)
  generalize hW0 : w.alloc (.cells #[.int .i64 F, .slice a M.length cap] 50) = W0 at *
  have k00 : w.heap.size < W0.heap.size := hP.lt
  have hZ := szVw_any F a cap M 1048576 W0 hm ⟨by omega, by omega⟩
  have hft : Fits M := fun x hx => by have := hv.2.1 x hx; omega
  have hTo : M.length ≤ 1048576 → ∀ X, Below w.heap.size w X → Calls Try.prog 47 #[vwV F a M.length cap] X fun e w' => ∃ a' c', e = .returned (vwV F a' M.length c') ∧ It w' [icl M] [.slice a' M.length c'] X.heap.size w'.heap.size ∧ Below X.heap.size X w' := fun h X hX => (toVw_any F a cap M X (hv.below hX (Nat.le_refl _)) h).mono (fun e w' h => by obtain ⟨a', c', h1, h2⟩ := h; exact ⟨a', c', h1, It.of_newO h2, by obtain ⟨_, _, _, h3⟩ := h2; exact h3⟩)
  have hE : ∀ X a1 c1 a2 c2, Vec X a1 M.length M → Vec X a2 M.length M → Calls Try.prog 48 #[vwV F a1 M.length c1, vwV F a2 M.length c2] X fun e w' => e = .returned (.bool true) ∧ Below X.heap.size X w' := fun X a1 c1 a2 c2 h1 h2 => (eqVw_any F a1 a2 c1 c2 M X h1 h2 hm).mono (fun e w' h => ⟨h.1, h.2.1⟩)
  unfold maxLen at hms
  by_cases hbs : (1048576 : Int) < (s.length : Int)
  · clear hI hv hZ hTo hE
    unfold vwV at *
    go_enter Try.func8, Try.ntmps8
    go_wp2
    go_ret
    exact ⟨rfl, hB0⟩
  have hls : s.length ≤ 1048576 := by omega
  have hfs : Fits s := fun x hx => by have := hvs.2.1 x hx; omega
  have hTs : ∀ X, Below w.heap.size w X → Calls Try.prog 49 #[.slice bs s.length ds] X fun e w' => ∃ a' c', e = .returned (.slice a' s.length c') ∧ It w' [icl s] [.slice a' s.length c'] X.heap.size w'.heap.size ∧ Below X.heap.size X w' := fun X hX => (copy_any bs s.length ds s X (hvs.below hX (Nat.le_refl _)) (by omega)).mono (fun e w' h => by obtain ⟨b, h1, h2, h3, h4⟩ := h; exact ⟨_, _, h1, It.of_newO ⟨fun c => c = b, ow_icl.2 ⟨_, _, some b, rfl, OSo.of (OI.own (RowOf.own h3 (by unfold maxLen; omega))), fun c => by simp [eq_comm]⟩, fun c hc => by rw [hc]; exact h2, h4⟩, h4⟩)
  have hEs : ∀ X a1 c1 a2 c2 {l1 h1 l2 h2 : Nat}, It X [icl s] [.slice a1 s.length c1] l1 h1 → It X [icl s] [.slice a2 s.length c2] l2 h2 → Calls Try.prog 50 #[.slice a1 s.length c1, .slice a2 s.length c2] X fun e w' => e = .returned (.bool true) ∧ Below X.heap.size X w' := fun X a1 c1 a2 c2 l1 h1 l2 h2 i1 i2 => (eq_any a1 a2 s.length c1 s.length c2 s s X (it_vec i1 hfs) (it_vec i2 hfs) (by unfold maxLen; omega)).mono (fun e w' ⟨h1, q, h2⟩ => ⟨by rw [h1]; simp, by rw [h2]; exact belowN (Below.refl _ _)⟩)
  have hSp : M.length ≤ 1048576 → ∀ X a' c' b' d' {l1 h1 l2 h2 : Nat}, It X [icl M] [.slice a' M.length c'] l1 h1 → It X [icl s] [.slice b' s.length d'] l2 h2 → Calls Try.prog 33 #[vwV F a' M.length c', .slice b' s.length d'] X fun e w' => e = .returned (.bool (decide (mjP (F, M) s))) ∧ Below X.heap.size X w' := fun hq X a' c' b' d' l1 h1 l2 h2 i j => (majS_any F a' c' M b' d' s X (it_vec i hft) hq (it_vec j hfs) (by unfold maxLen; omega)).mono (fun e w' h => ⟨h.1, h.2.1⟩)
  have hIm : M.length ≤ 1048576 → ∀ X a' c' b' d' {l1 h1 l2 h2 : Nat}, It X [icl M] [.slice a' M.length c'] l1 h1 → It X [icl s] [.slice b' s.length d'] l2 h2 → Calls Try.prog 30 #[vwV F a' M.length c', .slice b' s.length d'] X fun e w' => e = .returned (.bool (decide (mjP (F, M) s))) ∧ Below X.heap.size X w' := fun hq X a' c' b' d' l1 h1 l2 h2 i j => hI F a' c' M b' d' s X hF (it_vcp i hft) hq (it_vcp j hfs) hls
  generalize (decide (mjP (F, M) s)) = Q at *
  have ne : (Q != Q) = false := by simp
  clear hI hv hvs
  unfold vwV at *
  obtain ⟨p0, p1⟩ := bx2 hP
  go_enter Try.func8, Try.ntmps8
  go_wp2_with fail
  refine (hZ).mono ?_
  rintro e w1 ⟨q, rfl, hq, hb1⟩
  clear p0 p1 hZ
  have B1 : Below w.heap.size w w1 := hB0.trans (hb1.mono hB0.size)
  have sB1 : W0.heap.size ≤ w1.heap.size := hb1.size
  have h2 := hP.below hb1
  clear hB0 hP
  rcases hq with rfl | ⟨hq0, hq1⟩
  · go_wp2
    go_ret
    exact ⟨rfl, B1⟩
  have hqn : decide (q < 0) = false := by simp; omega
  have hT := hTo (by omega)
  have hS2 := hSp (by omega)
  have hI2 := hIm (by omega)
  clear hIm hSp
  clear hTo
  obtain ⟨c3a, c3b⟩ := bx2 h2
  go_wp2_with fail
  refine (hT w1 B1).mono ?_
  rintro e w2 ⟨a1, c1, rfl, i1, hb1⟩
  clear c3a c3b
  have B4 : Below w.heap.size w w2 := B1.trans (hb1.mono B1.size)
  have sB4 : w1.heap.size ≤ w2.heap.size := hb1.size
  have h5 := h2.below hb1
  clear B1 h2
  go_wp2_with fail
  refine (hTs w2 B4).mono ?_
  rintro e w2b ⟨as1, cs1, rfl, is1, hbs1⟩
  have B6 : Below w.heap.size w w2b := B4.trans (hbs1.mono B4.size)
  have sB6 : w2.heap.size ≤ w2b.heap.size := hbs1.size
  have h7 := h5.below hbs1
  have h8 := i1.below hbs1
  clear B4 h5 i1
  go_wp2_with fail
  refine (hS2 w2b _ _ _ _ h8 is1).mono ?_
  rintro e w3 ⟨rfl, hb3⟩
  clear h8
  clear is1
  have B9 : Below w.heap.size w w3 := B6.trans (hb3.mono B6.size)
  have sB9 : w2b.heap.size ≤ w3.heap.size := hb3.size
  have h10 := h7.below hb3
  clear B6 h7
  obtain ⟨c11a, c11b⟩ := bx2 h10
  go_wp2_with fail
  refine (hT w3 B9).mono ?_
  rintro e w4 ⟨a2, c2, rfl, i2, hb2⟩
  clear c11a c11b
  have B12 : Below w.heap.size w w4 := B9.trans (hb2.mono B9.size)
  have sB12 : w3.heap.size ≤ w4.heap.size := hb2.size
  have h13 := h10.below hb2
  clear B9 h10
  have b15 := one14 w4 (.cells #[.int .i64 F, .slice a2 M.length c2] 34)
  have h16 := Bx.new w4 34 #[.int .i64 F, .slice a2 M.length c2]
  generalize hX14 : w4.alloc (.cells #[.int .i64 F, .slice a2 M.length c2] 34) = X14 at *
  have B18 : Below w.heap.size w X14 := B12.trans (b15.mono B12.size)
  have sB18 : w4.heap.size ≤ X14.heap.size := b15.size
  have h19 := h13.below b15
  have h20 := i2.below b15
  clear B12 h13 i2
  have k17 : w4.heap.size < X14.heap.size := h16.lt
  clear b15
  go_wp2_with fail
  refine (hTs X14 B18).mono ?_
  rintro e w4b ⟨as2, cs2, rfl, is2, hbs2⟩
  have B21 : Below w.heap.size w w4b := B18.trans (hbs2.mono B18.size)
  have sB21 : X14.heap.size ≤ w4b.heap.size := hbs2.size
  have h22 := h19.below hbs2
  have h23 := h20.below hbs2
  have h24 := h16.below hbs2
  clear B18 h19 h20 h16
  obtain ⟨c25a, c25b⟩ := bx2 h24
  go_wp2_with fail
  refine (hI2 w4b _ _ _ _ h23 is2).mono ?_
  rintro e w5 ⟨rfl, hb5⟩
  clear c25a c25b
  have B26 : Below w.heap.size w w5 := B21.trans (hb5.mono B21.size)
  have sB26 : w4b.heap.size ≤ w5.heap.size := hb5.size
  have h27 := h22.below hb5
  have h28 := h23.below hb5
  have h29 := h24.below hb5
  have h30 := is2.below hb5
  clear B21 h22 h23 h24 is2
  have KS : ∀ X, Below w5.heap.size w5 X → (X.cell? ⟨w.heap.size, 0, none⟩ = some (.int .i64 F) ∧ X.cell? ⟨w.heap.size, 1, none⟩ = some (.slice a M.length cap)) ∧ X.cell? ⟨w4.heap.size, 0, none⟩ = some (.int .i64 F) ∧ X.cell? ⟨w4.heap.size, 1, none⟩ = some (.slice a2 M.length c2) := fun X hX => ⟨bx2 (h27.below hX), bx2 (h29.below hX)⟩
  have bd : Below w5.heap.size w5 (w5.drewN 1) := belowN (Below.refl _ _)
  have hTo2 := fun X (h : Below w5.heap.size w5 X) => hT X (B26.trans (h.mono B26.size))
  have hEq2 := fun X (a7 : Option Addr) (c7 : Nat) (h : Below w5.heap.size w5 X) (h7 : ∃ lo hi, It X [icl M] [.slice a7 M.length c7] lo hi) => hE X a2 c2 a7 c7 (it_vec (h28.below h) hft) (by obtain ⟨_, _, h7⟩ := h7; exact it_vec h7 hft)
  go_wp2_with fail
  go_region_held3 (fun X => (X.cell? ⟨w.heap.size, 0, none⟩ = some (.int .i64 F) ∧ X.cell? ⟨w.heap.size, 1, none⟩ = some (.slice a M.length cap)) ∧ X.cell? ⟨w4.heap.size, 0, none⟩ = some (.int .i64 F) ∧ X.cell? ⟨w4.heap.size, 1, none⟩ = some (.slice a2 M.length c2))
    (first | exact KS _ b8 | exact KS _ b7b | exact KS _ bd)
    (first
      | (go_at_call 47; refine (hTo2 _ bd).mono ?_; rintro e u7 ⟨a7, c7, rfl, i7, hb7⟩; have b7b : Below w5.heap.size w5 u7 := bd.trans (hb7.mono bd.size))
      | (go_at_call 48; refine (hEq2 u7 a7 c7 b7b ⟨_, _, i7⟩).mono ?_; rintro e u8 ⟨rfl, hb8⟩; have b8 : Below w5.heap.size w5 u8 := b7b.trans (hb8.mono b7b.size)))
  have HBB : Hid (Below w.heap.size w u8) := B26.trans (b8.mono B26.size)
  clear KS bd hTo2 hEq2 i7 hb7 b7b hb8 HBB
  have B31 : Below w.heap.size w u8 := B26.trans (b8.mono B26.size)
  have sB31 : w5.heap.size ≤ u8.heap.size := b8.size
  have h32 := h27.below b8
  have h33 := h28.below b8
  have h34 := h29.below b8
  have h35 := h30.below b8
  clear B26 h27 h28 h29 h30
  go_wp2_with fail
  refine (hTs u8 B31).mono ?_
  rintro e w9 ⟨as3, cs3, rfl, is3, hbs3⟩
  have B36 : Below w.heap.size w w9 := B31.trans (hbs3.mono B31.size)
  have sB36 : u8.heap.size ≤ w9.heap.size := hbs3.size
  have h37 := h32.below hbs3
  have h38 := h33.below hbs3
  have h39 := h34.below hbs3
  have h40 := h35.below hbs3
  clear B31 h32 h33 h34 h35
  go_wp2_with fail
  refine (hEs w9 _ _ _ _ h40 is3).mono ?_
  rintro e w10 ⟨rfl, hbw10⟩
  have B41 : Below w.heap.size w w10 := B36.trans (hbw10.mono B36.size)
  have sB41 : w9.heap.size ≤ w10.heap.size := hbw10.size
  have h42 := h37.below hbw10
  have h43 := h38.below hbw10
  have h44 := h39.below hbw10
  have h45 := h40.below hbw10
  have h46 := is3.below hbw10
  clear B36 h37 h38 h39 h40 is3
  go_wp2
  go_ret
  exact ⟨rfl, B41⟩
end Go.Proofs.Ytbmpapmdkmnhhaa

/-
  The walk of the exact law of After FROM what the program answers.
-/
namespace Go.Proofs.Ytbmpapmdkmnhhaa
set_option linter.unusedVariables false
set_option linter.unusedSimpArgs false
open Go.RowKit Go.Sort

set_option maxRecDepth 100000 in
set_option maxHeartbeats 3200000 in
theorem lawAfter (hI : ImplAfter) (F : Int) (a : Option Addr) (cap : Nat) (M : List Int) (bs : Option Addr) (ds : Nat) (s : List Int) (bt : Option Addr) (dt : Nat) (t : List Int) (w : World) (hF : I64v F) (hv : Vec w a M.length M) (hm : M.length ≤ maxLen) (hvs : Vec w bs s.length s) (hms : s.length ≤ maxLen) (hvt : Vec w bt t.length t) (hmt : t.length ≤ maxLen) :
    Calls Try.prog 9 #[vwV F a M.length cap, .slice bs s.length ds, .slice bt t.length dt] w fun e w' => e = .returned (.bool true) ∧ Below w.heap.size w w' := by
  have hP := Bx.new w 50 #[.int .i64 F, .slice a M.length cap]
  have hB0 := one14 w (.cells #[.int .i64 F, .slice a M.length cap] 50)
  generalize hW0 : w.alloc (.cells #[.int .i64 F, .slice a M.length cap] 50) = W0 at *
  have k00 : w.heap.size < W0.heap.size := hP.lt
  have hZ := szVw_any F a cap M 1048576 W0 hm ⟨by omega, by omega⟩
  have hft : Fits M := fun x hx => by have := hv.2.1 x hx; omega
  have hTo : M.length ≤ 1048576 → ∀ X, Below w.heap.size w X → Calls Try.prog 47 #[vwV F a M.length cap] X fun e w' => ∃ a' c', e = .returned (vwV F a' M.length c') ∧ It w' [icl M] [.slice a' M.length c'] X.heap.size w'.heap.size ∧ Below X.heap.size X w' := fun h X hX => (toVw_any F a cap M X (hv.below hX (Nat.le_refl _)) h).mono (fun e w' h => by obtain ⟨a', c', h1, h2⟩ := h; exact ⟨a', c', h1, It.of_newO h2, by obtain ⟨_, _, _, h3⟩ := h2; exact h3⟩)
  have hE : ∀ X a1 c1 a2 c2, Vec X a1 M.length M → Vec X a2 M.length M → Calls Try.prog 48 #[vwV F a1 M.length c1, vwV F a2 M.length c2] X fun e w' => e = .returned (.bool true) ∧ Below X.heap.size X w' := fun X a1 c1 a2 c2 h1 h2 => (eqVw_any F a1 a2 c1 c2 M X h1 h2 hm).mono (fun e w' h => ⟨h.1, h.2.1⟩)
  unfold maxLen at hms hmt
  by_cases hbs : (1048576 : Int) < (s.length : Int)
  · clear hI hv hZ hTo hE
    unfold vwV at *
    go_enter Try.func9, Try.ntmps9
    go_wp2
    go_ret
    exact ⟨rfl, hB0⟩
  have hls : s.length ≤ 1048576 := by omega
  by_cases hbt : (1048576 : Int) < (t.length : Int)
  · clear hI hv hZ hTo hE
    unfold vwV at *
    go_enter Try.func9, Try.ntmps9
    go_wp2
    go_ret
    exact ⟨rfl, hB0⟩
  have hlt : t.length ≤ 1048576 := by omega
  have hfs : Fits s := fun x hx => by have := hvs.2.1 x hx; omega
  have hTs : ∀ X, Below w.heap.size w X → Calls Try.prog 49 #[.slice bs s.length ds] X fun e w' => ∃ a' c', e = .returned (.slice a' s.length c') ∧ It w' [icl s] [.slice a' s.length c'] X.heap.size w'.heap.size ∧ Below X.heap.size X w' := fun X hX => (copy_any bs s.length ds s X (hvs.below hX (Nat.le_refl _)) (by omega)).mono (fun e w' h => by obtain ⟨b, h1, h2, h3, h4⟩ := h; exact ⟨_, _, h1, It.of_newO ⟨fun c => c = b, ow_icl.2 ⟨_, _, some b, rfl, OSo.of (OI.own (RowOf.own h3 (by unfold maxLen; omega))), fun c => by simp [eq_comm]⟩, fun c hc => by rw [hc]; exact h2, h4⟩, h4⟩)
  have hEs : ∀ X a1 c1 a2 c2 {l1 h1 l2 h2 : Nat}, It X [icl s] [.slice a1 s.length c1] l1 h1 → It X [icl s] [.slice a2 s.length c2] l2 h2 → Calls Try.prog 50 #[.slice a1 s.length c1, .slice a2 s.length c2] X fun e w' => e = .returned (.bool true) ∧ Below X.heap.size X w' := fun X a1 c1 a2 c2 l1 h1 l2 h2 i1 i2 => (eq_any a1 a2 s.length c1 s.length c2 s s X (it_vec i1 hfs) (it_vec i2 hfs) (by unfold maxLen; omega)).mono (fun e w' ⟨h1, q, h2⟩ => ⟨by rw [h1]; simp, by rw [h2]; exact belowN (Below.refl _ _)⟩)
  have hft_ : Fits t := fun x hx => by have := hvt.2.1 x hx; omega
  have hTt : ∀ X, Below w.heap.size w X → Calls Try.prog 49 #[.slice bt t.length dt] X fun e w' => ∃ a' c', e = .returned (.slice a' t.length c') ∧ It w' [icl t] [.slice a' t.length c'] X.heap.size w'.heap.size ∧ Below X.heap.size X w' := fun X hX => (copy_any bt t.length dt t X (hvt.below hX (Nat.le_refl _)) (by omega)).mono (fun e w' h => by obtain ⟨b, h1, h2, h3, h4⟩ := h; exact ⟨_, _, h1, It.of_newO ⟨fun c => c = b, ow_icl.2 ⟨_, _, some b, rfl, OSo.of (OI.own (RowOf.own h3 (by unfold maxLen; omega))), fun c => by simp [eq_comm]⟩, fun c hc => by rw [hc]; exact h2, h4⟩, h4⟩)
  have hEt : ∀ X a1 c1 a2 c2 {l1 h1 l2 h2 : Nat}, It X [icl t] [.slice a1 t.length c1] l1 h1 → It X [icl t] [.slice a2 t.length c2] l2 h2 → Calls Try.prog 50 #[.slice a1 t.length c1, .slice a2 t.length c2] X fun e w' => e = .returned (.bool true) ∧ Below X.heap.size X w' := fun X a1 c1 a2 c2 l1 h1 l2 h2 i1 i2 => (eq_any a1 a2 t.length c1 t.length c2 t t X (it_vec i1 hft_) (it_vec i2 hft_) (by unfold maxLen; omega)).mono (fun e w' ⟨h1, q, h2⟩ => ⟨by rw [h1]; simp, by rw [h2]; exact belowN (Below.refl _ _)⟩)
  have hSp : M.length ≤ 1048576 → ∀ X a' c' b' d' b2 d2 {l1 h1 l2 h2 l3 h3 : Nat}, It X [icl M] [.slice a' M.length c'] l1 h1 → It X [icl s] [.slice b' s.length d'] l2 h2 → It X [icl t] [.slice b2 t.length d2] l3 h3 → Calls Try.prog 36 #[vwV F a' M.length c', .slice b' s.length d', .slice b2 t.length d2] X fun e w' => AnsVb X w' e (aftL (F, M) s t) := fun hq X a' c' b' d' b2 d2 l1 h1 l2 h2 l3 h3 i j k => aftS_any F a' c' M b' d' s b2 d2 t X (it_vec i hft) hq (it_vec j hfs) hls (it_vec k hft_) hlt
  have hIm : M.length ≤ 1048576 → ∀ X a' c' b' d' b2 d2 {l1 h1 l2 h2 l3 h3 : Nat}, It X [icl M] [.slice a' M.length c'] l1 h1 → It X [icl s] [.slice b' s.length d'] l2 h2 → It X [icl t] [.slice b2 t.length d2] l3 h3 → Calls Try.prog 32 #[vwV F a' M.length c', .slice b' s.length d', .slice b2 t.length d2] X fun e w' => AnsVb X w' e (aftL (F, M) s t) := fun hq X a' c' b' d' b2 d2 l1 h1 l2 h2 l3 h3 i j k => hI F a' c' M b' d' s b2 d2 t X hF (it_vcp i hft) hq (it_vcp j hfs) hls (it_vcp k hft_) hlt
  have hlZ := (aftL_small (F, M) s t).1
  have hfZ : Fits (aftL (F, M) s t).1.2 := fun x hx => by have := (aftL_small (F, M) s t).2.1 x hx; omega
  generalize aftL (F, M) s t = RR at *
  obtain ⟨⟨ZF, Z⟩, ok⟩ := RR
  have hok : (ok != ok) = false := by cases ok <;> rfl
  simp only [] at hlZ hfZ
  unfold AnsVb at hSp hIm
  simp only [] at hSp hIm
  have hEz : ∀ X a1 c1 a2 c2 {l1 h1 l2 h2 : Nat}, It X [icl Z] [.slice a1 Z.length c1] l1 h1 → It X [icl Z] [.slice a2 Z.length c2] l2 h2 → Calls Try.prog 48 #[vwV ZF a1 Z.length c1, vwV ZF a2 Z.length c2] X fun e w' => e = .returned (.bool true) ∧ Below X.heap.size X w' := fun X a1 c1 a2 c2 l1 h1 l2 h2 i1 i2 => (eqVw_any ZF a1 a2 c1 c2 Z X (it_vec i1 hfZ) (it_vec i2 hfZ) (by unfold maxLen; omega)).mono (fun e w' h => ⟨h.1, h.2.1⟩)
  obtain ⟨N, hN⟩ : ∃ N : Int, Hid (N = ((1 : Nat) : Int) + (Z.length : Int)) := ⟨_, rfl⟩
  have hN0 : decide (N < 0) = false := by rw [hN.out]; simp; omega
  have hNN : (N != N) = false := by simp
  have hMz : ∀ X a1 c1 lo hi, It X [icl Z] [.slice a1 Z.length c1] lo hi → Calls Try.prog 51 #[vwV ZF a1 Z.length c1, .int .i64 1] X fun e w' => e = .returned (.int .i64 N) ∧ It w' [icl (marks Z.length 1)] [.slice a1 Z.length c1] lo hi ∧ Wrt (Iv lo hi) X w' := fun X a1 c1 lo hi i => by rw [hN.out]; exact markVw_it ZF a1 c1 1 lo hi Z X i (by omega) (by omega)
  have hHz : ∀ X a1 c1 lo hi, It X [icl (marks Z.length 1)] [.slice a1 Z.length c1] lo hi → Calls Try.prog 53 #[vwV ZF a1 Z.length c1, .int .i64 1] X fun e w' => e = .returned (.int .i64 N) ∧ Below X.heap.size X w' := fun X a1 c1 lo hi i => by rw [hN.out]; exact heldVw_it ZF a1 c1 1 Z.length lo hi X i (by omega) (by omega)
  obtain ⟨K1, hK1⟩ : ∃ K1 : Nat, Hid (K1 = 1 + M.length) := ⟨_, rfl⟩
  obtain ⟨K2, hK2⟩ : ∃ K2 : Nat, Hid (K2 = K1 + s.length) := ⟨_, rfl⟩
  obtain ⟨K3, hK3⟩ : ∃ K3 : Nat, Hid (K3 = K2 + t.length) := ⟨_, rfl⟩
  have hK30 : decide ((K3 : Int) < 0) = false := by simp
  have hMx : M.length ≤ 1048576 → ∀ X a1 c1 lo hi, It X [icl M] [.slice a1 M.length c1] lo hi → Calls Try.prog 51 #[vwV F a1 M.length c1, .int .i64 1] X fun e w' => e = .returned (.int .i64 (K1 : Int)) ∧ It w' [icl (marks M.length 1)] [.slice a1 M.length c1] lo hi ∧ Wrt (Iv lo hi) X w' := fun h1 X a1 c1 lo hi i => by have e1 : (K1 : Int) = ((1 : Nat) : Int) + (M.length : Int) := (by have := hK1.out; omega); rw [e1]; exact markVw_it F a1 c1 1 lo hi M X i (by omega) (by omega)
  have hMs : M.length ≤ 1048576 → ∀ X a1 c1 lo hi, It X [icl s] [.slice a1 s.length c1] lo hi → Calls Try.prog 52 #[.slice a1 s.length c1, .int .i64 (K1 : Int)] X fun e w' => e = .returned (.int .i64 (K2 : Int)) ∧ It w' [icl (marks s.length K1)] [.slice a1 s.length c1] lo hi ∧ Wrt (Iv lo hi) X w' := fun h1 X a1 c1 lo hi i => by have e1 : (K2 : Int) = (K1 : Int) + (s.length : Int) := (by have := hK2.out; omega); rw [e1]; exact mkI_it a1 c1 K1 lo hi s X i (by have := hK1.out; have := hK2.out; omega) (by omega)
  have hMt : M.length ≤ 1048576 → ∀ X a1 c1 lo hi, It X [icl t] [.slice a1 t.length c1] lo hi → Calls Try.prog 52 #[.slice a1 t.length c1, .int .i64 (K2 : Int)] X fun e w' => e = .returned (.int .i64 (K3 : Int)) ∧ It w' [icl (marks t.length K2)] [.slice a1 t.length c1] lo hi ∧ Wrt (Iv lo hi) X w' := fun h1 X a1 c1 lo hi i => by have e1 : (K3 : Int) = (K2 : Int) + (t.length : Int) := (by have := hK3.out; omega); rw [e1]; exact mkI_it a1 c1 K2 lo hi t X i (by have := hK1.out; have := hK2.out; omega) (by omega)
  clear hI hv hvs hvt
  unfold vwV at *
  obtain ⟨p0, p1⟩ := bx2 hP
  go_enter Try.func9, Try.ntmps9
  go_wp2_with fail
  refine (hZ).mono ?_
  rintro e w1 ⟨q, rfl, hq, hb1⟩
  clear p0 p1 hZ
  have B1 : Below w.heap.size w w1 := hB0.trans (hb1.mono hB0.size)
  have sB1 : W0.heap.size ≤ w1.heap.size := hb1.size
  have h2 := hP.below hb1
  clear hB0 hP
  rcases hq with rfl | ⟨hq0, hq1⟩
  · go_wp2
    go_ret
    exact ⟨rfl, B1⟩
  have hqn : decide (q < 0) = false := by simp; omega
  have hT := hTo (by omega)
  have hS2 := hSp (by omega)
  have hI2 := hIm (by omega)
  have hMxx := hMx (by omega)
  have hMss := hMs (by omega)
  have hMtt := hMt (by omega)
  clear hIm hSp hMx hMs hMt
  clear hTo
  obtain ⟨c3a, c3b⟩ := bx2 h2
  go_wp2_with fail
  refine (hT w1 B1).mono ?_
  rintro e w2 ⟨a1, c1, rfl, i1, hb1⟩
  clear c3a c3b
  have B4 : Below w.heap.size w w2 := B1.trans (hb1.mono B1.size)
  have sB4 : w1.heap.size ≤ w2.heap.size := hb1.size
  have h5 := h2.below hb1
  clear B1 h2
  go_wp2_with fail
  refine (hTs w2 B4).mono ?_
  rintro e w2b ⟨as1, cs1, rfl, is1, hbs1⟩
  have B6 : Below w.heap.size w w2b := B4.trans (hbs1.mono B4.size)
  have sB6 : w2.heap.size ≤ w2b.heap.size := hbs1.size
  have h7 := h5.below hbs1
  have h8 := i1.below hbs1
  clear B4 h5 i1
  go_wp2_with fail
  refine (hTt w2b B6).mono ?_
  rintro e w2c ⟨at1, ct1, rfl, it1, hbt1⟩
  have B9 : Below w.heap.size w w2c := B6.trans (hbt1.mono B6.size)
  have sB9 : w2b.heap.size ≤ w2c.heap.size := hbt1.size
  have h10 := h7.below hbt1
  have h11 := h8.below hbt1
  have h12 := is1.below hbt1
  clear B6 h7 h8 is1
  go_wp2_with fail
  refine (hS2 w2c _ _ _ _ _ _ h11 h12 it1).mono ?_
  rintro e w3 ⟨av, cv, rfl, nv⟩
  have iv := It.of_newO nv
  obtain ⟨_, _, _, hbv⟩ := nv
  have B13 : Below w.heap.size w w3 := B9.trans (hbv.mono B9.size)
  have sB13 : w2c.heap.size ≤ w3.heap.size := hbv.size
  have h14 := h10.below hbv
  have h15 := h11.below hbv
  have h16 := h12.below hbv
  have h17 := it1.below hbv
  clear B9 h10 h11 h12 it1
  have b19 := one14 w3 (.cells #[.int .i64 ZF, .slice av Z.length cv] 34)
  have h20 := Bx.new w3 34 #[.int .i64 ZF, .slice av Z.length cv]
  generalize hX18 : w3.alloc (.cells #[.int .i64 ZF, .slice av Z.length cv] 34) = X18 at *
  have B22 : Below w.heap.size w X18 := B13.trans (b19.mono B13.size)
  have sB22 : w3.heap.size ≤ X18.heap.size := b19.size
  have h23 := h14.below b19
  have h24 := h15.below b19
  have h25 := h16.below b19
  have h26 := h17.below b19
  have h27 := iv.below b19
  clear B13 h14 h15 h16 h17 iv
  have k21 : w3.heap.size < X18.heap.size := h20.lt
  clear b19
  clear h24
  clear h25
  clear h26
  obtain ⟨c28a, c28b⟩ := bx2 h23
  go_wp2_with fail
  refine (hT X18 B22).mono ?_
  rintro e w4 ⟨a2, c2, rfl, i2, hb2⟩
  clear c28a c28b
  have B29 : Below w.heap.size w w4 := B22.trans (hb2.mono B22.size)
  have sB29 : X18.heap.size ≤ w4.heap.size := hb2.size
  have h30 := h23.below hb2
  have h31 := h27.below hb2
  have h32 := h20.below hb2
  clear B22 h23 h27 h20
  have b34 := one14 w4 (.cells #[.int .i64 F, .slice a2 M.length c2] 34)
  have h35 := Bx.new w4 34 #[.int .i64 F, .slice a2 M.length c2]
  generalize hX33 : w4.alloc (.cells #[.int .i64 F, .slice a2 M.length c2] 34) = X33 at *
  have B37 : Below w.heap.size w X33 := B29.trans (b34.mono B29.size)
  have sB37 : w4.heap.size ≤ X33.heap.size := b34.size
  have h38 := h30.below b34
  have h39 := h31.below b34
  have h40 := h32.below b34
  have h41 := i2.below b34
  clear B29 h30 h31 h32 i2
  have k36 : w4.heap.size < X33.heap.size := h35.lt
  clear b34
  go_wp2_with fail
  refine (hTs X33 B37).mono ?_
  rintro e w4b ⟨as2, cs2, rfl, is2, hbs2⟩
  have B42 : Below w.heap.size w w4b := B37.trans (hbs2.mono B37.size)
  have sB42 : X33.heap.size ≤ w4b.heap.size := hbs2.size
  have h43 := h38.below hbs2
  have h44 := h39.below hbs2
  have h45 := h40.below hbs2
  have h46 := h41.below hbs2
  have h47 := h35.below hbs2
  clear B37 h38 h39 h40 h41 h35
  go_wp2_with fail
  refine (hTt w4b B42).mono ?_
  rintro e w4c ⟨at2, ct2, rfl, it2, hbt2⟩
  have B48 : Below w.heap.size w w4c := B42.trans (hbt2.mono B42.size)
  have sB48 : w4b.heap.size ≤ w4c.heap.size := hbt2.size
  have h49 := h43.below hbt2
  have h50 := h44.below hbt2
  have h51 := h45.below hbt2
  have h52 := h46.below hbt2
  have h53 := h47.below hbt2
  have h54 := is2.below hbt2
  clear B42 h43 h44 h45 h46 h47 is2
  obtain ⟨c55a, c55b⟩ := bx2 h53
  go_wp2_with fail
  refine (hI2 w4c _ _ _ _ _ _ h52 h54 it2).mono ?_
  rintro e w5 ⟨ag, cg, rfl, ng⟩
  have ig := It.of_newO ng
  obtain ⟨_, _, _, hbg⟩ := ng
  have B56 : Below w.heap.size w w5 := B48.trans (hbg.mono B48.size)
  have sB56 : w4c.heap.size ≤ w5.heap.size := hbg.size
  have h57 := h49.below hbg
  have h58 := h50.below hbg
  have h59 := h51.below hbg
  have h60 := h52.below hbg
  have h61 := h53.below hbg
  have h62 := h54.below hbg
  have h63 := it2.below hbg
  clear B48 h49 h50 h51 h52 h53 h54 it2
  have b65 := one14 w5 (.cells #[.int .i64 ZF, .slice ag Z.length cg] 34)
  have h66 := Bx.new w5 34 #[.int .i64 ZF, .slice ag Z.length cg]
  generalize hX64 : w5.alloc (.cells #[.int .i64 ZF, .slice ag Z.length cg] 34) = X64 at *
  have B68 : Below w.heap.size w X64 := B56.trans (b65.mono B56.size)
  have sB68 : w5.heap.size ≤ X64.heap.size := b65.size
  have h69 := h57.below b65
  have h70 := h58.below b65
  have h71 := h59.below b65
  have h72 := h60.below b65
  have h73 := h61.below b65
  have h74 := h62.below b65
  have h75 := h63.below b65
  have h76 := ig.below b65
  clear B56 h57 h58 h59 h60 h61 h62 h63 ig
  have k67 : w5.heap.size < X64.heap.size := h66.lt
  clear b65
  clear c55a c55b
  obtain ⟨c77a, c77b⟩ := bx2 h66
  obtain ⟨c78a, c78b⟩ := bx2 h71
  go_wp2_with fail
  refine (hEz X64 _ _ _ _ h76 h70).mono ?_
  rintro e w6 ⟨rfl, hbw6⟩
  clear c77a c77b c78a c78b
  have B79 : Below w.heap.size w w6 := B68.trans (hbw6.mono B68.size)
  have sB79 : X64.heap.size ≤ w6.heap.size := hbw6.size
  have h80 := h69.below hbw6
  have h81 := h70.below hbw6
  have h82 := h71.below hbw6
  have h83 := h72.below hbw6
  have h84 := h73.below hbw6
  have h85 := h74.below hbw6
  have h86 := h75.below hbw6
  have h87 := h76.below hbw6
  have h88 := h66.below hbw6
  clear B68 h69 h70 h71 h72 h73 h74 h75 h76 h66
  have KS : ∀ X, Below w6.heap.size w6 X → (X.cell? ⟨w.heap.size, 0, none⟩ = some (.int .i64 F) ∧ X.cell? ⟨w.heap.size, 1, none⟩ = some (.slice a M.length cap)) ∧ X.cell? ⟨w4.heap.size, 0, none⟩ = some (.int .i64 F) ∧ X.cell? ⟨w4.heap.size, 1, none⟩ = some (.slice a2 M.length c2) := fun X hX => ⟨bx2 (h80.below hX), bx2 (h84.below hX)⟩
  have bd : Below w6.heap.size w6 (w6.drewN 1) := belowN (Below.refl _ _)
  have hTo2 := fun X (h : Below w6.heap.size w6 X) => hT X (B79.trans (h.mono B79.size))
  have hEq2 := fun X (a7 : Option Addr) (c7 : Nat) (h : Below w6.heap.size w6 X) (h7 : ∃ lo hi, It X [icl M] [.slice a7 M.length c7] lo hi) => hE X a2 c2 a7 c7 (it_vec (h83.below h) hft) (by obtain ⟨_, _, h7⟩ := h7; exact it_vec h7 hft)
  go_wp2_with fail
  go_region_held3 (fun X => (X.cell? ⟨w.heap.size, 0, none⟩ = some (.int .i64 F) ∧ X.cell? ⟨w.heap.size, 1, none⟩ = some (.slice a M.length cap)) ∧ X.cell? ⟨w4.heap.size, 0, none⟩ = some (.int .i64 F) ∧ X.cell? ⟨w4.heap.size, 1, none⟩ = some (.slice a2 M.length c2))
    (first | exact KS _ b8 | exact KS _ b7b | exact KS _ bd)
    (first
      | (go_at_call 47; refine (hTo2 _ bd).mono ?_; rintro e u7 ⟨a7, c7, rfl, i7, hb7⟩; have b7b : Below w6.heap.size w6 u7 := bd.trans (hb7.mono bd.size))
      | (go_at_call 48; refine (hEq2 u7 a7 c7 b7b ⟨_, _, i7⟩).mono ?_; rintro e u8 ⟨rfl, hb8⟩; have b8 : Below w6.heap.size w6 u8 := b7b.trans (hb8.mono b7b.size)))
  have HBB : Hid (Below w.heap.size w u8) := B79.trans (b8.mono B79.size)
  clear KS bd hTo2 hEq2 i7 hb7 b7b hb8 HBB
  have B89 : Below w.heap.size w u8 := B79.trans (b8.mono B79.size)
  have sB89 : w6.heap.size ≤ u8.heap.size := b8.size
  have h90 := h80.below b8
  have h91 := h81.below b8
  have h92 := h82.below b8
  have h93 := h83.below b8
  have h94 := h84.below b8
  have h95 := h85.below b8
  have h96 := h86.below b8
  have h97 := h87.below b8
  have h98 := h88.below b8
  clear B79 h80 h81 h82 h83 h84 h85 h86 h87 h88
  go_wp2_with fail
  refine (hTs u8 B89).mono ?_
  rintro e w9 ⟨as3, cs3, rfl, is3, hbs3⟩
  have B99 : Below w.heap.size w w9 := B89.trans (hbs3.mono B89.size)
  have sB99 : u8.heap.size ≤ w9.heap.size := hbs3.size
  have h100 := h90.below hbs3
  have h101 := h91.below hbs3
  have h102 := h92.below hbs3
  have h103 := h93.below hbs3
  have h104 := h94.below hbs3
  have h105 := h95.below hbs3
  have h106 := h96.below hbs3
  have h107 := h97.below hbs3
  have h108 := h98.below hbs3
  clear B89 h90 h91 h92 h93 h94 h95 h96 h97 h98
  go_wp2_with fail
  refine (hEs w9 _ _ _ _ h105 is3).mono ?_
  rintro e w10 ⟨rfl, hbw10⟩
  have B109 : Below w.heap.size w w10 := B99.trans (hbw10.mono B99.size)
  have sB109 : w9.heap.size ≤ w10.heap.size := hbw10.size
  have h110 := h100.below hbw10
  have h111 := h101.below hbw10
  have h112 := h102.below hbw10
  have h113 := h103.below hbw10
  have h114 := h104.below hbw10
  have h115 := h105.below hbw10
  have h116 := h106.below hbw10
  have h117 := h107.below hbw10
  have h118 := h108.below hbw10
  have h119 := is3.below hbw10
  clear B99 h100 h101 h102 h103 h104 h105 h106 h107 h108 is3
  clear h119
  go_wp2_with fail
  refine (hTt w10 B109).mono ?_
  rintro e w9b ⟨at3, ct3, rfl, it3, hbt3⟩
  have B120 : Below w.heap.size w w9b := B109.trans (hbt3.mono B109.size)
  have sB120 : w10.heap.size ≤ w9b.heap.size := hbt3.size
  have h121 := h110.below hbt3
  have h122 := h111.below hbt3
  have h123 := h112.below hbt3
  have h124 := h113.below hbt3
  have h125 := h114.below hbt3
  have h126 := h115.below hbt3
  have h127 := h116.below hbt3
  have h128 := h117.below hbt3
  have h129 := h118.below hbt3
  clear B109 h110 h111 h112 h113 h114 h115 h116 h117 h118
  go_wp2_with fail
  refine (hEt w9b _ _ _ _ h127 it3).mono ?_
  rintro e w11 ⟨rfl, hbw11⟩
  have B130 : Below w.heap.size w w11 := B120.trans (hbw11.mono B120.size)
  have sB130 : w9b.heap.size ≤ w11.heap.size := hbw11.size
  have h131 := h121.below hbw11
  have h132 := h122.below hbw11
  have h133 := h123.below hbw11
  have h134 := h124.below hbw11
  have h135 := h125.below hbw11
  have h136 := h126.below hbw11
  have h137 := h127.below hbw11
  have h138 := h128.below hbw11
  have h139 := h129.below hbw11
  have h140 := it3.below hbw11
  clear B120 h121 h122 h123 h124 h125 h126 h127 h128 h129 it3
  clear h140
  obtain ⟨c141a, c141b⟩ := bx2 h135
  go_wp2_with fail
  refine (hMxx w11 _ _ _ _ h134).mono ?_
  rintro e w12 ⟨rfl, i12, hw12⟩
  clear c141a c141b
  have sB142 : w11.heap.size ≤ w12.heap.size := hw12.size
  have B142 : Below w.heap.size w w12 := below_iv hw12 B130 B130.size (by omega)
  have h143 := h131.iv hw12 (by omega)
  have h144 := h132.far hw12 (by omega)
  have h145 := h133.iv hw12 (by omega)
  have h146 := h135.iv hw12 (by omega)
  have h147 := h136.far hw12 (by omega)
  have h148 := h137.far hw12 (by omega)
  have h149 := h138.far hw12 (by omega)
  have h150 := h139.iv hw12 (by omega)
  clear B130 h131 h132 h133 h134 h135 h136 h137 h138 h139
  go_wp2_with fail
  refine (hMss w12 _ _ _ _ h147).mono ?_
  rintro e w12b ⟨rfl, i12b, hw12b⟩
  have sB151 : w12.heap.size ≤ w12b.heap.size := hw12b.size
  have B151 : Below w.heap.size w w12b := below_iv hw12b B142 B142.size (by omega)
  have h152 := h143.iv hw12b (by omega)
  have h153 := h144.far hw12b (by omega)
  have h154 := h145.iv hw12b (by omega)
  have h155 := i12.far hw12b (by omega)
  have h156 := h146.iv hw12b (by omega)
  have h157 := h148.far hw12b (by omega)
  have h158 := h149.far hw12b (by omega)
  have h159 := h150.iv hw12b (by omega)
  clear B142 h143 h144 h145 i12 h146 h147 h148 h149 h150
  go_wp2_with fail
  refine (hMtt w12b _ _ _ _ h157).mono ?_
  rintro e w12c ⟨rfl, i12c, hw12c⟩
  have sB160 : w12b.heap.size ≤ w12c.heap.size := hw12c.size
  have B160 : Below w.heap.size w w12c := below_iv hw12c B151 B151.size (by omega)
  have h161 := h152.iv hw12c (by omega)
  have h162 := h153.far hw12c (by omega)
  have h163 := h154.iv hw12c (by omega)
  have h164 := h155.far hw12c (by omega)
  have h165 := h156.iv hw12c (by omega)
  have h166 := i12b.far hw12c (by omega)
  have h167 := h158.far hw12c (by omega)
  have h168 := h159.iv hw12c (by omega)
  clear B151 h152 h153 h154 h155 h156 i12b h157 h158 h159
  obtain ⟨c169a, c169b⟩ := bx2 h168
  obtain ⟨c170a, c170b⟩ := bx2 h163
  go_wp2_with fail
  refine (hEz w12c _ _ _ _ h167 h162).mono ?_
  rintro e w13 ⟨rfl, hbw13⟩
  clear c169a c169b c170a c170b
  have B171 : Below w.heap.size w w13 := B160.trans (hbw13.mono B160.size)
  have sB171 : w12c.heap.size ≤ w13.heap.size := hbw13.size
  have h172 := h161.below hbw13
  have h173 := h162.below hbw13
  have h174 := h163.below hbw13
  have h175 := h164.below hbw13
  have h176 := h165.below hbw13
  have h177 := h166.below hbw13
  have h178 := i12c.below hbw13
  have h179 := h167.below hbw13
  have h180 := h168.below hbw13
  clear B160 h161 h162 h163 h164 h165 h166 i12c h167 h168
  obtain ⟨c181a, c181b⟩ := bx2 h180
  go_wp2_with fail
  refine (hMz w13 _ _ _ _ h179).mono ?_
  rintro e w14 ⟨rfl, iw14, hww14⟩
  clear c181a c181b
  have sB182 : w13.heap.size ≤ w14.heap.size := hww14.size
  have B182 : Below w.heap.size w w14 := below_iv hww14 B171 B171.size (by omega)
  have h183 := h172.iv hww14 (by omega)
  have h184 := h173.far hww14 (by omega)
  have h185 := h174.iv hww14 (by omega)
  have h186 := h175.far hww14 (by omega)
  have h187 := h176.iv hww14 (by omega)
  have h188 := h177.far hww14 (by omega)
  have h189 := h178.far hww14 (by omega)
  have h190 := h180.iv hww14 (by omega)
  clear B171 h172 h173 h174 h175 h176 h177 h178 h179 h180
  obtain ⟨c191a, c191b⟩ := bx2 h190
  go_wp2_with fail
  refine (hHz w14 _ _ _ _ iw14).mono ?_
  rintro e w15 ⟨rfl, hbw15⟩
  clear c191a c191b
  have B192 : Below w.heap.size w w15 := B182.trans (hbw15.mono B182.size)
  have sB192 : w14.heap.size ≤ w15.heap.size := hbw15.size
  have h193 := h183.below hbw15
  have h194 := h184.below hbw15
  have h195 := h185.below hbw15
  have h196 := h186.below hbw15
  have h197 := h187.below hbw15
  have h198 := h188.below hbw15
  have h199 := h189.below hbw15
  have h200 := iw14.below hbw15
  have h201 := h190.below hbw15
  clear B182 h183 h184 h185 h186 h187 h188 h189 iw14 h190
  obtain ⟨c202a, c202b⟩ := bx2 h193
  go_wp2_with fail
  refine (hT w15 B192).mono ?_
  rintro e w16 ⟨a9, c9, rfl, i9, hb9⟩
  clear c202a c202b
  have B203 : Below w.heap.size w w16 := B192.trans (hb9.mono B192.size)
  have sB203 : w15.heap.size ≤ w16.heap.size := hb9.size
  have h204 := h193.below hb9
  have h205 := h194.below hb9
  have h206 := h195.below hb9
  have h207 := h196.below hb9
  have h208 := h197.below hb9
  have h209 := h198.below hb9
  have h210 := h199.below hb9
  have h211 := h200.below hb9
  have h212 := h201.below hb9
  clear B192 h193 h194 h195 h196 h197 h198 h199 h200 h201
  go_wp2_with fail
  refine (hTs w16 B203).mono ?_
  rintro e w16b ⟨as4, cs4, rfl, is4, hbs4⟩
  have B213 : Below w.heap.size w w16b := B203.trans (hbs4.mono B203.size)
  have sB213 : w16.heap.size ≤ w16b.heap.size := hbs4.size
  have h214 := h204.below hbs4
  have h215 := h205.below hbs4
  have h216 := h206.below hbs4
  have h217 := h207.below hbs4
  have h218 := h208.below hbs4
  have h219 := h209.below hbs4
  have h220 := h210.below hbs4
  have h221 := h211.below hbs4
  have h222 := h212.below hbs4
  have h223 := i9.below hbs4
  clear B203 h204 h205 h206 h207 h208 h209 h210 h211 h212 i9
  go_wp2_with fail
  refine (hTt w16b B213).mono ?_
  rintro e w16c ⟨at4, ct4, rfl, it4, hbt4⟩
  have B224 : Below w.heap.size w w16c := B213.trans (hbt4.mono B213.size)
  have sB224 : w16b.heap.size ≤ w16c.heap.size := hbt4.size
  have h225 := h214.below hbt4
  have h226 := h215.below hbt4
  have h227 := h216.below hbt4
  have h228 := h217.below hbt4
  have h229 := h218.below hbt4
  have h230 := h219.below hbt4
  have h231 := h220.below hbt4
  have h232 := h221.below hbt4
  have h233 := h222.below hbt4
  have h234 := h223.below hbt4
  have h235 := is4.below hbt4
  clear B213 h214 h215 h216 h217 h218 h219 h220 h221 h222 h223 is4
  go_wp2_with fail
  refine (hI2 w16c _ _ _ _ _ _ h234 h235 it4).mono ?_
  rintro e w17 ⟨ah, ch, rfl, nh⟩
  have ih := It.of_newO nh
  obtain ⟨_, _, _, hbh⟩ := nh
  have B236 : Below w.heap.size w w17 := B224.trans (hbh.mono B224.size)
  have sB236 : w16c.heap.size ≤ w17.heap.size := hbh.size
  have h237 := h225.below hbh
  have h238 := h226.below hbh
  have h239 := h227.below hbh
  have h240 := h228.below hbh
  have h241 := h229.below hbh
  have h242 := h230.below hbh
  have h243 := h231.below hbh
  have h244 := h232.below hbh
  have h245 := h233.below hbh
  have h246 := h234.below hbh
  have h247 := h235.below hbh
  have h248 := it4.below hbh
  clear B224 h225 h226 h227 h228 h229 h230 h231 h232 h233 h234 h235 it4
  have b250 := one14 w17 (.cells #[.int .i64 ZF, .slice ah Z.length ch] 34)
  have h251 := Bx.new w17 34 #[.int .i64 ZF, .slice ah Z.length ch]
  generalize hX249 : w17.alloc (.cells #[.int .i64 ZF, .slice ah Z.length ch] 34) = X249 at *
  have B253 : Below w.heap.size w X249 := B236.trans (b250.mono B236.size)
  have sB253 : w17.heap.size ≤ X249.heap.size := b250.size
  have h254 := h237.below b250
  have h255 := h238.below b250
  have h256 := h239.below b250
  have h257 := h240.below b250
  have h258 := h241.below b250
  have h259 := h242.below b250
  have h260 := h243.below b250
  have h261 := h244.below b250
  have h262 := h245.below b250
  have h263 := h246.below b250
  have h264 := h247.below b250
  have h265 := h248.below b250
  have h266 := ih.below b250
  clear B236 h237 h238 h239 h240 h241 h242 h243 h244 h245 h246 h247 h248 ih
  have k252 : w17.heap.size < X249.heap.size := h251.lt
  clear b250
  obtain ⟨c267a, c267b⟩ := bx2 h251
  obtain ⟨c268a, c268b⟩ := bx2 h256
  go_wp2_with fail
  refine (hEz X249 _ _ _ _ h266 h255).mono ?_
  rintro e w18 ⟨rfl, hbw18⟩
  clear c267a c267b c268a c268b
  have B269 : Below w.heap.size w w18 := B253.trans (hbw18.mono B253.size)
  have sB269 : X249.heap.size ≤ w18.heap.size := hbw18.size
  have h270 := h254.below hbw18
  have h271 := h255.below hbw18
  have h272 := h256.below hbw18
  have h273 := h257.below hbw18
  have h274 := h258.below hbw18
  have h275 := h259.below hbw18
  have h276 := h260.below hbw18
  have h277 := h261.below hbw18
  have h278 := h262.below hbw18
  have h279 := h263.below hbw18
  have h280 := h264.below hbw18
  have h281 := h265.below hbw18
  have h282 := h266.below hbw18
  have h283 := h251.below hbw18
  clear B253 h254 h255 h256 h257 h258 h259 h260 h261 h262 h263 h264 h265 h266 h251
  obtain ⟨c284a, c284b⟩ := bx2 h278
  go_wp2_with fail
  refine (hHz w18 _ _ _ _ h277).mono ?_
  rintro e w19 ⟨rfl, hbw19⟩
  clear c284a c284b
  have B285 : Below w.heap.size w w19 := B269.trans (hbw19.mono B269.size)
  have sB285 : w18.heap.size ≤ w19.heap.size := hbw19.size
  have h286 := h270.below hbw19
  have h287 := h271.below hbw19
  have h288 := h272.below hbw19
  have h289 := h273.below hbw19
  have h290 := h274.below hbw19
  have h291 := h275.below hbw19
  have h292 := h276.below hbw19
  have h293 := h277.below hbw19
  have h294 := h278.below hbw19
  have h295 := h279.below hbw19
  have h296 := h280.below hbw19
  have h297 := h281.below hbw19
  have h298 := h282.below hbw19
  have h299 := h283.below hbw19
  clear B269 h270 h271 h272 h273 h274 h275 h276 h277 h278 h279 h280 h281 h282 h283
  go_wp2
  go_ret
  exact ⟨rfl, B285⟩
end Go.Proofs.Ytbmpapmdkmnhhaa
