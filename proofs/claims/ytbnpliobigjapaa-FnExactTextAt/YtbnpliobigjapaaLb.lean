/-
  Several texts in one: Lgx.
-/
import Derived.Test.YtbnpliobigjapaaLa
import Derived.Deep.RegionHeld3
/-
  The walks of the exact laws of LogOk and TextAt FROM what the program answers.
-/
namespace Go.Proofs.Ytbnpliobigjapaa
set_option linter.unusedVariables false
set_option linter.unusedSimpArgs false
open Go.RowKit Go.Sort
attribute [local irreducible] sv

set_option maxRecDepth 100000 in
set_option maxHeartbeats 3200000 in
theorem lawLogOk (hI : ImplLogOk) (F : Int) (a : Option Addr) (cap : Nat) (T : List (List UInt8)) (w : World) (hF : I64l F) (hv : TxS w a T) (hlg : LongT T) (hm : T.length ≤ maxLen) :
    Calls Try.prog 5 #[lgV F a T.length cap] w fun e w' => e = .returned (.bool true) ∧ Below w.heap.size w w' := by
  have hP := Bx.new w 43 #[.int .i64 F, .slice a T.length cap]
  have hB0 := oneA w (.cells #[.int .i64 F, .slice a T.length cap] 43)
  generalize hW0 : w.alloc (.cells #[.int .i64 F, .slice a T.length cap] 43) = W0 at *
  have k00 : w.heap.size < W0.heap.size := hP.lt
  have hZ := szLg_any F a cap T 1048576 W0 (hv.below hB0) hlg hm ⟨by omega, by omega⟩
  have hTo : T.length ≤ 1048576 → ∀ X, Below w.heap.size w X → Calls Try.prog 40 #[lgV F a T.length cap] X fun e w' => ∃ a' c', e = .returned (lgV F a' T.length c') ∧ It w' [scl T] [.slice a' T.length c'] X.heap.size w'.heap.size ∧ Below X.heap.size X w' := fun h X hX => (toLg_any F a cap T X (hv.below hX) h).mono (fun e w' h => by obtain ⟨a', c', h1, h2⟩ := h; exact ⟨a', c', h1, It.of_newO h2, by obtain ⟨_, _, _, h3⟩ := h2; exact h3⟩)
  have hSh : totS T T.length ≤ 1048576 → ShortT T := fun h i hi => Nat.le_trans (totS_at T hi) h
  have hEq : T.length ≤ 1048576 → ∀ X a1 c1 a2 c2, TxS X a1 T → TxS X a2 T → Calls Try.prog 41 #[lgV F a1 T.length c1, lgV F a2 T.length c2] X fun e w' => e = .returned (.bool true) ∧ Below X.heap.size X w' := fun h X a1 c1 a2 c2 h1 h2 => (eqLg_any F a1 a2 c1 c2 T X h1 h2 hm).mono (fun e w' h => ⟨h.1, h.2.1⟩)
  have hSp : ∀ X a' c', TxP X a' c' T → Calls Try.prog 37 #[lgV F a' T.length c'] X fun e w' => e = .returned (.bool (decide (okLg (F, T)))) ∧ Below X.heap.size X w' := fun X a' c' h => (lgkS_any F a' c' T X h.txs hm).mono (fun e w' h => ⟨h.1, h.2.1⟩)
  have hIm : T.length ≤ 1048576 → ShortT T → ∀ X a' c', TxP X a' c' T → Calls Try.prog 38 #[lgV F a' T.length c'] X fun e w' => e = .returned (.bool (decide (okLg (F, T)))) ∧ Below X.heap.size X w' := fun h1 h2 X a' c' h => hI F a' c' T X hF h h1 h2
  generalize decide (okLg (F, T)) = Q at *
  have ne : (Q != Q) = false := by simp
  clear hI hv
  unfold lgV at *
  obtain ⟨p0, p1⟩ := hP.r2
  go_enter Try.func5, Try.ntmps5
  go_wp2_with fail
  refine (hZ).mono ?_
  rintro e w1 ⟨q, rfl, hq, hb1⟩
  clear p0 p1 hZ
  have B1 : Below w.heap.size w w1 := hB0.trans (hb1.mono hB0.size)
  have sB1 : W0.heap.size ≤ w1.heap.size := hb1.size
  have h2 := hP.below hb1
  clear hB0 hP
  rcases hq with rfl | ⟨hq0, hq1⟩
  · go_wp2
    go_ret
    exact ⟨rfl, B1⟩
  have hqn : decide (q < 0) = false := by simp; omega
  have hT := hTo (by omega)
  have hE := hEq (by omega)
  have hI2 := hIm (by omega) (hSh (by omega))
  clear hIm
  clear hTo hEq hSh
  obtain ⟨c3a, c3b⟩ := h2.r2
  go_wp2_with fail
  refine (hT w1 B1).mono ?_
  rintro e w2 ⟨a1, c1, rfl, i1, hb1⟩
  clear c3a c3b
  have B4 : Below w.heap.size w w2 := B1.trans (hb1.mono B1.size)
  have sB4 : w1.heap.size ≤ w2.heap.size := hb1.size
  have h5 := h2.below hb1
  clear B1 h2
  go_wp2_with fail
  refine (hSp w2 _ _ (it_txp i1)).mono ?_
  rintro e w3 ⟨rfl, hb3⟩
  clear i1
  have B6 : Below w.heap.size w w3 := B4.trans (hb3.mono B4.size)
  have sB6 : w2.heap.size ≤ w3.heap.size := hb3.size
  have h7 := h5.below hb3
  clear B4 h5
  obtain ⟨c8a, c8b⟩ := h7.r2
  go_wp2_with fail
  refine (hT w3 B6).mono ?_
  rintro e w4 ⟨a2, c2, rfl, i2, hb2⟩
  clear c8a c8b
  have B9 : Below w.heap.size w w4 := B6.trans (hb2.mono B6.size)
  have sB9 : w3.heap.size ≤ w4.heap.size := hb2.size
  have h10 := h7.below hb2
  clear B6 h7
  have b12 := oneA w4 (.cells #[.int .i64 F, .slice a2 T.length c2] 35)
  have h13 := Bx.new w4 35 #[.int .i64 F, .slice a2 T.length c2]
  generalize hX11 : w4.alloc (.cells #[.int .i64 F, .slice a2 T.length c2] 35) = X11 at *
  have B15 : Below w.heap.size w X11 := B9.trans (b12.mono B9.size)
  have sB15 : w4.heap.size ≤ X11.heap.size := b12.size
  have h16 := h10.below b12
  have h17 := i2.below b12
  clear B9 h10 i2
  have k14 : w4.heap.size < X11.heap.size := h13.lt
  clear b12
  obtain ⟨c18a, c18b⟩ := h13.r2
  go_wp2_with fail
  refine (hI2 X11 _ _ (it_txp h17)).mono ?_
  rintro e w5 ⟨rfl, hb5⟩
  clear c18a c18b
  have B19 : Below w.heap.size w w5 := B15.trans (hb5.mono B15.size)
  have sB19 : X11.heap.size ≤ w5.heap.size := hb5.size
  have h20 := h16.below hb5
  have h21 := h17.below hb5
  have h22 := h13.below hb5
  clear B15 h16 h17 h13
  have KS : ∀ X, Below w5.heap.size w5 X → (X.cell? ⟨w.heap.size, 0, none⟩ = some (.int .i64 F) ∧ X.cell? ⟨w.heap.size, 1, none⟩ = some (.slice a T.length cap)) ∧ X.cell? ⟨w4.heap.size, 0, none⟩ = some (.int .i64 F) ∧ X.cell? ⟨w4.heap.size, 1, none⟩ = some (.slice a2 T.length c2) := fun X hX => ⟨(h20.below hX).r2, (h22.below hX).r2⟩
  have bd : Below w5.heap.size w5 (w5.drewN 1) := belowN (Below.refl _ _)
  have hTo2 := fun X (h : Below w5.heap.size w5 X) => hT X (B19.trans (h.mono B19.size))
  have hEq2 := fun X (a7 : Option Addr) (c7 : Nat) (h : Below w5.heap.size w5 X) (h7 : ∃ lo hi, It X [scl T] [.slice a7 T.length c7] lo hi) => hE X a2 c2 a7 c7 (it_scl (h21.below h)).1 (by obtain ⟨_, _, h7⟩ := h7; exact (it_scl h7).1)
  go_wp2_with fail
  go_region_held3 (fun X => (X.cell? ⟨w.heap.size, 0, none⟩ = some (.int .i64 F) ∧ X.cell? ⟨w.heap.size, 1, none⟩ = some (.slice a T.length cap)) ∧ X.cell? ⟨w4.heap.size, 0, none⟩ = some (.int .i64 F) ∧ X.cell? ⟨w4.heap.size, 1, none⟩ = some (.slice a2 T.length c2))
    (first | exact KS _ b8 | exact KS _ b7b | exact KS _ bd)
    (first
      | (go_at_call 40; refine (hTo2 _ bd).mono ?_; rintro e u7 ⟨a7, c7, rfl, i7, hb7⟩; have b7b : Below w5.heap.size w5 u7 := bd.trans (hb7.mono bd.size))
      | (go_at_call 41; refine (hEq2 u7 a7 c7 b7b ⟨_, _, i7⟩).mono ?_; rintro e u8 ⟨rfl, hb8⟩; have b8 : Below w5.heap.size w5 u8 := b7b.trans (hb8.mono b7b.size)))
  have HBB : Hid (Below w.heap.size w u8) := B19.trans (b8.mono B19.size)
  go_wp2
  go_ret
  exact ⟨rfl, HBB.out⟩

set_option maxRecDepth 100000 in
set_option maxHeartbeats 3200000 in
theorem lawTextAt (hI : ImplTextAt) (F : Int) (a : Option Addr) (cap : Nat) (T : List (List UInt8)) (v : Int) (w : World) (hF : I64l F) (hv : TxS w a T) (hlg : LongT T) (hm : T.length ≤ maxLen) (hvr : I64l v) :
    Calls Try.prog 7 #[lgV F a T.length cap, .int .i64 v] w fun e w' => e = .returned (.bool true) ∧ Below w.heap.size w w' := by
  have hP := Bx.new w 43 #[.int .i64 F, .slice a T.length cap]
  have hB0 := oneA w (.cells #[.int .i64 F, .slice a T.length cap] 43)
  generalize hW0 : w.alloc (.cells #[.int .i64 F, .slice a T.length cap] 43) = W0 at *
  have k00 : w.heap.size < W0.heap.size := hP.lt
  have hZ := szLg_any F a cap T 1048576 W0 (hv.below hB0) hlg hm ⟨by omega, by omega⟩
  have hTo : T.length ≤ 1048576 → ∀ X, Below w.heap.size w X → Calls Try.prog 40 #[lgV F a T.length cap] X fun e w' => ∃ a' c', e = .returned (lgV F a' T.length c') ∧ It w' [scl T] [.slice a' T.length c'] X.heap.size w'.heap.size ∧ Below X.heap.size X w' := fun h X hX => (toLg_any F a cap T X (hv.below hX) h).mono (fun e w' h => by obtain ⟨a', c', h1, h2⟩ := h; exact ⟨a', c', h1, It.of_newO h2, by obtain ⟨_, _, _, h3⟩ := h2; exact h3⟩)
  have hSh : totS T T.length ≤ 1048576 → ShortT T := fun h i hi => Nat.le_trans (totS_at T hi) h
  have hEq : T.length ≤ 1048576 → ∀ X a1 c1 a2 c2, TxS X a1 T → TxS X a2 T → Calls Try.prog 41 #[lgV F a1 T.length c1, lgV F a2 T.length c2] X fun e w' => e = .returned (.bool true) ∧ Below X.heap.size X w' := fun h X a1 c1 a2 c2 h1 h2 => (eqLg_any F a1 a2 c1 c2 T X h1 h2 hm).mono (fun e w' h => ⟨h.1, h.2.1⟩)
  have hSp : ∀ X a' c', TxP X a' c' T → Calls Try.prog 33 #[lgV F a' T.length c', .int .i64 v] X fun e w' => e = .returned (.tuple #[.string (sv (txtLg (F, T) v).1), .bool (txtLg (F, T) v).2]) ∧ Below X.heap.size X w' := fun X a' c' h => (lgtS_any F a' c' T v X h.txs hm).mono (fun e w' h => ⟨h.1, h.2.1⟩)
  have hIm : T.length ≤ 1048576 → ShortT T → ∀ X a' c', TxP X a' c' T → Calls Try.prog 32 #[lgV F a' T.length c', .int .i64 v] X fun e w' => e = .returned (.tuple #[.string (sv (txtLg (F, T) v).1), .bool (txtLg (F, T) v).2]) ∧ Below X.heap.size X w' := fun h1 h2 X a' c' h => hI F a' c' T v X hF hvr h h1 h2
  generalize (txtLg (F, T) v).1 = Qs at *
  generalize (txtLg (F, T) v).2 = Qb at *
  have ne : (Qb != Qb) = false := by simp
  have ns : ((sv Qs).toList == (sv Qs).toList) = true := by simp
  clear hI hv
  unfold lgV at *
  obtain ⟨p0, p1⟩ := hP.r2
  go_enter Try.func7, Try.ntmps7
  go_wp2_with fail
  refine (hZ).mono ?_
  rintro e w1 ⟨q, rfl, hq, hb1⟩
  clear p0 p1 hZ
  have B1 : Below w.heap.size w w1 := hB0.trans (hb1.mono hB0.size)
  have sB1 : W0.heap.size ≤ w1.heap.size := hb1.size
  have h2 := hP.below hb1
  clear hB0 hP
  rcases hq with rfl | ⟨hq0, hq1⟩
  · go_wp2
    go_ret
    exact ⟨rfl, B1⟩
  have hqn : decide (q < 0) = false := by simp; omega
  have hT := hTo (by omega)
  have hE := hEq (by omega)
  have hI2 := hIm (by omega) (hSh (by omega))
  clear hIm
  clear hTo hEq hSh
  obtain ⟨c3a, c3b⟩ := h2.r2
  go_wp2_with fail
  refine (hT w1 B1).mono ?_
  rintro e w2 ⟨a1, c1, rfl, i1, hb1⟩
  clear c3a c3b
  have B4 : Below w.heap.size w w2 := B1.trans (hb1.mono B1.size)
  have sB4 : w1.heap.size ≤ w2.heap.size := hb1.size
  have h5 := h2.below hb1
  clear B1 h2
  go_wp2_with fail
  refine (hSp w2 _ _ (it_txp i1)).mono ?_
  rintro e w3 ⟨rfl, hb3⟩
  clear i1
  have B6 : Below w.heap.size w w3 := B4.trans (hb3.mono B4.size)
  have sB6 : w2.heap.size ≤ w3.heap.size := hb3.size
  have h7 := h5.below hb3
  clear B4 h5
  obtain ⟨c8a, c8b⟩ := h7.r2
  go_wp2_with fail
  refine (hT w3 B6).mono ?_
  rintro e w4 ⟨a2, c2, rfl, i2, hb2⟩
  clear c8a c8b
  have B9 : Below w.heap.size w w4 := B6.trans (hb2.mono B6.size)
  have sB9 : w3.heap.size ≤ w4.heap.size := hb2.size
  have h10 := h7.below hb2
  clear B6 h7
  have b12 := oneA w4 (.cells #[.int .i64 F, .slice a2 T.length c2] 35)
  have h13 := Bx.new w4 35 #[.int .i64 F, .slice a2 T.length c2]
  generalize hX11 : w4.alloc (.cells #[.int .i64 F, .slice a2 T.length c2] 35) = X11 at *
  have B15 : Below w.heap.size w X11 := B9.trans (b12.mono B9.size)
  have sB15 : w4.heap.size ≤ X11.heap.size := b12.size
  have h16 := h10.below b12
  have h17 := i2.below b12
  clear B9 h10 i2
  have k14 : w4.heap.size < X11.heap.size := h13.lt
  clear b12
  obtain ⟨c18a, c18b⟩ := h13.r2
  go_wp2_with fail
  refine (hI2 X11 _ _ (it_txp h17)).mono ?_
  rintro e w5 ⟨rfl, hb5⟩
  clear c18a c18b
  have B19 : Below w.heap.size w w5 := B15.trans (hb5.mono B15.size)
  have sB19 : X11.heap.size ≤ w5.heap.size := hb5.size
  have h20 := h16.below hb5
  have h21 := h17.below hb5
  have h22 := h13.below hb5
  clear B15 h16 h17 h13
  have KS : ∀ X, Below w5.heap.size w5 X → (X.cell? ⟨w.heap.size, 0, none⟩ = some (.int .i64 F) ∧ X.cell? ⟨w.heap.size, 1, none⟩ = some (.slice a T.length cap)) ∧ X.cell? ⟨w4.heap.size, 0, none⟩ = some (.int .i64 F) ∧ X.cell? ⟨w4.heap.size, 1, none⟩ = some (.slice a2 T.length c2) := fun X hX => ⟨(h20.below hX).r2, (h22.below hX).r2⟩
  have bd : Below w5.heap.size w5 (w5.drewN 1) := belowN (Below.refl _ _)
  have hTo2 := fun X (h : Below w5.heap.size w5 X) => hT X (B19.trans (h.mono B19.size))
  have hEq2 := fun X (a7 : Option Addr) (c7 : Nat) (h : Below w5.heap.size w5 X) (h7 : ∃ lo hi, It X [scl T] [.slice a7 T.length c7] lo hi) => hE X a2 c2 a7 c7 (it_scl (h21.below h)).1 (by obtain ⟨_, _, h7⟩ := h7; exact (it_scl h7).1)
  go_wp2_with fail
  go_region_held3 (fun X => (X.cell? ⟨w.heap.size, 0, none⟩ = some (.int .i64 F) ∧ X.cell? ⟨w.heap.size, 1, none⟩ = some (.slice a T.length cap)) ∧ X.cell? ⟨w4.heap.size, 0, none⟩ = some (.int .i64 F) ∧ X.cell? ⟨w4.heap.size, 1, none⟩ = some (.slice a2 T.length c2))
    (first | exact KS _ b8 | exact KS _ b7b | exact KS _ bd)
    (first
      | (go_at_call 40; refine (hTo2 _ bd).mono ?_; rintro e u7 ⟨a7, c7, rfl, i7, hb7⟩; have b7b : Below w5.heap.size w5 u7 := bd.trans (hb7.mono bd.size))
      | (go_at_call 41; refine (hEq2 u7 a7 c7 b7b ⟨_, _, i7⟩).mono ?_; rintro e u8 ⟨rfl, hb8⟩; have b8 : Below w5.heap.size w5 u8 := b7b.trans (hb8.mono b7b.size)))
  have HBB : Hid (Below w.heap.size w u8) := B19.trans (b8.mono B19.size)
  go_wp2
  go_ret
  exact ⟨rfl, HBB.out⟩
end Go.Proofs.Ytbnpliobigjapaa
