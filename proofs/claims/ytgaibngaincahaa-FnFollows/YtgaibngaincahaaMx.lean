/-
  Several texts in one: LawFo.
-/
import Derived.Test.YtgaibngaincahaaMw
import Derived.Test.YtgaibngaincahaaMq
import Derived.Deep.RegionHeld3
/-
  The law FnFollows FROM what the program answers.
-/
namespace Go.Proofs.Ytgaibngaincahaa
set_option linter.unusedVariables false
set_option linter.unusedSimpArgs false
open Go.RowKit Go.Sort

/-- A row in a box of its own, to be read. -/
structure Rb (w : World) (o : Nat) (A : Ra) (r : Rw) : Prop where
  box : Bx w o 35 #[.int .i64 r.ver, .slice A.ta r.txt.length A.tc, .slice A.ga r.got.length A.gc, .slice A.sa r.sus.length A.sc, .bool r.wed, .bool r.rdy, .int .i64 r.by_, .slice A.ma r.trm.length A.mc]
  rw : RwP w A r
theorem Rb.below {w w' : World} {o : Nat} {A : Ra} {r : Rw} (h : Rb w o A r) (hb : Below w.heap.size w w') : Rb w' o A r := ⟨h.box.below hb, h.rw.below hb⟩
theorem one_sv : (⟨#[116]⟩ : ByteArray) = sv [116] := by unfold sv; rfl
theorem Rb.new {w : World} {A : Ra} {r : Rw} (h : RwP w A r) : Rb (w.alloc (.cells (rwC A r) 35)) w.heap.size A r := ⟨Bx.new _ _ _, h.below (oneA16 w _)⟩
attribute [local irreducible] sv
set_option maxRecDepth 100000 in
set_option maxHeartbeats 12800000 in
theorem lawFnFollows (hRo : ImplRowOk) (hFo : ImplFollows) (hLa : ImplLater) (hNr : ImplNewRow) (a : Option Addr) (len cap : Nat) (bs : Nat → Int) (w : World) (hv : BVec w a len bs) :
    Calls Try.prog 4 #[.slice a len cap] w fun e w' => e = .returned (.bool true) ∧ Below w.heap.size w w' := by
  by_cases hbig : (4096 : Int) < (len : Int)
  · have hB := big_any a len cap w
    rw [decide_eq_true hbig] at hB
    go_enter Try.func4, Try.ntmps4
    go_wp2_with fail
    refine hB.mono ?_
    rintro e w1 ⟨rfl, hw1⟩
    have HW : Hid (w1 = w) := hw1
    clear hw1
    go_wp2
    go_ret
    exact ⟨rfl, by rw [HW.out]; exact Below.refl _ _⟩
  · have hB := big_any a len cap w
    rw [decide_eq_false hbig] at hB
    have hl : len ≤ 4096 := by omega
    have hD := drawFo_any a len cap bs w hv hl
    unfold rwV rwC at hD
    go_enter Try.func4, Try.ntmps4
    go_wp2_with fail
    refine hB.mono ?_
    rintro e w0 ⟨rfl, hw0⟩
    rw [hw0]
    clear hw0 hB hbig
    go_wp2_with fail
    refine hD.mono ?_
    rintro e w1 ⟨A, B, r, s, n, rfl, hr, hs, hSr, hSs, ⟨hn0, hn1⟩, hb1⟩
    go_upto_region 4 with fail
    have b_1 := oneA16 w1 (.cells #[.int .i64 r.ver, .slice A.ta r.txt.length A.tc, .slice A.ga r.got.length A.gc, .slice A.sa r.sus.length A.sc, .bool r.wed, .bool r.rdy, .int .i64 r.by_, .slice A.ma r.trm.length A.mc] 35)
    have h_2 : Rb (w1.alloc (.cells #[.int .i64 r.ver, .slice A.ta r.txt.length A.tc, .slice A.ga r.got.length A.gc, .slice A.sa r.sus.length A.sc, .bool r.wed, .bool r.rdy, .int .i64 r.by_, .slice A.ma r.trm.length A.mc] 35)) (w1.heap.size) A r := by
      have := Rb.new (w := w1) hr
      skip
      exact this
    have B_3 : Below w.heap.size w (w1.alloc (.cells #[.int .i64 r.ver, .slice A.ta r.txt.length A.tc, .slice A.ga r.got.length A.gc, .slice A.sa r.sus.length A.sc, .bool r.wed, .bool r.rdy, .int .i64 r.by_, .slice A.ma r.trm.length A.mc] 35)) := hb1.trans (b_1.mono hb1.size)
    clear hb1
    have b_4 := oneA16 (w1.alloc (.cells #[.int .i64 r.ver, .slice A.ta r.txt.length A.tc, .slice A.ga r.got.length A.gc, .slice A.sa r.sus.length A.sc, .bool r.wed, .bool r.rdy, .int .i64 r.by_, .slice A.ma r.trm.length A.mc] 35)) (.cells #[.int .i64 s.ver, .slice B.ta s.txt.length B.tc, .slice B.ga s.got.length B.gc, .slice B.sa s.sus.length B.sc, .bool s.wed, .bool s.rdy, .int .i64 s.by_, .slice B.ma s.trm.length B.mc] 35)
    have h_5 : Rb ((w1.alloc (.cells #[.int .i64 r.ver, .slice A.ta r.txt.length A.tc, .slice A.ga r.got.length A.gc, .slice A.sa r.sus.length A.sc, .bool r.wed, .bool r.rdy, .int .i64 r.by_, .slice A.ma r.trm.length A.mc] 35)).alloc (.cells #[.int .i64 s.ver, .slice B.ta s.txt.length B.tc, .slice B.ga s.got.length B.gc, .slice B.sa s.sus.length B.sc, .bool s.wed, .bool s.rdy, .int .i64 s.by_, .slice B.ma s.trm.length B.mc] 35)) (w1.heap.size + 1) B s := by
      have := Rb.new (w := (w1.alloc (.cells #[.int .i64 r.ver, .slice A.ta r.txt.length A.tc, .slice A.ga r.got.length A.gc, .slice A.sa r.sus.length A.sc, .bool r.wed, .bool r.rdy, .int .i64 r.by_, .slice A.ma r.trm.length A.mc] 35))) (hs.below b_1)
      simp only [World.size_alloc] at this
      exact this
    have B_6 : Below w.heap.size w ((w1.alloc (.cells #[.int .i64 r.ver, .slice A.ta r.txt.length A.tc, .slice A.ga r.got.length A.gc, .slice A.sa r.sus.length A.sc, .bool r.wed, .bool r.rdy, .int .i64 r.by_, .slice A.ma r.trm.length A.mc] 35)).alloc (.cells #[.int .i64 s.ver, .slice B.ta s.txt.length B.tc, .slice B.ga s.got.length B.gc, .slice B.sa s.sus.length B.sc, .bool s.wed, .bool s.rdy, .int .i64 s.by_, .slice B.ma s.trm.length B.mc] 35)) := B_3.trans (b_4.mono B_3.size)
    have h_7 := h_2.below b_4
    clear B_3 h_2
    generalize hW2 : ((w1.alloc (.cells #[.int .i64 r.ver, .slice A.ta r.txt.length A.tc, .slice A.ga r.got.length A.gc, .slice A.sa r.sus.length A.sc, .bool r.wed, .bool r.rdy, .int .i64 r.by_, .slice A.ma r.trm.length A.mc] 35)).alloc (.cells #[.int .i64 s.ver, .slice B.ta s.txt.length B.tc, .slice B.ga s.got.length B.gc, .slice B.sa s.sus.length B.sc, .bool s.wed, .bool s.rdy, .int .i64 s.by_, .slice B.ma s.trm.length B.mc] 35)) = W2 at *
    clear hD
    have hn64 : I64v n := ⟨by omega, by omega⟩
    have hF := hFo A B r s n W2 h_7.rw h_5.rw hn64
    unfold rwV rwC at hF
    obtain ⟨Q, hQ⟩ : ∃ Q, Hid (folB r s n = Q) := ⟨_, rfl⟩
    rw [hQ.out] at hF
    obtain ⟨⟨c_80, c_81, c_82, c_83⟩, c_84, c_85, c_86, c_87⟩ := Bx.r8 h_7.box
    obtain ⟨⟨c_90, c_91, c_92, c_93⟩, c_94, c_95, c_96, c_97⟩ := Bx.r8 h_5.box
    go_wp2_with fail
    refine hF.mono ?_
    rintro e w3 ⟨rfl, hb3⟩
    clear hF c_80 c_81 c_82 c_83 c_84 c_85 c_86 c_87 c_90 c_91 c_92 c_93 c_94 c_95 c_96 c_97
    have B_10 : Below w.heap.size w w3 := B_6.trans (hb3.mono B_6.size)
    have h_11 := h_7.below hb3
    have h_12 := h_5.below hb3
    clear B_6 h_7 h_5
    have hD := drawLt_any a len cap bs w3 (hv.below B_10 (Nat.le_refl _)) hl
    unfold rwV rwC at hD
    go_wp2_with fail
    refine hD.mono ?_
    rintro e w4 ⟨C, D, x, y, rfl, hx, hy, hSx, hSy, hb4⟩
    clear hD
    have B_13 : Below w.heap.size w w4 := B_10.trans (hb4.mono B_10.size)
    have h_14 := h_11.below hb4
    have h_15 := h_12.below hb4
    clear B_10 h_11 h_12
    go_upto_region 6 with fail
    have b_16 := oneA16 w4 (.cells #[.int .i64 x.ver, .slice C.ta x.txt.length C.tc, .slice C.ga x.got.length C.gc, .slice C.sa x.sus.length C.sc, .bool x.wed, .bool x.rdy, .int .i64 x.by_, .slice C.ma x.trm.length C.mc] 35)
    have h_17 : Rb (w4.alloc (.cells #[.int .i64 x.ver, .slice C.ta x.txt.length C.tc, .slice C.ga x.got.length C.gc, .slice C.sa x.sus.length C.sc, .bool x.wed, .bool x.rdy, .int .i64 x.by_, .slice C.ma x.trm.length C.mc] 35)) (w4.heap.size) C x := by
      have := Rb.new (w := w4) hx
      skip
      exact this
    have B_18 : Below w.heap.size w (w4.alloc (.cells #[.int .i64 x.ver, .slice C.ta x.txt.length C.tc, .slice C.ga x.got.length C.gc, .slice C.sa x.sus.length C.sc, .bool x.wed, .bool x.rdy, .int .i64 x.by_, .slice C.ma x.trm.length C.mc] 35)) := B_13.trans (b_16.mono B_13.size)
    have h_19 := h_14.below b_16
    have h_20 := h_15.below b_16
    clear B_13 h_14 h_15
    have b_21 := oneA16 (w4.alloc (.cells #[.int .i64 x.ver, .slice C.ta x.txt.length C.tc, .slice C.ga x.got.length C.gc, .slice C.sa x.sus.length C.sc, .bool x.wed, .bool x.rdy, .int .i64 x.by_, .slice C.ma x.trm.length C.mc] 35)) (.cells #[.int .i64 y.ver, .slice D.ta y.txt.length D.tc, .slice D.ga y.got.length D.gc, .slice D.sa y.sus.length D.sc, .bool y.wed, .bool y.rdy, .int .i64 y.by_, .slice D.ma y.trm.length D.mc] 35)
    have h_22 : Rb ((w4.alloc (.cells #[.int .i64 x.ver, .slice C.ta x.txt.length C.tc, .slice C.ga x.got.length C.gc, .slice C.sa x.sus.length C.sc, .bool x.wed, .bool x.rdy, .int .i64 x.by_, .slice C.ma x.trm.length C.mc] 35)).alloc (.cells #[.int .i64 y.ver, .slice D.ta y.txt.length D.tc, .slice D.ga y.got.length D.gc, .slice D.sa y.sus.length D.sc, .bool y.wed, .bool y.rdy, .int .i64 y.by_, .slice D.ma y.trm.length D.mc] 35)) (w4.heap.size + 1) D y := by
      have := Rb.new (w := (w4.alloc (.cells #[.int .i64 x.ver, .slice C.ta x.txt.length C.tc, .slice C.ga x.got.length C.gc, .slice C.sa x.sus.length C.sc, .bool x.wed, .bool x.rdy, .int .i64 x.by_, .slice C.ma x.trm.length C.mc] 35))) (hy.below b_16)
      simp only [World.size_alloc] at this
      exact this
    have B_23 : Below w.heap.size w ((w4.alloc (.cells #[.int .i64 x.ver, .slice C.ta x.txt.length C.tc, .slice C.ga x.got.length C.gc, .slice C.sa x.sus.length C.sc, .bool x.wed, .bool x.rdy, .int .i64 x.by_, .slice C.ma x.trm.length C.mc] 35)).alloc (.cells #[.int .i64 y.ver, .slice D.ta y.txt.length D.tc, .slice D.ga y.got.length D.gc, .slice D.sa y.sus.length D.sc, .bool y.wed, .bool y.rdy, .int .i64 y.by_, .slice D.ma y.trm.length D.mc] 35)) := B_18.trans (b_21.mono B_18.size)
    have h_24 := h_19.below b_21
    have h_25 := h_20.below b_21
    have h_26 := h_17.below b_21
    clear B_18 h_19 h_20 h_17
    generalize hW5 : ((w4.alloc (.cells #[.int .i64 x.ver, .slice C.ta x.txt.length C.tc, .slice C.ga x.got.length C.gc, .slice C.sa x.sus.length C.sc, .bool x.wed, .bool x.rdy, .int .i64 x.by_, .slice C.ma x.trm.length C.mc] 35)).alloc (.cells #[.int .i64 y.ver, .slice D.ta y.txt.length D.tc, .slice D.ga y.got.length D.gc, .slice D.sa y.sus.length D.sc, .bool y.wed, .bool y.rdy, .int .i64 y.by_, .slice D.ma y.trm.length D.mc] 35)) = W5 at *
    have hD := drawRo_any a len cap bs W5 (hv.below B_23 (Nat.le_refl _)) hl
    unfold rwV rwC at hD
    go_wp2_with fail
    refine hD.mono ?_
    rintro e w6 ⟨E, t, m, rfl, ht, hSt, hm0, hm1, hb6⟩
    clear hD
    have B_27 : Below w.heap.size w w6 := B_23.trans (hb6.mono B_23.size)
    have h_28 := h_24.below hb6
    have h_29 := h_25.below hb6
    have h_30 := h_26.below hb6
    have h_31 := h_22.below hb6
    clear B_23 h_24 h_25 h_26 h_22
    go_upto_region 7 with fail
    have b_32 := oneA16 w6 (.cells #[.int .i64 t.ver, .slice E.ta t.txt.length E.tc, .slice E.ga t.got.length E.gc, .slice E.sa t.sus.length E.sc, .bool t.wed, .bool t.rdy, .int .i64 t.by_, .slice E.ma t.trm.length E.mc] 35)
    have h_33 : Rb (w6.alloc (.cells #[.int .i64 t.ver, .slice E.ta t.txt.length E.tc, .slice E.ga t.got.length E.gc, .slice E.sa t.sus.length E.sc, .bool t.wed, .bool t.rdy, .int .i64 t.by_, .slice E.ma t.trm.length E.mc] 35)) (w6.heap.size) E t := by
      have := Rb.new (w := w6) ht
      skip
      exact this
    have B_34 : Below w.heap.size w (w6.alloc (.cells #[.int .i64 t.ver, .slice E.ta t.txt.length E.tc, .slice E.ga t.got.length E.gc, .slice E.sa t.sus.length E.sc, .bool t.wed, .bool t.rdy, .int .i64 t.by_, .slice E.ma t.trm.length E.mc] 35)) := B_27.trans (b_32.mono B_27.size)
    have h_35 := h_28.below b_32
    have h_36 := h_29.below b_32
    have h_37 := h_30.below b_32
    have h_38 := h_31.below b_32
    clear B_27 h_28 h_29 h_30 h_31
    generalize hW7 : (w6.alloc (.cells #[.int .i64 t.ver, .slice E.ta t.txt.length E.tc, .slice E.ga t.got.length E.gc, .slice E.sa t.sus.length E.sc, .bool t.wed, .bool t.rdy, .int .i64 t.by_, .slice E.ma t.trm.length E.mc] 35)) = W7 at *
    have hD := drawNr_any a len cap bs W7 (hv.below B_34 (Nat.le_refl _)) hl
    go_wp2_with fail
    refine hD.mono ?_
    rintro e w8 ⟨k, rfl, hk0, hk1, hb8⟩
    clear hD
    have B_39 : Below w.heap.size w w8 := B_34.trans (hb8.mono B_34.size)
    have h_40 := h_35.below hb8
    have h_41 := h_36.below hb8
    have h_42 := h_37.below hb8
    have h_43 := h_38.below hb8
    have h_44 := h_33.below hb8
    clear B_34 h_35 h_36 h_37 h_38 h_33
    have hm64 : I64v m := ⟨by omega, by omega⟩
    have hk64 : I64v k := ⟨by omega, by omega⟩
    obtain ⟨oa, hoa⟩ : ∃ q, Hid (q = w1.heap.size) := ⟨_, rfl⟩
    have a0 : Rb w8 oa A r := by rw [hoa.out]; exact h_40
    clear h_40
    obtain ⟨ob, hob⟩ : ∃ q, Hid (q = w1.heap.size + 1) := ⟨_, rfl⟩
    have b0 : Rb w8 ob B s := by rw [hob.out]; exact h_41
    clear h_41
    obtain ⟨ox, hox⟩ : ∃ q, Hid (q = w4.heap.size) := ⟨_, rfl⟩
    have x0 : Rb w8 ox C x := by rw [hox.out]; exact h_42
    clear h_42
    obtain ⟨oy, hoy⟩ : ∃ q, Hid (q = w4.heap.size + 1) := ⟨_, rfl⟩
    have y0 : Rb w8 oy D y := by rw [hoy.out]; exact h_43
    clear h_43
    obtain ⟨ot, hot⟩ : ∃ q, Hid (q = w6.heap.size) := ⟨_, rfl⟩
    have t0 : Rb w8 ot E t := by rw [hot.out]; exact h_44
    clear h_44
    rw [← hob.out]
    rw [← hoa.out]
    rw [← hoy.out]
    rw [← hox.out]
    rw [← hot.out]
    skip
    obtain ⟨LL, hLL⟩ : ∃ Q, Hid (decide (y.ver < x.ver) = Q) := ⟨_, rfl⟩
    obtain ⟨OO, hOO⟩ : ∃ Q, Hid (okRw t m = Q) := ⟨_, rfl⟩
    obtain ⟨hfZ, h6Z, hs5, hc5⟩ := newRw_small k
    skip
    have cSf : ∀ X, Below w8.heap.size w8 X → Calls Try.prog 32 #[rwV A r, rwV B s, .int .i64 n] X fun e w' => e = .returned (.bool Q) ∧ Below X.heap.size X w' := fun X hX => by rw [← hQ.out]; exact folS_any A B r s n X (a0.rw.below hX).rws (b0.rw.below hX).rws
    have cIl : ∀ X, Below w8.heap.size w8 X → Calls Try.prog 33 #[rwV C x, rwV D y] X fun e w' => e = .returned (.bool LL) ∧ Below X.heap.size X w' := fun X hX => by rw [← hLL.out]; exact hLa C D x y X (x0.rw.below hX) (y0.rw.below hX)
    have cSl : ∀ X, Below w8.heap.size w8 X → Calls Try.prog 34 #[rwV C x, rwV D y] X fun e w' => e = .returned (.bool LL) ∧ Below X.heap.size X w' := fun X hX => by rw [← hLL.out]; exact latS_any C D x y X
    have cIo : ∀ X, Below w8.heap.size w8 X → Calls Try.prog 35 #[rwV E t, .int .i64 m] X fun e w' => e = .returned (.bool OO) ∧ Below X.heap.size X w' := fun X hX => by rw [← hOO.out]; exact hRo E t m X (t0.rw.below hX) hm64
    have cSo : ∀ X, Below w8.heap.size w8 X → Calls Try.prog 36 #[rwV E t, .int .i64 m] X fun e w' => e = .returned (.bool OO) ∧ Below X.heap.size X w' := fun X hX => by rw [← hOO.out]; exact rowS_any E t m X (t0.rw.below hX).rws
    have cIn : ∀ X, Below w8.heap.size w8 X → Calls Try.prog 38 #[.int .i64 k] X fun e w' => ∃ A', e = .returned (rwV A' (newRw k)) ∧ It w' (rwCels (newRw k)) (rwVals A' (newRw k)) X.heap.size w'.heap.size ∧ Below X.heap.size X w' := fun X hX => (hNr k X hk64).mono (fun e w' h => h.it)
    have cSn : ∀ X, Below w8.heap.size w8 X → Calls Try.prog 39 #[.int .i64 k] X fun e w' => ∃ A', e = .returned (rwV A' (newRw k)) ∧ It w' (rwCels (newRw k)) (rwVals A' (newRw k)) X.heap.size w'.heap.size ∧ Below X.heap.size X w' := fun X hX => (nrwS_any k X).mono (fun e w' h => h.it)
    have cLk : ∀ (X : World) (A1 A2 : Ra) {l1 u1 l2 u2 : Nat}, It X (rwCels (newRw k)) (rwVals A1 (newRw k)) l1 u1 → It X (rwCels (newRw k)) (rwVals A2 (newRw k)) l2 u2 → Calls Try.prog 37 #[rwV A1 (newRw k), rwV A2 (newRw k)] X fun e w' => e = .returned (.bool true) ∧ Below X.heap.size X w' := fun X A1 A2 l1 u1 l2 u2 i1 i2 => (likeRw_any A1 A2 (newRw k) X (it_rws i1 hfZ (by omega)) (it_rws i2 hfZ (by omega))).mono (fun e w' h => ⟨h.1, h.2.1⟩)
    generalize newRw k = Z at *
    obtain ⟨O2, hO2⟩ : ∃ Q, Hid (okRw r n = Q) := ⟨_, rfl⟩
    obtain ⟨L2, hL2⟩ : ∃ Q, Hid (decide (x.ver < y.ver) = Q) := ⟨_, rfl⟩
    have hLn : LL = true → L2 = false := fun h => by have h1 := hLL.out; rw [h, decide_eq_true_iff] at h1; rw [← hL2.out]; simp; omega
    have dSo : ∀ X, Below w8.heap.size w8 X → Calls Try.prog 36 #[rwV A r, .int .i64 n] X fun e w' => e = .returned (.bool O2) ∧ Below X.heap.size X w' := fun X hX => by rw [← hO2.out]; exact rowS_any A r n X (a0.rw.below hX).rws
    have dIf : ∀ X, Below w8.heap.size w8 X → Calls Try.prog 28 #[rwV A r, rwV A r, .int .i64 n] X fun e w' => e = .returned (.bool O2) ∧ Below X.heap.size X w' := fun X hX => by rw [← hO2.out, ← fol_self r n]; exact hFo A A r r n X (a0.rw.below hX) (a0.rw.below hX) hn64
    have dIl : ∀ X, Below w8.heap.size w8 X → Calls Try.prog 33 #[rwV D y, rwV C x] X fun e w' => e = .returned (.bool L2) ∧ Below X.heap.size X w' := fun X hX => by rw [← hL2.out]; exact hLa D C y x X (y0.rw.below hX) (x0.rw.below hX)
    have nQ : (Q != Q) = false := by simp
    have nL : (LL != LL) = false := by simp
    have nO : (OO != OO) = false := by simp
    have n2 : (O2 != O2) = false := by simp
    unfold rwV rwC at *
    have KS : ∀ X, Below w8.heap.size w8 X → ((X.cell? ⟨oa, 0, none⟩ = some (.int .i64 r.ver) ∧ X.cell? ⟨oa, 1, none⟩ = some (.slice A.ta r.txt.length A.tc) ∧ X.cell? ⟨oa, 2, none⟩ = some (.slice A.ga r.got.length A.gc) ∧ X.cell? ⟨oa, 3, none⟩ = some (.slice A.sa r.sus.length A.sc)) ∧ X.cell? ⟨oa, 4, none⟩ = some (.bool r.wed) ∧ X.cell? ⟨oa, 5, none⟩ = some (.bool r.rdy) ∧ X.cell? ⟨oa, 6, none⟩ = some (.int .i64 r.by_) ∧ X.cell? ⟨oa, 7, none⟩ = some (.slice A.ma r.trm.length A.mc)) ∧ ((X.cell? ⟨ob, 0, none⟩ = some (.int .i64 s.ver) ∧ X.cell? ⟨ob, 1, none⟩ = some (.slice B.ta s.txt.length B.tc) ∧ X.cell? ⟨ob, 2, none⟩ = some (.slice B.ga s.got.length B.gc) ∧ X.cell? ⟨ob, 3, none⟩ = some (.slice B.sa s.sus.length B.sc)) ∧ X.cell? ⟨ob, 4, none⟩ = some (.bool s.wed) ∧ X.cell? ⟨ob, 5, none⟩ = some (.bool s.rdy) ∧ X.cell? ⟨ob, 6, none⟩ = some (.int .i64 s.by_) ∧ X.cell? ⟨ob, 7, none⟩ = some (.slice B.ma s.trm.length B.mc)) ∧ ((X.cell? ⟨ox, 0, none⟩ = some (.int .i64 x.ver) ∧ X.cell? ⟨ox, 1, none⟩ = some (.slice C.ta x.txt.length C.tc) ∧ X.cell? ⟨ox, 2, none⟩ = some (.slice C.ga x.got.length C.gc) ∧ X.cell? ⟨ox, 3, none⟩ = some (.slice C.sa x.sus.length C.sc)) ∧ X.cell? ⟨ox, 4, none⟩ = some (.bool x.wed) ∧ X.cell? ⟨ox, 5, none⟩ = some (.bool x.rdy) ∧ X.cell? ⟨ox, 6, none⟩ = some (.int .i64 x.by_) ∧ X.cell? ⟨ox, 7, none⟩ = some (.slice C.ma x.trm.length C.mc)) ∧ ((X.cell? ⟨oy, 0, none⟩ = some (.int .i64 y.ver) ∧ X.cell? ⟨oy, 1, none⟩ = some (.slice D.ta y.txt.length D.tc) ∧ X.cell? ⟨oy, 2, none⟩ = some (.slice D.ga y.got.length D.gc) ∧ X.cell? ⟨oy, 3, none⟩ = some (.slice D.sa y.sus.length D.sc)) ∧ X.cell? ⟨oy, 4, none⟩ = some (.bool y.wed) ∧ X.cell? ⟨oy, 5, none⟩ = some (.bool y.rdy) ∧ X.cell? ⟨oy, 6, none⟩ = some (.int .i64 y.by_) ∧ X.cell? ⟨oy, 7, none⟩ = some (.slice D.ma y.trm.length D.mc)) ∧ ((X.cell? ⟨ot, 0, none⟩ = some (.int .i64 t.ver) ∧ X.cell? ⟨ot, 1, none⟩ = some (.slice E.ta t.txt.length E.tc) ∧ X.cell? ⟨ot, 2, none⟩ = some (.slice E.ga t.got.length E.gc) ∧ X.cell? ⟨ot, 3, none⟩ = some (.slice E.sa t.sus.length E.sc)) ∧ X.cell? ⟨ot, 4, none⟩ = some (.bool t.wed) ∧ X.cell? ⟨ot, 5, none⟩ = some (.bool t.rdy) ∧ X.cell? ⟨ot, 6, none⟩ = some (.int .i64 t.by_) ∧ X.cell? ⟨ot, 7, none⟩ = some (.slice E.ma t.trm.length E.mc)) := fun X hX => ⟨Bx.r8 (a0.box.below hX), Bx.r8 (b0.box.below hX), Bx.r8 (x0.box.below hX), Bx.r8 (y0.box.below hX), Bx.r8 (t0.box.below hX)⟩
    have HA0 : Hid (Rb w8 oa A r) := a0
    have HB0 : Hid (Rb w8 ob B s) := b0
    have HBW : Hid (Below w.heap.size w w8) := B_39
    have bd : Below w8.heap.size w8 (w8.drewN 1) := belowN (Below.refl _ _)
    clear a0 b0 x0 y0 t0 hLL hOO hL2 hO2 B_39
    clear hoa hob hox hoy hot hv hx hy ht hr hs hSx hSy hSt hRo hLa hNr
    go_wp2_with fail
    go_region_held3 (fun X => ((X.cell? ⟨oa, 0, none⟩ = some (.int .i64 r.ver) ∧ X.cell? ⟨oa, 1, none⟩ = some (.slice A.ta r.txt.length A.tc) ∧ X.cell? ⟨oa, 2, none⟩ = some (.slice A.ga r.got.length A.gc) ∧ X.cell? ⟨oa, 3, none⟩ = some (.slice A.sa r.sus.length A.sc)) ∧ X.cell? ⟨oa, 4, none⟩ = some (.bool r.wed) ∧ X.cell? ⟨oa, 5, none⟩ = some (.bool r.rdy) ∧ X.cell? ⟨oa, 6, none⟩ = some (.int .i64 r.by_) ∧ X.cell? ⟨oa, 7, none⟩ = some (.slice A.ma r.trm.length A.mc)) ∧ ((X.cell? ⟨ob, 0, none⟩ = some (.int .i64 s.ver) ∧ X.cell? ⟨ob, 1, none⟩ = some (.slice B.ta s.txt.length B.tc) ∧ X.cell? ⟨ob, 2, none⟩ = some (.slice B.ga s.got.length B.gc) ∧ X.cell? ⟨ob, 3, none⟩ = some (.slice B.sa s.sus.length B.sc)) ∧ X.cell? ⟨ob, 4, none⟩ = some (.bool s.wed) ∧ X.cell? ⟨ob, 5, none⟩ = some (.bool s.rdy) ∧ X.cell? ⟨ob, 6, none⟩ = some (.int .i64 s.by_) ∧ X.cell? ⟨ob, 7, none⟩ = some (.slice B.ma s.trm.length B.mc)) ∧ ((X.cell? ⟨ox, 0, none⟩ = some (.int .i64 x.ver) ∧ X.cell? ⟨ox, 1, none⟩ = some (.slice C.ta x.txt.length C.tc) ∧ X.cell? ⟨ox, 2, none⟩ = some (.slice C.ga x.got.length C.gc) ∧ X.cell? ⟨ox, 3, none⟩ = some (.slice C.sa x.sus.length C.sc)) ∧ X.cell? ⟨ox, 4, none⟩ = some (.bool x.wed) ∧ X.cell? ⟨ox, 5, none⟩ = some (.bool x.rdy) ∧ X.cell? ⟨ox, 6, none⟩ = some (.int .i64 x.by_) ∧ X.cell? ⟨ox, 7, none⟩ = some (.slice C.ma x.trm.length C.mc)) ∧ ((X.cell? ⟨oy, 0, none⟩ = some (.int .i64 y.ver) ∧ X.cell? ⟨oy, 1, none⟩ = some (.slice D.ta y.txt.length D.tc) ∧ X.cell? ⟨oy, 2, none⟩ = some (.slice D.ga y.got.length D.gc) ∧ X.cell? ⟨oy, 3, none⟩ = some (.slice D.sa y.sus.length D.sc)) ∧ X.cell? ⟨oy, 4, none⟩ = some (.bool y.wed) ∧ X.cell? ⟨oy, 5, none⟩ = some (.bool y.rdy) ∧ X.cell? ⟨oy, 6, none⟩ = some (.int .i64 y.by_) ∧ X.cell? ⟨oy, 7, none⟩ = some (.slice D.ma y.trm.length D.mc)) ∧ ((X.cell? ⟨ot, 0, none⟩ = some (.int .i64 t.ver) ∧ X.cell? ⟨ot, 1, none⟩ = some (.slice E.ta t.txt.length E.tc) ∧ X.cell? ⟨ot, 2, none⟩ = some (.slice E.ga t.got.length E.gc) ∧ X.cell? ⟨ot, 3, none⟩ = some (.slice E.sa t.sus.length E.sc)) ∧ X.cell? ⟨ot, 4, none⟩ = some (.bool t.wed) ∧ X.cell? ⟨ot, 5, none⟩ = some (.bool t.rdy) ∧ X.cell? ⟨ot, 6, none⟩ = some (.int .i64 t.by_) ∧ X.cell? ⟨ot, 7, none⟩ = some (.slice E.ma t.trm.length E.mc)))
      (first | exact KS _ v8 | exact KS _ v7 | exact KS _ v6 | exact KS _ v5 | exact KS _ v4 | exact KS _ v3 | exact KS _ v2 | exact KS _ v1 | exact KS _ bd)
      (first
        | (go_at_call 32; refine (cSf _ bd).mono ?_; rintro e y1 ⟨rfl, hb1⟩; have v1 : Below w8.heap.size w8 y1 := bd.trans (hb1.mono bd.size))
        | (go_at_call 33; refine (cIl _ v1).mono ?_; rintro e y2 ⟨rfl, hb2⟩; have v2 : Below w8.heap.size w8 y2 := v1.trans (hb2.mono v1.size))
        | (go_at_call 34; refine (cSl _ v2).mono ?_; rintro e y3 ⟨rfl, hb3⟩; have v3 : Below w8.heap.size w8 y3 := v2.trans (hb3.mono v2.size))
        | (go_at_call 35; refine (cIo _ v3).mono ?_; rintro e y4 ⟨rfl, hb4⟩; have v4 : Below w8.heap.size w8 y4 := v3.trans (hb4.mono v3.size))
        | (go_at_call 36; refine (cSo _ v4).mono ?_; rintro e y5 ⟨rfl, hb5⟩; have v5 : Below w8.heap.size w8 y5 := v4.trans (hb5.mono v4.size))
        | (go_at_call 38; refine (cIn _ v5).mono ?_; rintro e y6 ⟨G1, rfl, i6, hb6⟩; have v6 : Below w8.heap.size w8 y6 := v5.trans (hb6.mono v5.size))
        | (go_at_call 39; refine (cSn _ v6).mono ?_; rintro e y7 ⟨G2, rfl, i7, hb7⟩; have v7 : Below w8.heap.size w8 y7 := v6.trans (hb7.mono v6.size); have i6b := i6.below hb7)
        | (go_at_call 37; refine (cLk _ _ _ i6b i7).mono ?_; rintro e y8 ⟨rfl, hb8⟩; have v8 : Below w8.heap.size w8 y8 := v7.trans (hb8.mono v7.size)))
    clear cSf cSl cIo cSo cIn cSn cLk i6 i7 i6b hb1 hb2 hb3 hb4 hb5 hb6 hb7 hb8 v1 v2 v3 v4 v5 v6 v7 bd
    go_upto_region 10 with fail
    have bd : Below w8.heap.size w8 (y8.drewN 1) := belowN v8
    go_cut [86] from 69 to 86 (fun s86 wx => s86 = .bool false ∧ Below w8.heap.size w8 wx)
    case first =>
      have hQB : ∀ q : Bk y8, Below w8.heap.size w8 q.w := fun q => v8.trans (q.h.mono v8.size)
      have ea0 : ∀ q : Bk y8, q.w.cell? ⟨oa, 0, none⟩ = some (.int .i64 r.ver) := fun q => (KS q.w (hQB q)).1.1.1
      have ea1 : ∀ q : Bk y8, q.w.cell? ⟨oa, 1, none⟩ = some (.slice A.ta r.txt.length A.tc) := fun q => (KS q.w (hQB q)).1.1.2.1
      have ea2 : ∀ q : Bk y8, q.w.cell? ⟨oa, 2, none⟩ = some (.slice A.ga r.got.length A.gc) := fun q => (KS q.w (hQB q)).1.1.2.2.1
      have ea3 : ∀ q : Bk y8, q.w.cell? ⟨oa, 3, none⟩ = some (.slice A.sa r.sus.length A.sc) := fun q => (KS q.w (hQB q)).1.1.2.2.2
      have ea4 : ∀ q : Bk y8, q.w.cell? ⟨oa, 4, none⟩ = some (.bool r.wed) := fun q => (KS q.w (hQB q)).1.2.1
      have ea5 : ∀ q : Bk y8, q.w.cell? ⟨oa, 5, none⟩ = some (.bool r.rdy) := fun q => (KS q.w (hQB q)).1.2.2.1
      have ea6 : ∀ q : Bk y8, q.w.cell? ⟨oa, 6, none⟩ = some (.int .i64 r.by_) := fun q => (KS q.w (hQB q)).1.2.2.2.1
      have ea7 : ∀ q : Bk y8, q.w.cell? ⟨oa, 7, none⟩ = some (.slice A.ma r.trm.length A.mc) := fun q => (KS q.w (hQB q)).1.2.2.2.2
      have ex0 : ∀ q : Bk y8, q.w.cell? ⟨ox, 0, none⟩ = some (.int .i64 x.ver) := fun q => (KS q.w (hQB q)).2.2.1.1.1
      have ex1 : ∀ q : Bk y8, q.w.cell? ⟨ox, 1, none⟩ = some (.slice C.ta x.txt.length C.tc) := fun q => (KS q.w (hQB q)).2.2.1.1.2.1
      have ex2 : ∀ q : Bk y8, q.w.cell? ⟨ox, 2, none⟩ = some (.slice C.ga x.got.length C.gc) := fun q => (KS q.w (hQB q)).2.2.1.1.2.2.1
      have ex3 : ∀ q : Bk y8, q.w.cell? ⟨ox, 3, none⟩ = some (.slice C.sa x.sus.length C.sc) := fun q => (KS q.w (hQB q)).2.2.1.1.2.2.2
      have ex4 : ∀ q : Bk y8, q.w.cell? ⟨ox, 4, none⟩ = some (.bool x.wed) := fun q => (KS q.w (hQB q)).2.2.1.2.1
      have ex5 : ∀ q : Bk y8, q.w.cell? ⟨ox, 5, none⟩ = some (.bool x.rdy) := fun q => (KS q.w (hQB q)).2.2.1.2.2.1
      have ex6 : ∀ q : Bk y8, q.w.cell? ⟨ox, 6, none⟩ = some (.int .i64 x.by_) := fun q => (KS q.w (hQB q)).2.2.1.2.2.2.1
      have ex7 : ∀ q : Bk y8, q.w.cell? ⟨ox, 7, none⟩ = some (.slice C.ma x.trm.length C.mc) := fun q => (KS q.w (hQB q)).2.2.1.2.2.2.2
      have ey0 : ∀ q : Bk y8, q.w.cell? ⟨oy, 0, none⟩ = some (.int .i64 y.ver) := fun q => (KS q.w (hQB q)).2.2.2.1.1.1
      have ey1 : ∀ q : Bk y8, q.w.cell? ⟨oy, 1, none⟩ = some (.slice D.ta y.txt.length D.tc) := fun q => (KS q.w (hQB q)).2.2.2.1.1.2.1
      have ey2 : ∀ q : Bk y8, q.w.cell? ⟨oy, 2, none⟩ = some (.slice D.ga y.got.length D.gc) := fun q => (KS q.w (hQB q)).2.2.2.1.1.2.2.1
      have ey3 : ∀ q : Bk y8, q.w.cell? ⟨oy, 3, none⟩ = some (.slice D.sa y.sus.length D.sc) := fun q => (KS q.w (hQB q)).2.2.2.1.1.2.2.2
      have ey4 : ∀ q : Bk y8, q.w.cell? ⟨oy, 4, none⟩ = some (.bool y.wed) := fun q => (KS q.w (hQB q)).2.2.2.1.2.1
      have ey5 : ∀ q : Bk y8, q.w.cell? ⟨oy, 5, none⟩ = some (.bool y.rdy) := fun q => (KS q.w (hQB q)).2.2.2.1.2.2.1
      have ey6 : ∀ q : Bk y8, q.w.cell? ⟨oy, 6, none⟩ = some (.int .i64 y.by_) := fun q => (KS q.w (hQB q)).2.2.2.1.2.2.2.1
      have ey7 : ∀ q : Bk y8, q.w.cell? ⟨oy, 7, none⟩ = some (.slice D.ma y.trm.length D.mc) := fun q => (KS q.w (hQB q)).2.2.2.1.2.2.2.2
      have jSo := fun q : Bk y8 => dSo q.w (hQB q)
      have jIf := fun q : Bk y8 => dIf q.w (hQB q)
      have jIl := fun q : Bk y8 => cIl q.w (hQB q)
      have jIm := fun q : Bk y8 => dIl q.w (hQB q)
      clear KS dSo dIf cIl dIl
      cases LL with
      | false =>
        refine wp_region_bk (by kernel_rfl) (by kernel_rfl) ?_
        repeat (go_big_quiet_step ((first | rfl | (go_at_call 36; exact bk_call _ (jSo _)) | (go_at_call 28; exact bk_call _ (jIf _)) | (go_at_call 33; first | exact bk_call _ (jIl _) | exact bk_call _ (jIm _)))))
        refine wpQuiet_nil ?_
        intro wE hw'
        obtain ⟨⟨w11, hb11⟩, hw''⟩ := hw'
        have hwe : wE = w11 := hw''
        clear hw''
        subst hwe
        try go_wp2_with fail
        go_meet
        exact ⟨rfl, v8.trans (hb11.mono v8.size)⟩
      | true =>
        obtain rfl : L2 = false := hLn rfl
        refine wp_region_bk (by kernel_rfl) (by kernel_rfl) ?_
        repeat (go_big_quiet_step ((first | rfl | (go_at_call 36; exact bk_call _ (jSo _)) | (go_at_call 28; exact bk_call _ (jIf _)) | (go_at_call 33; first | exact bk_call _ (jIl _) | exact bk_call _ (jIm _)))))
        refine wpQuiet_nil ?_
        intro wE hw'
        obtain ⟨⟨w11, hb11⟩, hw''⟩ := hw'
        have hwe : wE = w11 := hw''
        clear hw''
        subst hwe
        try go_wp2_with fail
        go_meet
        exact ⟨rfl, v8.trans (hb11.mono v8.size)⟩
    case rest =>
      obtain ⟨rfl, hBc⟩ := hcut
      clear KS dSo dIf dIl cIl bd v8
      generalize wc = V at *
      have ra := HA0.out.below hBc
      have rb := HB0.out.below hBc
      have bV : Below w.heap.size w V := HBW.out.trans (hBc.mono HBW.out.size)
      clear hBc HA0 HB0 HBW
      cases Q with
      | false =>
        have HE : Hid (Below w.heap.size w V) := bV
        clear ra rb bV
        go_wp2
        go_ret
        exact ⟨rfl, HE.out⟩
      | true =>
        obtain ⟨i0, hi0, hz0, hz1, hz2⟩ := info_parts9 Try.info9
        have hobl : ob < V.heap.size := rb.box.lt
        have hoal : oa < V.heap.size := ra.box.lt
        obtain ⟨⟨c0, c1, c2, c3⟩, c4, c5, c6, c7⟩ := Bx.r8 rb.box
        go_upto_region 15 with fail
        clear c0 c1 c2 c3 c4 c5 c6 c7
        have hbC := oneA16 V (.cells #[.int .i64 s.ver, .slice B.ta s.txt.length B.tc, .slice B.ga s.got.length B.gc, .slice B.sa s.sus.length B.sc, .bool s.wed, .bool s.rdy, .int .i64 s.by_, .slice B.ma s.trm.length B.mc] 35)
        have BC := Bx.new V 35 #[.int .i64 s.ver, .slice B.ta s.txt.length B.tc, .slice B.ga s.got.length B.gc, .slice B.sa s.sus.length B.sc, .bool s.wed, .bool s.rdy, .int .i64 s.by_, .slice B.ma s.trm.length B.mc]
        generalize hV1 : V.alloc (.cells #[.int .i64 s.ver, .slice B.ta s.txt.length B.tc, .slice B.ga s.got.length B.gc, .slice B.sa s.sus.length B.sc, .bool s.wed, .bool s.rdy, .int .i64 s.by_, .slice B.ma s.trm.length B.mc] 35) = V1 at *
        have hoc : V.heap.size < V1.heap.size := BC.lt
        have ra1 := ra.below hbC
        have rb1 := rb.below hbC
        have hA1 : ∀ Z, Same Z (V1.alloc (.cells #[] 9)) → ∃ v' w4, (Builtin.append_ #[33, 33] 33 #[.slice (some ⟨V1.heap.size, 0, none⟩) 0 0, .slice B.ta s.txt.length B.tc]).run Try.prog Z = .ok v' w4 ∧ ∃ a' c' f, v' = .slice a' s.txt.length c' ∧ Cel.ow w4 (scl s.txt) (.slice a' s.txt.length c') f ∧ (∀ b, f b → V1.heap.size ≤ b) ∧ Below V1.heap.size V1 w4 := by
          intro Z hZ
          have hbZ : Below V1.heap.size V1 Z := (oneA16 V1 _).trans (hZ.below.mono (oneA16 V1 _).size)
          obtain ⟨a6, c6, w6, fp6, hr6, ho6, hw6, hf6⟩ := txs_copied (P := Try.prog) (w := Z) 33 33 9 i0 Try.underlying33 hi0 hz0 hz1 hz2 (plainS V1.heap.size 0) (x := B.ta) (c := B.tc) (rb1.rw.txt.txs.below hbZ) (by have := hSs.tl; omega)
          exact ⟨_, w6, hr6, a6, c6, fp6, rfl, ho6, fun b hb => by have := hf6 b hb; have := hbZ.size; omega, hw6.below hbZ hbZ.size (fun b h => absurd h id)⟩
        have hA2 : ∀ (w4 : World) (a' : Option Addr) (c' : Nat) (f : Fp), Cel.ow w4 (scl s.txt) (.slice a' s.txt.length c') f → (∀ b, f b → V1.heap.size ≤ b) → Below V1.heap.size V1 w4 → ∀ Z, Same Z (w4.alloc (.cells #[.string ⟨#[116]⟩] 9)) → ∃ v' w5, (Builtin.append_ #[33, 33] 33 #[.slice a' s.txt.length c', .slice (some ⟨w4.heap.size, 0, none⟩) 1 1]).run Try.prog Z = .ok v' w5 ∧ ∃ a2 c2 f2, v' = .slice a2 (s.txt.length + 1) c2 ∧ Cel.ow w5 (scl (s.txt ++ [[116]])) (.slice a2 (s.txt.length + 1) c2) f2 ∧ (∀ b, f2 b → V1.heap.size ≤ b) ∧ Below V1.heap.size V1 w5 := by
          intro w4 a' c' f ho hf hb4 Z hZ
          have hbZ : Below w4.heap.size w4 Z := (oneA16 w4 _).trans (hZ.below.mono (oneA16 w4 _).size)
          have ho4 := Cel.ow_below ho hbZ
          obtain ⟨ta', tc', G, e, hO, hG⟩ := ow_scl.1 ho4
          cases e
          have hnew : Z.heap[w4.heap.size]? = some (.cells #[.string (sv [116])] 9) := by rw [hZ.heap, ← one_sv]; exact heap_alloc_new w4 _
          obtain ⟨a6, c6, G6, w6, hr6, ho6, hg6, hat⟩ := run_append_oo (P := Try.prog) Z 33 33 9 i0 _ 1 16 Try.underlying33 hi0 hz0 hz1 hz2 rfl (by omega) a' s.txt.length c' (svs s.txt) G hO (some ⟨w4.heap.size, 0, none⟩) 1 1 [.string (sv [116])] rfl (.inr ⟨_, rfl, World.news_of_block (cs := #[.string (sv [116])]) (t := 9) (fr := (0, 0)) hnew⟩) (by simp [Value.oneCell']) (by have := hSs.tl; unfold maxLen; omega) (by have := hSs.tl; omega)
          have hl4 := hb4.size
          have hlZ := hbZ.size
          refine ⟨_, w6, hr6, a6, c6, fun b => G6 = some b, rfl, ow_scl.2 ⟨a6, c6, G6, by simp, by rw [svs_app, List.length_append]; exact ho6, fun b => Iff.rfl⟩, fun b hb => ?_, (Wrt.of_grown hg6).below (hb4.trans (hbZ.mono hl4)) (by omega) (fun b hb => hf b ((hG b).2 hb))⟩
          rcases hat with e | e
          · exact hf b ((hG b).2 (e ▸ hb))
          · rw [e] at hb; cases hb; omega
        have HRA : Hid (Rb V oa A r) := ra
        have HRB : Hid (Rb V ob B s) := rb
        have HB1 : Hid (Rb V1 ob B s) := rb1
        have HA1 : Hid (Rb V1 oa A r) := ra1
        have HBC : Hid (Bx V1 V.heap.size 35 #[.int .i64 s.ver, .slice B.ta s.txt.length B.tc, .slice B.ga s.got.length B.gc, .slice B.sa s.sus.length B.sc, .bool s.wed, .bool s.rdy, .int .i64 s.by_, .slice B.ma s.trm.length B.mc]) := BC
        have HBV : Hid (Below w.heap.size w V ∧ Below V.heap.size V V1) := ⟨bV, hbC⟩
        have x1 := (Bx.r8 rb1.box).1.2.1
        have x2 := (Bx.r8 (rb1.below (oneA16 V1 (.cells #[] 9))).box).1.2.1
        have HSs : Hid (SmW s) := hSs
        have hoc2 : V.heap.size < V1.heap.size := hoc
        clear ra rb ra1 rb1 BC hbC bV hSs hSr
        go_upto_region 16 with (first | (at_builtin; refine wpList_append_of (by rfl) _ _ _ _ (by rfl) _ _ (by rfl) (by rfl) (hA2 w4 a4 c4 f4 ho4 hf4 hb4) ⟨rfl, rfl, rfl, rfl⟩ ?_; rintro v5 w5 ⟨a5, c5, f5, rfl, ho5, hf5, hb5⟩; have B5 := HBC.out.below hb5; have y1 := (Bx.r8 B5).1.2.1; have y2 := B5.f 1; clear hb4 ho4 hf4) | (at_builtin; refine wpList_append_of (by rfl) _ _ _ _ (by rfl) _ _ (by rfl) (by rfl) hA1 ⟨rfl, rfl, rfl, rfl⟩ ?_; rintro v4 w4 ⟨a4, c4, f4, rfl, ho4, hf4, hb4⟩))
        have hbU : Below V.heap.size V w5 := HBV.out.2.trans (hb5.mono HBV.out.2.size)
        have hbU1 : Below V.heap.size V (w5.setCell ⟨V.heap.size, 1, none⟩ (.slice a5 (s.txt.length + 1) c5)) := hbU.setCell (p := ⟨V.heap.size, 1, none⟩) (Nat.le_refl _) _
        have hbU2 : Below V.heap.size V ((w5.setCell ⟨V.heap.size, 1, none⟩ (.slice a5 (s.txt.length + 1) c5)).setCell ⟨V.heap.size, 0, none⟩ (.int .i64 (s.ver + 1))) := hbU1.setCell (p := ⟨V.heap.size, 0, none⟩) (Nat.le_refl _) _
        have rbU := (HB1.out.below hb5).box.far (i := 1) (g := V.heap.size) (by omega) (.slice a5 (s.txt.length + 1) c5)
        have B6 := B5.setC 1 (.slice a5 (s.txt.length + 1) c5)
        have z1 := (Bx.r8 rbU).1.1
        have z2 : (w5.setCell ⟨V.heap.size, 1, none⟩ (.slice a5 (s.txt.length + 1) c5)).cell? ⟨V.heap.size, 0, none⟩ = some (.int .i64 s.ver) := B6.at 0 (by simp)
        have z3 := B6.f 0
        have B7 : Bx ((w5.setCell ⟨V.heap.size, 1, none⟩ (.slice a5 (s.txt.length + 1) c5)).setCell ⟨V.heap.size, 0, none⟩ (.int .i64 (s.ver + 1))) V.heap.size 35 #[.int .i64 (s.ver + 1), .slice a5 (s.txt.length + 1) c5, .slice B.ga s.got.length B.gc, .slice B.sa s.sus.length B.sc, .bool s.wed, .bool s.rdy, .int .i64 s.by_, .slice B.ma s.trm.length B.mc] := by simpa using B6.setC 0 (.int .i64 (s.ver + 1))
        have rb7 : Bx ((w5.setCell ⟨V.heap.size, 1, none⟩ (.slice a5 (s.txt.length + 1) c5)).setCell ⟨V.heap.size, 0, none⟩ (.int .i64 (s.ver + 1))) ob 35 _ := rbU.far (i := 0) (g := V.heap.size) (by omega) (.int .i64 (s.ver + 1))
        have ra7 : Bx ((w5.setCell ⟨V.heap.size, 1, none⟩ (.slice a5 (s.txt.length + 1) c5)).setCell ⟨V.heap.size, 0, none⟩ (.int .i64 (s.ver + 1))) oa 35 _ := ((HA1.out.below hb5).box.far (i := 1) (g := V.heap.size) (by omega) (.slice a5 (s.txt.length + 1) c5)).far (i := 0) (g := V.heap.size) (by omega) (.int .i64 (s.ver + 1))
        have o7 : Cel.ow ((w5.setCell ⟨V.heap.size, 1, none⟩ (.slice a5 (s.txt.length + 1) c5)).setCell ⟨V.heap.size, 0, none⟩ (.int .i64 (s.ver + 1))) (scl (s.txt ++ [[116]])) (.slice a5 (s.txt.length + 1) c5) f5 := Cel.ow_wrt (Cel.ow_wrt ho5 (Wrt.set w5 V.heap.size 1 _) (fun b hb e => by have := hf5 b hb; omega)) (Wrt.set _ V.heap.size 0 _) (fun b hb e => by have := hf5 b hb; omega)
        have eL : (s.txt ++ [[116]]).length = s.txt.length + 1 := by simp
        have hver := HSs.out.ver
        have w1b : s.ver + 1 ≤ 9223372036854775807 := by omega
        have w2b : -9223372036854775808 ≤ s.ver + 1 := by omega
        have hsz : szRw { s with ver := s.ver + 1, txt := s.txt ++ [[116]] } ≤ 1048576 := by
          have h1 := totS_le (snoc_short (s := [116]) HSs.out.ts (by simp)) (s.txt ++ [[116]]).length (Nat.le_refl _)
          have h2 := HSs.out.tl
          have h3 := HSs.out.gl
          have h4 := HSs.out.sl
          have h5 := HSs.out.ml
          have h6 : (s.txt ++ [[116]]).length * 21 ≤ 26 * 21 := Nat.mul_le_mul_right 21 (by rw [eL]; omega)
          unfold szRw
          simp only
          omega
        generalize hU2 : (w5.setCell ⟨V.heap.size, 1, none⟩ (.slice a5 (s.txt.length + 1) c5)).setCell ⟨V.heap.size, 0, none⟩ (.int .i64 (s.ver + 1)) = U2 at *
        skip
        have HC7 : Hid (RwP U2 { B with ta := a5, tc := c5 } { s with ver := s.ver + 1, txt := s.txt ++ [[116]] }) := by
          have hq := HRB.out.rw.below hbU2
          exact ⟨ow_txp (by rw [eL]; exact o7), hq.got, hq.sus, hq.trm, ⟨⟨by simp only; omega, by simp only; omega⟩, HSs.out.i64.2⟩, hsz⟩
        have HRA7 : Hid (RwP U2 A r) := HRA.out.rw.below hbU2
        have HRB7 : Hid (RwP U2 B s) := HRB.out.rw.below hbU2
        obtain ⟨Q1, hQ1⟩ : ∃ q, Hid (folB s { s with ver := s.ver + 1, txt := s.txt ++ [[116]] } n = q) := ⟨_, rfl⟩
        have hF1 := hFo B { B with ta := a5, tc := c5 } s { s with ver := s.ver + 1, txt := s.txt ++ [[116]] } n U2 HRB7.out HC7.out hn64
        rw [hQ1.out] at hF1
        have hF2 : Q1 = true → ∀ X, Below U2.heap.size U2 X → Calls Try.prog 28 #[rwV A r, rwV { B with ta := a5, tc := c5 } { s with ver := s.ver + 1, txt := s.txt ++ [[116]] }, .int .i64 n] X fun e w' => e = .returned (.bool true) ∧ Below X.heap.size X w' := fun h X hX => by
          have := hFo A { B with ta := a5, tc := c5 } r { s with ver := s.ver + 1, txt := s.txt ++ [[116]] } n X (HRA7.out.below hX) (HC7.out.below hX) hn64
          rw [fol_trans (a := r) (b := s) hQ.out (by rw [hQ1.out]; exact h)] at this
          exact this
        unfold rwV rwC at hF1 hF2
        simp only [eL] at hF1 hF2
        have HBE : Hid (Below w.heap.size w U2) := HBV.out.1.trans (hbU2.mono HBV.out.1.size)
        obtain ⟨⟨p0, p1, p2, p3⟩, p4, p5, p6, p7⟩ := Bx.r8 rb7
        obtain ⟨⟨q0, q1, q2, q3⟩, q4, q5, q6, q7⟩ := Bx.r8 B7
        skip
        have HKa : Hid (Bx U2 oa 35 #[.int .i64 r.ver, .slice A.ta r.txt.length A.tc, .slice A.ga r.got.length A.gc, .slice A.sa r.sus.length A.sc, .bool r.wed, .bool r.rdy, .int .i64 r.by_, .slice A.ma r.trm.length A.mc]) := ra7
        have HKc : Hid (Bx U2 V.heap.size 35 #[.int .i64 (s.ver + 1), .slice a5 (s.txt.length + 1) c5, .slice B.ga s.got.length B.gc, .slice B.sa s.sus.length B.sc, .bool s.wed, .bool s.rdy, .int .i64 s.by_, .slice B.ma s.trm.length B.mc]) := B7
        clear hbU hbU1 hbU2 rbU B5 B6 B7 rb7 ra7 o7 hsz HC7 HRA7 HRB7 hb5 ho5 hf5 y1 y2 hA1 hA2 HB1 HA1 HBC HBV HRA HRB hver x1 x2 eL
        go_wp2_with fail
        refine hF1.mono ?_
        rintro e U3 ⟨rfl, hb9⟩
        have HB9 : Hid (Below U2.heap.size U2 U3) := hb9
        clear hF1 p0 p1 p2 p3 p4 p5 p6 p7 q0 q1 q2 q3 q4 q5 q6 q7 hb9 z1 z2 z3
        cases Q1 with
        | false =>
          go_wp2
          go_ret
          exact ⟨rfl, HBE.out.trans (HB9.out.mono HBE.out.size)⟩
        | true =>
          have hF3 := hF2 rfl U3 HB9.out
          obtain ⟨⟨p0, p1, p2, p3⟩, p4, p5, p6, p7⟩ := Bx.r8 (HKa.out.below HB9.out)
          obtain ⟨⟨q0, q1, q2, q3⟩, q4, q5, q6, q7⟩ := Bx.r8 (HKc.out.below HB9.out)
          clear hF2 HKa HKc
          go_wp2_with fail
          refine hF3.mono ?_
          rintro e U4 ⟨rfl, hb10⟩
          have HB10 : Hid (Below w.heap.size w U4) := (HBE.out.trans (HB9.out.mono HBE.out.size)).trans (hb10.mono (HBE.out.trans (HB9.out.mono HBE.out.size)).size)
          clear hF3 hb10 p0 p1 p2 p3 p4 p5 p6 p7 q0 q1 q2 q3 q4 q5 q6 q7
          go_wp2
          go_ret
          exact ⟨rfl, HB10.out⟩
end Go.Proofs.Ytgaibngaincahaa
