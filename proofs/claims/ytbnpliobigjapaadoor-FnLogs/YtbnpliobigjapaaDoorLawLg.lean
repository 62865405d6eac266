/-
  The law FnLogs FROM what the program's functions of logs answer.
-/
import Derived.Test.YtbnpliobigjapaaDoorLgt
import Derived.Test.YtbnpliobigjapaaDoorLgn
import Derived.Test.YtbnpliobigjapaaDoorKy
import Derived.Test.YtbnpliobigjapaaDoorLe
import Derived.Test.YtbnpliobigjapaaDoorLd
import Derived.Test.YtbnpliobigjapaaDoorGb
import Derived.BigQuiet
import Derived.Deep.CutRange
namespace Go.Proofs.YtbnpliobigjapaaDoor
set_option linter.unusedVariables false
set_option linter.unusedSimpArgs false
open Go.RowKit Go.Sort

theorem addLg_small {F : Int} {T : List (List UInt8)} {v : Int} {s : List UInt8} (h : SmL (F, T)) (hs : s.length ≤ 101) : I64l (addLg (F, T) v s).1.1 ∧ (addLg (F, T) v s).1.2.length ≤ 42 ∧ ShortT (addLg (F, T) v s).1.2 := by
  obtain ⟨h1, h2, h3⟩ := h.short
  unfold addLg
  split
  · split
    · refine ⟨h1, by simp; omega, fun i hi => ?_⟩
      rw [List.length_append, List.length_singleton] at hi
      dsimp only at hi
      by_cases e : i < T.length
      · have := h3 i e
        simpa [List.getD_eq_getElem?_getD, List.getElem?_append_left e] using this
      · obtain rfl : i = T.length := by omega
        simp [List.getD_eq_getElem?_getD]
        omega
    · exact ⟨h1, by dsimp only; omega, h3⟩
  · exact ⟨by unfold I64l zeroLg; simp, by simp [zeroLg], fun i hi => by simp [zeroLg] at hi⟩
theorem recLg_small (ts : List (List UInt8)) (first : Int) : (recLg ts first).2.length ≤ 40 := by
  unfold recLg
  split
  · rename_i h
    exact (recF_ok ts (l := (first, [])) ⟨h, by simp, fun i hi => by simp at hi⟩).2.1
  · simp [zeroLg]
/-- What the law tells of a log that took one more text. -/
theorem add_told {F : Int} {T : List (List UInt8)} {v : Int} {s : List UInt8} {AF : Int} {AT : List (List UInt8)} (h : addLg (F, T) v s = ((AF, AT), true)) : okLg (AF, AT) ∧ AT = T ++ [s] ∧ txtLg (AF, AT) v = (s, true) := by
  obtain ⟨h1, h2, h3, h4⟩ := addLg_ok (l := (F, T)) (v := v) (s := s) (by rw [h])
  rw [h] at h3 h4
  dsimp only at h3 h4
  cases h3
  refine ⟨h4, rfl, ?_⟩
  obtain ⟨e1, _, _⟩ := h2
  dsimp only at e1
  unfold txtLg
  rw [if_pos ⟨h4, by unfold txtB; simp; omega⟩]
  rw [e1]
  simp [List.getD_eq_getElem?_getD, show (F + (T.length : Int) - F).toNat = T.length by omega]
attribute [local irreducible] sv
set_option maxRecDepth 100000 in
set_option maxHeartbeats 6400000 in
/-- The law FnLogs. -/
theorem lawFnLogs (a : Option Addr) (len cap : Nat) (bs : Nat → Int) (w : World) (hOk : ImplLogOk) (hTx : ImplTextAt) (hAd : ImplAdded) (hSw : ImplShowLog w) (hRc : ImplRecovered w) (hv : BVec w a len bs) :
    Calls Tryd.prog 3 #[.slice a len cap] w fun e w' => e = .returned (.bool true) ∧ Below w.heap.size w w' := by
  have hmix : Tryd.prog.follows .mixedOrders = true := by kernel_rfl
  by_cases hbig : (4096 : Int) < (len : Int)
  · have hB := big_any a len cap w
    rw [decide_eq_true hbig] at hB
    go_enter Tryd.func3, Tryd.ntmps3
    go_wp2_with fail
    refine hB.mono ?_
    rintro e w1 ⟨rfl, hw1⟩
    have HW : Hid (w1 = w) := hw1
    clear hw1
    go_wp2
    go_ret
    exact ⟨rfl, by rw [HW.out]; exact Below.refl _ _⟩
  · have hB := big_any a len cap w
    rw [decide_eq_false hbig] at hB
    have hl : len ≤ 4096 := by omega
    go_enter Tryd.func3, Tryd.ntmps3
    go_wp2_with fail
    refine hB.mono ?_
    rintro e w0 ⟨rfl, hw0⟩
    have B0 : Below w.heap.size w w0 := by rw [hw0]; exact Below.refl _ _
    clear hw0 hB
    go_wp2_with fail
    refine (drawAd_any a len cap bs w0 (hv.below B0 (Nat.le_refl _)) hl).mono ?_
    rintro e w1 ⟨F, ta, tc, T, v, s, rfl, ⟨hR1, hsm⟩, hvb, hsl, hb1⟩
    unfold lgV
    obtain ⟨hIF, hTl, hTs⟩ := hsm.short
    have hIv : I64l v := ⟨by omega, by omega⟩
    have B1 : Below w.heap.size w w1 := B0.trans (hb1.mono B0.size)
    have L2 : LX (w1.alloc (.cells #[.int .i64 F, .slice ta T.length tc] 26)) w1.heap.size F ta tc T := LX.new hR1
    have B2 : Below w.heap.size w (w1.alloc (.cells #[.int .i64 F, .slice ta T.length tc] 26)) := B1.alloc B1.size _
    generalize hW2 : w1.alloc (.cells #[.int .i64 F, .slice ta T.length tc] 26) = W2 at *
    have hAs := addLg_small (v := v) hsm hsl
    have hAi : ∀ X, LX X w1.heap.size F ta tc T → Calls Tryd.prog 8 #[.agg #[.int .i64 F, .slice ta T.length tc], .int .i64 v, .string (sv s)] X fun e w' => ∃ a c, e = .returned (.tuple #[.agg #[.int .i64 (addLg (F, T) v s).1.1, .slice a (addLg (F, T) v s).1.2.length c], .bool (addLg (F, T) v s).2]) ∧ TxP w' a c (addLg (F, T) v s).1.2 ∧ Below X.heap.size X w' := fun X h => (hAd F ta tc T v s X hIF hIv h.txp (by omega) hTs (by omega)).mono (fun e w' h => ans_lb h)
    have hAp : ∀ X, LX X w1.heap.size F ta tc T → Calls Tryd.prog 13 #[.agg #[.int .i64 F, .slice ta T.length tc], .int .i64 v, .string (sv s)] X fun e w' => ∃ a c, e = .returned (.tuple #[.agg #[.int .i64 (addLg (F, T) v s).1.1, .slice a (addLg (F, T) v s).1.2.length c], .bool (addLg (F, T) v s).2]) ∧ TxP w' a c (addLg (F, T) v s).1.2 ∧ Below X.heap.size X w' := fun X h => (lgaS_any F ta tc T v s X h.txp (by omega) (by omega)).mono (fun e w' h => ans_lb h)
    have hKi : ∀ X, LX X w1.heap.size F ta tc T → Calls Tryd.prog 17 #[.agg #[.int .i64 F, .slice ta T.length tc]] X fun e w' => e = .returned (.bool (decide (okLg (F, T)))) ∧ Below X.heap.size X w' := fun X h => hOk F ta tc T X hIF h.txp (by omega) hTs
    have hKs : ∀ X, LX X w1.heap.size F ta tc T → Calls Tryd.prog 18 #[.agg #[.int .i64 F, .slice ta T.length tc]] X fun e w' => e = .returned (.bool (decide (okLg (F, T)))) ∧ Below X.heap.size X w' := fun X h => (lgkS_any F ta tc T X h.txp.txs (by unfold maxLen; omega)).mono (fun e w' h => ⟨h.1, h.2.1⟩)
    obtain ⟨⟨⟨AF, AT⟩, ab⟩, hAR⟩ : ∃ p, addLg (F, T) v s = p := ⟨_, rfl⟩
    have HAR : Hid (ab = true → okLg (AF, AT) ∧ AT = T ++ [s] ∧ txtLg (AF, AT) v = (s, true)) := fun h => add_told (by rw [hAR, h])
    rw [hAR] at hAi hAp hAs
    dsimp only at hAi hAp hAs
    obtain ⟨hIA, hAl, hASh⟩ := hAs
    generalize decide (okLg (F, T)) = okF at *
    clear hAR hb1 hR1 hAd
    obtain ⟨p0, p1⟩ := bx2 L2.box
    go_wp2_with fail
    refine (hAi W2 L2).mono ?_
    rintro e w3 ⟨xa, xc, rfl, hX3, hb3⟩
    have B3 : Below w.heap.size w w3 := B2.trans (hb3.mono B2.size)
    have X4 : LX (w3.alloc (.cells #[.int .i64 AF, .slice xa AT.length xc] 26)) w3.heap.size AF xa xc AT := LX.new hX3
    have L4 := (L2.below hb3).below (oneA w3 (.cells #[.int .i64 AF, .slice xa AT.length xc] 26))
    have B4 : Below w.heap.size w (w3.alloc (.cells #[.int .i64 AF, .slice xa AT.length xc] 26)) := B3.alloc B3.size _
    generalize hW4 : w3.alloc (.cells #[.int .i64 AF, .slice xa AT.length xc] 26) = W4 at *
    clear p0 p1 hb3 hX3 L2 B2 B3 hAi
    go_wp2_with fail
    refine (drawSl_any a len cap bs W4 (hv.below B4 (Nat.le_refl _)) hl).mono ?_
    rintro e w5 ⟨⟨MF, MT⟩, hAm, hsmM⟩
    obtain ⟨ma, mc, rfl, hX5, hb5⟩ := ans_lg hAm
    dsimp only at hX5 ⊢
    obtain ⟨hIM, hMl, hMs⟩ := hsmM.short
    have hMF := hsmM.1
    dsimp only at hMF
    have B5 : Below w.heap.size w w5 := B4.trans (hb5.mono B4.size)
    have M6 : LX (w5.alloc (.cells #[.int .i64 MF, .slice ma MT.length mc] 26)) w5.heap.size MF ma mc MT := LX.new hX5
    have L6 := (L4.below hb5).below (oneA w5 (.cells #[.int .i64 MF, .slice ma MT.length mc] 26))
    have X6 := (X4.below hb5).below (oneA w5 (.cells #[.int .i64 MF, .slice ma MT.length mc] 26))
    have B6 : Below w.heap.size w (w5.alloc (.cells #[.int .i64 MF, .slice ma MT.length mc] 26)) := B5.alloc B5.size _
    generalize hW6 : w5.alloc (.cells #[.int .i64 MF, .slice ma MT.length mc] 26) = W6 at *
    clear hAm hb5 hX5 L4 X4 B4 B5
    have hsh := showLg_len (MF, MT)
    have hSi := hSw MF ma mc MT W6 B6 hIM M6.txp (by omega) hMs
    have hSs : ∀ X, LX X w5.heap.size MF ma mc MT → Calls Tryd.prog 15 #[.agg #[.int .i64 MF, .slice ma MT.length mc]] X fun e w' => e = .returned (.string (sv (showLg (MF, MT)))) ∧ Below X.heap.size X w' := fun X h => lgwS_any MF ma mc MT X h.txp.txs (by unfold maxLen; omega)
    have hKm : ∀ X, LX X w5.heap.size MF ma mc MT → Calls Tryd.prog 18 #[.agg #[.int .i64 MF, .slice ma MT.length mc]] X fun e w' => e = .returned (.bool (decide (okLg (MF, MT)))) ∧ Below X.heap.size X w' := fun X h => (lgkS_any MF ma mc MT X h.txp.txs (by unfold maxLen; omega)).mono (fun e w' h => ⟨h.1, h.2.1⟩)
    have HNOM : Hid (¬ okLg (MF, MT) → showLg (MF, MT) = []) := fun h => by unfold showLg; rw [if_neg h]
    have HOKM : Hid (okLg (MF, MT) → (∀ ts, IsFrames (showLg (MF, MT)) ts → recLg ts MF = (MF, MT)) ∧ ∀ c ts, c <+: showLg (MF, MT) → IsFrames c ts → ∃ n, n ≤ MT.length ∧ recLg ts MF = (MF, MT.take n)) := fun h => by
      have h1 : 1 ≤ MF ∧ MF ≤ 1000000 := h.1
      refine ⟨fun ts ht => ?_, fun c ts hc ht => ?_⟩
      · unfold recLg; rw [if_pos h1]; exact rec_show h ht
      · unfold recLg; rw [if_pos h1]; exact rec_part h hc ht
    generalize showLg (MF, MT) = t at *
    unfold lgV at hSi
    obtain ⟨p0, p1⟩ := bx2 M6.box
    clear hSw
    go_wp2_with fail
    refine hSi.mono ?_
    rintro e w7 ⟨rfl, hb7⟩
    have B7 : Below w.heap.size w w7 := B6.trans (hb7.mono B6.size)
    have L7 := L6.below hb7
    have X7 := X6.below hb7
    have M7 := M6.below hb7
    clear p0 p1 hSi hb7 L6 X6 M6 B6
    go_wp2_with fail
    refine (drawRc_any a len cap bs w7 (hv.below B7 (Nat.le_refl _)) hl).mono ?_
    rintro e w8 ⟨d, first, rfl, hdl, hfb, hb8⟩
    have B8 : Below w.heap.size w w8 := B7.trans (hb8.mono B7.size)
    have L8 := L7.below hb8
    have X8 := X7.below hb8
    have M8 := M7.below hb8
    clear hb8 L7 X7 M7 B7
    obtain ⟨ts, hts⟩ := frames_exist d.length d (Nat.le_refl _)
    have hIf : I64l first := ⟨by omega, by omega⟩
    have hRi : Calls Tryd.prog 12 #[.string (sv d), .int .i64 first] w8 fun e w' => ∃ a c, e = .returned (.agg #[.int .i64 (recLg ts first).1, .slice a (recLg ts first).2.length c]) ∧ TxP w' a c (recLg ts first).2 ∧ Below w8.heap.size w8 w' := (hRc d first ts w8 B8 hIf (by omega) hts).mono (fun e w' h => ans_lg h)
    have hRs : ∀ X, Calls Tryd.prog 16 #[.string (sv d), .int .i64 first] X fun e w' => ∃ a c, e = .returned (.agg #[.int .i64 (recLg ts first).1, .slice a (recLg ts first).2.length c]) ∧ TxP w' a c (recLg ts first).2 ∧ Below X.heap.size X w' := fun X => (lgrS_any d first X (by omega)).mono (fun e w' ⟨ts', h1, h2⟩ => by rw [hts.unique h1]; exact ans_lg h2)
    have hRl := recLg_small ts first
    obtain ⟨⟨RF, RT⟩, hRR⟩ : ∃ p, recLg ts first = p := ⟨_, rfl⟩
    rw [hRR] at hRi hRs hRl
    dsimp only at hRi hRs hRl
    clear hRR hts
    go_wp2_with fail
    refine hRi.mono ?_
    rintro e w9 ⟨ra, rc, rfl, hX9, hb9⟩
    have B9 : Below w.heap.size w w9 := B8.trans (hb9.mono B8.size)
    have RA : LX (w9.alloc (.cells #[.int .i64 RF, .slice ra RT.length rc] 26)) w9.heap.size RF ra rc RT := LX.new hX9
    have LA := (L8.below hb9).below (oneA w9 (.cells #[.int .i64 RF, .slice ra RT.length rc] 26))
    have XA := (X8.below hb9).below (oneA w9 (.cells #[.int .i64 RF, .slice ra RT.length rc] 26))
    have MA := (M8.below hb9).below (oneA w9 (.cells #[.int .i64 RF, .slice ra RT.length rc] 26))
    have BA : Below w.heap.size w (w9.alloc (.cells #[.int .i64 RF, .slice ra RT.length rc] 26)) := B9.alloc B9.size _
    generalize hWA : w9.alloc (.cells #[.int .i64 RF, .slice ra RT.length rc] 26) = WA at *
    clear hRi hX9 hb9 L8 X8 M8 B8 B9
    obtain ⟨p0, p1⟩ := bx2 LA.box
    go_wp2_with fail
    refine (hAp WA LA).mono ?_
    rintro e wB ⟨ya, yc, rfl, hXB, hbB⟩
    have BB : Below w.heap.size w wB := BA.trans (hbB.mono BA.size)
    have YC : LX (wB.alloc (.cells #[.int .i64 AF, .slice ya AT.length yc] 26)) wB.heap.size AF ya yc AT := LX.new hXB
    have LC := (LA.below hbB).below (oneA wB (.cells #[.int .i64 AF, .slice ya AT.length yc] 26))
    have XC := (XA.below hbB).below (oneA wB (.cells #[.int .i64 AF, .slice ya AT.length yc] 26))
    have MC := (MA.below hbB).below (oneA wB (.cells #[.int .i64 AF, .slice ya AT.length yc] 26))
    have RC := (RA.below hbB).below (oneA wB (.cells #[.int .i64 AF, .slice ya AT.length yc] 26))
    have BC : Below w.heap.size w (wB.alloc (.cells #[.int .i64 AF, .slice ya AT.length yc] 26)) := BB.alloc BB.size _
    generalize hWC : wB.alloc (.cells #[.int .i64 AF, .slice ya AT.length yc] 26) = WC at *
    clear p0 p1 hAp hXB hbB LA XA MA RA BA BB
    have KP : ∀ W, Below WC.heap.size WC W → LX W w1.heap.size F ta tc T ∧ LX W w3.heap.size AF xa xc AT ∧ LX W w5.heap.size MF ma mc MT ∧ LX W w9.heap.size RF ra rc RT ∧ LX W wB.heap.size AF ya yc AT := fun W h => ⟨LC.below h, XC.below h, MC.below h, RC.below h, YC.below h⟩
    have KS : ∀ W, Below WC.heap.size WC W → W.cell? ⟨w1.heap.size, 0, none⟩ = some (.int .i64 F) ∧ W.cell? ⟨w1.heap.size, 1, none⟩ = some (.slice ta T.length tc) ∧ W.cell? ⟨w3.heap.size, 0, none⟩ = some (.int .i64 AF) ∧ W.cell? ⟨w3.heap.size, 1, none⟩ = some (.slice xa AT.length xc) ∧ W.cell? ⟨w5.heap.size, 0, none⟩ = some (.int .i64 MF) ∧ W.cell? ⟨w5.heap.size, 1, none⟩ = some (.slice ma MT.length mc) ∧ W.cell? ⟨w9.heap.size, 0, none⟩ = some (.int .i64 RF) ∧ W.cell? ⟨w9.heap.size, 1, none⟩ = some (.slice ra RT.length rc) ∧ W.cell? ⟨wB.heap.size, 0, none⟩ = some (.int .i64 AF) ∧ W.cell? ⟨wB.heap.size, 1, none⟩ = some (.slice ya AT.length yc) := fun W h => ⟨(bx2 (KP W h).1.box).1, (bx2 (KP W h).1.box).2, (bx2 (KP W h).2.1.box).1, (bx2 (KP W h).2.1.box).2, (bx2 (KP W h).2.2.1.box).1, (bx2 (KP W h).2.2.1.box).2, (bx2 (KP W h).2.2.2.1.box).1, (bx2 (KP W h).2.2.2.1.box).2, (bx2 (KP W h).2.2.2.2.box).1, (bx2 (KP W h).2.2.2.2.box).2⟩
    have hLx : ∀ X, Below WC.heap.size WC X → Calls Tryd.prog 14 #[.agg #[.int .i64 AF, .slice xa AT.length xc], .agg #[.int .i64 AF, .slice ya AT.length yc]] X fun e w' => e = .returned (.bool true) ∧ Below X.heap.size X w' := fun X h => (likeLg_any AF xa ya xc yc AT X (KP X h).2.1.txp.txs (KP X h).2.2.2.2.txp.txs (by unfold maxLen; omega)).mono (fun e w' h => ⟨h.1, h.2.1⟩)
    have hLr : ∀ X x1 y1, Below WC.heap.size WC X → TxP X x1 y1 RT → Calls Tryd.prog 14 #[.agg #[.int .i64 RF, .slice ra RT.length rc], .agg #[.int .i64 RF, .slice x1 RT.length y1]] X fun e w' => e = .returned (.bool true) ∧ Below X.heap.size X w' := fun X x1 y1 h h2 => (likeLg_any RF ra x1 rc y1 RT X (KP X h).2.2.2.1.txp.txs h2.txs (by unfold maxLen; omega)).mono (fun e w' h => ⟨h.1, h.2.1⟩)
    have hab : (ab != ab) = false := by simp
    have hokq : (okF != okF) = false := by simp
    have htq : ((sv t).toList != (sv t).toList) = false := by simp
    have b0 : Below WC.heap.size WC (WC.drewN 1) := belowN (Below.refl _ _)
    clear LC XC MC RC YC
    go_wp2_with fail
    go_region_held3 (fun W => W.cell? ⟨w1.heap.size, 0, none⟩ = some (.int .i64 F) ∧ W.cell? ⟨w1.heap.size, 1, none⟩ = some (.slice ta T.length tc) ∧ W.cell? ⟨w3.heap.size, 0, none⟩ = some (.int .i64 AF) ∧ W.cell? ⟨w3.heap.size, 1, none⟩ = some (.slice xa AT.length xc) ∧ W.cell? ⟨w5.heap.size, 0, none⟩ = some (.int .i64 MF) ∧ W.cell? ⟨w5.heap.size, 1, none⟩ = some (.slice ma MT.length mc) ∧ W.cell? ⟨w9.heap.size, 0, none⟩ = some (.int .i64 RF) ∧ W.cell? ⟨w9.heap.size, 1, none⟩ = some (.slice ra RT.length rc) ∧ W.cell? ⟨wB.heap.size, 0, none⟩ = some (.int .i64 AF) ∧ W.cell? ⟨wB.heap.size, 1, none⟩ = some (.slice ya AT.length yc))
      (first
        | (with_reducible exact KS _ b6)
        | (with_reducible exact KS _ b5)
        | (with_reducible exact KS _ b4)
        | (with_reducible exact KS _ b3)
        | (with_reducible exact KS _ b2)
        | (with_reducible exact KS _ b1)
        | exact KS _ b0)
      (first
        | (go_at_call 18; refine (hKs _ (KP _ b5).1).mono ?_; rintro e V6 ⟨rfl, hV6⟩; have b6 := b5.trans (hV6.mono b5.size))
        | (go_at_call 17; refine (hKi _ (KP _ b4).1).mono ?_; rintro e V5 ⟨rfl, hV5⟩; have b5 := b4.trans (hV5.mono b4.size))
        | (go_at_call 14; refine (hLr _ _ _ b3 hX3).mono ?_; rintro e V4 ⟨rfl, hV4⟩; have b4 := b3.trans (hV4.mono b3.size))
        | (go_at_call 16; refine (hRs _).mono ?_; rintro e V3 ⟨xb, yb, rfl, hX3, hV3⟩; have b3 := b2.trans (hV3.mono b2.size))
        | (go_at_call 15; refine (hSs _ (KP _ b1).2.2.1).mono ?_; rintro e V2 ⟨rfl, hV2⟩; have b2 := b1.trans (hV2.mono b1.size))
        | (go_at_call 14; refine (hLx _ b0).mono ?_; rintro e V1 ⟨rfl, hV1⟩; have b1 := b0.trans (hV1.mono b0.size)))
    have B6 : Below w.heap.size w V6 := BC.trans (b6.mono BC.size)
    obtain ⟨L6, X6, M6, R6, Y6⟩ := KP _ b6
    clear KP KS hLx hLr hab hokq htq b0 b1 b2 b3 b4 b5 b6 hV1 hV2 hV3 hV4 hV5 hV6 hX3 hKs hKi hRs hSs R6 Y6 BC
    cases ab
    · have Bv := B6
      have Mv := M6
      clear B6 M6 L6 X6 HAR
      have hKv := hKm V6 Mv
      by_cases hokM : okLg (MF, MT)
      · rw [decide_eq_true hokM] at hKv
        have hK2 : ∀ X, LX X w5.heap.size MF ma mc MT → Calls Tryd.prog 18 #[.agg #[.int .i64 MF, .slice ma MT.length mc]] X fun e w' => e = .returned (.bool true) ∧ Below X.heap.size X w' := fun X h => by
          have := hKm X h
          rw [decide_eq_true hokM] at this
          exact this
        have HSH : Hid (∀ ts, IsFrames t ts → recLg ts MF = (MF, MT)) := (HOKM.out hokM).1
        have HPA : Hid (∀ c ts, c <+: t → IsFrames c ts → ∃ n, n ≤ MT.length ∧ recLg ts MF = (MF, MT.take n)) := (HOKM.out hokM).2
        clear hokM HOKM HNOM hKm
        obtain ⟨p0, p1⟩ := bx2 Mv.box
        go_wp2_with fail
        refine hKv.mono ?_
        rintro e VA ⟨rfl, hVA⟩
        have BA : Below w.heap.size w VA := Bv.trans (hVA.mono Bv.size)
        have MA := Mv.below hVA
        clear hKv p0 p1 Bv Mv hVA
        obtain ⟨p0, p1⟩ := bx2 MA.box
        by_cases hbigM : (900000 : Int) < MF
        · have HBA : Hid (Below w.heap.size w VA) := BA
          clear BA
          cases ht : ((sv t).toList == [])
          · go_wp2_with fail
            refine (hK2 VA MA).mono ?_
            rintro e VB ⟨rfl, hVB⟩
            have BB : Hid (Below w.heap.size w VB) := HBA.out.trans (hVB.mono HBA.out.size)
            clear hVB
            go_wp2
            go_ret
            exact ⟨rfl, BB.out⟩
          · go_wp2
            go_ret
            exact ⟨rfl, HBA.out⟩
        · obtain ⟨ts1, hts1⟩ := frames_exist t.length t (Nat.le_refl _)
          have hR1 : Calls Tryd.prog 12 #[.string (sv t), .int .i64 MF] VA fun e w' => ∃ a c, e = .returned (.agg #[.int .i64 (MF, MT).1, .slice a (MF, MT).2.length c]) ∧ TxP w' a c (MF, MT).2 ∧ Below VA.heap.size VA w' := (hRc t MF ts1 VA BA hIM (by omega) hts1).mono (fun e w' h => by rw [HSH.out ts1 hts1] at h; exact ans_lg h)
          dsimp only at hR1
          clear hts1 HSH hK2
          go_wp2_with fail
          refine hR1.mono ?_
          rintro e VB ⟨ua, uc, rfl, hXB, hbB⟩
          have BB : Below w.heap.size w VB := BA.trans (hbB.mono BA.size)
          have UC : LX (VB.alloc (.cells #[.int .i64 MF, .slice ua MT.length uc] 26)) VB.heap.size MF ua uc MT := LX.new hXB
          have MC := (MA.below hbB).below (oneA VB (.cells #[.int .i64 MF, .slice ua MT.length uc] 26))
          have BC : Below w.heap.size w (VB.alloc (.cells #[.int .i64 MF, .slice ua MT.length uc] 26)) := BB.alloc BB.size _
          generalize hWC9 : VB.alloc (.cells #[.int .i64 MF, .slice ua MT.length uc] 26) = VC at *
          clear p0 p1 hR1 hXB hbB MA BA BB
          have hszt := sv_size t
          have hwt : IntKind.i64.wrap ((t.length : Int) + 1) = (t.length : Int) + 1 := by rw [IntKind.wrap_i64]; omega
          have hPk : ∀ X, Below VC.heap.size VC X → Calls Tryd.prog 21 #[.slice a len cap, .int .i64 1, .int .i64 ((t.length : Int) + 1)] X fun e w' => ∃ k : Nat, e = .returned (.int .i64 (k : Int)) ∧ k ≤ t.length ∧ w' = X := fun X h => (pick_any a len cap bs 1 ((t.length : Int) + 1) X (hv.below (BC.trans (h.mono BC.size)) (Nat.le_refl _)) hl (by omega) (by omega) (by omega) (by omega)).mono (fun e w' ⟨x, h1, h2, h3, h4⟩ => ⟨x.toNat, by rw [h1, show ((x.toNat : Nat) : Int) = x by omega], by omega, h4⟩)
          have hRz : ∀ (k : Nat) X, Below VC.heap.size VC X → Calls Tryd.prog 12 #[.string (sv (t.take k)), .int .i64 MF] X fun e w' => ∃ n a c, e = .returned (.agg #[.int .i64 MF, .slice a (List.take n MT).length c]) ∧ n ≤ MT.length ∧ NewO X w' (scl (List.take n MT)) (.slice a (List.take n MT).length c) := fun k X h => by
            obtain ⟨ts2, hts2⟩ := frames_exist (t.take k).length (t.take k) (Nat.le_refl _)
            obtain ⟨n, hn, hr⟩ := HPA.out (t.take k) ts2 (List.take_prefix _ _) hts2
            refine (hRc (t.take k) MF ts2 X (BC.trans (h.mono BC.size)) hIM (by rw [List.length_take]; omega) hts2).mono (fun e w' h => ?_)
            rw [hr] at h
            obtain ⟨a, c, h1, h2⟩ := h
            exact ⟨n, a, c, h1, hn, h2⟩
          have KM : ∀ W, Below VC.heap.size VC W → W.cell? ⟨w5.heap.size, 0, none⟩ = some (.int .i64 MF) := fun W h => (bx2 (MC.below h).box).1
          have hsC := MC.box.lt
          have bd : Below VC.heap.size VC (VC.drewN 1) := belowN (Below.refl _ _)
          have bA : Below VC.heap.size VC ((VC.alloc (.cells #[.int .i64 0, .slice none 0 0] 26)).drewN 1) := belowN (oneA _ _)
          have bE : Below VC.heap.size VC ((VC.drewN 1).alloc (.cells #[.int .i64 0, .slice none 0 0] 26)) := bd.alloc bd.size _
          have zA : Bx ((VC.alloc (.cells #[.int .i64 0, .slice none 0 0] 26)).drewN 1) VC.heap.size 26 #[.int .i64 0, .slice none 0 0] := (Bx.new _ _ _).drewN 1
          have zE : Bx ((VC.drewN 1).alloc (.cells #[.int .i64 0, .slice none 0 0] 26)) VC.heap.size 26 #[.int .i64 0, .slice none 0 0] := Bx.new _ _ _
          have szA : VC.heap.size < ((VC.alloc (.cells #[.int .i64 0, .slice none 0 0] 26)).drewN 1).heap.size := by simp
          have szE : VC.heap.size < ((VC.drewN 1).alloc (.cells #[.int .i64 0, .slice none 0 0] 26)).heap.size := by simp
          clear HPA hRc
          go_wp2_with fail
          go_cut [18] from 132 to 141 (fun s18 wx => ∃ (q n : Nat) (za : Option Addr) (zc : Nat), s18 = .pointer (some ⟨q, 0, none⟩) ∧ n ≤ MT.length ∧ LX wx q MF za zc (List.take n MT) ∧ Below VC.heap.size VC wx)
          case first =>
            go_region_held3 (fun W => W.cell? ⟨w5.heap.size, 0, none⟩ = some (.int .i64 MF))
              (first | (with_reducible exact KM _ b7) | exact KM _ bA | exact KM _ bd | exact KM _ bE | exact KM _ (b7.alloc b7.size _) | exact KM _ (setb2 b7 (Nat.le_refl _)))
              (first
                | (go_at_call 12; refine (hRz kq _ (by first | exact bA | exact bd | exact bE)).mono ?_; rintro e u7 ⟨nq, a7, c7, rfl, hnq, fp7, ho7, hf7, hb7⟩; have hlq : Hid ((List.take nq MT).length = nq) := (by rw [Hid, List.length_take]; omega); (first | have b7 : Below VC.heap.size VC u7 := bA.trans (hb7.mono bA.size) | have b7 : Below VC.heap.size VC u7 := bd.trans (hb7.mono bd.size) | have b7 : Below VC.heap.size VC u7 := bE.trans (hb7.mono bE.size)); (first | have z7 : Bx u7 VC.heap.size 26 #[.int .i64 0, .slice none 0 0] := zA.below hb7 | have z7 : Bx u7 VC.heap.size 26 #[.int .i64 0, .slice none 0 0] := zE.below hb7 | skip); (try obtain ⟨z70, z71⟩ := z7.r2); (try have z72 := z7.f 0); (try have z73 := z7.f 1))
                | (go_at_call 21; refine (hPk _ (by first | exact bA | exact bd | exact bE)).mono ?_; rintro e u6 ⟨kq, rfl, hkq, hu6⟩; rw [hu6]; clear hu6; have q0 : (0 : Int) ≤ (kq : Int) := (by omega); have q1 : (kq : Int) ≤ (t.length : Int) := (by omega); have hex : (sv t).extract 0 kq = sv (t.take kq) := (by rw [sv_sub]; simp)))
            all_goals (try go_wp2_with fail)
            all_goals go_meet
            all_goals first
              | exact ⟨_, nq, a7, c7, rfl, hnq, ⟨by rw [hlq.out]; exact Bx.new _ _ _, (ow_txp ho7).below (oneA _ _)⟩, b7.alloc b7.size _⟩
              | exact ⟨VC.heap.size, nq, a7, c7, rfl, hnq, ⟨by rw [hlq.out]; have := (z7.setC 0 (.int .i64 MF)).setC 1 (.slice a7 nq c7); simpa using this, ow_txp (Cel.ow_wrt ho7 (setw2 u7 VC.heap.size) (fun b hb e => Nat.lt_irrefl _ (Nat.lt_of_lt_of_le szA (e ▸ hf7 b hb))))⟩, setb2 b7 (Nat.le_refl _)⟩
              | exact ⟨VC.heap.size, nq, a7, c7, rfl, hnq, ⟨by rw [hlq.out]; have := (z7.setC 0 (.int .i64 MF)).setC 1 (.slice a7 nq c7); simpa using this, ow_txp (Cel.ow_wrt ho7 (setw2 u7 VC.heap.size) (fun b hb e => Nat.lt_irrefl _ (Nat.lt_of_lt_of_le szE (e ▸ hf7 b hb))))⟩, setb2 b7 (Nat.le_refl _)⟩
          case rest =>
            obtain ⟨q, nz, za, zc, rfl, hnz, hZ, hbZ⟩ := hcut
            have UZ := UC.below hbZ
            have MZ := MC.below hbZ
            have BZ : Below w.heap.size w wc := BC.trans (hbZ.mono BC.size)
            clear UC MC BC hbZ KM bd bA bE zA zE szA szE hPk hRz hwt hszt hsC
            generalize wc = VZ at *
            obtain ⟨ZT, hZT⟩ : ∃ ZT, List.take nz MT = ZT := ⟨_, rfl⟩
            have HZT : Hid (List.take nz MT = ZT) := hZT
            have hZl : ZT.length ≤ MT.length := by rw [← hZT, List.length_take]; omega
            rw [hZT] at hZ
            clear hZT hnz
            have z0 : (ZT.length : Int) ≤ (MT.length : Int) := by omega
            have z1 : (0 : Int) ≤ (ZT.length : Int) := by omega
            obtain ⟨z2, hma⟩ : (ZT.length : Int) ≤ (mc : Int) ∧ (ma = none ∨ ∃ b off, ma = some ⟨b, off, none⟩) := by
              rcases MZ.txp with ⟨h1, h2, h3⟩ | ⟨b, off, rfl, h1, _⟩
              · rw [h1] at hZl
                refine ⟨by simp at hZl; rw [hZl]; simp, ?_⟩
                cases ma with
                | none => exact .inl rfl
                | some x => obtain ⟨b, off, rfl⟩ := h3 x rfl; exact .inr ⟨b, off, rfl⟩
              · exact ⟨by omega, .inr ⟨b, off, rfl⟩⟩
            rcases hma with rfl | ⟨b9, off9, rfl⟩
            · have KP : ∀ W, Below VZ.heap.size VZ W → LX W VB.heap.size MF ua uc MT ∧ LX W w5.heap.size MF none mc MT ∧ LX W q MF za zc ZT := fun W h => ⟨UZ.below h, MZ.below h, hZ.below h⟩
              have KS : ∀ W, Below VZ.heap.size VZ W → W.cell? ⟨VB.heap.size, 0, none⟩ = some (.int .i64 MF) ∧ W.cell? ⟨VB.heap.size, 1, none⟩ = some (.slice ua MT.length uc) ∧ W.cell? ⟨w5.heap.size, 0, none⟩ = some (.int .i64 MF) ∧ W.cell? ⟨w5.heap.size, 1, none⟩ = some (.slice none MT.length mc) ∧ W.cell? ⟨q, 0, none⟩ = some (.int .i64 MF) ∧ W.cell? ⟨q, 1, none⟩ = some (.slice za ZT.length zc) := fun W h => ⟨(bx2 (KP W h).1.box).1, (bx2 (KP W h).1.box).2, (bx2 (KP W h).2.1.box).1, (bx2 (KP W h).2.1.box).2, (bx2 (KP W h).2.2.box).1, (bx2 (KP W h).2.2.box).2⟩
              have hLu : ∀ X, Below VZ.heap.size VZ X → Calls Tryd.prog 14 #[.agg #[.int .i64 MF, .slice ua MT.length uc], .agg #[.int .i64 MF, .slice none MT.length mc]] X fun e w' => e = .returned (.bool true) ∧ Below X.heap.size X w' := fun X h => (likeLg_any MF ua none uc mc MT X (KP X h).1.txp.txs (KP X h).2.1.txp.txs (by unfold maxLen; omega)).mono (fun e w' h => ⟨h.1, h.2.1⟩)
              have hLz : ∀ X, Below VZ.heap.size VZ X → Calls Tryd.prog 20 #[.slice za ZT.length zc, .slice none ZT.length mc] X fun e w' => e = .returned (.bool true) ∧ Below X.heap.size X w' := fun X h => by
                have h1 := (KP X h).2.1.txp.txs.take nz
                rw [HZT.out] at h1
                exact (likeSV_any za none zc mc ZT X (KP X h).2.2.txp.txs h1 (by unfold maxLen; omega)).mono (fun e w' h => ⟨h.1, h.2.1⟩)
              have b0 : Below VZ.heap.size VZ (VZ.drewN 1) := belowN (Below.refl _ _)
              have hmm : (MF == MF) = true := by simp
              clear hZ UZ MZ
              go_wp2_with fail
              go_region_held3 (fun W => W.cell? ⟨VB.heap.size, 0, none⟩ = some (.int .i64 MF) ∧ W.cell? ⟨VB.heap.size, 1, none⟩ = some (.slice ua MT.length uc) ∧ W.cell? ⟨w5.heap.size, 0, none⟩ = some (.int .i64 MF) ∧ W.cell? ⟨w5.heap.size, 1, none⟩ = some (.slice none MT.length mc) ∧ W.cell? ⟨q, 0, none⟩ = some (.int .i64 MF) ∧ W.cell? ⟨q, 1, none⟩ = some (.slice za ZT.length zc))
                (first
                  | (with_reducible exact KS _ b2)
                  | (with_reducible exact KS _ b1)
                  | exact KS _ b0)
                (first
                  | (go_at_call 20; refine (hLz _ b1).mono ?_; rintro e VY ⟨rfl, hVY⟩; have b2 := b1.trans (hVY.mono b1.size))
                  | (go_at_call 14; refine (hLu _ b0).mono ?_; rintro e VX ⟨rfl, hVX⟩; have b1 := b0.trans (hVX.mono b0.size)))
              have BY : Hid (Below w.heap.size w VY) := BZ.trans (b2.mono BZ.size)
              clear KP KS hLu hLz b0 b1 b2 hVX hVY
              go_wp2
              go_ret
              exact ⟨rfl, BY.out⟩
            · have KP : ∀ W, Below VZ.heap.size VZ W → LX W VB.heap.size MF ua uc MT ∧ LX W w5.heap.size MF (some ⟨b9, off9, none⟩) mc MT ∧ LX W q MF za zc ZT := fun W h => ⟨UZ.below h, MZ.below h, hZ.below h⟩
              have KS : ∀ W, Below VZ.heap.size VZ W → W.cell? ⟨VB.heap.size, 0, none⟩ = some (.int .i64 MF) ∧ W.cell? ⟨VB.heap.size, 1, none⟩ = some (.slice ua MT.length uc) ∧ W.cell? ⟨w5.heap.size, 0, none⟩ = some (.int .i64 MF) ∧ W.cell? ⟨w5.heap.size, 1, none⟩ = some (.slice (some ⟨b9, off9, none⟩) MT.length mc) ∧ W.cell? ⟨q, 0, none⟩ = some (.int .i64 MF) ∧ W.cell? ⟨q, 1, none⟩ = some (.slice za ZT.length zc) := fun W h => ⟨(bx2 (KP W h).1.box).1, (bx2 (KP W h).1.box).2, (bx2 (KP W h).2.1.box).1, (bx2 (KP W h).2.1.box).2, (bx2 (KP W h).2.2.box).1, (bx2 (KP W h).2.2.box).2⟩
              have hLu : ∀ X, Below VZ.heap.size VZ X → Calls Tryd.prog 14 #[.agg #[.int .i64 MF, .slice ua MT.length uc], .agg #[.int .i64 MF, .slice (some ⟨b9, off9, none⟩) MT.length mc]] X fun e w' => e = .returned (.bool true) ∧ Below X.heap.size X w' := fun X h => (likeLg_any MF ua (some ⟨b9, off9, none⟩) uc mc MT X (KP X h).1.txp.txs (KP X h).2.1.txp.txs (by unfold maxLen; omega)).mono (fun e w' h => ⟨h.1, h.2.1⟩)
              have hLz : ∀ X, Below VZ.heap.size VZ X → Calls Tryd.prog 20 #[.slice za ZT.length zc, .slice (some ⟨b9, off9, none⟩) ZT.length mc] X fun e w' => e = .returned (.bool true) ∧ Below X.heap.size X w' := fun X h => by
                have h1 := (KP X h).2.1.txp.txs.take nz
                rw [HZT.out] at h1
                exact (likeSV_any za (some ⟨b9, off9, none⟩) zc mc ZT X (KP X h).2.2.txp.txs h1 (by unfold maxLen; omega)).mono (fun e w' h => ⟨h.1, h.2.1⟩)
              have b0 : Below VZ.heap.size VZ (VZ.drewN 1) := belowN (Below.refl _ _)
              have hmm : (MF == MF) = true := by simp
              clear hZ UZ MZ
              go_wp2_with fail
              go_region_held3 (fun W => W.cell? ⟨VB.heap.size, 0, none⟩ = some (.int .i64 MF) ∧ W.cell? ⟨VB.heap.size, 1, none⟩ = some (.slice ua MT.length uc) ∧ W.cell? ⟨w5.heap.size, 0, none⟩ = some (.int .i64 MF) ∧ W.cell? ⟨w5.heap.size, 1, none⟩ = some (.slice (some ⟨b9, off9, none⟩) MT.length mc) ∧ W.cell? ⟨q, 0, none⟩ = some (.int .i64 MF) ∧ W.cell? ⟨q, 1, none⟩ = some (.slice za ZT.length zc))
                (first
                  | (with_reducible exact KS _ b2)
                  | (with_reducible exact KS _ b1)
                  | exact KS _ b0)
                (first
                  | (go_at_call 20; refine (hLz _ b1).mono ?_; rintro e VY ⟨rfl, hVY⟩; have b2 := b1.trans (hVY.mono b1.size))
                  | (go_at_call 14; refine (hLu _ b0).mono ?_; rintro e VX ⟨rfl, hVX⟩; have b1 := b0.trans (hVX.mono b0.size)))
              have BY : Hid (Below w.heap.size w VY) := BZ.trans (b2.mono BZ.size)
              clear KP KS hLu hLz b0 b1 b2 hVX hVY
              go_wp2
              go_ret
              exact ⟨rfl, BY.out⟩
      · rw [decide_eq_false hokM] at hKv
        have ht : ((sv t).toList == []) = true := by rw [sv_list, HNOM.out hokM]; rfl
        have HBv : Hid (Below w.heap.size w V6) := Bv
        clear HOKM HNOM hokM
        obtain ⟨p0, p1⟩ := bx2 Mv.box
        go_wp2_with fail
        refine hKv.mono ?_
        rintro e VA ⟨rfl, hVA⟩
        have BA : Hid (Below w.heap.size w VA) := HBv.out.trans (hVA.mono HBv.out.size)
        clear hVA hKv p0 p1
        go_wp2
        go_ret
        exact ⟨rfl, BA.out⟩
    · obtain ⟨hkA, hAT, htA⟩ := HAR.out rfl
      have HATl : Hid (AT.length = T.length + 1) := by rw [Hid, hAT]; simp
      have HATt : Hid (AT.take T.length = T) := by rw [Hid, hAT]; simp
      clear hAT
      have hTi := hTx AF xa xc AT v V6 hIA hIv X6.txp (by omega) hASh
      rw [htA] at hTi
      unfold lgV at hTi
      dsimp only at hTi
      clear htA
      have hKx : ∀ X, TxP X xa xc AT → Calls Tryd.prog 17 #[.agg #[.int .i64 AF, .slice xa AT.length xc]] X fun e w' => e = .returned (.bool true) ∧ Below X.heap.size X w' := fun X h => by
        have := hOk AF xa xc AT X hIA h (by omega) hASh
        rw [decide_eq_true hkA] at this
        exact this
      clear hkA
      obtain ⟨p0, p1⟩ := bx2 X6.box
      go_wp2_with fail
      refine hTi.mono ?_
      rintro e V7 ⟨rfl, hV7⟩
      have B7 : Below w.heap.size w V7 := B6.trans (hV7.mono B6.size)
      have L7 := L6.below hV7
      have X7 := X6.below hV7
      have M7 := M6.below hV7
      clear hTi p0 p1 hV7 L6 X6 M6 B6
      obtain ⟨hz, _⟩ | ⟨xb, xo, rfl, hxc1, hxc2, hcell⟩ := X7.txp
      · have := HATl.out; rw [hz] at this; simp at this
      clear hcell
      have x0 : (0 : Int) ≤ (T.length : Int) := by omega
      have x1 : (T.length : Int) ≤ (xc : Int) := by have := HATl.out; omega
      have KP : ∀ W, Below V7.heap.size V7 W → LX W w1.heap.size F ta tc T ∧ LX W w3.heap.size AF (some ⟨xb, xo, none⟩) xc AT := fun W h => ⟨L7.below h, X7.below h⟩
      have KS : ∀ W, Below V7.heap.size V7 W → W.cell? ⟨w1.heap.size, 0, none⟩ = some (.int .i64 F) ∧ W.cell? ⟨w1.heap.size, 1, none⟩ = some (.slice ta T.length tc) ∧ W.cell? ⟨w3.heap.size, 0, none⟩ = some (.int .i64 AF) ∧ W.cell? ⟨w3.heap.size, 1, none⟩ = some (.slice (some ⟨xb, xo, none⟩) AT.length xc) := fun W h => ⟨(bx2 (KP W h).1.box).1, (bx2 (KP W h).1.box).2, (bx2 (KP W h).2.box).1, (bx2 (KP W h).2.box).2⟩
      have hLt : ∀ X, Below V7.heap.size V7 X → Calls Tryd.prog 20 #[.slice (some ⟨xb, xo, none⟩) T.length xc, .slice ta T.length tc] X fun e w' => e = .returned (.bool true) ∧ Below X.heap.size X w' := fun X h => by
        have h1 := (KP X h).2.txp.txs.take T.length
        rw [HATt.out] at h1
        exact (likeSV_any (some ⟨xb, xo, none⟩) ta xc tc T X h1 (KP X h).1.txp.txs (by unfold maxLen; omega)).mono (fun e w' h => ⟨h.1, h.2.1⟩)
      have hss : ((sv s).toList != (sv s).toList) = false := by simp
      have b0 : Below V7.heap.size V7 (V7.drewN 1) := belowN (Below.refl _ _)
      go_wp2_with fail
      go_region_held3 (fun W => W.cell? ⟨w1.heap.size, 0, none⟩ = some (.int .i64 F) ∧ W.cell? ⟨w1.heap.size, 1, none⟩ = some (.slice ta T.length tc) ∧ W.cell? ⟨w3.heap.size, 0, none⟩ = some (.int .i64 AF) ∧ W.cell? ⟨w3.heap.size, 1, none⟩ = some (.slice (some ⟨xb, xo, none⟩) AT.length xc))
        (first
          | (with_reducible exact KS _ b2)
          | (with_reducible exact KS _ b1)
          | exact KS _ b0)
        (first
          | (go_at_call 20; refine (hLt _ b1).mono ?_; rintro e V9 ⟨rfl, hV9⟩; have b2 := b1.trans (hV9.mono b1.size))
          | (go_at_call 17; refine (hKx _ (KP _ b0).2.txp).mono ?_; rintro e V8 ⟨rfl, hV8⟩; have b1 := b0.trans (hV8.mono b0.size)))
      have B9 : Below w.heap.size w V9 := B7.trans (b2.mono B7.size)
      have M9 := M7.below b2
      clear KP KS hLt hss b0 b1 b2 hV8 hV9 B7 L7 X7 M7 hKx x0 x1
      have Bv := B9
      have Mv := M9
      clear B9 M9 HAR HATl HATt
      have hKv := hKm V9 Mv
      by_cases hokM : okLg (MF, MT)
      · rw [decide_eq_true hokM] at hKv
        have hK2 : ∀ X, LX X w5.heap.size MF ma mc MT → Calls Tryd.prog 18 #[.agg #[.int .i64 MF, .slice ma MT.length mc]] X fun e w' => e = .returned (.bool true) ∧ Below X.heap.size X w' := fun X h => by
          have := hKm X h
          rw [decide_eq_true hokM] at this
          exact this
        have HSH : Hid (∀ ts, IsFrames t ts → recLg ts MF = (MF, MT)) := (HOKM.out hokM).1
        have HPA : Hid (∀ c ts, c <+: t → IsFrames c ts → ∃ n, n ≤ MT.length ∧ recLg ts MF = (MF, MT.take n)) := (HOKM.out hokM).2
        clear hokM HOKM HNOM hKm
        obtain ⟨p0, p1⟩ := bx2 Mv.box
        go_wp2_with fail
        refine hKv.mono ?_
        rintro e VA ⟨rfl, hVA⟩
        have BA : Below w.heap.size w VA := Bv.trans (hVA.mono Bv.size)
        have MA := Mv.below hVA
        clear hKv p0 p1 Bv Mv hVA
        obtain ⟨p0, p1⟩ := bx2 MA.box
        by_cases hbigM : (900000 : Int) < MF
        · have HBA : Hid (Below w.heap.size w VA) := BA
          clear BA
          cases ht : ((sv t).toList == [])
          · go_wp2_with fail
            refine (hK2 VA MA).mono ?_
            rintro e VB ⟨rfl, hVB⟩
            have BB : Hid (Below w.heap.size w VB) := HBA.out.trans (hVB.mono HBA.out.size)
            clear hVB
            go_wp2
            go_ret
            exact ⟨rfl, BB.out⟩
          · go_wp2
            go_ret
            exact ⟨rfl, HBA.out⟩
        · obtain ⟨ts1, hts1⟩ := frames_exist t.length t (Nat.le_refl _)
          have hR1 : Calls Tryd.prog 12 #[.string (sv t), .int .i64 MF] VA fun e w' => ∃ a c, e = .returned (.agg #[.int .i64 (MF, MT).1, .slice a (MF, MT).2.length c]) ∧ TxP w' a c (MF, MT).2 ∧ Below VA.heap.size VA w' := (hRc t MF ts1 VA BA hIM (by omega) hts1).mono (fun e w' h => by rw [HSH.out ts1 hts1] at h; exact ans_lg h)
          dsimp only at hR1
          clear hts1 HSH hK2
          go_wp2_with fail
          refine hR1.mono ?_
          rintro e VB ⟨ua, uc, rfl, hXB, hbB⟩
          have BB : Below w.heap.size w VB := BA.trans (hbB.mono BA.size)
          have UC : LX (VB.alloc (.cells #[.int .i64 MF, .slice ua MT.length uc] 26)) VB.heap.size MF ua uc MT := LX.new hXB
          have MC := (MA.below hbB).below (oneA VB (.cells #[.int .i64 MF, .slice ua MT.length uc] 26))
          have BC : Below w.heap.size w (VB.alloc (.cells #[.int .i64 MF, .slice ua MT.length uc] 26)) := BB.alloc BB.size _
          generalize hWC9 : VB.alloc (.cells #[.int .i64 MF, .slice ua MT.length uc] 26) = VC at *
          clear p0 p1 hR1 hXB hbB MA BA BB
          have hszt := sv_size t
          have hwt : IntKind.i64.wrap ((t.length : Int) + 1) = (t.length : Int) + 1 := by rw [IntKind.wrap_i64]; omega
          have hPk : ∀ X, Below VC.heap.size VC X → Calls Tryd.prog 21 #[.slice a len cap, .int .i64 1, .int .i64 ((t.length : Int) + 1)] X fun e w' => ∃ k : Nat, e = .returned (.int .i64 (k : Int)) ∧ k ≤ t.length ∧ w' = X := fun X h => (pick_any a len cap bs 1 ((t.length : Int) + 1) X (hv.below (BC.trans (h.mono BC.size)) (Nat.le_refl _)) hl (by omega) (by omega) (by omega) (by omega)).mono (fun e w' ⟨x, h1, h2, h3, h4⟩ => ⟨x.toNat, by rw [h1, show ((x.toNat : Nat) : Int) = x by omega], by omega, h4⟩)
          have hRz : ∀ (k : Nat) X, Below VC.heap.size VC X → Calls Tryd.prog 12 #[.string (sv (t.take k)), .int .i64 MF] X fun e w' => ∃ n a c, e = .returned (.agg #[.int .i64 MF, .slice a (List.take n MT).length c]) ∧ n ≤ MT.length ∧ NewO X w' (scl (List.take n MT)) (.slice a (List.take n MT).length c) := fun k X h => by
            obtain ⟨ts2, hts2⟩ := frames_exist (t.take k).length (t.take k) (Nat.le_refl _)
            obtain ⟨n, hn, hr⟩ := HPA.out (t.take k) ts2 (List.take_prefix _ _) hts2
            refine (hRc (t.take k) MF ts2 X (BC.trans (h.mono BC.size)) hIM (by rw [List.length_take]; omega) hts2).mono (fun e w' h => ?_)
            rw [hr] at h
            obtain ⟨a, c, h1, h2⟩ := h
            exact ⟨n, a, c, h1, hn, h2⟩
          have KM : ∀ W, Below VC.heap.size VC W → W.cell? ⟨w5.heap.size, 0, none⟩ = some (.int .i64 MF) := fun W h => (bx2 (MC.below h).box).1
          have hsC := MC.box.lt
          have bd : Below VC.heap.size VC (VC.drewN 1) := belowN (Below.refl _ _)
          have bA : Below VC.heap.size VC ((VC.alloc (.cells #[.int .i64 0, .slice none 0 0] 26)).drewN 1) := belowN (oneA _ _)
          have bE : Below VC.heap.size VC ((VC.drewN 1).alloc (.cells #[.int .i64 0, .slice none 0 0] 26)) := bd.alloc bd.size _
          have zA : Bx ((VC.alloc (.cells #[.int .i64 0, .slice none 0 0] 26)).drewN 1) VC.heap.size 26 #[.int .i64 0, .slice none 0 0] := (Bx.new _ _ _).drewN 1
          have zE : Bx ((VC.drewN 1).alloc (.cells #[.int .i64 0, .slice none 0 0] 26)) VC.heap.size 26 #[.int .i64 0, .slice none 0 0] := Bx.new _ _ _
          have szA : VC.heap.size < ((VC.alloc (.cells #[.int .i64 0, .slice none 0 0] 26)).drewN 1).heap.size := by simp
          have szE : VC.heap.size < ((VC.drewN 1).alloc (.cells #[.int .i64 0, .slice none 0 0] 26)).heap.size := by simp
          clear HPA hRc
          go_wp2_with fail
          go_cut [18] from 132 to 141 (fun s18 wx => ∃ (q n : Nat) (za : Option Addr) (zc : Nat), s18 = .pointer (some ⟨q, 0, none⟩) ∧ n ≤ MT.length ∧ LX wx q MF za zc (List.take n MT) ∧ Below VC.heap.size VC wx)
          case first =>
            go_region_held3 (fun W => W.cell? ⟨w5.heap.size, 0, none⟩ = some (.int .i64 MF))
              (first | (with_reducible exact KM _ b7) | exact KM _ bA | exact KM _ bd | exact KM _ bE | exact KM _ (b7.alloc b7.size _) | exact KM _ (setb2 b7 (Nat.le_refl _)))
              (first
                | (go_at_call 12; refine (hRz kq _ (by first | exact bA | exact bd | exact bE)).mono ?_; rintro e u7 ⟨nq, a7, c7, rfl, hnq, fp7, ho7, hf7, hb7⟩; have hlq : Hid ((List.take nq MT).length = nq) := (by rw [Hid, List.length_take]; omega); (first | have b7 : Below VC.heap.size VC u7 := bA.trans (hb7.mono bA.size) | have b7 : Below VC.heap.size VC u7 := bd.trans (hb7.mono bd.size) | have b7 : Below VC.heap.size VC u7 := bE.trans (hb7.mono bE.size)); (first | have z7 : Bx u7 VC.heap.size 26 #[.int .i64 0, .slice none 0 0] := zA.below hb7 | have z7 : Bx u7 VC.heap.size 26 #[.int .i64 0, .slice none 0 0] := zE.below hb7 | skip); (try obtain ⟨z70, z71⟩ := z7.r2); (try have z72 := z7.f 0); (try have z73 := z7.f 1))
                | (go_at_call 21; refine (hPk _ (by first | exact bA | exact bd | exact bE)).mono ?_; rintro e u6 ⟨kq, rfl, hkq, hu6⟩; rw [hu6]; clear hu6; have q0 : (0 : Int) ≤ (kq : Int) := (by omega); have q1 : (kq : Int) ≤ (t.length : Int) := (by omega); have hex : (sv t).extract 0 kq = sv (t.take kq) := (by rw [sv_sub]; simp)))
            all_goals (try go_wp2_with fail)
            all_goals go_meet
            all_goals first
              | exact ⟨_, nq, a7, c7, rfl, hnq, ⟨by rw [hlq.out]; exact Bx.new _ _ _, (ow_txp ho7).below (oneA _ _)⟩, b7.alloc b7.size _⟩
              | exact ⟨VC.heap.size, nq, a7, c7, rfl, hnq, ⟨by rw [hlq.out]; have := (z7.setC 0 (.int .i64 MF)).setC 1 (.slice a7 nq c7); simpa using this, ow_txp (Cel.ow_wrt ho7 (setw2 u7 VC.heap.size) (fun b hb e => Nat.lt_irrefl _ (Nat.lt_of_lt_of_le szA (e ▸ hf7 b hb))))⟩, setb2 b7 (Nat.le_refl _)⟩
              | exact ⟨VC.heap.size, nq, a7, c7, rfl, hnq, ⟨by rw [hlq.out]; have := (z7.setC 0 (.int .i64 MF)).setC 1 (.slice a7 nq c7); simpa using this, ow_txp (Cel.ow_wrt ho7 (setw2 u7 VC.heap.size) (fun b hb e => Nat.lt_irrefl _ (Nat.lt_of_lt_of_le szE (e ▸ hf7 b hb))))⟩, setb2 b7 (Nat.le_refl _)⟩
          case rest =>
            obtain ⟨q, nz, za, zc, rfl, hnz, hZ, hbZ⟩ := hcut
            have UZ := UC.below hbZ
            have MZ := MC.below hbZ
            have BZ : Below w.heap.size w wc := BC.trans (hbZ.mono BC.size)
            clear UC MC BC hbZ KM bd bA bE zA zE szA szE hPk hRz hwt hszt hsC
            generalize wc = VZ at *
            obtain ⟨ZT, hZT⟩ : ∃ ZT, List.take nz MT = ZT := ⟨_, rfl⟩
            have HZT : Hid (List.take nz MT = ZT) := hZT
            have hZl : ZT.length ≤ MT.length := by rw [← hZT, List.length_take]; omega
            rw [hZT] at hZ
            clear hZT hnz
            have z0 : (ZT.length : Int) ≤ (MT.length : Int) := by omega
            have z1 : (0 : Int) ≤ (ZT.length : Int) := by omega
            obtain ⟨z2, hma⟩ : (ZT.length : Int) ≤ (mc : Int) ∧ (ma = none ∨ ∃ b off, ma = some ⟨b, off, none⟩) := by
              rcases MZ.txp with ⟨h1, h2, h3⟩ | ⟨b, off, rfl, h1, _⟩
              · rw [h1] at hZl
                refine ⟨by simp at hZl; rw [hZl]; simp, ?_⟩
                cases ma with
                | none => exact .inl rfl
                | some x => obtain ⟨b, off, rfl⟩ := h3 x rfl; exact .inr ⟨b, off, rfl⟩
              · exact ⟨by omega, .inr ⟨b, off, rfl⟩⟩
            rcases hma with rfl | ⟨b9, off9, rfl⟩
            · have KP : ∀ W, Below VZ.heap.size VZ W → LX W VB.heap.size MF ua uc MT ∧ LX W w5.heap.size MF none mc MT ∧ LX W q MF za zc ZT := fun W h => ⟨UZ.below h, MZ.below h, hZ.below h⟩
              have KS : ∀ W, Below VZ.heap.size VZ W → W.cell? ⟨VB.heap.size, 0, none⟩ = some (.int .i64 MF) ∧ W.cell? ⟨VB.heap.size, 1, none⟩ = some (.slice ua MT.length uc) ∧ W.cell? ⟨w5.heap.size, 0, none⟩ = some (.int .i64 MF) ∧ W.cell? ⟨w5.heap.size, 1, none⟩ = some (.slice none MT.length mc) ∧ W.cell? ⟨q, 0, none⟩ = some (.int .i64 MF) ∧ W.cell? ⟨q, 1, none⟩ = some (.slice za ZT.length zc) := fun W h => ⟨(bx2 (KP W h).1.box).1, (bx2 (KP W h).1.box).2, (bx2 (KP W h).2.1.box).1, (bx2 (KP W h).2.1.box).2, (bx2 (KP W h).2.2.box).1, (bx2 (KP W h).2.2.box).2⟩
              have hLu : ∀ X, Below VZ.heap.size VZ X → Calls Tryd.prog 14 #[.agg #[.int .i64 MF, .slice ua MT.length uc], .agg #[.int .i64 MF, .slice none MT.length mc]] X fun e w' => e = .returned (.bool true) ∧ Below X.heap.size X w' := fun X h => (likeLg_any MF ua none uc mc MT X (KP X h).1.txp.txs (KP X h).2.1.txp.txs (by unfold maxLen; omega)).mono (fun e w' h => ⟨h.1, h.2.1⟩)
              have hLz : ∀ X, Below VZ.heap.size VZ X → Calls Tryd.prog 20 #[.slice za ZT.length zc, .slice none ZT.length mc] X fun e w' => e = .returned (.bool true) ∧ Below X.heap.size X w' := fun X h => by
                have h1 := (KP X h).2.1.txp.txs.take nz
                rw [HZT.out] at h1
                exact (likeSV_any za none zc mc ZT X (KP X h).2.2.txp.txs h1 (by unfold maxLen; omega)).mono (fun e w' h => ⟨h.1, h.2.1⟩)
              have b0 : Below VZ.heap.size VZ (VZ.drewN 1) := belowN (Below.refl _ _)
              have hmm : (MF == MF) = true := by simp
              clear hZ UZ MZ
              go_wp2_with fail
              go_region_held3 (fun W => W.cell? ⟨VB.heap.size, 0, none⟩ = some (.int .i64 MF) ∧ W.cell? ⟨VB.heap.size, 1, none⟩ = some (.slice ua MT.length uc) ∧ W.cell? ⟨w5.heap.size, 0, none⟩ = some (.int .i64 MF) ∧ W.cell? ⟨w5.heap.size, 1, none⟩ = some (.slice none MT.length mc) ∧ W.cell? ⟨q, 0, none⟩ = some (.int .i64 MF) ∧ W.cell? ⟨q, 1, none⟩ = some (.slice za ZT.length zc))
                (first
                  | (with_reducible exact KS _ b2)
                  | (with_reducible exact KS _ b1)
                  | exact KS _ b0)
                (first
                  | (go_at_call 20; refine (hLz _ b1).mono ?_; rintro e VY ⟨rfl, hVY⟩; have b2 := b1.trans (hVY.mono b1.size))
                  | (go_at_call 14; refine (hLu _ b0).mono ?_; rintro e VX ⟨rfl, hVX⟩; have b1 := b0.trans (hVX.mono b0.size)))
              have BY : Hid (Below w.heap.size w VY) := BZ.trans (b2.mono BZ.size)
              clear KP KS hLu hLz b0 b1 b2 hVX hVY
              go_wp2
              go_ret
              exact ⟨rfl, BY.out⟩
            · have KP : ∀ W, Below VZ.heap.size VZ W → LX W VB.heap.size MF ua uc MT ∧ LX W w5.heap.size MF (some ⟨b9, off9, none⟩) mc MT ∧ LX W q MF za zc ZT := fun W h => ⟨UZ.below h, MZ.below h, hZ.below h⟩
              have KS : ∀ W, Below VZ.heap.size VZ W → W.cell? ⟨VB.heap.size, 0, none⟩ = some (.int .i64 MF) ∧ W.cell? ⟨VB.heap.size, 1, none⟩ = some (.slice ua MT.length uc) ∧ W.cell? ⟨w5.heap.size, 0, none⟩ = some (.int .i64 MF) ∧ W.cell? ⟨w5.heap.size, 1, none⟩ = some (.slice (some ⟨b9, off9, none⟩) MT.length mc) ∧ W.cell? ⟨q, 0, none⟩ = some (.int .i64 MF) ∧ W.cell? ⟨q, 1, none⟩ = some (.slice za ZT.length zc) := fun W h => ⟨(bx2 (KP W h).1.box).1, (bx2 (KP W h).1.box).2, (bx2 (KP W h).2.1.box).1, (bx2 (KP W h).2.1.box).2, (bx2 (KP W h).2.2.box).1, (bx2 (KP W h).2.2.box).2⟩
              have hLu : ∀ X, Below VZ.heap.size VZ X → Calls Tryd.prog 14 #[.agg #[.int .i64 MF, .slice ua MT.length uc], .agg #[.int .i64 MF, .slice (some ⟨b9, off9, none⟩) MT.length mc]] X fun e w' => e = .returned (.bool true) ∧ Below X.heap.size X w' := fun X h => (likeLg_any MF ua (some ⟨b9, off9, none⟩) uc mc MT X (KP X h).1.txp.txs (KP X h).2.1.txp.txs (by unfold maxLen; omega)).mono (fun e w' h => ⟨h.1, h.2.1⟩)
              have hLz : ∀ X, Below VZ.heap.size VZ X → Calls Tryd.prog 20 #[.slice za ZT.length zc, .slice (some ⟨b9, off9, none⟩) ZT.length mc] X fun e w' => e = .returned (.bool true) ∧ Below X.heap.size X w' := fun X h => by
                have h1 := (KP X h).2.1.txp.txs.take nz
                rw [HZT.out] at h1
                exact (likeSV_any za (some ⟨b9, off9, none⟩) zc mc ZT X (KP X h).2.2.txp.txs h1 (by unfold maxLen; omega)).mono (fun e w' h => ⟨h.1, h.2.1⟩)
              have b0 : Below VZ.heap.size VZ (VZ.drewN 1) := belowN (Below.refl _ _)
              have hmm : (MF == MF) = true := by simp
              clear hZ UZ MZ
              go_wp2_with fail
              go_region_held3 (fun W => W.cell? ⟨VB.heap.size, 0, none⟩ = some (.int .i64 MF) ∧ W.cell? ⟨VB.heap.size, 1, none⟩ = some (.slice ua MT.length uc) ∧ W.cell? ⟨w5.heap.size, 0, none⟩ = some (.int .i64 MF) ∧ W.cell? ⟨w5.heap.size, 1, none⟩ = some (.slice (some ⟨b9, off9, none⟩) MT.length mc) ∧ W.cell? ⟨q, 0, none⟩ = some (.int .i64 MF) ∧ W.cell? ⟨q, 1, none⟩ = some (.slice za ZT.length zc))
                (first
                  | (with_reducible exact KS _ b2)
                  | (with_reducible exact KS _ b1)
                  | exact KS _ b0)
                (first
                  | (go_at_call 20; refine (hLz _ b1).mono ?_; rintro e VY ⟨rfl, hVY⟩; have b2 := b1.trans (hVY.mono b1.size))
                  | (go_at_call 14; refine (hLu _ b0).mono ?_; rintro e VX ⟨rfl, hVX⟩; have b1 := b0.trans (hVX.mono b0.size)))
              have BY : Hid (Below w.heap.size w VY) := BZ.trans (b2.mono BZ.size)
              clear KP KS hLu hLz b0 b1 b2 hVX hVY
              go_wp2
              go_ret
              exact ⟨rfl, BY.out⟩
      · rw [decide_eq_false hokM] at hKv
        have ht : ((sv t).toList == []) = true := by rw [sv_list, HNOM.out hokM]; rfl
        have HBv : Hid (Below w.heap.size w V9) := Bv
        clear HOKM HNOM hokM
        obtain ⟨p0, p1⟩ := bx2 Mv.box
        go_wp2_with fail
        refine hKv.mono ?_
        rintro e VA ⟨rfl, hVA⟩
        have BA : Hid (Below w.heap.size w VA) := HBv.out.trans (hVA.mono HBv.out.size)
        clear hVA hKv p0 p1
        go_wp2
        go_ret
        exact ⟨rfl, BA.out⟩
end Go.Proofs.YtbnpliobigjapaaDoor
