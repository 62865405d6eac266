/-
  Several texts in one: Rzk.
-/
import Derived.Test.YtgaibngaincahaaNy
/-
  The program's standingOf, RowOk; grewTo, mayBecome, Follows; Later and NewRow.
-/
namespace Go.Proofs.Ytgaibngaincahaa
set_option linter.unusedVariables false
set_option linter.unusedSimpArgs false
open Go.RowKit Go.Sort

theorem okRw_tx {r : Rw} {n : Int} (h : txB r.txt = false) : okRw r n = false := by
  rw [txB, Bool.and_eq_false_iff] at h
  rw [okRw]
  rcases h with h | h <;> simp [h]
theorem okRw_ends {r : Rw} {n : Int} (h1 : inB n 1 5 = true) (h2 : inB r.ver 0 1000000 = true) (h3 : txB r.txt = true) (h4 : smB r.got n = true) (h5 : susB r.sus n = true) : okRw r n = (flB r && lsB r n) := by
  rw [txB, Bool.and_eq_true] at h3
  rw [← endB_fl, okRw, h1, h2, h3.1, h3.2, h4, h5]
  rfl
set_option maxRecDepth 100000 in
set_option maxHeartbeats 3200000 in
theorem stOf_any (A : Ra) (r : Rw) (n : Int) (w : World) (hv : RwP w A r) :
    Calls Try.prog 68 #[rwV A r, .int .i64 n] w fun e w' => ∃ s, e = .returned (.tuple #[s, .bool (okRw r n)]) ∧ (okRw r n = true → s = stV A r) ∧ Below w.heap.size w w' := by
  have hB0 := oneA16 w (.cells (rwC A r) 35)
  have hx := Bx.new w 35 (rwC A r)
  have h0 := hv.below hB0
  generalize hW : w.alloc (.cells (rwC A r) 35) = W at *
  have hS := h0.rws
  have hTx := areTx_any A.ta A.tc r.txt W h0.txt.txs hS.mt
  have hCt := areCt_any A.ga A.gc r.got n W h0.got.vec h0.got.le h0.got.mx
  have hSu : ∀ m, Calls Try.prog 91 #[.slice A.sa r.sus.length A.sc, .int .i64 (n - 1)] (W.drewN m) fun e w' => e = .returned (.bool (susB r.sus n)) ∧ w' = W.drewN m := fun m => by
    have := rw14_any A.sa r.sus.length A.sc n r.sus (W.drewN m) (h0.below (belowN (Below.refl _ _))).sus.vec hS.ms
    rw [sus_row] at this
    exact this
  have hFl := fun X => flag_any A r X hS.mm
  have hEn : ∀ X, Below W.heap.size W X → 1 ≤ n ∧ n ≤ 5 → Calls Try.prog 93 #[stV A r, .int .i64 n] X fun e w' => e = .returned (.bool (lsB r n)) ∧ Below X.heap.size X w' := fun X h hn => endR_any A r n X (h0.below h) hn
  have HZn : Hid (inB n 1 5 = false → okRw r n = false) := fun h => okRw_n h
  have HZv : Hid (inB r.ver 0 1000000 = false → okRw r n = false) := fun h => okRw_v h
  have HZt : Hid (txB r.txt = false → okRw r n = false) := fun h => okRw_tx h
  have HZg : Hid (smB r.got n = false → okRw r n = false) := fun h => okRw_g h
  have HZs : Hid (susB r.sus n = false → okRw r n = false) := fun h => okRw_s h
  have HZe : Hid (inB n 1 5 = true → inB r.ver 0 1000000 = true → txB r.txt = true → smB r.got n = true → susB r.sus n = true → okRw r n = (flB r && lsB r n)) := fun a b c d e => okRw_ends a b c d e
  have HB0 : Hid (Below w.heap.size w W) := hB0
  have HSt : Hid (∀ s : Value, s = stV A r → s = stV A r) := fun _ h => h
  generalize hq : okRw r n = Q at *
  clear hq
  generalize stV A r = V at *
  generalize flB r = fl at *
  generalize lsB r n = ls at *
  generalize txB r.txt = tb at *
  generalize smB r.got n = sg at *
  generalize susB r.sus n = sb at *
  obtain ⟨ver, txt, got, sus, wed, rdy, by_, trm⟩ := r
  obtain ⟨ta, tc, ga, gc, sa, sc, ma, mc⟩ := A
  have hw0 : w.alloc (.cells #[.int .i64 ver, .slice ta txt.length tc, .slice ga got.length gc, .slice sa sus.length sc, .bool wed, .bool rdy, .int .i64 by_, .slice ma trm.length mc] 35) = W := hW
  obtain ⟨⟨c0, c1, c2, c3⟩, c4, c5, c6, c7⟩ := Bx.r8 hx
  simp only [rwV, rwC] at c0 c1 c2 c3 c4 c5 c6 c7 hTx hCt hSu hFl HZv HZe
  unfold rwV rwC
  clear hv h0 hx hW hB0 hS
  simp only
  cases e1 : inB n 1 5 with
  | false =>
    have HZ : Hid (Q = false) := HZn.out e1
    go_enter Try.func68, Try.ntmps68
    go_wp2_with (first | (go_at_call 73; refine (isRl_any _ _).mono ?_; rintro e w' ⟨rfl, hw'⟩; rw [hw', e1]; clear hw'))
    refine bodyPost_ret (v := .tuple #[.nilIface, .bool false]) (by simp [results, Try.results68, go_sem, *]) rfl ?_
    exact ⟨.nilIface, by rw [HZ.out], fun h => (by rw [HZ.out] at h; cases h), HB0.out⟩
  | true =>
  have hn5 := inB7.1 e1
  have hwn : wrap64 (n - 1) = n - 1 := by unfold wrap64; omega
  have hEn2 := fun X h => hEn X h hn5
  have HN1 : Hid (inB n 1 5 = true) := e1
  have hRl : ∀ X, Calls Try.prog 73 #[.int .i64 n] X fun e w' => e = .returned (.bool true) ∧ w' = X := fun X => by
    have := isRl_any n X
    rw [e1] at this
    exact this
  clear e1 hEn hn5
  cases e2 : inB ver 0 1000000 with
  | false =>
    have HZ : Hid (Q = false) := HZv.out e2
    go_enter Try.func68, Try.ntmps68
    go_wp2_with (first | (go_at_call 73; refine (hRl _).mono ?_; rintro e w' ⟨rfl, hw'⟩; rw [hw']; clear hw') | (go_at_call 88; refine (isW14_any _ _ _).mono ?_; rintro e w' ⟨rfl, hw'⟩; rw [hw', e2]; clear hw'))
    refine bodyPost_ret (v := .tuple #[.nilIface, .bool false]) (by simp [results, Try.results68, go_sem, *]) rfl ?_
    exact ⟨.nilIface, by rw [HZ.out], fun h => (by rw [HZ.out] at h; cases h), HB0.out⟩
  | true =>
  have HN2 : Hid (inB ver 0 1000000 = true) := e2
  have hWi : ∀ X, Calls Try.prog 88 #[.int .i64 ver, .int .i64 1000000] X fun e w' => e = .returned (.bool true) ∧ w' = X := fun X => by
    have := isW14_any ver 1000000 X
    rw [e2] at this
    exact this
  clear e2
  cases tb with
  | false =>
    have HZ : Hid (Q = false) := HZt.out rfl
    go_enter Try.func68, Try.ntmps68
    go_wp2_with (first | (go_at_call 73; refine (hRl _).mono ?_; rintro e w' ⟨rfl, hw'⟩; rw [hw']; clear hw') | (go_at_call 88; refine (hWi _).mono ?_; rintro e w' ⟨rfl, hw'⟩; rw [hw']; clear hw') | (go_at_call 89; refine hTx.mono ?_; rintro e w' ⟨rfl, hw'⟩; rw [hw']; clear hw'))
    refine bodyPost_ret (v := .tuple #[.nilIface, .bool false]) (by simp [results, Try.results68, go_sem, *]) rfl ?_
    exact ⟨.nilIface, by rw [HZ.out], fun h => (by rw [HZ.out] at h; cases h), HB0.out⟩
  | true =>
  cases sg with
  | false =>
    have HZ : Hid (Q = false) := HZg.out rfl
    go_enter Try.func68, Try.ntmps68
    go_wp2_with (first | (go_at_call 73; refine (hRl _).mono ?_; rintro e w' ⟨rfl, hw'⟩; rw [hw']; clear hw') | (go_at_call 88; refine (hWi _).mono ?_; rintro e w' ⟨rfl, hw'⟩; rw [hw']; clear hw') | (go_at_call 89; refine hTx.mono ?_; rintro e w' ⟨rfl, hw'⟩; rw [hw']; clear hw') | (go_at_call 90; refine hCt.mono ?_; rintro e w' ⟨rfl, m1, rfl⟩))
    refine bodyPost_ret (v := .tuple #[.nilIface, .bool false]) (by simp [results, Try.results68, go_sem, *]) rfl ?_
    exact ⟨.nilIface, by rw [HZ.out], fun h => (by rw [HZ.out] at h; cases h), belowN HB0.out⟩
  | true =>
  cases sb with
  | false =>
    have HZ : Hid (Q = false) := HZs.out rfl
    go_enter Try.func68, Try.ntmps68
    go_wp2_with (first | (go_at_call 73; refine (hRl _).mono ?_; rintro e w' ⟨rfl, hw'⟩; rw [hw']; clear hw') | (go_at_call 88; refine (hWi _).mono ?_; rintro e w' ⟨rfl, hw'⟩; rw [hw']; clear hw') | (go_at_call 89; refine hTx.mono ?_; rintro e w' ⟨rfl, hw'⟩; rw [hw']; clear hw') | (go_at_call 90; refine hCt.mono ?_; rintro e w' ⟨rfl, m1, rfl⟩) | (go_at_call 91; refine (hSu _).mono ?_; rintro e w' ⟨rfl, hw'⟩; rw [hw']; clear hw'))
    refine bodyPost_ret (v := .tuple #[.nilIface, .bool false]) (by simp [results, Try.results68, go_sem, *]) rfl ?_
    exact ⟨.nilIface, by rw [HZ.out], fun h => (by rw [HZ.out] at h; cases h), belowN HB0.out⟩
  | true =>
  have HE : Hid (Q = (fl && ls)) := HZe.out HN1.out HN2.out rfl rfl rfl
  clear HZn HZv HZt HZg HZs HZe HN1 HN2
  cases fl with
  | false =>
    have HZ : Hid (Q = false) := by rw [Hid, HE.out]; rfl
    go_enter Try.func68, Try.ntmps68
    go_wp2_with (first | (go_at_call 73; refine (hRl _).mono ?_; rintro e w' ⟨rfl, hw'⟩; rw [hw']; clear hw') | (go_at_call 88; refine (hWi _).mono ?_; rintro e w' ⟨rfl, hw'⟩; rw [hw']; clear hw') | (go_at_call 89; refine hTx.mono ?_; rintro e w' ⟨rfl, hw'⟩; rw [hw']; clear hw') | (go_at_call 90; refine hCt.mono ?_; rintro e w' ⟨rfl, m1, rfl⟩) | (go_at_call 91; refine (hSu _).mono ?_; rintro e w' ⟨rfl, hw'⟩; rw [hw']; clear hw') | (go_at_call 92; refine (hFl _).mono ?_; rintro e w1 ⟨s1, rfl, hs1, hb1⟩; have HB1 : Hid (Below w.heap.size w w1) := ((belowN HB0.out).trans (hb1.mono (belowN HB0.out).size)); clear hb1 hs1))
    refine bodyPost_ret (v := .tuple #[s1, .bool false]) (by simp [results, Try.results68, go_sem, *]) rfl ?_
    exact ⟨s1, by rw [HZ.out], fun h => (by rw [HZ.out] at h; cases h), HB1.out⟩
  | true =>
    have HZ : Hid (Q = ls) := by rw [Hid, HE.out]; rfl
    have hF2 : ∀ X, Calls Try.prog 92 #[.agg #[.int .i64 ver, .slice ta txt.length tc, .slice ga got.length gc, .slice sa sus.length sc, .bool wed, .bool rdy, .int .i64 by_, .slice ma trm.length mc]] X fun e w' => e = .returned (.tuple #[V, .bool true]) ∧ Below X.heap.size X w' := fun X => (hFl X).mono (fun e w' ⟨s, h1, h2, h3⟩ => ⟨by rw [h1, h2 rfl], h3⟩)
    clear hFl
    have HRf : Hid (∀ m, Below W.heap.size W (W.drewN m)) := fun m => belowN (Below.refl _ _)
    go_enter Try.func68, Try.ntmps68
    go_wp2_with (first | (go_at_call 73; refine (hRl _).mono ?_; rintro e w' ⟨rfl, hw'⟩; rw [hw']; clear hw') | (go_at_call 88; refine (hWi _).mono ?_; rintro e w' ⟨rfl, hw'⟩; rw [hw']; clear hw') | (go_at_call 89; refine hTx.mono ?_; rintro e w' ⟨rfl, hw'⟩; rw [hw']; clear hw') | (go_at_call 90; refine hCt.mono ?_; rintro e w' ⟨rfl, m1, rfl⟩) | (go_at_call 91; refine (hSu _).mono ?_; rintro e w' ⟨rfl, hw'⟩; rw [hw']; clear hw') | (go_at_call 92; refine (hF2 _).mono ?_; rintro e w1 ⟨rfl, hb1⟩; have HB1 : Hid (Below w.heap.size w w1) := ((belowN HB0.out).trans (hb1.mono (belowN HB0.out).size)); have hE3 := hEn2 w1 ((HRf.out m1).trans (hb1.mono (HRf.out m1).size)); clear hb1) | (go_at_call 93; refine hE3.mono ?_; rintro e w2 ⟨rfl, hb2⟩; have HB2 : Hid (Below w.heap.size w w2) := (HB1.out.trans (hb2.mono HB1.out.size)); clear hb2))
    refine bodyPost_ret (v := .tuple #[V, .bool ls]) (by simp [results, Try.results68, go_sem, *]) rfl ?_
    exact ⟨V, by rw [HZ.out], fun _ => rfl, HB2.out⟩
set_option maxRecDepth 100000 in
set_option maxHeartbeats 800000 in
theorem rowI_any (A : Ra) (r : Rw) (n : Int) (w : World) (hv : RwP w A r) :
    Calls Try.prog 35 #[rwV A r, .int .i64 n] w fun e w' => e = .returned (.bool (okRw r n)) ∧ Below w.heap.size w w' := by
  have hB0 := oneA16 w (.cells (rwC A r) 35)
  have hx := Bx.new w 35 (rwC A r)
  have h0 := hv.below hB0
  generalize hW : w.alloc (.cells (rwC A r) 35) = W at *
  have hSt : Calls Try.prog 68 #[rwV A r, .int .i64 n] W fun e w' => ∃ s, e = .returned (.tuple #[s, .bool (okRw r n)]) ∧ Below W.heap.size W w' := (stOf_any A r n W h0).mono (fun e w' ⟨s, h1, _, h2⟩ => ⟨s, h1, h2⟩)
  have HB0 : Hid (Below w.heap.size w W) := hB0
  generalize okRw r n = Q at *
  obtain ⟨ver, txt, got, sus, wed, rdy, by_, trm⟩ := r
  obtain ⟨ta, tc, ga, gc, sa, sc, ma, mc⟩ := A
  have hw0 : w.alloc (.cells #[.int .i64 ver, .slice ta txt.length tc, .slice ga got.length gc, .slice sa sus.length sc, .bool wed, .bool rdy, .int .i64 by_, .slice ma trm.length mc] 35) = W := hW
  obtain ⟨⟨c0, c1, c2, c3⟩, c4, c5, c6, c7⟩ := Bx.r8 hx
  simp only [rwV, rwC] at c0 c1 c2 c3 c4 c5 c6 c7 hSt
  unfold rwV rwC
  clear hv h0 hx hW hB0
  simp only
  go_enter Try.func35, Try.ntmps35
  go_wp2_with (go_at_call 68; refine hSt.mono ?_; rintro e w1 ⟨s1, rfl, hb1⟩; have HB1 : Hid (Below w.heap.size w w1) := (HB0.out.trans (hb1.mono HB0.out.size)); clear hb1)
  go_ret
  exact ⟨rfl, HB1.out⟩
theorem implRowOk : ImplRowOk := fun A r n w hv _ => rowI_any A r n w hv
end Go.Proofs.Ytgaibngaincahaa
