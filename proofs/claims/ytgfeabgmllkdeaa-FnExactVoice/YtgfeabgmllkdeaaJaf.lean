/-
  Texts in one: Rzj Rzk Rzu Rzv Nmc Lsq Irs Cln Nmq.
-/
import Derived.Test.YtgfeabgmllkdeaaJae
import Derived.Test.YtgfeabgmllkdeaaJad
import Derived.Test.YtgfeabgmllkdeaaJab
import Derived.BigQuiet
import Derived.Stop.Asserts
import Derived.Shelf.Strconv.Clone
import Derived.Shelf.SlGeneric
/-
  The program's standings of a row: flagged, endsRight, standingOf, RowOk; what each may become: grewTo, mayBecome, Follows; Later and NewRow.
-/
namespace Go.Proofs.Ytgfeabgmllkdeaa
set_option linter.unusedVariables false
set_option linter.unusedSimpArgs false
open Go.RowKit Go.Sort

/-- How far a row has come, as a value. -/
def stV (A : Ra) (r : Rw) : Value := if r.rdy then .iface 131 (rwV A r) else if r.wed then .iface 132 (rwV A r) else .iface 133 (rwV A r)
/-- What of the flags, By and Trim goes together. -/
def flB (r : Rw) : Bool := if r.rdy then r.wed else decide (r.by_ = 0) && decide (r.trm = [])
/-- What is asked where it has a trim. -/
def lsB (r : Rw) (n : Int) : Bool := !r.rdy || (inB r.by_ 0 (n - 1) && smB r.trm n)
theorem endB_fl (r : Rw) (n : Int) : endB r n = (flB r && lsB r n) := by
  unfold endB flB lsB
  cases r.rdy <;> simp
set_option maxRecDepth 100000 in
set_option maxHeartbeats 1600000 in
theorem flag_any (A : Ra) (r : Rw) (w : World) (hm : r.trm.length ≤ maxLen) :
    Calls Try.prog 131 #[rwV A r] w fun e w' => ∃ s, e = .returned (.tuple #[s, .bool (flB r)]) ∧ (flB r = true → s = stV A r) ∧ Below w.heap.size w w' := by
  have hB0 := oneA16 w (.cells (rwC A r) 55)
  have hx := Bx.new w 55 (rwC A r)
  generalize hW : w.alloc (.cells (rwC A r) 55) = W at *
  obtain ⟨ver, txt, got, sus, wed, rdy, by_, trm⟩ := r
  obtain ⟨ta, tc, ga, gc, sa, sc, ma, mc⟩ := A
  have hw0 : w.alloc (.cells #[.int .i64 ver, .slice ta txt.length tc, .slice ga got.length gc, .slice sa sus.length sc, .bool wed, .bool rdy, .int .i64 by_, .slice ma trm.length mc] 55) = W := hW
  obtain ⟨⟨c0, c1, c2, c3⟩, c4, c5, c6, c7⟩ := Bx.r8 hx
  simp only at c0 c1 c2 c3 c4 c5 c6 c7 hm
  have HB0 : Hid (Below w.heap.size w W) := hB0
  unfold maxLen at hm
  unfold rwV rwC
  clear hx hW hB0
  simp only
  cases rdy with
  | true =>
    have HZ : Hid (flB ⟨ver, txt, got, sus, wed, true, by_, trm⟩ = wed) := by rw [Hid, flB]; rfl
    go_enter Try.func131, Try.ntmps131
    go_wp2_with fail
    go_quiet (fail)
    go_wp2
    refine bodyPost_ret (v := .tuple #[.iface 131 (.agg #[.int .i64 ver, .slice ta txt.length tc, .slice ga got.length gc, .slice sa sus.length sc, .bool wed, .bool true, .int .i64 by_, .slice ma trm.length mc]), .bool wed]) (by simp [results, Try.results131, go_sem, *]) rfl ?_
    exact ⟨stV ⟨ta, tc, ga, gc, sa, sc, ma, mc⟩ ⟨ver, txt, got, sus, wed, true, by_, trm⟩, by rw [HZ.out]; rfl, fun _ => rfl, belowN HB0.out⟩
  | false =>
    by_cases hy : by_ = 0
    · have e1 : (by_ != 0) = false := by simpa using hy
      by_cases ht : trm = []
      · have g1 : ¬ ((0 : Int) < (trm.length : Int)) := by rw [ht]; simp
        have HZ : Hid (flB ⟨ver, txt, got, sus, wed, false, by_, trm⟩ = true) := by rw [Hid, flB]; simp [hy, ht]
        clear hy ht
        cases wed with
        | true =>
          go_enter Try.func131, Try.ntmps131
          go_wp2
          refine bodyPost_ret (v := .tuple #[.iface 132 (.agg #[.int .i64 ver, .slice ta txt.length tc, .slice ga got.length gc, .slice sa sus.length sc, .bool true, .bool false, .int .i64 by_, .slice ma trm.length mc]), .bool true]) (by simp [results, Try.results131, go_sem, *]) rfl ?_
          exact ⟨stV ⟨ta, tc, ga, gc, sa, sc, ma, mc⟩ ⟨ver, txt, got, sus, true, false, by_, trm⟩, by rw [HZ.out]; rfl, fun _ => rfl, HB0.out⟩
        | false =>
          go_enter Try.func131, Try.ntmps131
          go_wp2
          refine bodyPost_ret (v := .tuple #[.iface 133 (.agg #[.int .i64 ver, .slice ta txt.length tc, .slice ga got.length gc, .slice sa sus.length sc, .bool false, .bool false, .int .i64 by_, .slice ma trm.length mc]), .bool true]) (by simp [results, Try.results131, go_sem, *]) rfl ?_
          exact ⟨stV ⟨ta, tc, ga, gc, sa, sc, ma, mc⟩ ⟨ver, txt, got, sus, false, false, by_, trm⟩, by rw [HZ.out]; rfl, fun _ => rfl, HB0.out⟩
      · have g1 : (0 : Int) < (trm.length : Int) := by
          cases trm with
          | nil => exact absurd rfl ht
          | cons x xs => simp only [List.length_cons]; omega
        have HZ : Hid (flB ⟨ver, txt, got, sus, wed, false, by_, trm⟩ = false) := by rw [Hid, flB]; simp [ht]
        clear hy ht
        go_enter Try.func131, Try.ntmps131
        go_wp2
        refine bodyPost_ret (v := .tuple #[.nilIface, .bool false]) (by simp [results, Try.results131, go_sem, *]) rfl ?_
        exact ⟨.nilIface, by rw [HZ.out], fun h => (by rw [HZ.out] at h; cases h), HB0.out⟩
    · have e1 : (by_ != 0) = true := by simpa using hy
      have HZ : Hid (flB ⟨ver, txt, got, sus, wed, false, by_, trm⟩ = false) := by rw [Hid, flB]; simp [hy]
      clear hy
      go_enter Try.func131, Try.ntmps131
      go_wp2
      refine bodyPost_ret (v := .tuple #[.nilIface, .bool false]) (by simp [results, Try.results131, go_sem, *]) rfl ?_
      exact ⟨.nilIface, by rw [HZ.out], fun h => (by rw [HZ.out] at h; cases h), HB0.out⟩
theorem asE_any (v : Value) (w : World) : (Instr.typeAssert (.iface 131 v) 120 135 true).run Try.prog w = .ok (.tuple #[.iface 131 v, .bool true]) w := by kernel_rfl
theorem asW_any (v : Value) (w : World) : (Instr.typeAssert (.iface 132 v) 120 135 true).run Try.prog w = .ok (.tuple #[.nilIface, .bool false]) w := run_typeAssert_lacksB Try.underlying135 (by kernel_rfl) (by kernel_rfl) v 120 w
theorem asS_any (v : Value) (w : World) : (Instr.typeAssert (.iface 133 v) 120 135 true).run Try.prog w = .ok (.tuple #[.nilIface, .bool false]) w := run_typeAssert_lacksB Try.underlying135 (by kernel_rfl) (by kernel_rfl) v 120 w
theorem mtE_any (v : Value) (w : World) : (Go.method 262 131 v "loop.example/g00266/impl.end").run Try.prog w = .ok (161, v) w := by kernel_rfl
set_option maxRecDepth 100000 in
set_option maxHeartbeats 800000 in
theorem endI_any (A : Ra) (r : Rw) (w : World) :
    Calls Try.prog 161 #[rwV A r] w fun e w' => e = .returned (.tuple #[.int .i64 r.by_, .slice A.ma r.trm.length A.mc]) ∧ Below w.heap.size w w' := by
  have hB0 := oneA16 w (.cells (rwC A r) 131)
  have hx := Bx.new w 131 (rwC A r)
  generalize hW : w.alloc (.cells (rwC A r) 131) = W at *
  obtain ⟨ver, txt, got, sus, wed, rdy, by_, trm⟩ := r
  obtain ⟨ta, tc, ga, gc, sa, sc, ma, mc⟩ := A
  have hw0 : w.alloc (.cells #[.int .i64 ver, .slice ta txt.length tc, .slice ga got.length gc, .slice sa sus.length sc, .bool wed, .bool rdy, .int .i64 by_, .slice ma trm.length mc] 131) = W := hW
  obtain ⟨⟨c0, c1, c2, c3⟩, c4, c5, c6, c7⟩ := Bx.r8 hx
  simp only at c0 c1 c2 c3 c4 c5 c6 c7
  have HB0 : Hid (Below w.heap.size w W) := hB0
  unfold rwV rwC
  clear hx hW hB0
  simp only
  go_enter Try.func161, Try.ntmps161
  go_wp2_with fail
  go_quiet (fail)
  go_wp2
  refine bodyPost_ret (v := .tuple #[.int .i64 by_, .slice ma trm.length mc]) (by simp [results, Try.results161, go_sem, *]) rfl ?_
  exact ⟨rfl, belowN HB0.out⟩
set_option maxRecDepth 100000 in
set_option maxHeartbeats 1600000 in
theorem endR_any (A : Ra) (r : Rw) (n : Int) (w : World) (hv : RwP w A r) (hn : 1 ≤ n ∧ n ≤ 5) :
    Calls Try.prog 132 #[stV A r, .int .i64 n] w fun e w' => e = .returned (.bool (lsB r n)) ∧ Below w.heap.size w w' := by
  have hwn : wrap64 (n - 1) = n - 1 := by unfold wrap64; omega
  clear hn
  cases e1 : r.rdy with
  | false =>
    have HZ : Hid (lsB r n = true) := by rw [Hid, lsB, e1]; rfl
    unfold stV
    rw [e1]
    clear e1 hv
    cases e2 : r.wed with
    | false =>
      clear e2
      generalize rwV A r = v
      have ha := asS_any v
      simp only [Bool.false_eq_true, if_false]
      go_enter Try.func132, Try.ntmps132
      go_wp2
      go_ret
      exact ⟨ret_bool (by rw [HZ.out]), Below.refl _ _⟩
    | true =>
      clear e2
      generalize rwV A r = v
      have ha := asW_any v
      simp only [Bool.false_eq_true, if_false, if_true]
      go_enter Try.func132, Try.ntmps132
      go_wp2
      go_ret
      exact ⟨ret_bool (by rw [HZ.out]), Below.refl _ _⟩
  | true =>
    have hE := fun X => endI_any A r X
    have HC : Hid (∀ X, Below w.heap.size w X → Calls Try.prog 130 #[.slice A.ma r.trm.length A.mc, .int .i64 n] X fun e w' => e = .returned (.bool (smB r.trm n)) ∧ ∃ m, w' = X.drewN m) := fun X h => areCt_any A.ma A.mc r.trm n X (hv.below h).trm.vec hv.trm.le hv.trm.mx
    have HZ : Hid (lsB r n = (inB r.by_ 0 (n - 1) && smB r.trm n)) := by rw [Hid, lsB, e1]; rfl
    unfold stV
    rw [e1]
    clear e1 hv
    generalize rwV A r = v at *
    generalize r.by_ = Y at *
    generalize r.trm.length = L at *
    generalize smB r.trm n = Q at *
    obtain ⟨ta, tc, ga, gc, sa, sc, ma, mc⟩ := A
    simp only at hE HC
    have ha := asE_any v
    have hm := mtE_any v
    simp only [if_true]
    cases e2 : inB Y 0 (n - 1) with
    | false =>
      rw [e2] at HZ
      go_enter Try.func132, Try.ntmps132
      go_wp2_with (first | (go_at_call 161; refine (hE _).mono ?_; rintro e w1 ⟨rfl, hb1⟩) | (go_at_call 106; refine (isW14_any _ _ _).mono ?_; rintro e w' ⟨rfl, hw'⟩; rw [hw', e2]; clear hw'))
      go_ret
      exact ⟨ret_bool (by rw [HZ.out]; rfl), hb1⟩
    | true =>
      rw [e2] at HZ
      go_enter Try.func132, Try.ntmps132
      go_wp2_with (first | (go_at_call 161; refine (hE _).mono ?_; rintro e w1 ⟨rfl, hb1⟩) | (go_at_call 106; refine (isW14_any _ _ _).mono ?_; rintro e w' ⟨rfl, hw'⟩; rw [hw', e2]; clear hw') | (go_at_call 130; refine (HC.out _ hb1).mono ?_; rintro e w' ⟨rfl, m1, rfl⟩))
      go_ret
      exact ⟨ret_bool (by rw [HZ.out]; rfl), belowN hb1⟩
end Go.Proofs.Ytgfeabgmllkdeaa

/-
  The program's standingOf, RowOk; grewTo, mayBecome, Follows; Later and NewRow.
-/
namespace Go.Proofs.Ytgfeabgmllkdeaa
set_option linter.unusedVariables false
set_option linter.unusedSimpArgs false
open Go.RowKit Go.Sort

theorem okRw_tx {r : Rw} {n : Int} (h : txB r.txt = false) : okRw r n = false := by
  rw [txB, Bool.and_eq_false_iff] at h
  rw [okRw]
  rcases h with h | h <;> simp [h]
theorem okRw_ends {r : Rw} {n : Int} (h1 : inB n 1 5 = true) (h2 : inB r.ver 0 1000000 = true) (h3 : txB r.txt = true) (h4 : smB r.got n = true) (h5 : susB r.sus n = true) : okRw r n = (flB r && lsB r n) := by
  rw [txB, Bool.and_eq_true] at h3
  rw [← endB_fl, okRw, h1, h2, h3.1, h3.2, h4, h5]
  rfl
set_option maxRecDepth 100000 in
set_option maxHeartbeats 3200000 in
theorem stOf_any (A : Ra) (r : Rw) (n : Int) (w : World) (hv : RwP w A r) :
    Calls Try.prog 124 #[rwV A r, .int .i64 n] w fun e w' => ∃ s, e = .returned (.tuple #[s, .bool (okRw r n)]) ∧ (okRw r n = true → s = stV A r) ∧ Below w.heap.size w w' := by
  have hB0 := oneA16 w (.cells (rwC A r) 55)
  have hx := Bx.new w 55 (rwC A r)
  have h0 := hv.below hB0
  generalize hW : w.alloc (.cells (rwC A r) 55) = W at *
  have hS := h0.rws
  have hTx := areTx_any A.ta A.tc r.txt W h0.txt.txs hS.mt
  have hCt := areCt_any A.ga A.gc r.got n W h0.got.vec h0.got.le h0.got.mx
  have hSu : ∀ m, Calls Try.prog 109 #[.slice A.sa r.sus.length A.sc, .int .i64 (n - 1)] (W.drewN m) fun e w' => e = .returned (.bool (susB r.sus n)) ∧ w' = W.drewN m := fun m => by
    have := rw14_any A.sa r.sus.length A.sc n r.sus (W.drewN m) (h0.below (belowN (Below.refl _ _))).sus.vec hS.ms
    rw [sus_row] at this
    exact this
  have hFl := fun X => flag_any A r X hS.mm
  have hEn : ∀ X, Below W.heap.size W X → 1 ≤ n ∧ n ≤ 5 → Calls Try.prog 132 #[stV A r, .int .i64 n] X fun e w' => e = .returned (.bool (lsB r n)) ∧ Below X.heap.size X w' := fun X h hn => endR_any A r n X (h0.below h) hn
  have HZn : Hid (inB n 1 5 = false → okRw r n = false) := fun h => okRw_n h
  have HZv : Hid (inB r.ver 0 1000000 = false → okRw r n = false) := fun h => okRw_v h
  have HZt : Hid (txB r.txt = false → okRw r n = false) := fun h => okRw_tx h
  have HZg : Hid (smB r.got n = false → okRw r n = false) := fun h => okRw_g h
  have HZs : Hid (susB r.sus n = false → okRw r n = false) := fun h => okRw_s h
  have HZe : Hid (inB n 1 5 = true → inB r.ver 0 1000000 = true → txB r.txt = true → smB r.got n = true → susB r.sus n = true → okRw r n = (flB r && lsB r n)) := fun a b c d e => okRw_ends a b c d e
  have HB0 : Hid (Below w.heap.size w W) := hB0
  have HSt : Hid (∀ s : Value, s = stV A r → s = stV A r) := fun _ h => h
  generalize hq : okRw r n = Q at *
  clear hq
  generalize stV A r = V at *
  generalize flB r = fl at *
  generalize lsB r n = ls at *
  generalize txB r.txt = tb at *
  generalize smB r.got n = sg at *
  generalize susB r.sus n = sb at *
  obtain ⟨ver, txt, got, sus, wed, rdy, by_, trm⟩ := r
  obtain ⟨ta, tc, ga, gc, sa, sc, ma, mc⟩ := A
  have hw0 : w.alloc (.cells #[.int .i64 ver, .slice ta txt.length tc, .slice ga got.length gc, .slice sa sus.length sc, .bool wed, .bool rdy, .int .i64 by_, .slice ma trm.length mc] 55) = W := hW
  obtain ⟨⟨c0, c1, c2, c3⟩, c4, c5, c6, c7⟩ := Bx.r8 hx
  simp only [rwV, rwC] at c0 c1 c2 c3 c4 c5 c6 c7 hTx hCt hSu hFl HZv HZe
  unfold rwV rwC
  clear hv h0 hx hW hB0 hS
  simp only
  cases e1 : inB n 1 5 with
  | false =>
    have HZ : Hid (Q = false) := HZn.out e1
    go_enter Try.func124, Try.ntmps124
    go_wp2_with (first | (go_at_call 105; refine (isRl_any _ _).mono ?_; rintro e w' ⟨rfl, hw'⟩; rw [hw', e1]; clear hw'))
    refine bodyPost_ret (v := .tuple #[.nilIface, .bool false]) (by simp [results, Try.results124, go_sem, *]) rfl ?_
    exact ⟨.nilIface, by rw [HZ.out], fun h => (by rw [HZ.out] at h; cases h), HB0.out⟩
  | true =>
  have hn5 := inB7.1 e1
  have hwn : wrap64 (n - 1) = n - 1 := by unfold wrap64; omega
  have hEn2 := fun X h => hEn X h hn5
  have HN1 : Hid (inB n 1 5 = true) := e1
  have hRl : ∀ X, Calls Try.prog 105 #[.int .i64 n] X fun e w' => e = .returned (.bool true) ∧ w' = X := fun X => by
    have := isRl_any n X
    rw [e1] at this
    exact this
  clear e1 hEn hn5
  cases e2 : inB ver 0 1000000 with
  | false =>
    have HZ : Hid (Q = false) := HZv.out e2
    go_enter Try.func124, Try.ntmps124
    go_wp2_with (first | (go_at_call 105; refine (hRl _).mono ?_; rintro e w' ⟨rfl, hw'⟩; rw [hw']; clear hw') | (go_at_call 106; refine (isW14_any _ _ _).mono ?_; rintro e w' ⟨rfl, hw'⟩; rw [hw', e2]; clear hw'))
    refine bodyPost_ret (v := .tuple #[.nilIface, .bool false]) (by simp [results, Try.results124, go_sem, *]) rfl ?_
    exact ⟨.nilIface, by rw [HZ.out], fun h => (by rw [HZ.out] at h; cases h), HB0.out⟩
  | true =>
  have HN2 : Hid (inB ver 0 1000000 = true) := e2
  have hWi : ∀ X, Calls Try.prog 106 #[.int .i64 ver, .int .i64 1000000] X fun e w' => e = .returned (.bool true) ∧ w' = X := fun X => by
    have := isW14_any ver 1000000 X
    rw [e2] at this
    exact this
  clear e2
  cases tb with
  | false =>
    have HZ : Hid (Q = false) := HZt.out rfl
    go_enter Try.func124, Try.ntmps124
    go_wp2_with (first | (go_at_call 105; refine (hRl _).mono ?_; rintro e w' ⟨rfl, hw'⟩; rw [hw']; clear hw') | (go_at_call 106; refine (hWi _).mono ?_; rintro e w' ⟨rfl, hw'⟩; rw [hw']; clear hw') | (go_at_call 129; refine hTx.mono ?_; rintro e w' ⟨rfl, hw'⟩; rw [hw']; clear hw'))
    refine bodyPost_ret (v := .tuple #[.nilIface, .bool false]) (by simp [results, Try.results124, go_sem, *]) rfl ?_
    exact ⟨.nilIface, by rw [HZ.out], fun h => (by rw [HZ.out] at h; cases h), HB0.out⟩
  | true =>
  cases sg with
  | false =>
    have HZ : Hid (Q = false) := HZg.out rfl
    go_enter Try.func124, Try.ntmps124
    go_wp2_with (first | (go_at_call 105; refine (hRl _).mono ?_; rintro e w' ⟨rfl, hw'⟩; rw [hw']; clear hw') | (go_at_call 106; refine (hWi _).mono ?_; rintro e w' ⟨rfl, hw'⟩; rw [hw']; clear hw') | (go_at_call 129; refine hTx.mono ?_; rintro e w' ⟨rfl, hw'⟩; rw [hw']; clear hw') | (go_at_call 130; refine hCt.mono ?_; rintro e w' ⟨rfl, m1, rfl⟩))
    refine bodyPost_ret (v := .tuple #[.nilIface, .bool false]) (by simp [results, Try.results124, go_sem, *]) rfl ?_
    exact ⟨.nilIface, by rw [HZ.out], fun h => (by rw [HZ.out] at h; cases h), belowN HB0.out⟩
  | true =>
  cases sb with
  | false =>
    have HZ : Hid (Q = false) := HZs.out rfl
    go_enter Try.func124, Try.ntmps124
    go_wp2_with (first | (go_at_call 105; refine (hRl _).mono ?_; rintro e w' ⟨rfl, hw'⟩; rw [hw']; clear hw') | (go_at_call 106; refine (hWi _).mono ?_; rintro e w' ⟨rfl, hw'⟩; rw [hw']; clear hw') | (go_at_call 129; refine hTx.mono ?_; rintro e w' ⟨rfl, hw'⟩; rw [hw']; clear hw') | (go_at_call 130; refine hCt.mono ?_; rintro e w' ⟨rfl, m1, rfl⟩) | (go_at_call 109; refine (hSu _).mono ?_; rintro e w' ⟨rfl, hw'⟩; rw [hw']; clear hw'))
    refine bodyPost_ret (v := .tuple #[.nilIface, .bool false]) (by simp [results, Try.results124, go_sem, *]) rfl ?_
    exact ⟨.nilIface, by rw [HZ.out], fun h => (by rw [HZ.out] at h; cases h), belowN HB0.out⟩
  | true =>
  have HE : Hid (Q = (fl && ls)) := HZe.out HN1.out HN2.out rfl rfl rfl
  clear HZn HZv HZt HZg HZs HZe HN1 HN2
  cases fl with
  | false =>
    have HZ : Hid (Q = false) := by rw [Hid, HE.out]; rfl
    go_enter Try.func124, Try.ntmps124
    go_wp2_with (first | (go_at_call 105; refine (hRl _).mono ?_; rintro e w' ⟨rfl, hw'⟩; rw [hw']; clear hw') | (go_at_call 106; refine (hWi _).mono ?_; rintro e w' ⟨rfl, hw'⟩; rw [hw']; clear hw') | (go_at_call 129; refine hTx.mono ?_; rintro e w' ⟨rfl, hw'⟩; rw [hw']; clear hw') | (go_at_call 130; refine hCt.mono ?_; rintro e w' ⟨rfl, m1, rfl⟩) | (go_at_call 109; refine (hSu _).mono ?_; rintro e w' ⟨rfl, hw'⟩; rw [hw']; clear hw') | (go_at_call 131; refine (hFl _).mono ?_; rintro e w1 ⟨s1, rfl, hs1, hb1⟩; have HB1 : Hid (Below w.heap.size w w1) := ((belowN HB0.out).trans (hb1.mono (belowN HB0.out).size)); clear hb1 hs1))
    refine bodyPost_ret (v := .tuple #[s1, .bool false]) (by simp [results, Try.results124, go_sem, *]) rfl ?_
    exact ⟨s1, by rw [HZ.out], fun h => (by rw [HZ.out] at h; cases h), HB1.out⟩
  | true =>
    have HZ : Hid (Q = ls) := by rw [Hid, HE.out]; rfl
    have hF2 : ∀ X, Calls Try.prog 131 #[.agg #[.int .i64 ver, .slice ta txt.length tc, .slice ga got.length gc, .slice sa sus.length sc, .bool wed, .bool rdy, .int .i64 by_, .slice ma trm.length mc]] X fun e w' => e = .returned (.tuple #[V, .bool true]) ∧ Below X.heap.size X w' := fun X => (hFl X).mono (fun e w' ⟨s, h1, h2, h3⟩ => ⟨by rw [h1, h2 rfl], h3⟩)
    clear hFl
    have HRf : Hid (∀ m, Below W.heap.size W (W.drewN m)) := fun m => belowN (Below.refl _ _)
    go_enter Try.func124, Try.ntmps124
    go_wp2_with (first | (go_at_call 105; refine (hRl _).mono ?_; rintro e w' ⟨rfl, hw'⟩; rw [hw']; clear hw') | (go_at_call 106; refine (hWi _).mono ?_; rintro e w' ⟨rfl, hw'⟩; rw [hw']; clear hw') | (go_at_call 129; refine hTx.mono ?_; rintro e w' ⟨rfl, hw'⟩; rw [hw']; clear hw') | (go_at_call 130; refine hCt.mono ?_; rintro e w' ⟨rfl, m1, rfl⟩) | (go_at_call 109; refine (hSu _).mono ?_; rintro e w' ⟨rfl, hw'⟩; rw [hw']; clear hw') | (go_at_call 131; refine (hF2 _).mono ?_; rintro e w1 ⟨rfl, hb1⟩; have HB1 : Hid (Below w.heap.size w w1) := ((belowN HB0.out).trans (hb1.mono (belowN HB0.out).size)); have hE3 := hEn2 w1 ((HRf.out m1).trans (hb1.mono (HRf.out m1).size)); clear hb1) | (go_at_call 132; refine hE3.mono ?_; rintro e w2 ⟨rfl, hb2⟩; have HB2 : Hid (Below w.heap.size w w2) := (HB1.out.trans (hb2.mono HB1.out.size)); clear hb2))
    refine bodyPost_ret (v := .tuple #[V, .bool ls]) (by simp [results, Try.results124, go_sem, *]) rfl ?_
    exact ⟨V, by rw [HZ.out], fun _ => rfl, HB2.out⟩
set_option maxRecDepth 100000 in
set_option maxHeartbeats 800000 in
theorem rowI_any (A : Ra) (r : Rw) (n : Int) (w : World) (hv : RwP w A r) :
    Calls Try.prog 107 #[rwV A r, .int .i64 n] w fun e w' => e = .returned (.bool (okRw r n)) ∧ Below w.heap.size w w' := by
  have hB0 := oneA16 w (.cells (rwC A r) 55)
  have hx := Bx.new w 55 (rwC A r)
  have h0 := hv.below hB0
  generalize hW : w.alloc (.cells (rwC A r) 55) = W at *
  have hSt : Calls Try.prog 124 #[rwV A r, .int .i64 n] W fun e w' => ∃ s, e = .returned (.tuple #[s, .bool (okRw r n)]) ∧ Below W.heap.size W w' := (stOf_any A r n W h0).mono (fun e w' ⟨s, h1, _, h2⟩ => ⟨s, h1, h2⟩)
  have HB0 : Hid (Below w.heap.size w W) := hB0
  generalize okRw r n = Q at *
  obtain ⟨ver, txt, got, sus, wed, rdy, by_, trm⟩ := r
  obtain ⟨ta, tc, ga, gc, sa, sc, ma, mc⟩ := A
  have hw0 : w.alloc (.cells #[.int .i64 ver, .slice ta txt.length tc, .slice ga got.length gc, .slice sa sus.length sc, .bool wed, .bool rdy, .int .i64 by_, .slice ma trm.length mc] 55) = W := hW
  obtain ⟨⟨c0, c1, c2, c3⟩, c4, c5, c6, c7⟩ := Bx.r8 hx
  simp only [rwV, rwC] at c0 c1 c2 c3 c4 c5 c6 c7 hSt
  unfold rwV rwC
  clear hv h0 hx hW hB0
  simp only
  go_enter Try.func107, Try.ntmps107
  go_wp2_with (go_at_call 124; refine hSt.mono ?_; rintro e w1 ⟨s1, rfl, hb1⟩; have HB1 : Hid (Below w.heap.size w w1) := (HB0.out.trans (hb1.mono HB0.out.size)); clear hb1)
  go_ret
  exact ⟨rfl, HB1.out⟩
end Go.Proofs.Ytgfeabgmllkdeaa

/-
  The program's grewTo, mayBecome, Follows; Later and NewRow.
-/
namespace Go.Proofs.Ytgfeabgmllkdeaa
set_option linter.unusedVariables false
set_option linter.unusedSimpArgs false
open Go.RowKit Go.Sort

end Go.Proofs.Ytgfeabgmllkdeaa

/-
  The program's Follows, Later and NewRow.
-/
namespace Go.Proofs.Ytgfeabgmllkdeaa
set_option linter.unusedVariables false
set_option linter.unusedSimpArgs false
open Go.RowKit Go.Sort

end Go.Proofs.Ytgfeabgmllkdeaa

/-
  The program's check and MemberOk.
-/
namespace Go.Proofs.Ytgfeabgmllkdeaa
set_option linter.unusedVariables false
set_option linter.unusedSimpArgs false
open Go.RowKit Go.Sort

theorem okMb_chk (m : Mb) : okMb m = ((inB m.n 1 5 && (inB m.id 0 (m.n - 1) && decide ((m.rows.length : Int) = m.n))) && (m.rows.all (fun r => okRw r m.n) && ((decide (el m.own.got m.i = (m.own.txt.length : Int)) && decide (m.id ∉ m.own.sus)) && (susB m.sung 60 && (if m.done = true then m.own.rdy else (List.range m.sung.length).all (fun i => decide (el m.sung i = (i : Int)))))))) := by
  have hel : (∀ i, i < m.sung.length → inB (el m.sung i) 0 59 = true) ↔ ∀ x ∈ m.sung, inB x 0 59 = true := by
    constructor
    · intro h x hx
      obtain ⟨j, hj, rfl⟩ := List.mem_iff_getElem.1 hx
      have := h j hj
      simpa [el, hj] using this
    · intro h i hi
      exact h _ (el_mem hi)
  rw [Bool.eq_iff_iff]
  unfold okMb okSg susB
  simp only [Bool.and_eq_true, List.all_eq_true, decide_eq_true_eq, List.mem_range, Bool.or_eq_true, Bool.not_eq_true']
  rw [show (60 : Int) - 1 = 59 from rfl]
  constructor
  · rintro ⟨h1, h2, h3, h4, h5, h6, h7, h8, h9, h10⟩
    refine ⟨⟨h1, h2, h3⟩, h6, ⟨h8, h9⟩, ⟨hel.1 (fun i hi => (h7 i hi).1), h5⟩, ?_⟩
    split
    · rename_i hd
      rcases h10 with h | h
      · rw [hd] at h; cases h
      · exact h
    · rename_i hd
      simp only [List.all_eq_true, List.mem_range, decide_eq_true_eq]
      exact fun i hi => ((h7 i hi).2).resolve_left hd
  · rintro ⟨⟨h1, h2, h3⟩, h6, ⟨h8, h9⟩, ⟨h7, h5⟩, h10⟩
    refine ⟨h1, h2, h3, ?_, h5, h6, fun i hi => ⟨hel.2 h7 i hi, ?_⟩, h8, h9, ?_⟩
    · refine ris_short (k := 60) (ris_iff.1 h5) (fun x hx => ?_)
      have := inB7.1 (h7 x hx)
      omega
    · by_cases hd : m.done = true
      · exact .inl hd
      · rw [if_neg hd] at h10
        simp only [List.all_eq_true, List.mem_range, decide_eq_true_eq] at h10
        exact .inr (h10 i hi)
    · by_cases hd : m.done = true
      · rw [if_pos hd] at h10; exact .inr h10
      · exact .inl (by simpa using hd)
theorem MbP.below {w w' : World} {A : Ma} {m : Mb} (h : MbP w A m) (hb : Below w.heap.size w w') : MbP w' A m := by
  obtain ⟨f, hf⟩ := h.own
  exact ⟨⟨f, owL_below hf hb⟩, h.fit, h.i64, h.sz⟩
theorem sum_mem_le {F : Rw → Nat} {r : Rw} : ∀ {R : List Rw}, r ∈ R → F r ≤ (R.map F).sum
  | x :: R, h => by
    rw [List.map_cons, List.sum_cons]
    rcases List.mem_cons.1 h with h | h
    · rw [h]; omega
    · have := sum_mem_le (F := F) h; omega
theorem szRw_mem {m : Mb} {r : Rw} (h : r ∈ m.rows) : szRw r ≤ szMb m := by
  have := sum_mem_le (F := szRw) h
  unfold szMb szRs szP
  rw [List.take_length]
  omega
/-- A row of a member that a program is handed. -/
theorem MbP.row {w : World} {A : Ma} {m : Mb} (h : MbP w A m) {k : Nat} (hk : k < m.rows.length) : ∃ g off Ak, A.ra = some ⟨g, off, none⟩ ∧ C8 w g (off + k * 8) (.int .i64 (rowN m.rows k).ver) (.slice Ak.ta (rowN m.rows k).txt.length Ak.tc) (.slice Ak.ga (rowN m.rows k).got.length Ak.gc) (.slice Ak.sa (rowN m.rows k).sus.length Ak.sc) (.bool (rowN m.rows k).wed) (.bool (rowN m.rows k).rdy) (.int .i64 (rowN m.rows k).by_) (.slice Ak.ma (rowN m.rows k).trm.length Ak.mc) ∧ RwP w Ak (rowN m.rows k) := by
  obtain ⟨f, hf⟩ := h.own
  obtain ⟨f1, f2, o1, o2, _, _⟩ := owL_two hf
  obtain ⟨g, off, f3, hra, _, _, ⟨vs, hpc, hov, _⟩, _⟩ := ow_elF rw8_len (by omega) o1 (rowN_at hk)
  obtain ⟨Ak, rfl, hl⟩ := rw8_ow hov
  have hl8 : (rwC Ak (rowN m.rows k)).toList.length = 8 := rfl
  have c := hpc.cell
  have hfit : FitR (rowN m.rows k) := h.fit.1 _ (rowN_mem hk)
  have hs := szRw_mem (rowN_mem hk)
  exact ⟨g, off, Ak, hra, ⟨⟨c 0 (by rw [hl8]; omega), c 1 (by rw [hl8]; omega), c 2 (by rw [hl8]; omega), c 3 (by rw [hl8]; omega)⟩, c 4 (by rw [hl8]; omega), c 5 (by rw [hl8]; omega), c 6 (by rw [hl8]; omega), c 7 (by rw [hl8]; omega)⟩, it_rwp (owL_it hl (lo := 0) (fun b _ => Nat.zero_le b)) hfit (h.i64.2.2 _ (rowN_mem hk)) (Nat.le_trans hs h.sz)⟩
theorem MbP.mbs {w : World} {A : Ma} {m : Mb} (h : MbP w A m) : MbS w A m := by
  obtain ⟨f, hf⟩ := h.own
  exact mbs_of (owL_vw hf) h.fit
def fromN (s : List Int) : Bool := (List.range s.length).all (fun i => decide (el s i = (i : Int)))
set_option maxRecDepth 100000 in
set_option maxHeartbeats 800000 in
theorem cfn_any (a : Option Addr) (cap : Nat) (xs : List Int) (w : World) (hv : Vec w a xs.length xs) (hm : xs.length ≤ maxLen) :
    Calls Try.prog 110 #[.slice a xs.length cap] w fun e w' => e = .returned (.bool (fromN xs)) ∧ w' = w := by
  obtain ⟨_, _, hc⟩ := hv
  unfold maxLen at hm
  have HT : Hid ((∀ j, j < xs.length → el xs j = (j : Int)) → fromN xs = true) := fun h => by
    simp only [Hid, fromN, List.all_eq_true, List.mem_range, decide_eq_true_eq]
    exact h
  have HF : Hid (∀ k, k < xs.length → el xs k ≠ (k : Int) → fromN xs = false) := fun k hk h => by
    rw [Bool.eq_false_iff]
    intro hq
    simp only [fromN, List.all_eq_true, List.mem_range, decide_eq_true_eq] at hq
    exact h (hq k hk)
  generalize fromN xs = Q at *
  go_enter Try.func110, Try.ntmps110
  go_wp2
  go_loopw [7] (fun i wr => ∃ k : Nat, k ≤ xs.length ∧ i = .int .i64 k ∧ (∀ j, j < k → el xs j = (j : Int)) ∧ wr = w) (fun i _ => xs.length - (intOf i).toNat)
  case atStart => exact ⟨0, Nat.zero_le _, rfl, fun j hj => by omega, rfl⟩
  case round =>
    obtain ⟨k, hk, rfl, hall, rfl⟩ := hrel
    have HA : Hid (∀ j, j < k → el xs j = (j : Int)) := hall
    clear hall
    by_cases hlt : k < xs.length
    · rcases hc with h0 | ⟨b, off, rfl, hc⟩
      · omega
      have hck := hc k hlt
      have k1 : (k : Int) < (xs.length : Int) := by omega
      have k0 : (0 : Int) ≤ (k : Int) := by omega
      by_cases he : el xs k = (k : Int)
      · have HK : Hid (∀ j, j < k + 1 → el xs j = (j : Int)) := fun j hj => by
          by_cases e : j = k
          · subst e; exact he
          · exact HA.out j (by omega)
        have e1 : ((el xs k) != (k : Int)) = false := by simp [he]
        clear he hc
        generalize el xs k = x at *
        go_wp2
        go_roundw
        case rel => exact ⟨k + 1, by omega, by go_num, HK.out, by first | rfl | trivial⟩
        case measure => simp [intOf]; omega
      · have HK : Hid (Q = false) := HF.out k hlt he
        have e1 : ((el xs k) != (k : Int)) = true := by simp [he]
        clear he hc
        generalize el xs k = x at *
        go_wp2
        go_ret
        exact ⟨ret_bool (by rw [HK.out]), by first | rfl | trivial⟩
    · have k1 : ¬ ((k : Int) < (xs.length : Int)) := by omega
      obtain rfl : k = xs.length := by omega
      have HK : Hid (Q = true) := HT.out HA.out
      clear hc
      go_wp2
      go_ret
      exact ⟨ret_bool (by rw [HK.out]), by first | rfl | trivial⟩
theorem okMb_1 {m : Mb} (h : (inB m.n 1 5 && (inB m.id 0 (m.n - 1) && decide ((m.rows.length : Int) = m.n))) = false) : okMb m = false := by rw [okMb_chk, h]; rfl
theorem okMb_2 {m : Mb} {k : Nat} (hk : k < m.rows.length) (h : okRw (rowN m.rows k) m.n = false) : okMb m = false := by
  have : m.rows.all (fun r => okRw r m.n) = false := by
    rw [Bool.eq_false_iff]
    intro hq
    rw [List.all_eq_true.1 hq _ (rowN_mem hk)] at h
    cases h
  rw [okMb_chk, this]
  simp
theorem okMb_3 {m : Mb} (h : (decide (el m.own.got m.i = (m.own.txt.length : Int)) && decide (m.id ∉ m.own.sus)) = false) : okMb m = false := by rw [okMb_chk, h]; simp
theorem okMb_4 {m : Mb} (h : susB m.sung 60 = false) : okMb m = false := by rw [okMb_chk, h]; simp
theorem okMb_5 {m : Mb} (h1 : (inB m.n 1 5 && (inB m.id 0 (m.n - 1) && decide ((m.rows.length : Int) = m.n))) = true) (h2 : ∀ k, k < m.rows.length → okRw (rowN m.rows k) m.n = true) (h3 : (decide (el m.own.got m.i = (m.own.txt.length : Int)) && decide (m.id ∉ m.own.sus)) = true) (h4 : susB m.sung 60 = true) : okMb m = (if m.done = true then m.own.rdy else fromN m.sung) := by
  have : m.rows.all (fun r => okRw r m.n) = true := by
    rw [List.all_eq_true]
    intro r hr
    obtain ⟨k, hk, rfl⟩ := List.mem_iff_getElem.1 hr
    have := h2 k hk
    simpa [rowN, List.getD, hk] using this
  rw [okMb_chk, h1, this, h3, h4]
  rfl
set_option maxRecDepth 100000 in
set_option maxHeartbeats 1600000 in
theorem chk_any (A : Ma) (m : Mb) (w : World) (hv : MbP w A m) :
    Calls Try.prog 76 #[mbV A m] w fun e w' => ((okMb m = true ∧ e = .returned (.tuple #[])) ∨ (okMb m = false ∧ Gu e)) ∧ Below w.heap.size w w' := by
  have hmix := mixed17
  have hb0 := oneA16 w (.cells (mbC A m) 40)
  have hx0 := Bx.new w 40 (mbC A m)
  have h0 := hv.below hb0
  unfold mbV mbC at *
  generalize hWW : w.alloc (.cells #[.int .i64 m.id, .int .i64 m.n, .slice A.ra m.rows.length A.rc, .slice A.sa m.sung.length A.sc, .bool m.done] 40) = W at *
  have HB0 : Hid (Below w.heap.size w W) := hb0
  have HP : Hid (MbP W A m) := h0
  have HX : Hid (Bx W w.heap.size 40 #[.int .i64 m.id, .int .i64 m.n, .slice A.ra m.rows.length A.rc, .slice A.sa m.sung.length A.sc, .bool m.done]) := hx0
  obtain ⟨c0, c1, c2, c3, c4⟩ := Bx.r5 hx0
  have hsl := h0.mbs.ms
  have hrl := h0.mbs.mr
  unfold maxLen at hsl hrl
  clear hb0 h0 hx0 hv
  cases e1 : inB m.n 1 5 with
  | false =>
    have HZ : Hid (okMb m = false) := okMb_1 (by rw [e1]; rfl)
    go_enter Try.func76, Try.ntmps76
    go_wp2_with (first | (go_at_call 105; refine (isRl_any _ _).mono ?_; rintro e w' ⟨rfl, hw'⟩; rw [hw', e1]; clear hw') | (go_at_call 104; refine (wantF _).mono ?_; rintro e w' ⟨⟨T, v, rfl⟩, hw'⟩; rw [hw']; clear hw'))
    exact ⟨rfl, .inr ⟨HZ.out, _, _, rfl⟩, HB0.out⟩
  | true =>
  have hn5 := inB7.1 e1
  have hwn : wrap64 (m.n - 1) = m.n - 1 := by unfold wrap64; omega
  cases e2 : inB m.id 0 (m.n - 1) with
  | false =>
    have HZ : Hid (okMb m = false) := okMb_1 (by rw [e1, e2]; rfl)
    go_enter Try.func76, Try.ntmps76
    go_wp2_with (first | (go_at_call 105; refine (isRl_any _ _).mono ?_; rintro e w' ⟨rfl, hw'⟩; rw [hw', e1]; clear hw') | (go_at_call 106; refine (isW14_any _ _ _).mono ?_; rintro e w' ⟨rfl, hw'⟩; rw [hw', e2]; clear hw') | (go_at_call 104; refine (wantF _).mono ?_; rintro e w' ⟨⟨T, v, rfl⟩, hw'⟩; rw [hw']; clear hw'))
    exact ⟨rfl, .inr ⟨HZ.out, _, _, rfl⟩, HB0.out⟩
  | true =>
  have hid := inB7.1 e2
  by_cases e3 : (m.rows.length : Int) = m.n
  case neg =>
    have HZ : Hid (okMb m = false) := okMb_1 (by rw [e1, e2, decide_eq_false e3]; rfl)
    have e3' : ((m.rows.length : Int) == m.n) = false := by simpa using e3
    go_enter Try.func76, Try.ntmps76
    go_wp2_with (first | (go_at_call 105; refine (isRl_any _ _).mono ?_; rintro e w' ⟨rfl, hw'⟩; rw [hw', e1]; clear hw') | (go_at_call 106; refine (isW14_any _ _ _).mono ?_; rintro e w' ⟨rfl, hw'⟩; rw [hw', e2]; clear hw') | (go_at_call 104; refine (wantF _).mono ?_; rintro e w' ⟨⟨T, v, rfl⟩, hw'⟩; rw [hw']; clear hw'))
    exact ⟨rfl, .inr ⟨HZ.out, _, _, rfl⟩, HB0.out⟩
  have H1 : Hid ((inB m.n 1 5 && (inB m.id 0 (m.n - 1) && decide ((m.rows.length : Int) = m.n))) = true) := by rw [Hid, e1, e2, decide_eq_true e3]; rfl
  have e3' : ((m.rows.length : Int) == m.n) = true := by simpa using e3
  have hRl : ∀ X, Calls Try.prog 105 #[.int .i64 m.n] X fun e w' => e = .returned (.bool true) ∧ w' = X := fun X => by
    have := isRl_any m.n X
    rw [e1] at this
    exact this
  have hWi : ∀ X, Calls Try.prog 106 #[.int .i64 m.id, .int .i64 (m.n - 1)] X fun e w' => e = .returned (.bool true) ∧ w' = X := fun X => by
    have := isW14_any m.id (m.n - 1) X
    rw [e2] at this
    exact this
  have HI : Hid (∃ i : Nat, m.id = (i : Int) ∧ i < m.rows.length ∧ m.i = i) := ⟨m.id.toNat, by omega, by omega, rfl⟩
  have HN : Hid (∃ n : Nat, m.n = (n : Int) ∧ m.rows.length = n ∧ 1 ≤ n ∧ n ≤ 5) := ⟨m.n.toNat, by omega, by omega, by omega, by omega⟩
  clear e1 e2 e3 hid
  go_enter Try.func76, Try.ntmps76
  go_wp2_with (first | (go_at_call 105; refine (hRl _).mono ?_; rintro e w' ⟨rfl, hw'⟩; rw [hw']; clear hw') | (go_at_call 106; refine (hWi _).mono ?_; rintro e w' ⟨rfl, hw'⟩; rw [hw']; clear hw') | (go_at_call 104; refine (wantT _).mono ?_; rintro e w' ⟨rfl, hw'⟩; rw [hw']; clear hw'))
  clear hRl hWi c0 c1 c2 c3 c4
  go_loopw [28] (fun v wr => ∃ k : Nat, k ≤ m.rows.length ∧ v = .int .i64 (k : Int) ∧ (∀ j, j < k → okRw (rowN m.rows j) m.n = true) ∧ Below W.heap.size W wr) (fun v _ => m.rows.length - (intOf v).toNat)
  case atStart => exact ⟨0, Nat.zero_le _, rfl, fun j hj => by omega, Below.refl _ _⟩
  case round =>
    obtain ⟨k, hk, rfl, hall, hbr⟩ := hrel
    have HA : Hid (∀ j, j < k → okRw (rowN m.rows j) m.n = true) := hall
    have HBr : Hid (Below W.heap.size W wr) := hbr
    obtain ⟨c0, c1, c2, c3, c4⟩ := Bx.r5 (HX.out.below hbr)
    by_cases hlt : k < m.rows.length
    · obtain ⟨g, off, Ak, hra, ⟨⟨d0, d1, d2, d3⟩, d4, d5, d6, d7⟩, hrp⟩ := (HP.out.below hbr).row hlt
      have HZ : Hid (okRw (rowN m.rows k) m.n = false → okMb m = false) := fun h => okMb_2 hlt h
      rw [hra] at *
      have k0 : (0 : Int) ≤ (k : Int) := by omega
      have k1 : (k : Int) < (m.rows.length : Int) := by omega
      have HK : Hid (okRw (rowN m.rows k) m.n = true → ∀ j, j < k + 1 → okRw (rowN m.rows j) m.n = true) := fun h j hj => by
        by_cases e : j = k
        · subst e; exact h
        · exact HA.out j (by omega)
      generalize rowN m.rows k = r at *
      have hbl := oneA16 wr (.cells #[.int .i64 r.ver, .slice Ak.ta r.txt.length Ak.tc, .slice Ak.ga r.got.length Ak.gc, .slice Ak.sa r.sus.length Ak.sc, .bool r.wed, .bool r.rdy, .int .i64 r.by_, .slice Ak.ma r.trm.length Ak.mc] 55)
      have hxr := Bx.new wr 55 #[.int .i64 r.ver, .slice Ak.ta r.txt.length Ak.tc, .slice Ak.ga r.got.length Ak.gc, .slice Ak.sa r.sus.length Ak.sc, .bool r.wed, .bool r.rdy, .int .i64 r.by_, .slice Ak.ma r.trm.length Ak.mc]
      have hRo := rowI_any Ak r m.n _ (hrp.below hbl)
      unfold rwV rwC at hRo
      have HBw : Hid (Below W.heap.size W (wr.alloc (.cells #[.int .i64 r.ver, .slice Ak.ta r.txt.length Ak.tc, .slice Ak.ga r.got.length Ak.gc, .slice Ak.sa r.sus.length Ak.sc, .bool r.wed, .bool r.rdy, .int .i64 r.by_, .slice Ak.ma r.trm.length Ak.mc] 55))) := HBr.out.trans (hbl.mono HBr.out.size)
      have c1' := (hbl.cell (World.block_lt_of_cell? _ _ c1)).trans c1
      obtain ⟨⟨x0, x1, x2, x3⟩, x4, x5, x6, x7⟩ := Bx.r8 hxr
      clear hrp hall hbl hxr
      go_upto_region 5 with fail
      generalize wr.alloc (.cells #[.int .i64 r.ver, .slice Ak.ta r.txt.length Ak.tc, .slice Ak.ga r.got.length Ak.gc, .slice Ak.sa r.sus.length Ak.sc, .bool r.wed, .bool r.rdy, .int .i64 r.by_, .slice Ak.ma r.trm.length Ak.mc] 55) = W5 at *
      clear c0 c1 c2 c3 c4 d0 d1 d2 d3 d4 d5 d6 d7
      cases hb : okRw r m.n with
      | false =>
        have HZ1 : Hid (okMb m = false) := HZ.out hb
        rw [hb] at hRo
        go_wp2_with (first | (go_at_call 107; refine hRo.mono ?_; rintro e w1 ⟨rfl, hb1⟩; have HB1 : Hid (Below w.heap.size w w1) := (HB0.out.trans (HBw.out.mono HB0.out.size)).trans (hb1.mono (HB0.out.trans (HBw.out.mono HB0.out.size)).size); clear hb1) | (go_at_call 104; refine (wantF _).mono ?_; rintro e w' ⟨⟨T, v, rfl⟩, hw'⟩; rw [hw']; clear hw'))
        exact ⟨rfl, .inr ⟨HZ1.out, _, _, rfl⟩, HB1.out⟩
      | true =>
        have HK1 := HK.out hb
        have HK2 : Hid (∀ j, j < k + 1 → okRw (rowN m.rows j) m.n = true) := HK1
        rw [hb] at hRo
        clear HK HK1
        go_wp2_with (first | (go_at_call 107; refine hRo.mono ?_; rintro e w1 ⟨rfl, hb1⟩; have HB1 : Hid (Below W.heap.size W w1) := HBw.out.trans (hb1.mono HBw.out.size); clear hb1) | (go_at_call 104; refine (wantT _).mono ?_; rintro e w' ⟨rfl, hw'⟩; rw [hw']; clear hw'))
        go_roundw
        case rel => exact ⟨k + 1, by omega, by go_num, HK2.out, HB1.out⟩
        case measure => simp [intOf]; omega
    · have k1 : ¬ ((k : Int) < (m.rows.length : Int)) := by omega
      obtain rfl : k = m.rows.length := by omega
      have H2 : Hid (∀ j, j < m.rows.length → okRw (rowN m.rows j) m.n = true) := HA.out
      obtain ⟨i, hi, hil, hmi⟩ := HI.out
      obtain ⟨n, hn, hln, hn1, hn5'⟩ := HN.out
      obtain ⟨g, off, Ak, hra, ⟨⟨d0, d1, d2, d3⟩, d4, d5, d6, d7⟩, hrp⟩ := (HP.out.below hbr).row hil
      have hgl : i < (rowN m.rows i).got.length := by
        have := okRw_iff.1 (by rw [← hn]; exact HA.out i hil : okRw (rowN m.rows i) (n : Int) = true)
        rw [this.gl]; omega
      have HOwn : Hid (m.own = rowN m.rows i) := by rw [Hid, Mb.own, hmi]
      have i0 : (0 : Int) ≤ (i : Int) := by omega
      have i1 : (i : Int) < (m.rows.length : Int) := by omega
      have i2 : (i : Int) < ((rowN m.rows i).got.length : Int) := by omega
      have hsu : ∀ X, Below W.heap.size W X → Calls Try.prog 109 #[.slice A.sa m.sung.length A.sc, .int .i64 59] X fun e w' => e = .returned (.bool (susB m.sung 60)) ∧ w' = X := fun X hX => by
        have := rw14_any A.sa m.sung.length A.sc 60 m.sung X (HP.out.mbs.sung.below hX (Nat.le_refl _)) HP.out.mbs.ms
        rw [sus_row] at this
        exact this
      have hcf : ∀ X, Below W.heap.size W X → Calls Try.prog 110 #[.slice A.sa m.sung.length A.sc] X fun e w' => e = .returned (.bool (fromN m.sung)) ∧ w' = X := fun X hX => cfn_any A.sa A.sc m.sung X (HP.out.mbs.sung.below hX (Nat.le_refl _)) HP.out.mbs.ms
      have H3 : Hid ((decide (el (rowN m.rows i).got i = ((rowN m.rows i).txt.length : Int)) && decide ((i : Int) ∉ (rowN m.rows i).sus)) = false → okMb m = false) := fun h => okMb_3 (by rw [HOwn.out, hmi, hi]; exact h)
      have H4 : Hid (susB m.sung 60 = false → okMb m = false) := okMb_4
      have H5 : Hid ((decide (el (rowN m.rows i).got i = ((rowN m.rows i).txt.length : Int)) && decide ((i : Int) ∉ (rowN m.rows i).sus)) = true → susB m.sung 60 = true → okMb m = (if m.done = true then (rowN m.rows i).rdy else fromN m.sung)) := fun h1 h2 => by
        have := okMb_5 H1.out H2.out (by rw [HOwn.out, hmi, hi]; exact h1) h2
        rw [HOwn.out] at this
        exact this
      have hgc : ∀ X, Below wr.heap.size wr X → ∃ gb go, Ak.ga = some ⟨gb, go, none⟩ ∧ X.cell? ⟨gb, go + i, none⟩ = some (.int .i64 (el (rowN m.rows i).got i)) := fun X hX => by
        rcases (hrp.below hX).got.vec.2.2 with h | ⟨gb, go, e, h⟩
        · omega
        · exact ⟨gb, go, e, h i hgl⟩
      have hCon : ∀ X, Below wr.heap.size wr X → Calls Try.prog 108 #[.slice Ak.sa (rowN m.rows i).sus.length Ak.sc, .int .i64 (i : Int)] X fun e w' => e = .returned (.bool (decide ((i : Int) ∈ (rowN m.rows i).sus))) ∧ w' = X := fun X hX => con14_any Ak.sa Ak.sc (rowN m.rows i).sus (i : Int) X (hrp.below hX).sus.vec (hrp.below hX).rws.ms
      rw [hi] at c0
      rw [hra] at c2
      generalize hOK : okMb m = OK at *
      have HOk : Hid (okMb m = OK) := hOK
      clear hOK
      generalize rowN m.rows i = r at *
      generalize hge : el r.got i = gi at *
      generalize susB m.sung 60 = sb at *
      generalize fromN m.sung = fb at *
      have hbl := oneA16 wr (.cells #[.int .i64 r.ver, .slice Ak.ta r.txt.length Ak.tc, .slice Ak.ga r.got.length Ak.gc, .slice Ak.sa r.sus.length Ak.sc, .bool r.wed, .bool r.rdy, .int .i64 r.by_, .slice Ak.ma r.trm.length Ak.mc] 55)
      have hxr := Bx.new wr 55 #[.int .i64 r.ver, .slice Ak.ta r.txt.length Ak.tc, .slice Ak.ga r.got.length Ak.gc, .slice Ak.sa r.sus.length Ak.sc, .bool r.wed, .bool r.rdy, .int .i64 r.by_, .slice Ak.ma r.trm.length Ak.mc]
      have HXr : Hid (Bx (wr.alloc (.cells #[.int .i64 r.ver, .slice Ak.ta r.txt.length Ak.tc, .slice Ak.ga r.got.length Ak.gc, .slice Ak.sa r.sus.length Ak.sc, .bool r.wed, .bool r.rdy, .int .i64 r.by_, .slice Ak.ma r.trm.length Ak.mc] 55)) wr.heap.size 55 #[.int .i64 r.ver, .slice Ak.ta r.txt.length Ak.tc, .slice Ak.ga r.got.length Ak.gc, .slice Ak.sa r.sus.length Ak.sc, .bool r.wed, .bool r.rdy, .int .i64 r.by_, .slice Ak.ma r.trm.length Ak.mc]) := hxr
      have HBw : Hid (Below W.heap.size W (wr.alloc (.cells #[.int .i64 r.ver, .slice Ak.ta r.txt.length Ak.tc, .slice Ak.ga r.got.length Ak.gc, .slice Ak.sa r.sus.length Ak.sc, .bool r.wed, .bool r.rdy, .int .i64 r.by_, .slice Ak.ma r.trm.length Ak.mc] 55))) := HBr.out.trans (hbl.mono HBr.out.size)
      have HBl : Hid (Below wr.heap.size wr (wr.alloc (.cells #[.int .i64 r.ver, .slice Ak.ta r.txt.length Ak.tc, .slice Ak.ga r.got.length Ak.gc, .slice Ak.sa r.sus.length Ak.sc, .bool r.wed, .bool r.rdy, .int .i64 r.by_, .slice Ak.ma r.trm.length Ak.mc] 55))) := hbl
      have HMX : Hid (∀ X, Below W.heap.size W X → Bx X w.heap.size 40 #[.int .i64 m.id, .int .i64 m.n, .slice A.ra m.rows.length A.rc, .slice A.sa m.sung.length A.sc, .bool m.done]) := fun X h => HX.out.below h
      clear hrp hall hbl hxr HP HA hbr H1 H2 HOwn
      have hwl := HX.out.lt
      have hwr2 := HBr.out.size
      go_upto_region 8 with fail
      generalize wr.alloc (.cells #[.int .i64 r.ver, .slice Ak.ta r.txt.length Ak.tc, .slice Ak.ga r.got.length Ak.gc, .slice Ak.sa r.sus.length Ak.sc, .bool r.wed, .bool r.rdy, .int .i64 r.by_, .slice Ak.ma r.trm.length Ak.mc] 55) = W5 at *
      clear c0 c1 c2 c3 c4 d0 d1 d2 d3 d4 d5 d6 d7 hra
      have facts : ∀ X, Below W5.heap.size W5 X → Below W.heap.size W X ∧ Below w.heap.size w X := fun X h => ⟨HBw.out.trans (h.mono HBw.out.size), (HB0.out.trans (HBw.out.mono HB0.out.size)).trans (h.mono (HB0.out.trans (HBw.out.mono HB0.out.size)).size)⟩
      have HFa : Hid (∀ X, Below W5.heap.size W5 X → Below W.heap.size W X ∧ Below w.heap.size w X) := facts
      obtain ⟨⟨x0, x1, x2, x3⟩, x4, x5, x6, x7⟩ := Bx.r8 HXr.out
      obtain ⟨c0, c1, c2, c3, c4⟩ := Bx.r5 (HMX.out _ HBw.out)
      rw [hi] at c0
      obtain ⟨gb, go, hga, hgcell⟩ := hgc _ HBl.out
      rw [hga] at x2
      have T : ∀ {x v}, W5.cell? x = some v → ∀ q : Bk W5, q.w.cell? x = some v := fun h q => (q.h.cell (World.block_lt_of_cell? _ _ h)).trans h
      have y0 := T c0
      have y1 := T x1
      have y2 := T x2
      have y3 := T x3
      have y4 := T hgcell
      have hCn : ∀ q : Bk W5, Calls Try.prog 108 #[.slice Ak.sa r.sus.length Ak.sc, .int .i64 (i : Int)] q.w fun e w' => e = .returned (.bool (decide ((i : Int) ∈ r.sus))) ∧ Below q.w.heap.size q.w w' := fun q => (hCon q.w (HBl.out.trans (q.h.mono HBl.out.size))).mono (fun e w' h => ⟨h.1, by rw [h.2]; exact Below.refl _ _⟩)
      have HL : Hid (m.rows.length = n) := hln
      clear T x0 x1 x2 x3 x4 x5 x6 x7 c0 c1 c2 c3 c4 facts hCon hgc hga hgcell hln hi hmi
      by_cases e7 : gi = (r.txt.length : Int)
      case neg =>
        have HZ : Hid (OK = false) := H3.out (by rw [decide_eq_false e7]; rfl)
        have e7' : (gi == (r.txt.length : Int)) = false := by simpa using e7
        clear e7 H3 H4 H5
        refine wp_region_quiet_tail (C := fun w' => ∃ p : Bk W5, w' = p.w) 18 hmix (by kernel_rfl) ⟨⟨W5.drewN 1, belowN (Below.refl _ _)⟩, rfl⟩ ?_
        simp only [List.take_succ_cons, List.take_zero]
        repeat (go_big_quiet_step ((first | (go_at_call 108; exact bk_call _ (hCn _)) | rfl)))
        refine wpQuiet_nil ?_
        intro wE hw'
        obtain ⟨⟨w11, hb11⟩, hw''⟩ := hw'
        have hwe : wE = w11 := hw''
        clear hw''
        subst hwe
        simp only [List.drop_succ_cons, List.drop_zero]
        have HB9 : Hid (Below w.heap.size w wE) := (HFa.out _ hb11).2
        clear y0 y1 y2 y3 y4 hb11
        go_wp2_with (go_at_call 104; refine (wantF _).mono ?_; rintro e w' ⟨⟨T, v, rfl⟩, hw'⟩; rw [hw']; clear hw')
        exact ⟨rfl, .inr ⟨HOk.out.trans HZ.out, _, _, rfl⟩, HB9.out⟩
      have e7' : (gi == (r.txt.length : Int)) = true := by simpa using e7
      by_cases e8 : (i : Int) ∈ r.sus
      · have HZ : Hid (OK = false) := H3.out (by rw [decide_eq_true e7, decide_eq_false (by simpa using e8)]; rfl)
        rw [decide_eq_true e8] at hCn
        clear e7 H3 H4 H5 e8
        refine wp_region_quiet_tail (C := fun w' => ∃ p : Bk W5, w' = p.w) 18 hmix (by kernel_rfl) ⟨⟨W5.drewN 1, belowN (Below.refl _ _)⟩, rfl⟩ ?_
        simp only [List.take_succ_cons, List.take_zero]
        repeat (go_big_quiet_step ((first | (go_at_call 108; exact bk_call _ (hCn _)) | rfl)))
        refine wpQuiet_nil ?_
        intro wE hw'
        obtain ⟨⟨w11, hb11⟩, hw''⟩ := hw'
        have hwe : wE = w11 := hw''
        clear hw''
        subst hwe
        simp only [List.drop_succ_cons, List.drop_zero]
        have HB9 : Hid (Below w.heap.size w wE) := (HFa.out _ hb11).2
        clear y0 y1 y2 y3 y4 hb11
        go_wp2_with (go_at_call 104; refine (wantF _).mono ?_; rintro e w' ⟨⟨T, v, rfl⟩, hw'⟩; rw [hw']; clear hw')
        exact ⟨rfl, .inr ⟨HOk.out.trans HZ.out, _, _, rfl⟩, HB9.out⟩
      have HZ5 : Hid (sb = true → OK = (if m.done = true then r.rdy else fb)) := H5.out (by rw [decide_eq_true e7, decide_eq_true e8]; rfl)
      rw [decide_eq_false e8] at hCn
      clear e7 H3 H5 e8
      refine wp_region_quiet_tail (C := fun w' => ∃ p : Bk W5, w' = p.w) 18 hmix (by kernel_rfl) ⟨⟨W5.drewN 1, belowN (Below.refl _ _)⟩, rfl⟩ ?_
      simp only [List.take_succ_cons, List.take_zero]
      repeat (go_big_quiet_step ((first | (go_at_call 108; exact bk_call _ (hCn _)) | rfl)))
      refine wpQuiet_nil ?_
      intro wE hw'
      obtain ⟨⟨w11, hb11⟩, hw''⟩ := hw'
      have hwe : wE = w11 := hw''
      clear hw''
      subst hwe
      simp only [List.drop_succ_cons, List.drop_zero]
      have HB9 : Hid (Below w.heap.size w wE) := (HFa.out _ hb11).2
      have hBW := (HFa.out _ hb11).1
      have hsu9 := hsu _ hBW
      have hcf9 := hcf _ hBW
      obtain ⟨c0, c1, c2, c3, c4⟩ := Bx.r5 (HMX.out _ hBW)
      obtain ⟨⟨x0, x1, x2, x3⟩, x4, x5, x6, x7⟩ := Bx.r8 (HXr.out.below hb11)
      clear y0 y1 y2 y3 y4 hb11 hBW hCn hsu hcf
      cases sb with
      | false =>
        have HZ : Hid (OK = false) := H4.out rfl
        go_wp2_with (first | (go_at_call 109; refine hsu9.mono ?_; rintro e w' ⟨rfl, hw'⟩; rw [hw']; clear hw') | (go_at_call 104; first | (refine (wantT _).mono ?_; rintro e w' ⟨rfl, hw'⟩; rw [hw']; clear hw') | (refine (wantF _).mono ?_; rintro e w' ⟨⟨T, v, rfl⟩, hw'⟩; rw [hw']; clear hw')))
        exact ⟨rfl, .inr ⟨HOk.out.trans HZ.out, _, _, rfl⟩, HB9.out⟩
      | true =>
        have HZ := HZ5.out rfl
        have HZ6 : Hid (OK = (if m.done = true then r.rdy else fb)) := HZ
        clear HZ HZ5 H4
        cases hd : m.done with
        | true =>
          rw [hd] at c4
          cases hr : r.rdy with
          | true =>
            have HZ : Hid (OK = true) := by rw [Hid, HZ6.out, hd, hr]; rfl
            rw [hr] at x5
            clear hd hr
            go_wp2_with (first | (go_at_call 109; refine hsu9.mono ?_; rintro e w' ⟨rfl, hw'⟩; rw [hw']; clear hw') | (go_at_call 104; refine (wantT _).mono ?_; rintro e w' ⟨rfl, hw'⟩; rw [hw']; clear hw'))
            first | go_end0 | go_ret
            exact ⟨.inl ⟨HOk.out.trans HZ.out, rfl⟩, HB9.out⟩
          | false =>
            have HZ : Hid (OK = false) := by rw [Hid, HZ6.out, hd, hr]; rfl
            rw [hr] at x5
            clear hd hr
            go_wp2_with (first | (go_at_call 109; refine hsu9.mono ?_; rintro e w' ⟨rfl, hw'⟩; rw [hw']; clear hw') | (go_at_call 104; first | (refine (wantT _).mono ?_; rintro e w' ⟨rfl, hw'⟩; rw [hw']; clear hw') | (refine (wantF _).mono ?_; rintro e w' ⟨⟨T, v, rfl⟩, hw'⟩; rw [hw']; clear hw')))
            exact ⟨rfl, .inr ⟨HOk.out.trans HZ.out, _, _, rfl⟩, HB9.out⟩
        | false =>
          rw [hd] at c4
          cases fb with
          | true =>
            have HZ : Hid (OK = true) := by rw [Hid, HZ6.out, hd]; rfl
            clear hd
            go_wp2_with (first | (go_at_call 109; refine hsu9.mono ?_; rintro e w' ⟨rfl, hw'⟩; rw [hw']; clear hw') | (go_at_call 110; refine hcf9.mono ?_; rintro e w' ⟨rfl, hw'⟩; rw [hw']; clear hw') | (go_at_call 104; refine (wantT _).mono ?_; rintro e w' ⟨rfl, hw'⟩; rw [hw']; clear hw'))
            first | go_end0 | go_ret
            exact ⟨.inl ⟨HOk.out.trans HZ.out, rfl⟩, HB9.out⟩
          | false =>
            have HZ : Hid (OK = false) := by rw [Hid, HZ6.out, hd]; rfl
            clear hd
            go_wp2_with (first | (go_at_call 109; refine hsu9.mono ?_; rintro e w' ⟨rfl, hw'⟩; rw [hw']; clear hw') | (go_at_call 110; refine hcf9.mono ?_; rintro e w' ⟨rfl, hw'⟩; rw [hw']; clear hw') | (go_at_call 104; first | (refine (wantT _).mono ?_; rintro e w' ⟨rfl, hw'⟩; rw [hw']; clear hw') | (refine (wantF _).mono ?_; rintro e w' ⟨⟨T, v, rfl⟩, hw'⟩; rw [hw']; clear hw')))
            exact ⟨rfl, .inr ⟨HOk.out.trans HZ.out, _, _, rfl⟩, HB9.out⟩
end Go.Proofs.Ytgfeabgmllkdeaa

/-
  What the program's SeqOf, SenderOf, IndexOf, Ready and Woven answer, and the walks of the exact laws of the first four FROM that.
-/
namespace Go.Proofs.Ytgfeabgmllkdeaa
set_option linter.unusedVariables false
set_option linter.unusedSimpArgs false
open Go.RowKit Go.Sort

end Go.Proofs.Ytgfeabgmllkdeaa

/-
  The program's SeqOf, SenderOf, IndexOf, and what they and the rest go by: areSenders, isWithin, isTurn, areCounts.
-/
namespace Go.Proofs.Ytgfeabgmllkdeaa
set_option linter.unusedVariables false
set_option linter.unusedSimpArgs false
open Go.RowKit Go.Sort

set_option maxHeartbeats 400000 in
theorem isW7_any (n last : Int) (w : World) : Calls Try.prog 106 #[.int .i64 n, .int .i64 last] w fun e w' => e = .returned (.bool (inB n 0 last)) ∧ w' = w := by
  by_cases h0 : (0 : Int) ≤ n
  · have H : Hid (inB n 0 last = decide (n ≤ last)) := by rw [Hid, inB]; simp [h0]
    go_enter Try.func106, Try.ntmps106
    go_wp2
    go_ret
    exact ⟨ret_bool (by rw [H.out]), rfl⟩
  · have H : Hid (inB n 0 last = false) := by rw [Hid, inB]; simp [h0]
    go_enter Try.func106, Try.ntmps106
    go_wp2
    go_ret
    exact ⟨ret_bool (by rw [H.out]), rfl⟩
set_option maxHeartbeats 400000 in
theorem senders_any (n : Int) (w : World) : Calls Try.prog 133 #[.int .i64 n] w fun e w' => e = .returned (.bool (inB n 1 8)) ∧ w' = w := by
  by_cases h0 : (1 : Int) ≤ n
  · have H : Hid (inB n 1 8 = decide (n ≤ 8)) := by rw [Hid, inB]; simp [h0]
    go_enter Try.func133, Try.ntmps133
    go_wp2
    go_ret
    exact ⟨ret_bool (by rw [H.out]), rfl⟩
  · have H : Hid (inB n 1 8 = false) := by rw [Hid, inB]; simp [h0]
    go_enter Try.func133, Try.ntmps133
    go_wp2
    go_ret
    exact ⟨ret_bool (by rw [H.out]), rfl⟩
set_option maxHeartbeats 400000 in
theorem turn_any (n q : Int) (w : World) : Calls Try.prog 128 #[.int .i64 n, .int .i64 q] w fun e w' => e = .returned (.bool (tellB n q)) ∧ w' = w := by
  cases e0 : inB n 1 8 with
  | false =>
    have H : Hid (tellB n q = false) := by rw [Hid, tellB, e0]; rfl
    go_enter Try.func128, Try.ntmps128
    go_wp2_with (first | (go_at_call 133; refine (senders_any _ _).mono ?_; rintro e w' ⟨rfl, rfl⟩) | (go_at_call 106; refine (isW7_any _ _ _).mono ?_; rintro e w' ⟨rfl, rfl⟩))
    go_ret
    exact ⟨ret_bool (by rw [H.out]), rfl⟩
  | true =>
    have H : Hid (tellB n q = inB q 0 800000) := by rw [Hid, tellB, e0]; rfl
    go_enter Try.func128, Try.ntmps128
    go_wp2_with (first | (go_at_call 133; refine (senders_any _ _).mono ?_; rintro e w' ⟨rfl, rfl⟩) | (go_at_call 106; refine (isW7_any _ _ _).mono ?_; rintro e w' ⟨rfl, rfl⟩))
    go_ret
    exact ⟨ret_bool (by rw [H.out]), rfl⟩

set_option maxHeartbeats 800000 in
theorem sndI_any (n q : Int) (w : World) : Calls Try.prog 122 #[.int .i64 n, .int .i64 q] w fun e w' => e = .returned (.int .i64 (sndL n q)) ∧ w' = w := by
  cases e0 : tellB n q with
  | false =>
    have HZ : Hid (sndL n q = -1) := by rw [Hid, sndL, e0]; rfl
    go_enter Try.func122, Try.ntmps122
    go_wp2_with (go_at_call 128; refine (turn_any _ _ _).mono ?_; rintro e w' ⟨rfl, rfl⟩)
    go_ret
    exact ⟨ret_int (by rw [HZ.out]), rfl⟩
  | true =>
    have hk := tellB_iff.1 e0
    have HZ : Hid (sndL n q = q % n) := by rw [Hid, sndL, e0]; rfl
    have hne : (n == 0) = false := by simp; omega
    have ht : q.tmod n = q % n := Int.tmod_eq_emod_of_nonneg hk.2.1
    have b0 : 0 ≤ q % n := Int.emod_nonneg _ (by omega)
    have b1 : q % n < n := Int.emod_lt_of_pos _ (by omega)
    go_enter Try.func122, Try.ntmps122
    go_wp2_with (go_at_call 128; refine (turn_any _ _ _).mono ?_; rintro e w' ⟨rfl, rfl⟩)
    go_ret
    exact ⟨ret_int (by rw [HZ.out]), rfl⟩

set_option maxHeartbeats 800000 in
theorem idxI_any (n q : Int) (w : World) : Calls Try.prog 123 #[.int .i64 n, .int .i64 q] w fun e w' => e = .returned (.int .i64 (idxL n q)) ∧ w' = w := by
  cases e0 : tellB n q with
  | false =>
    have HZ : Hid (idxL n q = -1) := by rw [Hid, idxL, e0]; rfl
    go_enter Try.func123, Try.ntmps123
    go_wp2_with (go_at_call 128; refine (turn_any _ _ _).mono ?_; rintro e w' ⟨rfl, rfl⟩)
    go_ret
    exact ⟨ret_int (by rw [HZ.out]), rfl⟩
  | true =>
    have hk := tellB_iff.1 e0
    have HZ : Hid (idxL n q = q / n) := by rw [Hid, idxL, e0]; rfl
    have hne : (n == 0) = false := by simp; omega
    have ht : q.tdiv n = q / n := Int.tdiv_eq_ediv_of_nonneg hk.2.1
    have b0 : 0 ≤ q / n := Int.ediv_nonneg hk.2.1 (by omega)
    have b1 : q / n ≤ q := Int.ediv_le_self n hk.2.1
    go_enter Try.func123, Try.ntmps123
    go_wp2_with (go_at_call 128; refine (turn_any _ _ _).mono ?_; rintro e w' ⟨rfl, rfl⟩)
    go_ret
    exact ⟨ret_int (by rw [HZ.out]), rfl⟩

end Go.Proofs.Ytgfeabgmllkdeaa

/-
  strings.Clone by the library's contract of stringslite.Clone, laid at this program.
-/
namespace Go.Proofs.Ytgfeabgmllkdeaa
set_option linter.unusedSimpArgs false
set_option linter.unusedVariables false
open Go.RowKit Go.Sort Go.Shelf
def Try.cloneL_ren : Go.Shelf.Ren := ⟨fun | 316 => 127 | n => n, fun | 9 => 9 | 3 => 3 | 4 => 4 | 37 => 22 | 0 => 0 | 127 => 129 | 5 => 5 | n => n, fun | n => n⟩
theorem Try.cloneL : Go.Proofs.LaysM.n316 Try.prog Try.cloneL_ren := {
  mixed := by kernel_rfl
  f316 := Try.func127.trans (congrArg some (by kernel_rfl))
  t0 := Try.underlying0
  a0 := Try.isAgg0
  z0 := Try.sizeOf0
  v0 := Try.zeroValue0
  t3 := Try.underlying3
  a3 := Try.isAgg3
  z3 := Try.sizeOf3
  v3 := Try.zeroValue3
  t4 := Try.underlying4
  a4 := Try.isAgg4
  z4 := Try.sizeOf4
  v4 := Try.zeroValue4
  t9 := Try.underlying9
  a9 := Try.isAgg9
  z9 := Try.sizeOf9
  v9 := Try.zeroValue9
  t37 := Try.underlying22
  a37 := Try.isAgg22
  z37 := Try.sizeOf22
  v37 := Try.zeroValue22
  t127 := Try.underlying129
  a127 := Try.isAgg129
  z127 := Try.sizeOf129
  v127 := Try.zeroValue129
  t5 := Try.underlying5
  a5 := Try.isAgg5
  z5 := Try.sizeOf5
  v5 := Try.zeroValue5
  i0 := by kernel_rfl
  i3 := by kernel_rfl
  i4 := by kernel_rfl
  i5 := by kernel_rfl
  i9 := by kernel_rfl
  i37 := by kernel_rfl
  i127 := by kernel_rfl }
set_option maxHeartbeats 400000 in
theorem clone_any (l : List UInt8) (w : World) (hl : l.length ≤ 1048576) :
    Calls Try.prog 116 #[.string (sv l)] w fun e w' => e = .returned (.string (sv l)) ∧ Below w.heap.size w w' := by
  have h := Any.stringslite_Clone Try.cloneL (sv l) w (by rw [sv_size]; omega)
  go_enter Try.func116, Try.ntmps116
  go_wp2_with fail
  refine h.mono ?_
  rintro e w1 ⟨rfl, hb⟩
  have HB : Hid (Below w.heap.size w w1) := hb
  clear hb h
  go_wp2
  go_ret
  exact ⟨rfl, HB.out⟩
end Go.Proofs.Ytgfeabgmllkdeaa

/-
  The program's textOf and Voice.
-/
namespace Go.Proofs.Ytgfeabgmllkdeaa
set_option linter.unusedVariables false
set_option linter.unusedSimpArgs false
open Go.RowKit Go.Sort

theorem snd_nat {n q : Nat} (hn : 1 ≤ n ∧ n ≤ 5) (hq : q ≤ 60) : sndL (n : Int) (q : Int) = ((q % n : Nat) : Int) ∧ idxL (n : Int) (q : Int) = ((q / n : Nat) : Int) := by
  have ht : tellB (n : Int) (q : Int) = true := tellB_iff.2 (by omega)
  unfold sndL idxL
  rw [ht]
  exact ⟨by simp, by simp⟩
attribute [local irreducible] sv
set_option maxRecDepth 100000 in
set_option maxHeartbeats 1600000 in
theorem txo_any (A : Ma) (m : Mb) (i n q : Nat) (w : World) (hv : MbP w A m) (ok : OkM m i n) (hq : q ≤ 60) :
    Calls Try.prog 97 #[mbV A m, .int .i64 (q : Int)] w fun e w' => ((hadB m.rows n (q : Int) = true ∧ e = .returned (.string (sv (txtOf m.rows n (q : Int))))) ∨ (hadB m.rows n (q : Int) = false ∧ Gu e)) ∧ Below w.heap.size w w' := by
  have hmix := mixed17
  have hba := oneA16 w (.cells #[.int .i64 m.id, .int .i64 m.n, .slice A.ra m.rows.length A.rc, .slice A.sa m.sung.length A.sc, .bool m.done] 40)
  have hx := Bx.new w 40 #[.int .i64 m.id, .int .i64 m.n, .slice A.ra m.rows.length A.rc, .slice A.sa m.sung.length A.sc, .bool m.done]
  have hv1 := hv.below hba
  unfold mbV mbC
  generalize hWW : w.alloc (.cells #[.int .i64 m.id, .int .i64 m.n, .slice A.ra m.rows.length A.rc, .slice A.sa m.sung.length A.sc, .bool m.done] 40) = W1 at *
  have hw0 : w.alloc (.cells #[.int .i64 m.id, .int .i64 m.n, .slice A.ra m.rows.length A.rc, .slice A.sa m.sung.length A.sc, .bool m.done] 40) = W1 := hWW
  have HB : Hid (Below w.heap.size w W1) := hba
  have hn5 := ok.n5
  obtain ⟨k, hk⟩ : ∃ k, k = q % n := ⟨_, rfl⟩
  have hkn : k < n := by rw [hk]; exact Nat.mod_lt _ (by omega)
  have hkl : k < m.rows.length := by rw [ok.len]; exact hkn
  obtain ⟨d, hd⟩ : ∃ d, d = q / n := ⟨_, rfl⟩
  have hdq : d ≤ 60 := by rw [hd]; exact Nat.le_trans (Nat.div_le_self _ _) hq
  obtain ⟨e1, e2⟩ := snd_nat hn5 hq
  have hS : ∀ qq : Bk W1, Calls Try.prog 122 #[.int .i64 (n : Int), .int .i64 (q : Int)] qq.w fun e w' => e = .returned (.int .i64 (k : Int)) ∧ Below qq.w.heap.size qq.w w' := fun qq => (sndI_any (n : Int) (q : Int) qq.w).mono (fun e w' h => ⟨by rw [h.1, e1, hk], by rw [h.2]; exact Below.refl _ _⟩)
  have hI : ∀ qq : Bk W1, Calls Try.prog 123 #[.int .i64 (n : Int), .int .i64 (q : Int)] qq.w fun e w' => e = .returned (.int .i64 (d : Int)) ∧ Below qq.w.heap.size qq.w w' := fun qq => (idxI_any (n : Int) (q : Int) qq.w).mono (fun e w' h => ⟨by rw [h.1, e2, hd], by rw [h.2]; exact Below.refl _ _⟩)
  have HH : Hid (hadB m.rows n (q : Int) = decide (d < (rowN m.rows k).txt.length)) := by rw [Hid, hadB, hk, hd]; rfl
  have HX : Hid (txtOf m.rows n (q : Int) = (rowN m.rows k).txt.getD d []) := by rw [Hid, txtOf, hk, hd]; rfl
  obtain ⟨g, off, Ak, hra, ⟨⟨d0, d1, d2, d3⟩, d4, d5, d6, d7⟩, hrp⟩ := hv1.row hkl
  have hr := ok.ok k hkn
  have HTx : Hid (∀ X, Below W1.heap.size W1 X → TxS X Ak.ta (rowN m.rows k).txt) := fun X hX => (hrp.below hX).txt.txs
  have HTl : Hid (∀ j, j < (rowN m.rows k).txt.length → ((rowN m.rows k).txt.getD j []).length ≤ 1048576) := fun j hj => Nat.le_trans (hr.ts _ (by rw [List.getD_eq_getElem?_getD, List.getElem?_eq_getElem hj]; exact List.getElem_mem hj)) (by decide)
  have htl := hr.tl
  obtain ⟨c0, c1, c2, c3, c4⟩ := Bx.r5 hx
  rw [hra] at c2
  rw [ok.hn] at c1
  have T : ∀ {x v}, W1.cell? x = some v → ∀ q : Bk W1, q.w.cell? x = some v := fun h q => (q.h.cell (World.block_lt_of_cell? _ _ h)).trans h
  have y1 := T c1
  have y2 := T c2
  have z1 := T d1
  have k0 : (0 : Int) ≤ (k : Int) := by omega
  have k1 : (k : Int) < (m.rows.length : Int) := by omega
  clear hra hv hba hx hv1 hWW e1 e2 c0 c1 c2 c3 c4 d0 d1 d2 d3 d4 d5 d6 d7 hrp T hk hd hr
  generalize rowN m.rows k = r at *
  have HRR : Hid (True) := trivial
  go_enter Try.func97, Try.ntmps97
  go_wp2_with fail
  clear hw0
  refine wp_region_bk (by kernel_rfl) (by kernel_rfl) ?_
  repeat (go_big_quiet_step ((first | (go_at_call 122; exact bk_call _ (hS _)) | (go_at_call 123; exact bk_call _ (hI _)) | rfl)))
  refine wpQuiet_nil ?_
  intro wE hw'
  obtain ⟨⟨w11, hb11⟩, hw''⟩ := hw'
  have hwe : wE = w11 := hw''
  clear hw''
  subst hwe
  have HB1 : Hid (Below w.heap.size w wE) := HB.out.trans (hb11.mono HB.out.size)
  have hTx := HTx.out wE hb11
  clear hS hI y1 y2 z1 hb11 HTx
  by_cases hlt : d < r.txt.length
  · have HZ : Hid (hadB m.rows n (q : Int) = true) := by rw [Hid, HH.out, decide_eq_true hlt]
    rcases hTx with h0 | ⟨tb, tq, hta, htc⟩
    · omega
    have hck := htc d hlt
    have l1 : (d : Int) < (r.txt.length : Int) := by omega
    have l0 : (0 : Int) ≤ (d : Int) := by omega
    have hC := clone_any (r.txt.getD d []) wE (HTl.out d hlt)
    clear htc
    rw [hta]
    have HX2 : Hid (txtOf m.rows n (q : Int) = r.txt.getD d []) := HX.out
    generalize r.txt.getD d [] = t at *
    go_wp2_with (first | (go_at_call 104; refine (wantT _).mono ?_; rintro e w' ⟨rfl, hw'⟩; rw [hw']; clear hw') | (go_at_call 116; refine hC.mono ?_; rintro e w2 ⟨rfl, hb2⟩; have HB2 : Hid (Below w.heap.size w w2) := HB1.out.trans (hb2.mono HB1.out.size); clear hb2))
    go_ret
    exact ⟨.inl ⟨HZ.out, by rw [HX2.out]; rfl⟩, HB2.out⟩
  · have HZ : Hid (hadB m.rows n (q : Int) = false) := by rw [Hid, HH.out, decide_eq_false hlt]
    have l1 : ¬ ((d : Int) < (r.txt.length : Int)) := by omega
    go_wp2_with (go_at_call 104; refine (wantF _).mono ?_; rintro e w' ⟨⟨T, v, rfl⟩, hw'⟩; rw [hw']; clear hw')
    exact ⟨rfl, .inr ⟨HZ.out, _, _, rfl⟩, HB1.out⟩
/-- How the voice's work ends. -/
def VoR (m : Mb) (w0 : World) (b1 b2 : Nat) (e : Ending) (w' : World) : Prop := (okMb m = true ∧ m.sung.all (hadB m.rows m.k) = true ∧ e = .returned (.tuple #[]) ∧ ∃ a c f, w'.cell? ⟨b1, 0, none⟩ = some (.slice a (m.sung.map (txtOf m.rows m.k)).length c) ∧ Cel.ow w' (scl (m.sung.map (txtOf m.rows m.k))) (.slice a (m.sung.map (txtOf m.rows m.k)).length c) f ∧ ∀ b, f b → w0.heap.size ≤ b ∧ b ≠ b1 ∧ b ≠ b2) ∨ (¬ (okMb m = true ∧ m.sung.all (hadB m.rows m.k) = true) ∧ Gu e)
set_option maxRecDepth 100000 in
set_option maxHeartbeats 1600000 in
theorem voi1_any (A : Ma) (m : Mb) (b0 b1 b2 : Nat) (a0 : Option Addr) (c0 : Nat) (f0 : Fp) (w0 X : World) (hv : MbP w0 A m) (hX : Below w0.heap.size w0 X) (h0 : Bx X b0 40 #[.int .i64 m.id, .int .i64 m.n, .slice A.ra m.rows.length A.rc, .slice A.sa m.sung.length A.sc, .bool m.done]) (h1 : Bx X b1 50 #[.slice a0 0 c0]) (hO : Cel.ow X (scl []) (.slice a0 0 c0) f0) (hf : ∀ b, f0 b → w0.heap.size ≤ b ∧ b ≠ b1 ∧ b ≠ b2) (hb : w0.heap.size ≤ b1) (hne : b0 ≠ b1) (hf0 : ¬ f0 b0) (h2 : b2 < X.heap.size) :
    Calls Try.prog 96 #[.pointer (some ⟨b0, 0, none⟩), .pointer (some ⟨b1, 0, none⟩)] X fun e w' => VoR m w0 b1 b2 e w' ∧ Wrt (fun x => x = b1 ∨ f0 x) X w' := by
  have hmix := mixed17
  have hCk := chk_any A m X (hv.below hX)
  have HX0 : Hid (Below w0.heap.size w0 X) := hX
  have HV : Hid (MbP w0 A m) := hv
  have H0 : Hid (Bx X b0 40 #[.int .i64 m.id, .int .i64 m.n, .slice A.ra m.rows.length A.rc, .slice A.sa m.sung.length A.sc, .bool m.done]) := h0
  have H1 : Hid (Bx X b1 50 #[.slice a0 0 c0]) := h1
  have HO : Hid (Cel.ow X (scl []) (.slice a0 0 c0) f0) := hO
  obtain ⟨d0, d1, d2, d3, d4⟩ := Bx.r5 h0
  have hb1X := h1.lt
  have hb0X := h0.lt
  unfold mbV mbC at hCk
  clear hv hX h0 h1 hO
  by_cases hok : okMb m = true
  case neg =>
    have HN : Hid (¬ (okMb m = true ∧ m.sung.all (hadB m.rows m.k) = true)) := fun h => hok h.1
    rw [Bool.eq_false_iff.2 hok] at hCk
    clear hok
    go_enter Try.func96, Try.ntmps96
    go_wp2_with fail
    refine hCk.mono ?_
    rintro e w1 ⟨(⟨h, _⟩ | ⟨_, T, v, rfl⟩), hb1⟩
    · cases h
    · exact ⟨rfl, .inr ⟨HN.out, _, _, rfl⟩, Wrt.of_below hb1⟩
  obtain ⟨i, n, ok⟩ := okMb_iff.1 hok
  have HOk : Hid (okMb m = true) := hok
  have HKn : Hid (m.k = n) := ok.k
  rw [hok] at hCk
  have hsl := ok.sl
  clear hok
  go_enter Try.func96, Try.ntmps96
  go_wp2_with fail
  refine hCk.mono ?_
  rintro e w1 ⟨(⟨_, rfl⟩ | ⟨h, _⟩), hbw⟩
  case inr => cases h
  have HW1 : Hid (Wrt (fun x => x = b1 ∨ f0 x) X w1) := Wrt.of_below hbw
  have HB1 : Hid (Below w0.heap.size w0 w1) := HX0.out.trans (hbw.mono HX0.out.size)
  have HE0 : Hid (Bx w1 b0 40 #[.int .i64 m.id, .int .i64 m.n, .slice A.ra m.rows.length A.rc, .slice A.sa m.sung.length A.sc, .bool m.done]) := H0.out.below hbw
  have HE1 : Hid (Bx w1 b1 50 #[.slice a0 0 c0]) := H1.out.below hbw
  have HEO : Hid (Cel.ow w1 (scl []) (.slice a0 0 c0) f0) := Cel.ow_below HO.out hbw
  have hbs := hbw.size
  clear d0 d1 d2 d3 d4 hCk hbw H0 H1 HO
  obtain ⟨d0, d1, d2, d3, d4⟩ := Bx.r5 HE0.out
  go_wp2_with fail
  clear d0 d1 d2 d3 d4
  go_loopw [9] (fun v wr => ∃ (k : Nat) (a : Option Addr) (c : Nat) (Z : List (List UInt8)) (f : Fp), k ≤ m.sung.length ∧ v = .int .i64 (k : Int) ∧ Hid (Z = (m.sung.take k).map (txtOf m.rows n)) ∧ Hid (∀ j, j < k → hadB m.rows n (el m.sung j) = true) ∧ Bx wr b0 40 #[.int .i64 m.id, .int .i64 m.n, .slice A.ra m.rows.length A.rc, .slice A.sa m.sung.length A.sc, .bool m.done] ∧ Bx wr b1 50 #[.slice a Z.length c] ∧ Cel.ow wr (scl Z) (.slice a Z.length c) f ∧ (∀ b, f b → (w0.heap.size ≤ b ∧ b ≠ b1 ∧ b ≠ b2 ∧ b ≠ b0) ∧ (f0 b ∨ X.heap.size ≤ b)) ∧ Wrt (fun x => x = b1 ∨ f0 x) X wr ∧ Below w0.heap.size w0 wr) (fun v _ => m.sung.length - (intOf v).toNat)
  case atStart => exact ⟨0, a0, c0, [], f0, Nat.zero_le _, rfl, rfl, (fun j hj => absurd hj (Nat.not_lt_zero _)), HE0.out, HE1.out, HEO.out, fun b hb => ⟨⟨(hf b hb).1, (hf b hb).2.1, (hf b hb).2.2, fun e => hf0 (e ▸ hb)⟩, .inl hb⟩, HW1.out, HB1.out⟩
  case round =>
    obtain ⟨k, a, c, Z, f, hk, rfl, hZ, hAll, hx0, hx1, hO, hff, hW, hB⟩ := hrel
    have HY0 : Hid (Bx wr b0 40 #[.int .i64 m.id, .int .i64 m.n, .slice A.ra m.rows.length A.rc, .slice A.sa m.sung.length A.sc, .bool m.done]) := hx0
    have HY1 : Hid (Bx wr b1 50 #[.slice a Z.length c]) := hx1
    have HO : Hid (Cel.ow wr (scl Z) (.slice a Z.length c) f) := hO
    have HW : Hid (Wrt (fun x => x = b1 ∨ f0 x) X wr) := hW
    have HB : Hid (Below w0.heap.size w0 wr) := hB
    clear HW1 HB1 HE0 HE1 HEO
    by_cases hlt : k < m.sung.length
    · have hvec := (HV.out.below hB).mbs.sung
      rcases hvec.2.2 with h0 | ⟨sb, so, hsa, hsc⟩
      · omega
      have hck := hsc k hlt
      have hel := ok.elem (el_mem hlt)
      obtain ⟨q, hq⟩ : ∃ q : Nat, el m.sung k = (q : Int) := ⟨(el m.sung k).toNat, by omega⟩
      rw [hq] at hck
      have hT := txo_any A m i n q wr.drew ((HV.out.below hB).below (Same.drewN wr 1).below) ok (by omega)
      have HZ1 : Hid ((m.sung.take (k + 1)).map (txtOf m.rows n) = Z ++ [txtOf m.rows n (q : Int)]) := by
        rw [Hid, hZ.out, ← hq]
        exact map_next (by rw [List.getElem?_eq_getElem hlt]; simp [el, hlt])
      have HA1 : Hid (hadB m.rows n (q : Int) = true → ∀ j, j < k + 1 → hadB m.rows n (el m.sung j) = true) := fun h j hj => by
        by_cases e : j = k
        · rw [e, hq]; exact h
        · exact hAll.out j (by omega)
      have HNo : Hid (hadB m.rows n (q : Int) = false → ¬ (okMb m = true ∧ m.sung.all (hadB m.rows m.k) = true)) := fun h hh => by
        have := List.all_eq_true.1 hh.2 _ (el_mem hlt)
        rw [HKn.out, hq, h] at this
        cases this
      have HZl : Hid (Z.length ≤ 1000000) := Nat.le_trans (by rw [hZ.out, List.length_map, List.length_take]; omega : Z.length ≤ 100) (by decide)
      have k0 : (0 : Int) ≤ (k : Int) := by omega
      have k1 : (k : Int) < (m.sung.length : Int) := by omega
      have hbd : Below wr.heap.size wr wr.drew := (Same.drewN wr 1).below
      have KS : ∀ X, Below wr.heap.size wr X → X.cell? ⟨b1, 0, none⟩ = some (.slice a Z.length c) ∧ X.cell? ⟨b0, 0, none⟩ = some (.int .i64 m.id) ∧ X.cell? ⟨b0, 1, none⟩ = some (.int .i64 m.n) ∧ X.cell? ⟨b0, 2, none⟩ = some (.slice A.ra m.rows.length A.rc) ∧ X.cell? ⟨b0, 3, none⟩ = some (.slice (some ⟨sb, so, none⟩) m.sung.length A.sc) ∧ X.cell? ⟨b0, 4, none⟩ = some (.bool m.done) := fun X hX => by
        obtain ⟨e0, e1, e2, e3, e4⟩ := Bx.r5 (HY0.out.below hX)
        rw [hsa] at e3
        exact ⟨(HY1.out.below hX).at 0 rfl, e0, e1, e2, e3, e4⟩
      have hl1 := hx1.lt
      have hl0 := hx0.lt
      have hfw := Cel.ow_lt hO
      have hws := hW.size
      unfold mbV mbC at hT
      rw [hsa] at hT ⊢
      have HSA : Hid (A.sa = some ⟨sb, so, none⟩) := hsa
      clear hsa
      clear hvec hsc hx0 hx1 hO hW hB hel hq
      cases hh : hadB m.rows n (q : Int) with
      | false =>
        have HN := HNo.out hh
        have HN2 : Hid (¬ (okMb m = true ∧ m.sung.all (hadB m.rows m.k) = true)) := HN
        rw [hh] at hT
        clear HN hh
        go_wp2_with fail
        refine gt_begin (S := fun X : World => X.cell? ⟨b1, 0, none⟩ = some (.slice a Z.length c) ∧ X.cell? ⟨b0, 0, none⟩ = some (.int .i64 m.id) ∧ X.cell? ⟨b0, 1, none⟩ = some (.int .i64 m.n) ∧ X.cell? ⟨b0, 2, none⟩ = some (.slice A.ra m.rows.length A.rc) ∧ X.cell? ⟨b0, 3, none⟩ = some (.slice (some ⟨sb, so, none⟩) m.sung.length A.sc) ∧ X.cell? ⟨b0, 4, none⟩ = some (.bool m.done)) 6 hmix (by kernel_rfl) ?_
        have hHeld : (fun X : World => X.cell? ⟨b1, 0, none⟩ = some (.slice a Z.length c) ∧ X.cell? ⟨b0, 0, none⟩ = some (.int .i64 m.id) ∧ X.cell? ⟨b0, 1, none⟩ = some (.int .i64 m.n) ∧ X.cell? ⟨b0, 2, none⟩ = some (.slice A.ra m.rows.length A.rc) ∧ X.cell? ⟨b0, 3, none⟩ = some (.slice (some ⟨sb, so, none⟩) m.sung.length A.sc) ∧ X.cell? ⟨b0, 4, none⟩ = some (.bool m.done)) wr.drew := (KS _ hbd)
        refine gt_take (i := 0) (v := ?_) rfl (by kernel_rfl) (by kernel_rfl) (by kernel_rfl) (by kernel_rfl) (fun _ _ _ h => h) (Or.inl ⟨by rfl, ?_⟩) hHeld ?_
        rotate_left
        · (intro X hSX; (try dsimp only at hSX); obtain ⟨g0, g1, g2, g3, g4, g5⟩ := hSX; go_simp; try with_reducible rfl)
        try simp only [Act.put, List.setIfInBounds_toArray, List.set_cons_zero, List.set_cons_succ]
        refine gt_take (i := 1) (v := ?_) rfl (by kernel_rfl) (by kernel_rfl) (by kernel_rfl) (by kernel_rfl) (fun _ _ _ h => h) (Or.inl ⟨by rfl, ?_⟩) hHeld ?_
        rotate_left
        · (intro X hSX; (try dsimp only at hSX); obtain ⟨g0, g1, g2, g3, g4, g5⟩ := hSX; go_simp; try with_reducible rfl)
        try simp only [Act.put, List.setIfInBounds_toArray, List.set_cons_zero, List.set_cons_succ]
        refine gt_take (i := 2) (v := ?_) rfl (by kernel_rfl) (by kernel_rfl) (by kernel_rfl) (by kernel_rfl) (fun _ _ _ h => h) (Or.inl ⟨by rfl, ?_⟩) hHeld ?_
        rotate_left
        · (intro X hSX; (try dsimp only at hSX); obtain ⟨g0, g1, g2, g3, g4, g5⟩ := hSX; go_simp; try with_reducible rfl)
        try simp only [Act.put, List.setIfInBounds_toArray, List.set_cons_zero, List.set_cons_succ]
        refine gt_one (i := 3) rfl (by kernel_rfl) (by kernel_rfl) (fun K hK => ?_)
        go_simp
        go_at_call 97
        refine hT.mono ?_
        rintro e V1 ⟨(⟨h, _⟩ | ⟨_, T, v, rfl⟩), hb2⟩
        · cases h
        · exact ⟨rfl, .inr ⟨HN2.out, _, _, rfl⟩, HW.out.trans (Wrt.of_below (hbd.trans (hb2.mono hbd.size))) (fun _ _ h => h)⟩
      | true =>
        have HA2 : Hid (∀ j, j < k + 1 → hadB m.rows n (el m.sung j) = true) := HA1.out hh
        rw [hh] at hT
        clear hh
        generalize txtOf m.rows n (q : Int) = t at *
        go_wp2_with fail
        refine gt_begin (S := fun X : World => X.cell? ⟨b1, 0, none⟩ = some (.slice a Z.length c) ∧ X.cell? ⟨b0, 0, none⟩ = some (.int .i64 m.id) ∧ X.cell? ⟨b0, 1, none⟩ = some (.int .i64 m.n) ∧ X.cell? ⟨b0, 2, none⟩ = some (.slice A.ra m.rows.length A.rc) ∧ X.cell? ⟨b0, 3, none⟩ = some (.slice (some ⟨sb, so, none⟩) m.sung.length A.sc) ∧ X.cell? ⟨b0, 4, none⟩ = some (.bool m.done)) 6 hmix (by kernel_rfl) ?_
        have hHeld : (fun X : World => X.cell? ⟨b1, 0, none⟩ = some (.slice a Z.length c) ∧ X.cell? ⟨b0, 0, none⟩ = some (.int .i64 m.id) ∧ X.cell? ⟨b0, 1, none⟩ = some (.int .i64 m.n) ∧ X.cell? ⟨b0, 2, none⟩ = some (.slice A.ra m.rows.length A.rc) ∧ X.cell? ⟨b0, 3, none⟩ = some (.slice (some ⟨sb, so, none⟩) m.sung.length A.sc) ∧ X.cell? ⟨b0, 4, none⟩ = some (.bool m.done)) wr.drew := (KS _ hbd)
        refine gt_take (i := 0) (v := ?_) rfl (by kernel_rfl) (by kernel_rfl) (by kernel_rfl) (by kernel_rfl) (fun _ _ _ h => h) (Or.inl ⟨by rfl, ?_⟩) hHeld ?_
        rotate_left
        · (intro X hSX; (try dsimp only at hSX); obtain ⟨g0, g1, g2, g3, g4, g5⟩ := hSX; go_simp; try with_reducible rfl)
        try simp only [Act.put, List.setIfInBounds_toArray, List.set_cons_zero, List.set_cons_succ]
        refine gt_take (i := 1) (v := ?_) rfl (by kernel_rfl) (by kernel_rfl) (by kernel_rfl) (by kernel_rfl) (fun _ _ _ h => h) (Or.inl ⟨by rfl, ?_⟩) hHeld ?_
        rotate_left
        · (intro X hSX; (try dsimp only at hSX); obtain ⟨g0, g1, g2, g3, g4, g5⟩ := hSX; go_simp; try with_reducible rfl)
        try simp only [Act.put, List.setIfInBounds_toArray, List.set_cons_zero, List.set_cons_succ]
        refine gt_take (i := 2) (v := ?_) rfl (by kernel_rfl) (by kernel_rfl) (by kernel_rfl) (by kernel_rfl) (fun _ _ _ h => h) (Or.inl ⟨by rfl, ?_⟩) hHeld ?_
        rotate_left
        · (intro X hSX; (try dsimp only at hSX); obtain ⟨g0, g1, g2, g3, g4, g5⟩ := hSX; go_simp; try with_reducible rfl)
        try simp only [Act.put, List.setIfInBounds_toArray, List.set_cons_zero, List.set_cons_succ]
        refine gt_one (i := 3) rfl (by kernel_rfl) (by kernel_rfl) (fun K hK => ?_)
        go_simp
        go_at_call 97
        refine hT.mono ?_
        rintro e V1 ⟨(⟨_, rfl⟩ | ⟨h, _⟩), hb2⟩
        case inr => cases h
        have hbV1 : Below wr.heap.size wr V1 := hbd.trans (hb2.mono hbd.size)
        obtain ⟨ta', tc', et, hA⟩ := ow_txt_app t (Cel.ow_below HO.out hbV1) HZl.out
        cases et
        have hba := oneA16 V1 (.cells #[.string (sv t)] 9)
        refine hK.out _ _ (KS _ hbV1) (fun hHeldN => ?_)
        clear hK hHeld
        have hHeld := hHeldN
        try simp only [Act.put, List.setIfInBounds_toArray, List.set_cons_zero, List.set_cons_succ]
        refine gt_one (i := 4) rfl (by kernel_rfl) (by kernel_rfl) (fun K hK => ?_)
        go_simp
        refine hK.out _ _ (KS _ (hbV1.trans (hba.mono hbV1.size))) (fun hHeldN => ?_)
        clear hK hHeld
        have hHeld := hHeldN
        try simp only [Act.put, List.setIfInBounds_toArray, List.set_cons_zero, List.set_cons_succ]
        refine gt_one (i := 5) rfl (by kernel_rfl) (by kernel_rfl) (fun K hK => ?_)
        refine step_append_of (by rfl) _ _ _ _ (by rfl) (.slice a Z.length c) _ (by rfl) (by rfl) hA ⟨rfl, rfl, rfl, rfl⟩ ?_
        rintro v9 w4 ⟨a9, c9, f9, rfl, o9, p9, q9⟩
        have hs1 := hbV1.size
        have hB0 : Bx w4 b0 40 #[.int .i64 m.id, .int .i64 m.n, .slice A.ra m.rows.length A.rc, .slice A.sa m.sung.length A.sc, .bool m.done] := (HY0.out.below hbV1).wrt q9 (fun kk => (hff _ kk).1.2.2.2 rfl)
        have hB1 : Bx w4 b1 50 #[.slice a Z.length c] := (HY1.out.below hbV1).wrt q9 (fun kk => (hff _ kk).1.2.1 rfl)
        have hk9 : w4.cell? ⟨b1, 0, none⟩ = some (.slice a Z.length c) ∧ w4.cell? ⟨b0, 0, none⟩ = some (.int .i64 m.id) ∧ w4.cell? ⟨b0, 1, none⟩ = some (.int .i64 m.n) ∧ w4.cell? ⟨b0, 2, none⟩ = some (.slice A.ra m.rows.length A.rc) ∧ w4.cell? ⟨b0, 3, none⟩ = some (.slice (some ⟨sb, so, none⟩) m.sung.length A.sc) ∧ w4.cell? ⟨b0, 4, none⟩ = some (.bool m.done) := by
          obtain ⟨e0, e1, e2, e3, e4⟩ := Bx.r5 hB0
          rw [HSA.out] at e3
          exact ⟨hB1.at 0 rfl, e0, e1, e2, e3, e4⟩
        have z1 := hB1.f 0
        refine hK.out _ _ hk9 (fun hHeldN => ?_)
        clear hK hHeld
        have hHeld := hHeldN
        try simp only [Act.put, List.setIfInBounds_toArray, List.set_cons_zero, List.set_cons_succ]
        refine gt_last rfl (by kernel_rfl) (by kernel_rfl) (fun K hK => ?_)
        go_simp
        refine hK.out _ _ ?_
        have hWs := Wrt.set w4 b1 0 (.slice a9 (Z.length + 1) c9)
        have HL : Hid ((Z ++ [t]).length = Z.length + 1) := by rw [Hid, List.length_append]; rfl
        have HP0 : Hid (Bx (w4.setCell ⟨b1, 0, none⟩ (.slice a9 (Z.length + 1) c9)) b0 40 #[.int .i64 m.id, .int .i64 m.n, .slice A.ra m.rows.length A.rc, .slice A.sa m.sung.length A.sc, .bool m.done]) := hB0.wrt hWs (fun e => hne e)
        have HP1 : Hid (Bx (w4.setCell ⟨b1, 0, none⟩ (.slice a9 (Z.length + 1) c9)) b1 50 #[.slice a9 (Z ++ [t]).length c9]) := by
          rw [Hid, HL.out]
          simpa using hB1.setC 0 (.slice a9 (Z.length + 1) c9)
        have hf9 : ∀ b, f9 b → (w0.heap.size ≤ b ∧ b ≠ b1 ∧ b ≠ b2 ∧ b ≠ b0) ∧ (f0 b ∨ X.heap.size ≤ b) := fun b hb => by
          rcases p9 b hb with kk | kk
          · exact hff b kk
          · have := HB.out.size
            exact ⟨⟨by omega, by omega, by omega, by omega⟩, .inr (by omega)⟩
        have HP2 : Hid (Cel.ow (w4.setCell ⟨b1, 0, none⟩ (.slice a9 (Z.length + 1) c9)) (scl (Z ++ [t])) (.slice a9 (Z ++ [t]).length c9) f9) := by
          rw [Hid, HL.out]
          exact Cel.ow_wrt o9 hWs (fun b hb e => (hf9 b hb).1.2.1 e)
        have HP3 : Hid (∀ b, f9 b → (w0.heap.size ≤ b ∧ b ≠ b1 ∧ b ≠ b2 ∧ b ≠ b0) ∧ (f0 b ∨ X.heap.size ≤ b)) := hf9
        have hW4 : Wrt (fun x => x = b1 ∨ f0 x) X w4 := (HW.out.trans (Wrt.of_below hbV1) (fun _ _ h => h)).trans q9 (fun b hbl hb => ((hff b hb).2).elim (fun h => .inr h) (fun h => absurd hbl (by omega)))
        have HP4 : Hid (Wrt (fun x => x = b1 ∨ f0 x) X (w4.setCell ⟨b1, 0, none⟩ (.slice a9 (Z.length + 1) c9))) := hW4.trans hWs (fun _ _ h => .inl h)
        have HP5 : Hid (Below w0.heap.size w0 (w4.setCell ⟨b1, 0, none⟩ (.slice a9 (Z.length + 1) c9))) := hWs.below (q9.below (HB.out.trans (hbV1.mono HB.out.size)) (HB.out.trans (hbV1.mono HB.out.size)).size (fun b hb => (hff b hb).1.1)) (q9.below (HB.out.trans (hbV1.mono HB.out.size)) (HB.out.trans (hbV1.mono HB.out.size)).size (fun b hb => (hff b hb).1.1)).size (fun b e => by omega)
        clear hHeld hK hk9 z1 hB0 hB1 o9 p9 q9 hA hW4 hWs hf9 KS hbd hbV1 hba hT
        generalize w4.setCell ⟨b1, 0, none⟩ (.slice a9 (Z.length + 1) c9) = W9 at *
        go_wp2
        go_roundw
        case rel => exact ⟨k + 1, a9, c9, Z ++ [t], f9, by omega, by go_num, HZ1.out.symm, HA2, by rw [← HSA.out]; exact HP0.out, HP1.out, HP2.out, HP3.out, HP4.out, HP5.out⟩
        case measure => simp [intOf]; omega
    · have k1 : ¬ ((k : Int) < (m.sung.length : Int)) := by omega
      have eZ : Z = m.sung.map (txtOf m.rows n) := by rw [hZ.out, show k = m.sung.length by omega, List.take_length]
      subst eZ
      have HAll : Hid (m.sung.all (hadB m.rows m.k) = true) := by
        rw [Hid, List.all_eq_true, HKn.out]
        intro x hx
        obtain ⟨j, hj, rfl⟩ := List.mem_iff_getElem.1 hx
        have := hAll.out j (by omega)
        simpa [el, hj] using this
      clear hx0 hO hW hB hZ hAll
      have c1 := hx1.at 0 (v := .slice a (m.sung.map (txtOf m.rows n)).length c) rfl
      have HC1 : Hid (wr.cell? ⟨b1, 0, none⟩ = some (.slice a (m.sung.map (txtOf m.rows n)).length c)) := c1
      clear c1 hx1
      go_wp2
      first | go_end0 | go_ret
      refine ⟨.inl ⟨HOk.out, HAll.out, rfl, a, c, f, ?_⟩, HW.out⟩
      rw [HKn.out]
      exact ⟨HC1.out, HO.out, fun b hb => ⟨(hff b hb).1.1, (hff b hb).1.2.1, (hff b hb).1.2.2.1⟩⟩
end Go.Proofs.Ytgfeabgmllkdeaa
