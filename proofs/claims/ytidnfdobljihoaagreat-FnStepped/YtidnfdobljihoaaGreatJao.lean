/-
  Texts in one: Rzj Rzk Rzu Rzv Nmc.
-/
import Derived.Test.YtidnfdobljihoaaGreatJan
import Derived.Test.YtidnfdobljihoaaGreatJam
import Derived.Test.YtidnfdobljihoaaGreatJak
import Derived.BigQuiet
import Derived.Stop.Asserts
namespace Go.Proofs.YtidnfdobljihoaaGreat
set_option linter.unusedVariables false
set_option linter.unusedSimpArgs false
open Go.RowKit Go.Sort
def stV (A : Ra) (r : Rw) : Value := if r.rdy then .iface 161 (rwV A r) else if r.wed then .iface 162 (rwV A r) else .iface 163 (rwV A r)
def flB (r : Rw) : Bool := if r.rdy then r.wed else decide (r.by_ = 0) && decide (r.trm = [])
def lsB (r : Rw) (n : Int) : Bool := !r.rdy || (inB r.by_ 0 (n - 1) && smB r.trm n)
theorem endB_fl (r : Rw) (n : Int) : endB r n = (flB r && lsB r n) := by
 unfold endB flB lsB
 cases r.rdy <;> simp
set_option maxRecDepth 100000 in
set_option maxHeartbeats 1600000 in
theorem flag_any (A : Ra) (r : Rw) (w : World) (hm : r.trm.length ≤ maxLen) :
  Calls Tryz.prog 112 #[rwV A r] w fun e w' => ∃ s,e = .returned (.tuple #[s,.bool (flB r)]) ∧ (flB r = true → s = stV A r) ∧ Below w.heap.size w w' := by
 have hB0 := oneA16 w (.cells (rwC A r) 37)
 have hx := Bx.new w 37 (rwC A r)
 generalize hW : w.alloc (.cells (rwC A r) 37) = W at *
 obtain ⟨ver,txt,got,sus,wed,rdy,by_,trm⟩ := r
 obtain ⟨ta,tc,ga,gc,sa,sc,ma,mc⟩ := A
 have hw0 : w.alloc (.cells #[.int .i64 ver,.slice ta txt.length tc,.slice ga got.length gc,.slice sa sus.length sc,.bool wed,.bool rdy,.int .i64 by_,.slice ma trm.length mc] 37) = W := hW
 obtain ⟨⟨c0,c1,c2,c3⟩,c4,c5,c6,c7⟩ := Bx.r8 hx
 simp only at c0 c1 c2 c3 c4 c5 c6 c7 hm
 have HB0 : Hid (Below w.heap.size w W) := hB0
 unfold maxLen at hm
 unfold rwV rwC
 clear hx hW hB0
 simp only
 cases rdy with
 | true =>
  have HZ : Hid (flB ⟨ver,txt,got,sus,wed,true,by_,trm⟩ = wed) := by rw [Hid,flB];rfl
  go_enter Tryz.func112,Tryz.ntmps112
  go_wp2_with fail
  go_quiet (fail)
  go_wp2
  refine bodyPost_ret (v := .tuple #[.iface 161 (.agg #[.int .i64 ver,.slice ta txt.length tc,.slice ga got.length gc,.slice sa sus.length sc,.bool wed,.bool true,.int .i64 by_,.slice ma trm.length mc]),.bool wed]) (by simp [results,Tryz.results112,go_sem, *]) rfl ?_
  exact ⟨stV ⟨ta,tc,ga,gc,sa,sc,ma,mc⟩ ⟨ver,txt,got,sus,wed,true,by_,trm⟩,by rw [HZ.out];rfl,fun _ => rfl,belowN HB0.out⟩
 | false =>
  by_cases hy : by_ = 0
  ·have e1 : (by_ != 0) = false := by simpa using hy
   by_cases ht : trm = []
   ·have g1 : ¬ ((0 : Int) < (trm.length : Int)) := by rw [ht];simp
    have HZ : Hid (flB ⟨ver,txt,got,sus,wed,false,by_,trm⟩ = true) := by rw [Hid,flB];simp [hy,ht]
    clear hy ht
    cases wed with
    | true =>
     go_enter Tryz.func112,Tryz.ntmps112
     go_wp2
     refine bodyPost_ret (v := .tuple #[.iface 162 (.agg #[.int .i64 ver,.slice ta txt.length tc,.slice ga got.length gc,.slice sa sus.length sc,.bool true,.bool false,.int .i64 by_,.slice ma trm.length mc]),.bool true]) (by simp [results,Tryz.results112,go_sem, *]) rfl ?_
     exact ⟨stV ⟨ta,tc,ga,gc,sa,sc,ma,mc⟩ ⟨ver,txt,got,sus,true,false,by_,trm⟩,by rw [HZ.out];rfl,fun _ => rfl,HB0.out⟩
    | false =>
     go_enter Tryz.func112,Tryz.ntmps112
     go_wp2
     refine bodyPost_ret (v := .tuple #[.iface 163 (.agg #[.int .i64 ver,.slice ta txt.length tc,.slice ga got.length gc,.slice sa sus.length sc,.bool false,.bool false,.int .i64 by_,.slice ma trm.length mc]),.bool true]) (by simp [results,Tryz.results112,go_sem, *]) rfl ?_
     exact ⟨stV ⟨ta,tc,ga,gc,sa,sc,ma,mc⟩ ⟨ver,txt,got,sus,false,false,by_,trm⟩,by rw [HZ.out];rfl,fun _ => rfl,HB0.out⟩
   ·have g1 : (0 : Int) < (trm.length : Int) := by
     cases trm with
     | nil => exact absurd rfl ht
     | cons x xs => simp only [List.length_cons];omega
    have HZ : Hid (flB ⟨ver,txt,got,sus,wed,false,by_,trm⟩ = false) := by rw [Hid,flB];simp [ht]
    clear hy ht
    go_enter Tryz.func112,Tryz.ntmps112
    go_wp2
    refine bodyPost_ret (v := .tuple #[.nilIface,.bool false]) (by simp [results,Tryz.results112,go_sem, *]) rfl ?_
    exact ⟨.nilIface,by rw [HZ.out],fun h => (by rw [HZ.out] at h;cases h),HB0.out⟩
  ·have e1 : (by_ != 0) = true := by simpa using hy
   have HZ : Hid (flB ⟨ver,txt,got,sus,wed,false,by_,trm⟩ = false) := by rw [Hid,flB];simp [hy]
   clear hy
   go_enter Tryz.func112,Tryz.ntmps112
   go_wp2
   refine bodyPost_ret (v := .tuple #[.nilIface,.bool false]) (by simp [results,Tryz.results112,go_sem, *]) rfl ?_
   exact ⟨.nilIface,by rw [HZ.out],fun h => (by rw [HZ.out] at h;cases h),HB0.out⟩
theorem asE_any (v : Value) (w : World) : (Instr.typeAssert (.iface 161 v) 79 165 true).run Tryz.prog w = .ok (.tuple #[.iface 161 v,.bool true]) w := by kernel_rfl
theorem asW_any (v : Value) (w : World) : (Instr.typeAssert (.iface 162 v) 79 165 true).run Tryz.prog w = .ok (.tuple #[.nilIface,.bool false]) w := run_typeAssert_lacksB Tryz.underlying165 (by kernel_rfl) (by kernel_rfl) v 79 w
theorem asS_any (v : Value) (w : World) : (Instr.typeAssert (.iface 163 v) 79 165 true).run Tryz.prog w = .ok (.tuple #[.nilIface,.bool false]) w := run_typeAssert_lacksB Tryz.underlying165 (by kernel_rfl) (by kernel_rfl) v 79 w
theorem mtE_any (v : Value) (w : World) : (Go.method 329 161 v "loop.example/g00266/impl.end").run Tryz.prog w = .ok (225, v) w := by kernel_rfl
theorem mbE_any (v : Value) (w : World) : (Go.method 329 161 v "loop.example/g00266/impl.mayBecome").run Tryz.prog w = .ok (226, v) w := by kernel_rfl
theorem mbW_any (v : Value) (w : World) : (Go.method 329 162 v "loop.example/g00266/impl.mayBecome").run Tryz.prog w = .ok (231, v) w := by kernel_rfl
theorem mbS_any (v : Value) (w : World) : (Go.method 329 163 v "loop.example/g00266/impl.mayBecome").run Tryz.prog w = .ok (232, v) w := by kernel_rfl
set_option maxRecDepth 100000 in
set_option maxHeartbeats 800000 in
theorem endI_any (A : Ra) (r : Rw) (w : World) :
  Calls Tryz.prog 225 #[rwV A r] w fun e w' => e = .returned (.tuple #[.int .i64 r.by_,.slice A.ma r.trm.length A.mc]) ∧ Below w.heap.size w w' := by
 have hB0 := oneA16 w (.cells (rwC A r) 161)
 have hx := Bx.new w 161 (rwC A r)
 generalize hW : w.alloc (.cells (rwC A r) 161) = W at *
 obtain ⟨ver,txt,got,sus,wed,rdy,by_,trm⟩ := r
 obtain ⟨ta,tc,ga,gc,sa,sc,ma,mc⟩ := A
 have hw0 : w.alloc (.cells #[.int .i64 ver,.slice ta txt.length tc,.slice ga got.length gc,.slice sa sus.length sc,.bool wed,.bool rdy,.int .i64 by_,.slice ma trm.length mc] 161) = W := hW
 obtain ⟨⟨c0,c1,c2,c3⟩,c4,c5,c6,c7⟩ := Bx.r8 hx
 simp only at c0 c1 c2 c3 c4 c5 c6 c7
 have HB0 : Hid (Below w.heap.size w W) := hB0
 unfold rwV rwC
 clear hx hW hB0
 simp only
 go_enter Tryz.func225,Tryz.ntmps225
 go_wp2_with fail
 go_quiet (fail)
 go_wp2
 refine bodyPost_ret (v := .tuple #[.int .i64 by_,.slice ma trm.length mc]) (by simp [results,Tryz.results225,go_sem, *]) rfl ?_
 exact ⟨rfl,belowN HB0.out⟩
set_option maxRecDepth 100000 in
set_option maxHeartbeats 1600000 in
theorem endR_any (A : Ra) (r : Rw) (n : Int) (w : World) (hv : RwP w A r) (hn : 1 ≤ n ∧ n ≤ 5) :
  Calls Tryz.prog 113 #[stV A r,.int .i64 n] w fun e w' => e = .returned (.bool (lsB r n)) ∧ Below w.heap.size w w' := by
 have hwn : wrap64 (n - 1) = n - 1 := by unfold wrap64;omega
 clear hn
 cases e1 : r.rdy with
 | false =>
  have HZ : Hid (lsB r n = true) := by rw [Hid,lsB,e1];rfl
  unfold stV
  rw [e1]
  clear e1 hv
  cases e2 : r.wed with
  | false =>
   clear e2
   generalize rwV A r = v
   have ha := asS_any v
   simp only [Bool.false_eq_true,if_false]
   go_enter Tryz.func113,Tryz.ntmps113
   go_wp2
   go_ret
   exact ⟨ret_bool (by rw [HZ.out]),Below.refl _ _⟩
  | true =>
   clear e2
   generalize rwV A r = v
   have ha := asW_any v
   simp only [Bool.false_eq_true,if_false,if_true]
   go_enter Tryz.func113,Tryz.ntmps113
   go_wp2
   go_ret
   exact ⟨ret_bool (by rw [HZ.out]),Below.refl _ _⟩
 | true =>
  have hE := fun X => endI_any A r X
  have HC : Hid (∀ X,Below w.heap.size w X → Calls Tryz.prog 111 #[.slice A.ma r.trm.length A.mc,.int .i64 n] X fun e w' => e = .returned (.bool (smB r.trm n)) ∧ ∃ m,w' = X.drewN m) := fun X h => areCt_any A.ma A.mc r.trm n X (hv.below h).trm.vec hv.trm.le hv.trm.mx
  have HZ : Hid (lsB r n = (inB r.by_ 0 (n - 1) && smB r.trm n)) := by rw [Hid,lsB,e1];rfl
  unfold stV
  rw [e1]
  clear e1 hv
  generalize rwV A r = v at *
  generalize r.by_ = Y at *
  generalize r.trm.length = L at *
  generalize smB r.trm n = Q at *
  obtain ⟨ta,tc,ga,gc,sa,sc,ma,mc⟩ := A
  simp only at hE HC
  have ha := asE_any v
  have hm := mtE_any v
  simp only [if_true]
  cases e2 : inB Y 0 (n - 1) with
  | false =>
   rw [e2] at HZ
   go_enter Tryz.func113,Tryz.ntmps113
   go_wp2_with (first | (go_at_call 225;refine (hE _).mono ?_;rintro e w1 ⟨rfl,hb1⟩) | (go_at_call 100;refine (isW14_any _ _ _).mono ?_;rintro e w' ⟨rfl,hw'⟩;rw [hw',e2];clear hw'))
   go_ret
   exact ⟨ret_bool (by rw [HZ.out];rfl),hb1⟩
  | true =>
   rw [e2] at HZ
   go_enter Tryz.func113,Tryz.ntmps113
   go_wp2_with (first | (go_at_call 225;refine (hE _).mono ?_;rintro e w1 ⟨rfl,hb1⟩) | (go_at_call 100;refine (isW14_any _ _ _).mono ?_;rintro e w' ⟨rfl,hw'⟩;rw [hw',e2];clear hw') | (go_at_call 111;refine (HC.out _ hb1).mono ?_;rintro e w' ⟨rfl,m1,rfl⟩))
   go_ret
   exact ⟨ret_bool (by rw [HZ.out];rfl),belowN hb1⟩
end Go.Proofs.YtidnfdobljihoaaGreat
namespace Go.Proofs.YtidnfdobljihoaaGreat
set_option linter.unusedVariables false
set_option linter.unusedSimpArgs false
open Go.RowKit Go.Sort
theorem okRw_tx {r : Rw} {n : Int} (h : txB r.txt = false) : okRw r n = false := by
 rw [txB,Bool.and_eq_false_iff] at h
 rw [okRw]
 rcases h with h | h <;> simp [h]
theorem okRw_ends {r : Rw} {n : Int} (h1 : inB n 1 5 = true) (h2 : inB r.ver 0 1000000 = true) (h3 : txB r.txt = true) (h4 : smB r.got n = true) (h5 : susB r.sus n = true) : okRw r n = (flB r && lsB r n) := by
 rw [txB,Bool.and_eq_true] at h3
 rw [← endB_fl,okRw,h1,h2,h3.1,h3.2,h4,h5]
 rfl
set_option maxRecDepth 100000 in
set_option maxHeartbeats 3200000 in
theorem stOf_any (A : Ra) (r : Rw) (n : Int) (w : World) (hv : RwP w A r) :
  Calls Tryz.prog 52 #[rwV A r,.int .i64 n] w fun e w' => ∃ s,e = .returned (.tuple #[s,.bool (okRw r n)]) ∧ (okRw r n = true → s = stV A r) ∧ Below w.heap.size w w' := by
 have hB0 := oneA16 w (.cells (rwC A r) 37)
 have hx := Bx.new w 37 (rwC A r)
 have h0 := hv.below hB0
 generalize hW : w.alloc (.cells (rwC A r) 37) = W at *
 have hS := h0.rws
 have hTx := areTx_any A.ta A.tc r.txt W h0.txt.txs hS.mt
 have hCt := areCt_any A.ga A.gc r.got n W h0.got.vec h0.got.le h0.got.mx
 have hSu : ∀ m,Calls Tryz.prog 102 #[.slice A.sa r.sus.length A.sc,.int .i64 (n - 1)] (W.drewN m) fun e w' => e = .returned (.bool (susB r.sus n)) ∧ w' = W.drewN m := fun m => by
  have := rw14_any A.sa r.sus.length A.sc n r.sus (W.drewN m) (h0.below (belowN (Below.refl _ _))).sus.vec hS.ms
  rw [sus_row] at this
  exact this
 have hFl := fun X => flag_any A r X hS.mm
 have hEn : ∀ X,Below W.heap.size W X → 1 ≤ n ∧ n ≤ 5 → Calls Tryz.prog 113 #[stV A r,.int .i64 n] X fun e w' => e = .returned (.bool (lsB r n)) ∧ Below X.heap.size X w' := fun X h hn => endR_any A r n X (h0.below h) hn
 have HZn : Hid (inB n 1 5 = false → okRw r n = false) := fun h => okRw_n h
 have HZv : Hid (inB r.ver 0 1000000 = false → okRw r n = false) := fun h => okRw_v h
 have HZt : Hid (txB r.txt = false → okRw r n = false) := fun h => okRw_tx h
 have HZg : Hid (smB r.got n = false → okRw r n = false) := fun h => okRw_g h
 have HZs : Hid (susB r.sus n = false → okRw r n = false) := fun h => okRw_s h
 have HZe : Hid (inB n 1 5 = true → inB r.ver 0 1000000 = true → txB r.txt = true → smB r.got n = true → susB r.sus n = true → okRw r n = (flB r && lsB r n)) := fun a b c d e => okRw_ends a b c d e
 have HB0 : Hid (Below w.heap.size w W) := hB0
 have HSt : Hid (∀ s : Value,s = stV A r → s = stV A r) := fun _ h => h
 generalize hq : okRw r n = Q at *
 clear hq
 generalize stV A r = V at *
 generalize flB r = fl at *
 generalize lsB r n = ls at *
 generalize txB r.txt = tb at *
 generalize smB r.got n = sg at *
 generalize susB r.sus n = sb at *
 obtain ⟨ver,txt,got,sus,wed,rdy,by_,trm⟩ := r
 obtain ⟨ta,tc,ga,gc,sa,sc,ma,mc⟩ := A
 have hw0 : w.alloc (.cells #[.int .i64 ver,.slice ta txt.length tc,.slice ga got.length gc,.slice sa sus.length sc,.bool wed,.bool rdy,.int .i64 by_,.slice ma trm.length mc] 37) = W := hW
 obtain ⟨⟨c0,c1,c2,c3⟩,c4,c5,c6,c7⟩ := Bx.r8 hx
 simp only [rwV,rwC] at c0 c1 c2 c3 c4 c5 c6 c7 hTx hCt hSu hFl HZv HZe
 unfold rwV rwC
 clear hv h0 hx hW hB0 hS
 simp only
 cases e1 : inB n 1 5 with
 | false =>
  have HZ : Hid (Q = false) := HZn.out e1
  go_enter Tryz.func52,Tryz.ntmps52
  go_wp2_with (first | (go_at_call 71;refine (isRl_any _ _).mono ?_;rintro e w' ⟨rfl,hw'⟩;rw [hw',e1];clear hw'))
  refine bodyPost_ret (v := .tuple #[.nilIface,.bool false]) (by simp [results,Tryz.results52,go_sem, *]) rfl ?_
  exact ⟨.nilIface,by rw [HZ.out],fun h => (by rw [HZ.out] at h;cases h),HB0.out⟩
 | true =>
 have hn5 := inB7.1 e1
 have hwn : wrap64 (n - 1) = n - 1 := by unfold wrap64;omega
 have hEn2 := fun X h => hEn X h hn5
 have HN1 : Hid (inB n 1 5 = true) := e1
 have hRl : ∀ X,Calls Tryz.prog 71 #[.int .i64 n] X fun e w' => e = .returned (.bool true) ∧ w' = X := fun X => by
  have := isRl_any n X
  rw [e1] at this
  exact this
 clear e1 hEn hn5
 cases e2 : inB ver 0 1000000 with
 | false =>
  have HZ : Hid (Q = false) := HZv.out e2
  go_enter Tryz.func52,Tryz.ntmps52
  go_wp2_with (first | (go_at_call 71;refine (hRl _).mono ?_;rintro e w' ⟨rfl,hw'⟩;rw [hw'];clear hw') | (go_at_call 100;refine (isW14_any _ _ _).mono ?_;rintro e w' ⟨rfl,hw'⟩;rw [hw',e2];clear hw'))
  refine bodyPost_ret (v := .tuple #[.nilIface,.bool false]) (by simp [results,Tryz.results52,go_sem, *]) rfl ?_
  exact ⟨.nilIface,by rw [HZ.out],fun h => (by rw [HZ.out] at h;cases h),HB0.out⟩
 | true =>
 have HN2 : Hid (inB ver 0 1000000 = true) := e2
 have hWi : ∀ X,Calls Tryz.prog 100 #[.int .i64 ver,.int .i64 1000000] X fun e w' => e = .returned (.bool true) ∧ w' = X := fun X => by
  have := isW14_any ver 1000000 X
  rw [e2] at this
  exact this
 clear e2
 cases tb with
 | false =>
  have HZ : Hid (Q = false) := HZt.out rfl
  go_enter Tryz.func52,Tryz.ntmps52
  go_wp2_with (first | (go_at_call 71;refine (hRl _).mono ?_;rintro e w' ⟨rfl,hw'⟩;rw [hw'];clear hw') | (go_at_call 100;refine (hWi _).mono ?_;rintro e w' ⟨rfl,hw'⟩;rw [hw'];clear hw') | (go_at_call 110;refine hTx.mono ?_;rintro e w' ⟨rfl,hw'⟩;rw [hw'];clear hw'))
  refine bodyPost_ret (v := .tuple #[.nilIface,.bool false]) (by simp [results,Tryz.results52,go_sem, *]) rfl ?_
  exact ⟨.nilIface,by rw [HZ.out],fun h => (by rw [HZ.out] at h;cases h),HB0.out⟩
 | true =>
 cases sg with
 | false =>
  have HZ : Hid (Q = false) := HZg.out rfl
  go_enter Tryz.func52,Tryz.ntmps52
  go_wp2_with (first | (go_at_call 71;refine (hRl _).mono ?_;rintro e w' ⟨rfl,hw'⟩;rw [hw'];clear hw') | (go_at_call 100;refine (hWi _).mono ?_;rintro e w' ⟨rfl,hw'⟩;rw [hw'];clear hw') | (go_at_call 110;refine hTx.mono ?_;rintro e w' ⟨rfl,hw'⟩;rw [hw'];clear hw') | (go_at_call 111;refine hCt.mono ?_;rintro e w' ⟨rfl,m1,rfl⟩))
  refine bodyPost_ret (v := .tuple #[.nilIface,.bool false]) (by simp [results,Tryz.results52,go_sem, *]) rfl ?_
  exact ⟨.nilIface,by rw [HZ.out],fun h => (by rw [HZ.out] at h;cases h),belowN HB0.out⟩
 | true =>
 cases sb with
 | false =>
  have HZ : Hid (Q = false) := HZs.out rfl
  go_enter Tryz.func52,Tryz.ntmps52
  go_wp2_with (first | (go_at_call 71;refine (hRl _).mono ?_;rintro e w' ⟨rfl,hw'⟩;rw [hw'];clear hw') | (go_at_call 100;refine (hWi _).mono ?_;rintro e w' ⟨rfl,hw'⟩;rw [hw'];clear hw') | (go_at_call 110;refine hTx.mono ?_;rintro e w' ⟨rfl,hw'⟩;rw [hw'];clear hw') | (go_at_call 111;refine hCt.mono ?_;rintro e w' ⟨rfl,m1,rfl⟩) | (go_at_call 102;refine (hSu _).mono ?_;rintro e w' ⟨rfl,hw'⟩;rw [hw'];clear hw'))
  refine bodyPost_ret (v := .tuple #[.nilIface,.bool false]) (by simp [results,Tryz.results52,go_sem, *]) rfl ?_
  exact ⟨.nilIface,by rw [HZ.out],fun h => (by rw [HZ.out] at h;cases h),belowN HB0.out⟩
 | true =>
 have HE : Hid (Q = (fl && ls)) := HZe.out HN1.out HN2.out rfl rfl rfl
 clear HZn HZv HZt HZg HZs HZe HN1 HN2
 cases fl with
 | false =>
  have HZ : Hid (Q = false) := by rw [Hid,HE.out];rfl
  go_enter Tryz.func52,Tryz.ntmps52
  go_wp2_with (first | (go_at_call 71;refine (hRl _).mono ?_;rintro e w' ⟨rfl,hw'⟩;rw [hw'];clear hw') | (go_at_call 100;refine (hWi _).mono ?_;rintro e w' ⟨rfl,hw'⟩;rw [hw'];clear hw') | (go_at_call 110;refine hTx.mono ?_;rintro e w' ⟨rfl,hw'⟩;rw [hw'];clear hw') | (go_at_call 111;refine hCt.mono ?_;rintro e w' ⟨rfl,m1,rfl⟩) | (go_at_call 102;refine (hSu _).mono ?_;rintro e w' ⟨rfl,hw'⟩;rw [hw'];clear hw') | (go_at_call 112;refine (hFl _).mono ?_;rintro e w1 ⟨s1,rfl,hs1,hb1⟩;have HB1 : Hid (Below w.heap.size w w1) := ((belowN HB0.out).trans (hb1.mono (belowN HB0.out).size));clear hb1 hs1))
  refine bodyPost_ret (v := .tuple #[s1,.bool false]) (by simp [results,Tryz.results52,go_sem, *]) rfl ?_
  exact ⟨s1,by rw [HZ.out],fun h => (by rw [HZ.out] at h;cases h),HB1.out⟩
 | true =>
  have HZ : Hid (Q = ls) := by rw [Hid,HE.out];rfl
  have hF2 : ∀ X,Calls Tryz.prog 112 #[.agg #[.int .i64 ver,.slice ta txt.length tc,.slice ga got.length gc,.slice sa sus.length sc,.bool wed,.bool rdy,.int .i64 by_,.slice ma trm.length mc]] X fun e w' => e = .returned (.tuple #[V,.bool true]) ∧ Below X.heap.size X w' := fun X => (hFl X).mono (fun e w' ⟨s,h1,h2,h3⟩ => ⟨by rw [h1,h2 rfl],h3⟩)
  clear hFl
  have HRf : Hid (∀ m,Below W.heap.size W (W.drewN m)) := fun m => belowN (Below.refl _ _)
  go_enter Tryz.func52,Tryz.ntmps52
  go_wp2_with (first | (go_at_call 71;refine (hRl _).mono ?_;rintro e w' ⟨rfl,hw'⟩;rw [hw'];clear hw') | (go_at_call 100;refine (hWi _).mono ?_;rintro e w' ⟨rfl,hw'⟩;rw [hw'];clear hw') | (go_at_call 110;refine hTx.mono ?_;rintro e w' ⟨rfl,hw'⟩;rw [hw'];clear hw') | (go_at_call 111;refine hCt.mono ?_;rintro e w' ⟨rfl,m1,rfl⟩) | (go_at_call 102;refine (hSu _).mono ?_;rintro e w' ⟨rfl,hw'⟩;rw [hw'];clear hw') | (go_at_call 112;refine (hF2 _).mono ?_;rintro e w1 ⟨rfl,hb1⟩;have HB1 : Hid (Below w.heap.size w w1) := ((belowN HB0.out).trans (hb1.mono (belowN HB0.out).size));have hE3 := hEn2 w1 ((HRf.out m1).trans (hb1.mono (HRf.out m1).size));clear hb1) | (go_at_call 113;refine hE3.mono ?_;rintro e w2 ⟨rfl,hb2⟩;have HB2 : Hid (Below w.heap.size w w2) := (HB1.out.trans (hb2.mono HB1.out.size));clear hb2))
  refine bodyPost_ret (v := .tuple #[V,.bool ls]) (by simp [results,Tryz.results52,go_sem, *]) rfl ?_
  exact ⟨V,by rw [HZ.out],fun _ => rfl,HB2.out⟩
set_option maxRecDepth 100000 in
set_option maxHeartbeats 800000 in
theorem rowI_any (A : Ra) (r : Rw) (n : Int) (w : World) (hv : RwP w A r) :
  Calls Tryz.prog 53 #[rwV A r,.int .i64 n] w fun e w' => e = .returned (.bool (okRw r n)) ∧ Below w.heap.size w w' := by
 have hB0 := oneA16 w (.cells (rwC A r) 37)
 have hx := Bx.new w 37 (rwC A r)
 have h0 := hv.below hB0
 generalize hW : w.alloc (.cells (rwC A r) 37) = W at *
 have hSt : Calls Tryz.prog 52 #[rwV A r,.int .i64 n] W fun e w' => ∃ s,e = .returned (.tuple #[s,.bool (okRw r n)]) ∧ Below W.heap.size W w' := (stOf_any A r n W h0).mono (fun e w' ⟨s,h1,_,h2⟩ => ⟨s,h1,h2⟩)
 have HB0 : Hid (Below w.heap.size w W) := hB0
 generalize okRw r n = Q at *
 obtain ⟨ver,txt,got,sus,wed,rdy,by_,trm⟩ := r
 obtain ⟨ta,tc,ga,gc,sa,sc,ma,mc⟩ := A
 have hw0 : w.alloc (.cells #[.int .i64 ver,.slice ta txt.length tc,.slice ga got.length gc,.slice sa sus.length sc,.bool wed,.bool rdy,.int .i64 by_,.slice ma trm.length mc] 37) = W := hW
 obtain ⟨⟨c0,c1,c2,c3⟩,c4,c5,c6,c7⟩ := Bx.r8 hx
 simp only [rwV,rwC] at c0 c1 c2 c3 c4 c5 c6 c7 hSt
 unfold rwV rwC
 clear hv h0 hx hW hB0
 simp only
 go_enter Tryz.func53,Tryz.ntmps53
 go_wp2_with (go_at_call 52;refine hSt.mono ?_;rintro e w1 ⟨s1,rfl,hb1⟩;have HB1 : Hid (Below w.heap.size w w1) := (HB0.out.trans (hb1.mono HB0.out.size));clear hb1)
 go_ret
 exact ⟨rfl,HB1.out⟩
end Go.Proofs.YtidnfdobljihoaaGreat
namespace Go.Proofs.YtidnfdobljihoaaGreat
set_option linter.unusedVariables false
set_option linter.unusedSimpArgs false
open Go.RowKit Go.Sort
theorem two16 (A B : Ra) (r s : Rw) (T : TypeId) (w : World) : ∃ W,(w.alloc (.cells (rwC A r) T)).alloc (.cells (rwC B s) 37) = W ∧ Bx W w.heap.size T (rwC A r) ∧ Bx W (w.heap.size + 1) 37 (rwC B s) ∧ Below w.heap.size w W := by
 refine ⟨_,rfl,(Bx.new w _ _).alloc _, ?_,(oneA16 w _).trans ((oneA16 _ _).mono (oneA16 w _).size)⟩
 have := Bx.new (w.alloc (.cells (rwC A r) T)) 37 (rwC B s)
 simpa using this
def grwB (r s : Rw) : Bool := decide (r.ver ≤ s.ver) && (begB s.txt r.txt && (underB r.got s.got && r.sus.all (fun x => decide (x ∈ s.sus))))
def mayB (r s : Rw) : Bool := if r.rdy then s.rdy && (decide (r.by_ ≤ s.by_) && grwB r s) else if r.wed then s.wed && grwB r s else grwB r s
theorem fol_may (r s : Rw) (n : Int) : folB r s n = (okRw r n && (okRw s n && mayB r s)) := by
 cases h1 : okRw r n with
 | false => simp [folB,h1]
 | true =>
  cases h2 : okRw s n with
  | false => simp [folB,h2]
  | true =>
   have w1 : r.rdy = true → r.wed = true := fun h => by
    simp only [okRw,h,if_true,Bool.and_eq_true] at h1
    exact h1.2.2.2.2.2.2.1
   have w2 : s.rdy = true → s.wed = true := fun h => by
    simp only [okRw,h,if_true,Bool.and_eq_true] at h2
    exact h2.2.2.2.2.2.2.1
   simp only [folB,h1,h2,mayB,grwB,begB,Bool.true_and]
   cases e1 : r.rdy <;> cases e2 : s.rdy <;> cases e3 : r.wed <;> cases e4 : s.wed <;> simp [e1,e2,e3,e4] at w1 w2 ⊢
   all_goals
    cases decide (r.ver ≤ s.ver) <;> cases decide (r.txt.length ≤ s.txt.length) <;> cases decide (s.txt.take r.txt.length = r.txt) <;> cases underB r.got s.got <;> simp [Bool.and_comm]
set_option maxRecDepth 100000 in
set_option maxHeartbeats 1600000 in
theorem grew_any (A B : Ra) (r s : Rw) (w : World) (hv : RwP w A r) (hu : RwP w B s) :
  Calls Tryz.prog 227 #[rwV A r,rwV B s] w fun e w' => e = .returned (.bool (grwB r s)) ∧ Below w.heap.size w w' := by
 obtain ⟨W,hW,hx,hy,hB0⟩ := two16 A B r s 37 w
 have h0 := hv.below hB0
 have g0 := hu.below hB0
 have hS := h0.rws
 have gS := g0.rws
 have hBg := begW_any B.ta A.ta B.tc A.tc s.txt r.txt W g0.txt hS.txt gS.mt hS.mt
 have hUn : ∀ m,Calls Tryz.prog 229 #[.slice A.ga r.got.length A.gc,.slice B.ga s.got.length B.gc] (W.drewN m) fun e w' => e = .returned (.bool (underB r.got s.got)) ∧ ∃ n,w' = (W.drewN m).drewN n := fun m => implUnder_any A.ga B.ga r.got.length A.gc s.got.length B.gc r.got s.got (W.drewN m) (h0.below (belowN (Below.refl _ _))).got.vec (g0.below (belowN (Below.refl _ _))).got.vec h0.got.le g0.got.le h0.got.mx g0.got.mx
 have hAm : ∀ m,Calls Tryz.prog 198 #[.slice A.sa r.sus.length A.sc,.slice B.sa s.sus.length B.sc] (W.drewN m) fun e w' => e = .returned (.bool (r.sus.all (fun x => decide (x ∈ s.sus)))) ∧ w' = W.drewN m := fun m => ammI_any B.sa A.sa B.sc A.sc s.sus r.sus (W.drewN m) (g0.below (belowN (Below.refl _ _))).sus.vec (h0.below (belowN (Below.refl _ _))).sus.vec gS.ms hS.ms
 have HG : Hid (grwB r s = (decide (r.ver ≤ s.ver) && (begB s.txt r.txt && (underB r.got s.got && r.sus.all (fun x => decide (x ∈ s.sus)))))) := rfl
 generalize grwB r s = G at *
 generalize begB s.txt r.txt = b1 at *
 generalize underB r.got s.got = b2 at *
 generalize r.sus.all (fun x => decide (x ∈ s.sus)) = b3 at *
 have HB0 : Hid (Below w.heap.size w W) := hB0
 obtain ⟨pv,pt,pg,ps,pw,pd,py,pm⟩ := r
 obtain ⟨qv,qt,qg,qs,qw,qd,qy,qm⟩ := s
 obtain ⟨pA,pa,pB,pb,pC,pc,pD,pe⟩ := A
 obtain ⟨qA,qa,qB,qb,qC,qc,qD,qe⟩ := B
 have hw0 : (w.alloc (.cells #[.int .i64 pv,.slice pA pt.length pa,.slice pB pg.length pb,.slice pC ps.length pc,.bool pw,.bool pd,.int .i64 py,.slice pD pm.length pe] 37)).alloc (.cells #[.int .i64 qv,.slice qA qt.length qa,.slice qB qg.length qb,.slice qC qs.length qc,.bool qw,.bool qd,.int .i64 qy,.slice qD qm.length qe] 37) = W := hW
 obtain ⟨⟨c0,c1,c2,c3⟩,c4,c5,c6,c7⟩ := Bx.r8 hx
 obtain ⟨⟨d0,d1,d2,d3⟩,d4,d5,d6,d7⟩ := Bx.r8 hy
 simp only [rwV,rwC] at c0 c1 c2 c3 c4 c5 c6 c7 d0 d1 d2 d3 d4 d5 d6 d7 hBg hUn hAm HG
 unfold rwV rwC
 clear hv hu h0 g0 hx hy hW hB0 hS gS
 simp only
 by_cases hver : pv ≤ qv
 rotate_left
 ·have HZ : Hid (G = false) := by rw [Hid,HG.out,decide_eq_false hver];rfl
  go_enter Tryz.func227,Tryz.ntmps227
  go_wp2
  go_ret
  exact ⟨ret_bool (by rw [HZ.out]),HB0.out⟩
 have HG1 : Hid (G = (b1 && (b2 && b3))) := by rw [Hid,HG.out,decide_eq_true hver];rfl
 clear HG
 cases b1 with
 | false =>
  have HZ : Hid (G = false) := HG1.out
  go_enter Tryz.func227,Tryz.ntmps227
  go_wp2_with (go_at_call 228;refine hBg.mono ?_;rintro e w' ⟨rfl,m1,rfl⟩)
  go_ret
  exact ⟨ret_bool (by rw [HZ.out]),belowN HB0.out⟩
 | true =>
 cases b2 with
 | false =>
  have HZ : Hid (G = false) := HG1.out
  go_enter Tryz.func227,Tryz.ntmps227
  go_wp2_with (first | (go_at_call 228;refine hBg.mono ?_;rintro e w' ⟨rfl,m1,rfl⟩) | (go_at_call 229;refine (hUn _).mono ?_;rintro e w' ⟨rfl,m2,hw'⟩;rw [hw',World.drewN_drewN];clear hw'))
  go_ret
  exact ⟨ret_bool (by rw [HZ.out]),belowN HB0.out⟩
 | true =>
  have HZ : Hid (G = b3) := HG1.out
  go_enter Tryz.func227,Tryz.ntmps227
  go_wp2_with (first | (go_at_call 228;refine hBg.mono ?_;rintro e w' ⟨rfl,m1,rfl⟩) | (go_at_call 229;refine (hUn _).mono ?_;rintro e w' ⟨rfl,m2,hw'⟩;rw [hw',World.drewN_drewN];clear hw') | (go_at_call 198;refine (hAm _).mono ?_;rintro e w' ⟨rfl,hw'⟩;rw [hw'];clear hw'))
  go_ret
  exact ⟨ret_bool (by rw [HZ.out]),belowN HB0.out⟩
set_option maxRecDepth 100000 in
set_option maxHeartbeats 1600000 in
theorem mbcS_any (A B : Ra) (r s : Rw) (w : World) (hv : RwP w A r) (hu : RwP w B s) :
  Calls Tryz.prog 232 #[rwV A r,rwV B s] w fun e w' => e = .returned (.bool (grwB r s)) ∧ Below w.heap.size w w' := by
 obtain ⟨W,hW,hx,hy,hB0⟩ := two16 A B r s 163 w
 have h0 := hv.below hB0
 have g0 := hu.below hB0
 have hGr := grew_any A B r s W h0 g0
 generalize grwB r s = G at *
 have HB0 : Hid (Below w.heap.size w W) := hB0
 obtain ⟨pv,pt,pg,ps,pw,pd,py,pm⟩ := r
 obtain ⟨qv,qt,qg,qs,qw,qd,qy,qm⟩ := s
 obtain ⟨pA,pa,pB,pb,pC,pc,pD,pe⟩ := A
 obtain ⟨qA,qa,qB,qb,qC,qc,qD,qe⟩ := B
 have hw0 : (w.alloc (.cells #[.int .i64 pv,.slice pA pt.length pa,.slice pB pg.length pb,.slice pC ps.length pc,.bool pw,.bool pd,.int .i64 py,.slice pD pm.length pe] 163)).alloc (.cells #[.int .i64 qv,.slice qA qt.length qa,.slice qB qg.length qb,.slice qC qs.length qc,.bool qw,.bool qd,.int .i64 qy,.slice qD qm.length qe] 37) = W := hW
 obtain ⟨⟨c0,c1,c2,c3⟩,c4,c5,c6,c7⟩ := Bx.r8 hx
 obtain ⟨⟨d0,d1,d2,d3⟩,d4,d5,d6,d7⟩ := Bx.r8 hy
 simp only [rwV,rwC] at c0 c1 c2 c3 c4 c5 c6 c7 d0 d1 d2 d3 d4 d5 d6 d7 hGr
 unfold rwV rwC
 clear hv hu h0 g0 hx hy hW hB0
 simp only
 go_enter Tryz.func232,Tryz.ntmps232
 go_wp2_with (go_at_call 227;refine hGr.mono ?_;rintro e w1 ⟨rfl,hb1⟩;have HB1 : Hid (Below w.heap.size w w1) := (HB0.out.trans (hb1.mono HB0.out.size));clear hb1)
 go_ret
 exact ⟨rfl,HB1.out⟩
set_option maxRecDepth 100000 in
set_option maxHeartbeats 1600000 in
theorem mbcW_any (A B : Ra) (r s : Rw) (w : World) (hv : RwP w A r) (hu : RwP w B s) :
  Calls Tryz.prog 231 #[rwV A r,rwV B s] w fun e w' => e = .returned (.bool (s.wed && grwB r s)) ∧ Below w.heap.size w w' := by
 obtain ⟨W,hW,hx,hy,hB0⟩ := two16 A B r s 162 w
 have h0 := hv.below hB0
 have g0 := hu.below hB0
 have hGr := grew_any A B r s W h0 g0
 generalize grwB r s = G at *
 have HB0 : Hid (Below w.heap.size w W) := hB0
 obtain ⟨pv,pt,pg,ps,pw,pd,py,pm⟩ := r
 obtain ⟨qv,qt,qg,qs,qw,qd,qy,qm⟩ := s
 obtain ⟨pA,pa,pB,pb,pC,pc,pD,pe⟩ := A
 obtain ⟨qA,qa,qB,qb,qC,qc,qD,qe⟩ := B
 have hw0 : (w.alloc (.cells #[.int .i64 pv,.slice pA pt.length pa,.slice pB pg.length pb,.slice pC ps.length pc,.bool pw,.bool pd,.int .i64 py,.slice pD pm.length pe] 162)).alloc (.cells #[.int .i64 qv,.slice qA qt.length qa,.slice qB qg.length qb,.slice qC qs.length qc,.bool qw,.bool qd,.int .i64 qy,.slice qD qm.length qe] 37) = W := hW
 obtain ⟨⟨c0,c1,c2,c3⟩,c4,c5,c6,c7⟩ := Bx.r8 hx
 obtain ⟨⟨d0,d1,d2,d3⟩,d4,d5,d6,d7⟩ := Bx.r8 hy
 simp only [rwV,rwC] at c0 c1 c2 c3 c4 c5 c6 c7 d0 d1 d2 d3 d4 d5 d6 d7 hGr
 unfold rwV rwC
 clear hv hu h0 g0 hx hy hW hB0
 simp only
 cases qw with
 | false =>
  go_enter Tryz.func231,Tryz.ntmps231
  go_wp2
  go_ret
  exact ⟨rfl,HB0.out⟩
 | true =>
  go_enter Tryz.func231,Tryz.ntmps231
  go_wp2_with (go_at_call 227;refine hGr.mono ?_;rintro e w1 ⟨rfl,hb1⟩;have HB1 : Hid (Below w.heap.size w w1) := (HB0.out.trans (hb1.mono HB0.out.size));clear hb1)
  go_ret
  exact ⟨rfl,HB1.out⟩
set_option maxRecDepth 100000 in
set_option maxHeartbeats 1600000 in
theorem mbcE_any (A B : Ra) (r s : Rw) (w : World) (hv : RwP w A r) (hu : RwP w B s) :
  Calls Tryz.prog 226 #[rwV A r,rwV B s] w fun e w' => e = .returned (.bool (s.rdy && (decide (r.by_ ≤ s.by_) && grwB r s))) ∧ Below w.heap.size w w' := by
 obtain ⟨W,hW,hx,hy,hB0⟩ := two16 A B r s 161 w
 have h0 := hv.below hB0
 have g0 := hu.below hB0
 have hGr := grew_any A B r s W h0 g0
 generalize grwB r s = G at *
 have HB0 : Hid (Below w.heap.size w W) := hB0
 obtain ⟨pv,pt,pg,ps,pw,pd,py,pm⟩ := r
 obtain ⟨qv,qt,qg,qs,qw,qd,qy,qm⟩ := s
 obtain ⟨pA,pa,pB,pb,pC,pc,pD,pe⟩ := A
 obtain ⟨qA,qa,qB,qb,qC,qc,qD,qe⟩ := B
 have hw0 : (w.alloc (.cells #[.int .i64 pv,.slice pA pt.length pa,.slice pB pg.length pb,.slice pC ps.length pc,.bool pw,.bool pd,.int .i64 py,.slice pD pm.length pe] 161)).alloc (.cells #[.int .i64 qv,.slice qA qt.length qa,.slice qB qg.length qb,.slice qC qs.length qc,.bool qw,.bool qd,.int .i64 qy,.slice qD qm.length qe] 37) = W := hW
 obtain ⟨⟨c0,c1,c2,c3⟩,c4,c5,c6,c7⟩ := Bx.r8 hx
 obtain ⟨⟨d0,d1,d2,d3⟩,d4,d5,d6,d7⟩ := Bx.r8 hy
 simp only [rwV,rwC] at c0 c1 c2 c3 c4 c5 c6 c7 d0 d1 d2 d3 d4 d5 d6 d7 hGr
 unfold rwV rwC
 clear hv hu h0 g0 hx hy hW hB0
 simp only
 cases qd with
 | false =>
  go_enter Tryz.func226,Tryz.ntmps226
  go_wp2
  go_ret
  exact ⟨rfl,HB0.out⟩
 | true =>
  by_cases hy : py ≤ qy
  ·have HD : Hid (decide (py ≤ qy) = true) := decide_eq_true hy
   go_enter Tryz.func226,Tryz.ntmps226
   go_wp2_with (go_at_call 227;refine hGr.mono ?_;rintro e w1 ⟨rfl,hb1⟩;have HB1 : Hid (Below w.heap.size w w1) := (HB0.out.trans (hb1.mono HB0.out.size));clear hb1)
   go_ret
   exact ⟨ret_bool (by rw [HD.out];rfl),HB1.out⟩
  ·have HD : Hid (decide (py ≤ qy) = false) := decide_eq_false hy
   go_enter Tryz.func226,Tryz.ntmps226
   go_wp2
   go_ret
   exact ⟨ret_bool (by rw [HD.out];rfl),HB0.out⟩
end Go.Proofs.YtidnfdobljihoaaGreat
namespace Go.Proofs.YtidnfdobljihoaaGreat
set_option linter.unusedVariables false
set_option linter.unusedSimpArgs false
open Go.RowKit Go.Sort
theorem mayI_any (A B : Ra) (r s : Rw) : (r.rdy = true → ∀ w,RwP w A r → RwP w B s → Calls Tryz.prog 226 #[rwV A r,rwV B s] w fun e w' => e = .returned (.bool (mayB r s)) ∧ Below w.heap.size w w') ∧ (r.rdy = false → r.wed = true → ∀ w,RwP w A r → RwP w B s → Calls Tryz.prog 231 #[rwV A r,rwV B s] w fun e w' => e = .returned (.bool (mayB r s)) ∧ Below w.heap.size w w') ∧ (r.rdy = false → r.wed = false → ∀ w,RwP w A r → RwP w B s → Calls Tryz.prog 232 #[rwV A r,rwV B s] w fun e w' => e = .returned (.bool (mayB r s)) ∧ Below w.heap.size w w') := by
 refine ⟨fun h w h1 h2 => ?_,fun h h' w h1 h2 => ?_,fun h h' w h1 h2 => ?_⟩
 ·have e : mayB r s = (s.rdy && (decide (r.by_ ≤ s.by_) && grwB r s)) := by rw [mayB,h];rfl
  rw [e]
  exact mbcE_any A B r s w h1 h2
 ·have e : mayB r s = (s.wed && grwB r s) := by rw [mayB,h,h'];rfl
  rw [e]
  exact mbcW_any A B r s w h1 h2
 ·have e : mayB r s = grwB r s := by rw [mayB,h,h'];rfl
  rw [e]
  exact mbcS_any A B r s w h1 h2
set_option maxRecDepth 100000 in
set_option maxHeartbeats 3200000 in
theorem folI_any (A B : Ra) (r s : Rw) (n : Int) (w : World) (hv : RwP w A r) (hu : RwP w B s) :
  Calls Tryz.prog 18 #[rwV A r,rwV B s,.int .i64 n] w fun e w' => e = .returned (.bool (folB r s n)) ∧ Below w.heap.size w w' := by
 obtain ⟨W,hW,hx,hy,hB0⟩ := two16 A B r s 37 w
 have h0 := hv.below hB0
 have g0 := hu.below hB0
 have hSt0 := stOf_any A r n W h0
 have hRo : ∀ X,Below W.heap.size W X → Calls Tryz.prog 53 #[rwV B s,.int .i64 n] X fun e w' => e = .returned (.bool (okRw s n)) ∧ Below X.heap.size X w' := fun X h => rowI_any B s n X (g0.below h)
 obtain ⟨m1,m2,m3⟩ := mayI_any A B r s
 have hM1 := fun h X hX => m1 h X (h0.below hX) (g0.below hX)
 have hM2 := fun h h' X hX => m2 h h' X (h0.below hX) (g0.below hX)
 have hM3 := fun h h' X hX => m3 h h' X (h0.below hX) (g0.below hX)
 have HY0 : Hid (∀ X,Below W.heap.size W X → Bx X (w.heap.size + 1) 37 (rwC B s)) := fun X h => hy.below h
 have HB0 : Hid (Below w.heap.size w W) := hB0
 rw [fol_may r s n]
 generalize okRw r n = o1 at *
 generalize okRw s n = o2 at *
 generalize mayB r s = G at *
 obtain ⟨pv,pt,pg,ps,pw,pd,py,pm⟩ := r
 obtain ⟨qv,qt,qg,qs,qw,qd,qy,qm⟩ := s
 obtain ⟨pA,pa,pB,pb,pC,pc,pD,pe⟩ := A
 obtain ⟨qA,qa,qB,qb,qC,qc,qD,qe⟩ := B
 have hw0 : (w.alloc (.cells #[.int .i64 pv,.slice pA pt.length pa,.slice pB pg.length pb,.slice pC ps.length pc,.bool pw,.bool pd,.int .i64 py,.slice pD pm.length pe] 37)).alloc (.cells #[.int .i64 qv,.slice qA qt.length qa,.slice qB qg.length qb,.slice qC qs.length qc,.bool qw,.bool qd,.int .i64 qy,.slice qD qm.length qe] 37) = W := hW
 have HY : Hid (∀ X,Below W.heap.size W X → Bx X (w.heap.size + 1) 37 #[.int .i64 qv,.slice qA qt.length qa,.slice qB qg.length qb,.slice qC qs.length qc,.bool qw,.bool qd,.int .i64 qy,.slice qD qm.length qe]) := HY0
 obtain ⟨⟨c0,c1,c2,c3⟩,c4,c5,c6,c7⟩ := Bx.r8 hx
 obtain ⟨⟨d0,d1,d2,d3⟩,d4,d5,d6,d7⟩ := Bx.r8 hy
 simp only [rwV,rwC] at c0 c1 c2 c3 c4 c5 c6 c7 d0 d1 d2 d3 d4 d5 d6 d7 hRo hM1 hM2 hM3
 unfold rwV rwC
 clear hv hu h0 g0 hx hy hW hB0 HY0 m1 m2 m3
 simp only
 cases o1 with
 | false =>
  have hSt : Calls Tryz.prog 52 #[.agg #[.int .i64 pv,.slice pA pt.length pa,.slice pB pg.length pb,.slice pC ps.length pc,.bool pw,.bool pd,.int .i64 py,.slice pD pm.length pe],.int .i64 n] W fun e w' => ∃ s,e = .returned (.tuple #[s,.bool false]) ∧ Below W.heap.size W w' := hSt0.mono (fun e w' ⟨s,h1,_,h2⟩ => ⟨s,h1,h2⟩)
  clear hSt0 hM1 hM2 hM3
  go_enter Tryz.func18,Tryz.ntmps18
  go_wp2_with (go_at_call 52;refine hSt.mono ?_;rintro e w1 ⟨s1,rfl,hb1⟩;have HB1 : Hid (Below w.heap.size w w1) := (HB0.out.trans (hb1.mono HB0.out.size));clear c0 c1 c2 c3 c4 c5 c6 c7 d0 d1 d2 d3 d4 d5 d6 d7;obtain ⟨⟨d0,d1,d2,d3⟩,d4,d5,d6,d7⟩ := Bx.r8 (HY.out w1 hb1);have hR := hRo w1 hb1;have hBW1 : Below W.heap.size W w1 := hb1;clear hb1)
  go_ret
  exact ⟨rfl,HB1.out⟩
 | true =>
 have hSt : Calls Tryz.prog 52 #[.agg #[.int .i64 pv,.slice pA pt.length pa,.slice pB pg.length pb,.slice pC ps.length pc,.bool pw,.bool pd,.int .i64 py,.slice pD pm.length pe],.int .i64 n] W fun e w' => e = .returned (.tuple #[stV ⟨pA,pa,pB,pb,pC,pc,pD,pe⟩ ⟨pv,pt,pg,ps,pw,pd,py,pm⟩,.bool true]) ∧ Below W.heap.size W w' := hSt0.mono (fun e w' ⟨s,h1,h2,h3⟩ => ⟨by rw [h1,h2 rfl],h3⟩)
 clear hSt0
 cases pd with
 | true =>
  have hSt : Calls Tryz.prog 52 #[.agg #[.int .i64 pv,.slice pA pt.length pa,.slice pB pg.length pb,.slice pC ps.length pc,.bool pw,.bool true,.int .i64 py,.slice pD pm.length pe],.int .i64 n] W fun e w' => e = .returned (.tuple #[.iface 161 (.agg #[.int .i64 pv,.slice pA pt.length pa,.slice pB pg.length pb,.slice pC ps.length pc,.bool pw,.bool true,.int .i64 py,.slice pD pm.length pe]),.bool true]) ∧ Below W.heap.size W w' := hSt
  have hMa := hM1 rfl
  clear hM1 hM2 hM3
  have hme := mbE_any (.agg #[.int .i64 pv,.slice pA pt.length pa,.slice pB pg.length pb,.slice pC ps.length pc,.bool pw,.bool true,.int .i64 py,.slice pD pm.length pe])
  cases o2 with
  | false =>
   go_enter Tryz.func18,Tryz.ntmps18
   go_wp2_with (first | (go_at_call 52;refine hSt.mono ?_;rintro e w1 ⟨rfl,hb1⟩;have HB1 : Hid (Below w.heap.size w w1) := (HB0.out.trans (hb1.mono HB0.out.size));clear c0 c1 c2 c3 c4 c5 c6 c7 d0 d1 d2 d3 d4 d5 d6 d7;obtain ⟨⟨d0,d1,d2,d3⟩,d4,d5,d6,d7⟩ := Bx.r8 (HY.out w1 hb1);have hR := hRo w1 hb1;have hBW1 : Hid (Below W.heap.size W w1) := hb1;clear hb1) | (go_at_call 53;refine hR.mono ?_;rintro e w2 ⟨rfl,hb2⟩;have HB2 : Hid (Below w.heap.size w w2) := (HB1.out.trans (hb2.mono HB1.out.size));have hBW2 : Below W.heap.size W w2 := (hBW1.out.trans (hb2.mono hBW1.out.size));clear d0 d1 d2 d3 d4 d5 d6 d7;obtain ⟨⟨d0,d1,d2,d3⟩,d4,d5,d6,d7⟩ := Bx.r8 (HY.out w2 hBW2);have hM := hMa w2 hBW2;clear hb2))
   go_ret
   exact ⟨rfl,HB2.out⟩
  | true =>
   go_enter Tryz.func18,Tryz.ntmps18
   go_wp2_with (first | (go_at_call 52;refine hSt.mono ?_;rintro e w1 ⟨rfl,hb1⟩;have HB1 : Hid (Below w.heap.size w w1) := (HB0.out.trans (hb1.mono HB0.out.size));clear c0 c1 c2 c3 c4 c5 c6 c7 d0 d1 d2 d3 d4 d5 d6 d7;obtain ⟨⟨d0,d1,d2,d3⟩,d4,d5,d6,d7⟩ := Bx.r8 (HY.out w1 hb1);have hR := hRo w1 hb1;have hBW1 : Hid (Below W.heap.size W w1) := hb1;clear hb1) | (go_at_call 53;refine hR.mono ?_;rintro e w2 ⟨rfl,hb2⟩;have HB2 : Hid (Below w.heap.size w w2) := (HB1.out.trans (hb2.mono HB1.out.size));have hBW2 : Below W.heap.size W w2 := (hBW1.out.trans (hb2.mono hBW1.out.size));clear d0 d1 d2 d3 d4 d5 d6 d7;obtain ⟨⟨d0,d1,d2,d3⟩,d4,d5,d6,d7⟩ := Bx.r8 (HY.out w2 hBW2);have hM := hMa w2 hBW2;clear hb2) | (go_at_call 226;refine hM.mono ?_;rintro e w3 ⟨rfl,hb3⟩;have HB3 : Hid (Below w.heap.size w w3) := (HB2.out.trans (hb3.mono HB2.out.size));clear hb3))
   go_ret
   exact ⟨rfl,HB3.out⟩
 | false =>
  cases pw with
  | true =>
   have hSt : Calls Tryz.prog 52 #[.agg #[.int .i64 pv,.slice pA pt.length pa,.slice pB pg.length pb,.slice pC ps.length pc,.bool true,.bool false,.int .i64 py,.slice pD pm.length pe],.int .i64 n] W fun e w' => e = .returned (.tuple #[.iface 162 (.agg #[.int .i64 pv,.slice pA pt.length pa,.slice pB pg.length pb,.slice pC ps.length pc,.bool true,.bool false,.int .i64 py,.slice pD pm.length pe]),.bool true]) ∧ Below W.heap.size W w' := hSt
   have hMa := hM2 rfl rfl
   clear hM1 hM2 hM3
   have hme := mbW_any (.agg #[.int .i64 pv,.slice pA pt.length pa,.slice pB pg.length pb,.slice pC ps.length pc,.bool true,.bool false,.int .i64 py,.slice pD pm.length pe])
   cases o2 with
   | false =>
    go_enter Tryz.func18,Tryz.ntmps18
    go_wp2_with (first | (go_at_call 52;refine hSt.mono ?_;rintro e w1 ⟨rfl,hb1⟩;have HB1 : Hid (Below w.heap.size w w1) := (HB0.out.trans (hb1.mono HB0.out.size));clear c0 c1 c2 c3 c4 c5 c6 c7 d0 d1 d2 d3 d4 d5 d6 d7;obtain ⟨⟨d0,d1,d2,d3⟩,d4,d5,d6,d7⟩ := Bx.r8 (HY.out w1 hb1);have hR := hRo w1 hb1;have hBW1 : Hid (Below W.heap.size W w1) := hb1;clear hb1) | (go_at_call 53;refine hR.mono ?_;rintro e w2 ⟨rfl,hb2⟩;have HB2 : Hid (Below w.heap.size w w2) := (HB1.out.trans (hb2.mono HB1.out.size));have hBW2 : Below W.heap.size W w2 := (hBW1.out.trans (hb2.mono hBW1.out.size));clear d0 d1 d2 d3 d4 d5 d6 d7;obtain ⟨⟨d0,d1,d2,d3⟩,d4,d5,d6,d7⟩ := Bx.r8 (HY.out w2 hBW2);have hM := hMa w2 hBW2;clear hb2))
    go_ret
    exact ⟨rfl,HB2.out⟩
   | true =>
    go_enter Tryz.func18,Tryz.ntmps18
    go_wp2_with (first | (go_at_call 52;refine hSt.mono ?_;rintro e w1 ⟨rfl,hb1⟩;have HB1 : Hid (Below w.heap.size w w1) := (HB0.out.trans (hb1.mono HB0.out.size));clear c0 c1 c2 c3 c4 c5 c6 c7 d0 d1 d2 d3 d4 d5 d6 d7;obtain ⟨⟨d0,d1,d2,d3⟩,d4,d5,d6,d7⟩ := Bx.r8 (HY.out w1 hb1);have hR := hRo w1 hb1;have hBW1 : Hid (Below W.heap.size W w1) := hb1;clear hb1) | (go_at_call 53;refine hR.mono ?_;rintro e w2 ⟨rfl,hb2⟩;have HB2 : Hid (Below w.heap.size w w2) := (HB1.out.trans (hb2.mono HB1.out.size));have hBW2 : Below W.heap.size W w2 := (hBW1.out.trans (hb2.mono hBW1.out.size));clear d0 d1 d2 d3 d4 d5 d6 d7;obtain ⟨⟨d0,d1,d2,d3⟩,d4,d5,d6,d7⟩ := Bx.r8 (HY.out w2 hBW2);have hM := hMa w2 hBW2;clear hb2) | (go_at_call 231;refine hM.mono ?_;rintro e w3 ⟨rfl,hb3⟩;have HB3 : Hid (Below w.heap.size w w3) := (HB2.out.trans (hb3.mono HB2.out.size));clear hb3))
    go_ret
    exact ⟨rfl,HB3.out⟩
  | false =>
   have hSt : Calls Tryz.prog 52 #[.agg #[.int .i64 pv,.slice pA pt.length pa,.slice pB pg.length pb,.slice pC ps.length pc,.bool false,.bool false,.int .i64 py,.slice pD pm.length pe],.int .i64 n] W fun e w' => e = .returned (.tuple #[.iface 163 (.agg #[.int .i64 pv,.slice pA pt.length pa,.slice pB pg.length pb,.slice pC ps.length pc,.bool false,.bool false,.int .i64 py,.slice pD pm.length pe]),.bool true]) ∧ Below W.heap.size W w' := hSt
   have hMa := hM3 rfl rfl
   clear hM1 hM2 hM3
   have hme := mbS_any (.agg #[.int .i64 pv,.slice pA pt.length pa,.slice pB pg.length pb,.slice pC ps.length pc,.bool false,.bool false,.int .i64 py,.slice pD pm.length pe])
   cases o2 with
   | false =>
    go_enter Tryz.func18,Tryz.ntmps18
    go_wp2_with (first | (go_at_call 52;refine hSt.mono ?_;rintro e w1 ⟨rfl,hb1⟩;have HB1 : Hid (Below w.heap.size w w1) := (HB0.out.trans (hb1.mono HB0.out.size));clear c0 c1 c2 c3 c4 c5 c6 c7 d0 d1 d2 d3 d4 d5 d6 d7;obtain ⟨⟨d0,d1,d2,d3⟩,d4,d5,d6,d7⟩ := Bx.r8 (HY.out w1 hb1);have hR := hRo w1 hb1;have hBW1 : Hid (Below W.heap.size W w1) := hb1;clear hb1) | (go_at_call 53;refine hR.mono ?_;rintro e w2 ⟨rfl,hb2⟩;have HB2 : Hid (Below w.heap.size w w2) := (HB1.out.trans (hb2.mono HB1.out.size));have hBW2 : Below W.heap.size W w2 := (hBW1.out.trans (hb2.mono hBW1.out.size));clear d0 d1 d2 d3 d4 d5 d6 d7;obtain ⟨⟨d0,d1,d2,d3⟩,d4,d5,d6,d7⟩ := Bx.r8 (HY.out w2 hBW2);have hM := hMa w2 hBW2;clear hb2))
    go_ret
    exact ⟨rfl,HB2.out⟩
   | true =>
    go_enter Tryz.func18,Tryz.ntmps18
    go_wp2_with (first | (go_at_call 52;refine hSt.mono ?_;rintro e w1 ⟨rfl,hb1⟩;have HB1 : Hid (Below w.heap.size w w1) := (HB0.out.trans (hb1.mono HB0.out.size));clear c0 c1 c2 c3 c4 c5 c6 c7 d0 d1 d2 d3 d4 d5 d6 d7;obtain ⟨⟨d0,d1,d2,d3⟩,d4,d5,d6,d7⟩ := Bx.r8 (HY.out w1 hb1);have hR := hRo w1 hb1;have hBW1 : Hid (Below W.heap.size W w1) := hb1;clear hb1) | (go_at_call 53;refine hR.mono ?_;rintro e w2 ⟨rfl,hb2⟩;have HB2 : Hid (Below w.heap.size w w2) := (HB1.out.trans (hb2.mono HB1.out.size));have hBW2 : Below W.heap.size W w2 := (hBW1.out.trans (hb2.mono hBW1.out.size));clear d0 d1 d2 d3 d4 d5 d6 d7;obtain ⟨⟨d0,d1,d2,d3⟩,d4,d5,d6,d7⟩ := Bx.r8 (HY.out w2 hBW2);have hM := hMa w2 hBW2;clear hb2) | (go_at_call 232;refine hM.mono ?_;rintro e w3 ⟨rfl,hb3⟩;have HB3 : Hid (Below w.heap.size w w3) := (HB2.out.trans (hb3.mono HB2.out.size));clear hb3))
    go_ret
    exact ⟨rfl,HB3.out⟩
theorem implFollows : ImplFollows := fun A B r s n w hv hu _ => folI_any A B r s n w hv hu
end Go.Proofs.YtidnfdobljihoaaGreat
namespace Go.Proofs.YtidnfdobljihoaaGreat
set_option linter.unusedVariables false
set_option linter.unusedSimpArgs false
open Go.RowKit Go.Sort
theorem okMb_chk (m : Mb) : okMb m = ((inB m.n 1 5 && (inB m.id 0 (m.n - 1) && decide ((m.rows.length : Int) = m.n))) && (m.rows.all (fun r => okRw r m.n) && ((decide (el m.own.got m.i = (m.own.txt.length : Int)) && decide (m.id ∉ m.own.sus)) && (susB m.sung 60 && (if m.done = true then m.own.rdy else (List.range m.sung.length).all (fun i => decide (el m.sung i = (i : Int)))))))) := by
 have hel : (∀ i,i < m.sung.length → inB (el m.sung i) 0 59 = true) ↔ ∀ x ∈ m.sung,inB x 0 59 = true := by
  constructor
  ·intro h x hx
   obtain ⟨j,hj,rfl⟩ := List.mem_iff_getElem.1 hx
   have := h j hj
   simpa [el,hj] using this
  ·intro h i hi
   exact h _ (el_mem hi)
 rw [Bool.eq_iff_iff]
 unfold okMb okSg susB
 simp only [Bool.and_eq_true,List.all_eq_true,decide_eq_true_eq,List.mem_range,Bool.or_eq_true,Bool.not_eq_true']
 rw [show (60 : Int) - 1 = 59 from rfl]
 constructor
 ·rintro ⟨h1,h2,h3,h4,h5,h6,h7,h8,h9,h10⟩
  refine ⟨⟨h1,h2,h3⟩,h6,⟨h8,h9⟩,⟨hel.1 (fun i hi => (h7 i hi).1),h5⟩, ?_⟩
  split
  ·rename_i hd
   rcases h10 with h | h
   ·rw [hd] at h;cases h
   ·exact h
  ·rename_i hd
   simp only [List.all_eq_true,List.mem_range,decide_eq_true_eq]
   exact fun i hi => ((h7 i hi).2).resolve_left hd
 ·rintro ⟨⟨h1,h2,h3⟩,h6,⟨h8,h9⟩,⟨h7,h5⟩,h10⟩
  refine ⟨h1,h2,h3, ?_,h5,h6,fun i hi => ⟨hel.2 h7 i hi, ?_⟩,h8,h9, ?_⟩
  ·refine ris_short (k := 60) (ris_iff.1 h5) (fun x hx => ?_)
   have := inB7.1 (h7 x hx)
   omega
  ·by_cases hd : m.done = true
   ·exact .inl hd
   ·rw [if_neg hd] at h10
    simp only [List.all_eq_true,List.mem_range,decide_eq_true_eq] at h10
    exact .inr (h10 i hi)
  ·by_cases hd : m.done = true
   ·rw [if_pos hd] at h10;exact .inr h10
   ·exact .inl (by simpa using hd)
theorem MbP.below {w w' : World} {A : Ma} {m : Mb} (h : MbP w A m) (hb : Below w.heap.size w w') : MbP w' A m := by
 obtain ⟨f,hf⟩ := h.own
 exact ⟨⟨f,owL_below hf hb⟩,h.fit,h.i64,h.sz⟩
theorem sum_mem_le {F : Rw → Nat} {r : Rw} : ∀ {R : List Rw},r ∈ R → F r ≤ (R.map F).sum
 | x :: R,h => by
  rw [List.map_cons,List.sum_cons]
  rcases List.mem_cons.1 h with h | h
  ·rw [h];omega
  ·have := sum_mem_le (F := F) h;omega
theorem szRw_mem {m : Mb} {r : Rw} (h : r ∈ m.rows) : szRw r ≤ szMb m := by
 have := sum_mem_le (F := szRw) h
 unfold szMb szRs szP
 rw [List.take_length]
 omega
theorem MbP.row {w : World} {A : Ma} {m : Mb} (h : MbP w A m) {k : Nat} (hk : k < m.rows.length) : ∃ g off Ak,A.ra = some ⟨g,off,none⟩ ∧ C8 w g (off + k * 8) (.int .i64 (rowN m.rows k).ver) (.slice Ak.ta (rowN m.rows k).txt.length Ak.tc) (.slice Ak.ga (rowN m.rows k).got.length Ak.gc) (.slice Ak.sa (rowN m.rows k).sus.length Ak.sc) (.bool (rowN m.rows k).wed) (.bool (rowN m.rows k).rdy) (.int .i64 (rowN m.rows k).by_) (.slice Ak.ma (rowN m.rows k).trm.length Ak.mc) ∧ RwP w Ak (rowN m.rows k) := by
 obtain ⟨f,hf⟩ := h.own
 obtain ⟨f1,f2,o1,o2,_,_⟩ := owL_two hf
 obtain ⟨g,off,f3,hra,_,_,⟨vs,hpc,hov,_⟩,_⟩ := ow_elF rw8_len (by omega) o1 (rowN_at hk)
 obtain ⟨Ak,rfl,hl⟩ := rw8_ow hov
 have hl8 : (rwC Ak (rowN m.rows k)).toList.length = 8 := rfl
 have c := hpc.cell
 have hfit : FitR (rowN m.rows k) := h.fit.1 _ (rowN_mem hk)
 have hs := szRw_mem (rowN_mem hk)
 exact ⟨g,off,Ak,hra,⟨⟨c 0 (by rw [hl8];omega),c 1 (by rw [hl8];omega),c 2 (by rw [hl8];omega),c 3 (by rw [hl8];omega)⟩,c 4 (by rw [hl8];omega),c 5 (by rw [hl8];omega),c 6 (by rw [hl8];omega),c 7 (by rw [hl8];omega)⟩,it_rwp (owL_it hl (lo := 0) (fun b _ => Nat.zero_le b)) hfit (h.i64.2.2 _ (rowN_mem hk)) (Nat.le_trans hs h.sz)⟩
theorem MbP.mbs {w : World} {A : Ma} {m : Mb} (h : MbP w A m) : MbS w A m := by
 obtain ⟨f,hf⟩ := h.own
 exact mbs_of (owL_vw hf) h.fit
def fromN (s : List Int) : Bool := (List.range s.length).all (fun i => decide (el s i = (i : Int)))
set_option maxRecDepth 100000 in
set_option maxHeartbeats 800000 in
theorem cfn_any (a : Option Addr) (cap : Nat) (xs : List Int) (w : World) (hv : Vec w a xs.length xs) (hm : xs.length ≤ maxLen) :
  Calls Tryz.prog 103 #[.slice a xs.length cap] w fun e w' => e = .returned (.bool (fromN xs)) ∧ w' = w := by
 obtain ⟨_,_,hc⟩ := hv
 unfold maxLen at hm
 have HT : Hid ((∀ j,j < xs.length → el xs j = (j : Int)) → fromN xs = true) := fun h => by
  simp only [Hid,fromN,List.all_eq_true,List.mem_range,decide_eq_true_eq]
  exact h
 have HF : Hid (∀ k,k < xs.length → el xs k ≠ (k : Int) → fromN xs = false) := fun k hk h => by
  rw [Bool.eq_false_iff]
  intro hq
  simp only [fromN,List.all_eq_true,List.mem_range,decide_eq_true_eq] at hq
  exact h (hq k hk)
 generalize fromN xs = Q at *
 go_enter Tryz.func103,Tryz.ntmps103
 go_wp2
 go_loopw [7] (fun i wr => ∃ k : Nat,k ≤ xs.length ∧ i = .int .i64 k ∧ (∀ j,j < k → el xs j = (j : Int)) ∧ wr = w) (fun i _ => xs.length - (intOf i).toNat)
 case atStart => exact ⟨0,Nat.zero_le _,rfl,fun j hj => by omega,rfl⟩
 case round =>
  obtain ⟨k,hk,rfl,hall,rfl⟩ := hrel
  have HA : Hid (∀ j,j < k → el xs j = (j : Int)) := hall
  clear hall
  by_cases hlt : k < xs.length
  ·rcases hc with h0 | ⟨b,off,rfl,hc⟩
   ·omega
   have hck := hc k hlt
   have k1 : (k : Int) < (xs.length : Int) := by omega
   have k0 : (0 : Int) ≤ (k : Int) := by omega
   by_cases he : el xs k = (k : Int)
   ·have HK : Hid (∀ j,j < k + 1 → el xs j = (j : Int)) := fun j hj => by
     by_cases e : j = k
     ·subst e;exact he
     ·exact HA.out j (by omega)
    have e1 : ((el xs k) != (k : Int)) = false := by simp [he]
    clear he hc
    generalize el xs k = x at *
    go_wp2
    go_roundw
    case rel => exact ⟨k + 1,by omega,by go_num,HK.out,by first | rfl | trivial⟩
    case measure => simp [intOf];omega
   ·have HK : Hid (Q = false) := HF.out k hlt he
    have e1 : ((el xs k) != (k : Int)) = true := by simp [he]
    clear he hc
    generalize el xs k = x at *
    go_wp2
    go_ret
    exact ⟨ret_bool (by rw [HK.out]),by first | rfl | trivial⟩
  ·have k1 : ¬ ((k : Int) < (xs.length : Int)) := by omega
   obtain rfl : k = xs.length := by omega
   have HK : Hid (Q = true) := HT.out HA.out
   clear hc
   go_wp2
   go_ret
   exact ⟨ret_bool (by rw [HK.out]),by first | rfl | trivial⟩
theorem okMb_1 {m : Mb} (h : (inB m.n 1 5 && (inB m.id 0 (m.n - 1) && decide ((m.rows.length : Int) = m.n))) = false) : okMb m = false := by rw [okMb_chk,h];rfl
theorem okMb_2 {m : Mb} {k : Nat} (hk : k < m.rows.length) (h : okRw (rowN m.rows k) m.n = false) : okMb m = false := by
 have : m.rows.all (fun r => okRw r m.n) = false := by
  rw [Bool.eq_false_iff]
  intro hq
  rw [List.all_eq_true.1 hq _ (rowN_mem hk)] at h
  cases h
 rw [okMb_chk,this]
 simp
theorem okMb_3 {m : Mb} (h : (decide (el m.own.got m.i = (m.own.txt.length : Int)) && decide (m.id ∉ m.own.sus)) = false) : okMb m = false := by rw [okMb_chk,h];simp
theorem okMb_4 {m : Mb} (h : susB m.sung 60 = false) : okMb m = false := by rw [okMb_chk,h];simp
theorem okMb_5 {m : Mb} (h1 : (inB m.n 1 5 && (inB m.id 0 (m.n - 1) && decide ((m.rows.length : Int) = m.n))) = true) (h2 : ∀ k,k < m.rows.length → okRw (rowN m.rows k) m.n = true) (h3 : (decide (el m.own.got m.i = (m.own.txt.length : Int)) && decide (m.id ∉ m.own.sus)) = true) (h4 : susB m.sung 60 = true) : okMb m = (if m.done = true then m.own.rdy else fromN m.sung) := by
 have : m.rows.all (fun r => okRw r m.n) = true := by
  rw [List.all_eq_true]
  intro r hr
  obtain ⟨k,hk,rfl⟩ := List.mem_iff_getElem.1 hr
  have := h2 k hk
  simpa [rowN,List.getD,hk] using this
 rw [okMb_chk,h1,this,h3,h4]
 rfl
set_option maxRecDepth 100000 in
set_option maxHeartbeats 1600000 in
theorem chk_any (A : Ma) (m : Mb) (w : World) (hv : MbP w A m) :
  Calls Tryz.prog 45 #[mbV A m] w fun e w' => ((okMb m = true ∧ e = .returned (.tuple #[])) ∨ (okMb m = false ∧ Gu e)) ∧ Below w.heap.size w w' := by
 have hmix := mixed17
 have hb0 := oneA16 w (.cells (mbC A m) 27)
 have hx0 := Bx.new w 27 (mbC A m)
 have h0 := hv.below hb0
 unfold mbV mbC at *
 generalize hWW : w.alloc (.cells #[.int .i64 m.id,.int .i64 m.n,.slice A.ra m.rows.length A.rc,.slice A.sa m.sung.length A.sc,.bool m.done] 27) = W at *
 have HB0 : Hid (Below w.heap.size w W) := hb0
 have HP : Hid (MbP W A m) := h0
 have HX : Hid (Bx W w.heap.size 27 #[.int .i64 m.id,.int .i64 m.n,.slice A.ra m.rows.length A.rc,.slice A.sa m.sung.length A.sc,.bool m.done]) := hx0
 obtain ⟨c0,c1,c2,c3,c4⟩ := Bx.r5 hx0
 have hsl := h0.mbs.ms
 have hrl := h0.mbs.mr
 unfold maxLen at hsl hrl
 clear hb0 h0 hx0 hv
 cases e1 : inB m.n 1 5 with
 | false =>
  have HZ : Hid (okMb m = false) := okMb_1 (by rw [e1];rfl)
  go_enter Tryz.func45,Tryz.ntmps45
  go_wp2_with (first | (go_at_call 71;refine (isRl_any _ _).mono ?_;rintro e w' ⟨rfl,hw'⟩;rw [hw',e1];clear hw') | (go_at_call 80;refine (wantF _).mono ?_;rintro e w' ⟨⟨T,v,rfl⟩,hw'⟩;rw [hw'];clear hw'))
  exact ⟨rfl,.inr ⟨HZ.out,_,_,rfl⟩,HB0.out⟩
 | true =>
 have hn5 := inB7.1 e1
 have hwn : wrap64 (m.n - 1) = m.n - 1 := by unfold wrap64;omega
 cases e2 : inB m.id 0 (m.n - 1) with
 | false =>
  have HZ : Hid (okMb m = false) := okMb_1 (by rw [e1,e2];rfl)
  go_enter Tryz.func45,Tryz.ntmps45
  go_wp2_with (first | (go_at_call 71;refine (isRl_any _ _).mono ?_;rintro e w' ⟨rfl,hw'⟩;rw [hw',e1];clear hw') | (go_at_call 100;refine (isW14_any _ _ _).mono ?_;rintro e w' ⟨rfl,hw'⟩;rw [hw',e2];clear hw') | (go_at_call 80;refine (wantF _).mono ?_;rintro e w' ⟨⟨T,v,rfl⟩,hw'⟩;rw [hw'];clear hw'))
  exact ⟨rfl,.inr ⟨HZ.out,_,_,rfl⟩,HB0.out⟩
 | true =>
 have hid := inB7.1 e2
 by_cases e3 : (m.rows.length : Int) = m.n
 case neg =>
  have HZ : Hid (okMb m = false) := okMb_1 (by rw [e1,e2,decide_eq_false e3];rfl)
  have e3' : ((m.rows.length : Int) == m.n) = false := by simpa using e3
  go_enter Tryz.func45,Tryz.ntmps45
  go_wp2_with (first | (go_at_call 71;refine (isRl_any _ _).mono ?_;rintro e w' ⟨rfl,hw'⟩;rw [hw',e1];clear hw') | (go_at_call 100;refine (isW14_any _ _ _).mono ?_;rintro e w' ⟨rfl,hw'⟩;rw [hw',e2];clear hw') | (go_at_call 80;refine (wantF _).mono ?_;rintro e w' ⟨⟨T,v,rfl⟩,hw'⟩;rw [hw'];clear hw'))
  exact ⟨rfl,.inr ⟨HZ.out,_,_,rfl⟩,HB0.out⟩
 have H1 : Hid ((inB m.n 1 5 && (inB m.id 0 (m.n - 1) && decide ((m.rows.length : Int) = m.n))) = true) := by rw [Hid,e1,e2,decide_eq_true e3];rfl
 have e3' : ((m.rows.length : Int) == m.n) = true := by simpa using e3
 have hRl : ∀ X,Calls Tryz.prog 71 #[.int .i64 m.n] X fun e w' => e = .returned (.bool true) ∧ w' = X := fun X => by
  have := isRl_any m.n X
  rw [e1] at this
  exact this
 have hWi : ∀ X,Calls Tryz.prog 100 #[.int .i64 m.id,.int .i64 (m.n - 1)] X fun e w' => e = .returned (.bool true) ∧ w' = X := fun X => by
  have := isW14_any m.id (m.n - 1) X
  rw [e2] at this
  exact this
 have HI : Hid (∃ i : Nat,m.id = (i : Int) ∧ i < m.rows.length ∧ m.i = i) := ⟨m.id.toNat,by omega,by omega,rfl⟩
 have HN : Hid (∃ n : Nat,m.n = (n : Int) ∧ m.rows.length = n ∧ 1 ≤ n ∧ n ≤ 5) := ⟨m.n.toNat,by omega,by omega,by omega,by omega⟩
 clear e1 e2 e3 hid
 go_enter Tryz.func45,Tryz.ntmps45
 go_wp2_with (first | (go_at_call 71;refine (hRl _).mono ?_;rintro e w' ⟨rfl,hw'⟩;rw [hw'];clear hw') | (go_at_call 100;refine (hWi _).mono ?_;rintro e w' ⟨rfl,hw'⟩;rw [hw'];clear hw') | (go_at_call 80;refine (wantT _).mono ?_;rintro e w' ⟨rfl,hw'⟩;rw [hw'];clear hw'))
 clear hRl hWi c0 c1 c2 c3 c4
 go_loopw [28] (fun v wr => ∃ k : Nat,k ≤ m.rows.length ∧ v = .int .i64 (k : Int) ∧ (∀ j,j < k → okRw (rowN m.rows j) m.n = true) ∧ Below W.heap.size W wr) (fun v _ => m.rows.length - (intOf v).toNat)
 case atStart => exact ⟨0,Nat.zero_le _,rfl,fun j hj => by omega,Below.refl _ _⟩
 case round =>
  obtain ⟨k,hk,rfl,hall,hbr⟩ := hrel
  have HA : Hid (∀ j,j < k → okRw (rowN m.rows j) m.n = true) := hall
  have HBr : Hid (Below W.heap.size W wr) := hbr
  obtain ⟨c0,c1,c2,c3,c4⟩ := Bx.r5 (HX.out.below hbr)
  by_cases hlt : k < m.rows.length
  ·obtain ⟨g,off,Ak,hra,⟨⟨d0,d1,d2,d3⟩,d4,d5,d6,d7⟩,hrp⟩ := (HP.out.below hbr).row hlt
   have HZ : Hid (okRw (rowN m.rows k) m.n = false → okMb m = false) := fun h => okMb_2 hlt h
   rw [hra] at *
   have k0 : (0 : Int) ≤ (k : Int) := by omega
   have k1 : (k : Int) < (m.rows.length : Int) := by omega
   have HK : Hid (okRw (rowN m.rows k) m.n = true → ∀ j,j < k + 1 → okRw (rowN m.rows j) m.n = true) := fun h j hj => by
    by_cases e : j = k
    ·subst e;exact h
    ·exact HA.out j (by omega)
   generalize rowN m.rows k = r at *
   have hbl := oneA16 wr (.cells #[.int .i64 r.ver,.slice Ak.ta r.txt.length Ak.tc,.slice Ak.ga r.got.length Ak.gc,.slice Ak.sa r.sus.length Ak.sc,.bool r.wed,.bool r.rdy,.int .i64 r.by_,.slice Ak.ma r.trm.length Ak.mc] 37)
   have hxr := Bx.new wr 37 #[.int .i64 r.ver,.slice Ak.ta r.txt.length Ak.tc,.slice Ak.ga r.got.length Ak.gc,.slice Ak.sa r.sus.length Ak.sc,.bool r.wed,.bool r.rdy,.int .i64 r.by_,.slice Ak.ma r.trm.length Ak.mc]
   have hRo := rowI_any Ak r m.n _ (hrp.below hbl)
   unfold rwV rwC at hRo
   have HBw : Hid (Below W.heap.size W (wr.alloc (.cells #[.int .i64 r.ver,.slice Ak.ta r.txt.length Ak.tc,.slice Ak.ga r.got.length Ak.gc,.slice Ak.sa r.sus.length Ak.sc,.bool r.wed,.bool r.rdy,.int .i64 r.by_,.slice Ak.ma r.trm.length Ak.mc] 37))) := HBr.out.trans (hbl.mono HBr.out.size)
   have c1' := (hbl.cell (World.block_lt_of_cell? _ _ c1)).trans c1
   obtain ⟨⟨x0,x1,x2,x3⟩,x4,x5,x6,x7⟩ := Bx.r8 hxr
   clear hrp hall hbl hxr
   go_upto_region 5 with fail
   generalize wr.alloc (.cells #[.int .i64 r.ver,.slice Ak.ta r.txt.length Ak.tc,.slice Ak.ga r.got.length Ak.gc,.slice Ak.sa r.sus.length Ak.sc,.bool r.wed,.bool r.rdy,.int .i64 r.by_,.slice Ak.ma r.trm.length Ak.mc] 37) = W5 at *
   clear c0 c1 c2 c3 c4 d0 d1 d2 d3 d4 d5 d6 d7
   cases hb : okRw r m.n with
   | false =>
    have HZ1 : Hid (okMb m = false) := HZ.out hb
    rw [hb] at hRo
    go_wp2_with (first | (go_at_call 53;refine hRo.mono ?_;rintro e w1 ⟨rfl,hb1⟩;have HB1 : Hid (Below w.heap.size w w1) := (HB0.out.trans (HBw.out.mono HB0.out.size)).trans (hb1.mono (HB0.out.trans (HBw.out.mono HB0.out.size)).size);clear hb1) | (go_at_call 80;refine (wantF _).mono ?_;rintro e w' ⟨⟨T,v,rfl⟩,hw'⟩;rw [hw'];clear hw'))
    exact ⟨rfl,.inr ⟨HZ1.out,_,_,rfl⟩,HB1.out⟩
   | true =>
    have HK1 := HK.out hb
    have HK2 : Hid (∀ j,j < k + 1 → okRw (rowN m.rows j) m.n = true) := HK1
    rw [hb] at hRo
    clear HK HK1
    go_wp2_with (first | (go_at_call 53;refine hRo.mono ?_;rintro e w1 ⟨rfl,hb1⟩;have HB1 : Hid (Below W.heap.size W w1) := HBw.out.trans (hb1.mono HBw.out.size);clear hb1) | (go_at_call 80;refine (wantT _).mono ?_;rintro e w' ⟨rfl,hw'⟩;rw [hw'];clear hw'))
    go_roundw
    case rel => exact ⟨k + 1,by omega,by go_num,HK2.out,HB1.out⟩
    case measure => simp [intOf];omega
  ·have k1 : ¬ ((k : Int) < (m.rows.length : Int)) := by omega
   obtain rfl : k = m.rows.length := by omega
   have H2 : Hid (∀ j,j < m.rows.length → okRw (rowN m.rows j) m.n = true) := HA.out
   obtain ⟨i,hi,hil,hmi⟩ := HI.out
   obtain ⟨n,hn,hln,hn1,hn5'⟩ := HN.out
   obtain ⟨g,off,Ak,hra,⟨⟨d0,d1,d2,d3⟩,d4,d5,d6,d7⟩,hrp⟩ := (HP.out.below hbr).row hil
   have hgl : i < (rowN m.rows i).got.length := by
    have := okRw_iff.1 (by rw [← hn];exact HA.out i hil : okRw (rowN m.rows i) (n : Int) = true)
    rw [this.gl];omega
   have HOwn : Hid (m.own = rowN m.rows i) := by rw [Hid,Mb.own,hmi]
   have i0 : (0 : Int) ≤ (i : Int) := by omega
   have i1 : (i : Int) < (m.rows.length : Int) := by omega
   have i2 : (i : Int) < ((rowN m.rows i).got.length : Int) := by omega
   have hsu : ∀ X,Below W.heap.size W X → Calls Tryz.prog 102 #[.slice A.sa m.sung.length A.sc,.int .i64 59] X fun e w' => e = .returned (.bool (susB m.sung 60)) ∧ w' = X := fun X hX => by
    have := rw14_any A.sa m.sung.length A.sc 60 m.sung X (HP.out.mbs.sung.below hX (Nat.le_refl _)) HP.out.mbs.ms
    rw [sus_row] at this
    exact this
   have hcf : ∀ X,Below W.heap.size W X → Calls Tryz.prog 103 #[.slice A.sa m.sung.length A.sc] X fun e w' => e = .returned (.bool (fromN m.sung)) ∧ w' = X := fun X hX => cfn_any A.sa A.sc m.sung X (HP.out.mbs.sung.below hX (Nat.le_refl _)) HP.out.mbs.ms
   have H3 : Hid ((decide (el (rowN m.rows i).got i = ((rowN m.rows i).txt.length : Int)) && decide ((i : Int) ∉ (rowN m.rows i).sus)) = false → okMb m = false) := fun h => okMb_3 (by rw [HOwn.out,hmi,hi];exact h)
   have H4 : Hid (susB m.sung 60 = false → okMb m = false) := okMb_4
   have H5 : Hid ((decide (el (rowN m.rows i).got i = ((rowN m.rows i).txt.length : Int)) && decide ((i : Int) ∉ (rowN m.rows i).sus)) = true → susB m.sung 60 = true → okMb m = (if m.done = true then (rowN m.rows i).rdy else fromN m.sung)) := fun h1 h2 => by
    have := okMb_5 H1.out H2.out (by rw [HOwn.out,hmi,hi];exact h1) h2
    rw [HOwn.out] at this
    exact this
   have hgc : ∀ X,Below wr.heap.size wr X → ∃ gb go,Ak.ga = some ⟨gb,go,none⟩ ∧ X.cell? ⟨gb,go + i,none⟩ = some (.int .i64 (el (rowN m.rows i).got i)) := fun X hX => by
    rcases (hrp.below hX).got.vec.2.2 with h | ⟨gb,go,e,h⟩
    ·omega
    ·exact ⟨gb,go,e,h i hgl⟩
   have hCon : ∀ X,Below wr.heap.size wr X → Calls Tryz.prog 101 #[.slice Ak.sa (rowN m.rows i).sus.length Ak.sc,.int .i64 (i : Int)] X fun e w' => e = .returned (.bool (decide ((i : Int) ∈ (rowN m.rows i).sus))) ∧ w' = X := fun X hX => con14_any Ak.sa Ak.sc (rowN m.rows i).sus (i : Int) X (hrp.below hX).sus.vec (hrp.below hX).rws.ms
   rw [hi] at c0
   rw [hra] at c2
   generalize hOK : okMb m = OK at *
   have HOk : Hid (okMb m = OK) := hOK
   clear hOK
   generalize rowN m.rows i = r at *
   generalize hge : el r.got i = gi at *
   generalize susB m.sung 60 = sb at *
   generalize fromN m.sung = fb at *
   have hbl := oneA16 wr (.cells #[.int .i64 r.ver,.slice Ak.ta r.txt.length Ak.tc,.slice Ak.ga r.got.length Ak.gc,.slice Ak.sa r.sus.length Ak.sc,.bool r.wed,.bool r.rdy,.int .i64 r.by_,.slice Ak.ma r.trm.length Ak.mc] 37)
   have hxr := Bx.new wr 37 #[.int .i64 r.ver,.slice Ak.ta r.txt.length Ak.tc,.slice Ak.ga r.got.length Ak.gc,.slice Ak.sa r.sus.length Ak.sc,.bool r.wed,.bool r.rdy,.int .i64 r.by_,.slice Ak.ma r.trm.length Ak.mc]
   have HXr : Hid (Bx (wr.alloc (.cells #[.int .i64 r.ver,.slice Ak.ta r.txt.length Ak.tc,.slice Ak.ga r.got.length Ak.gc,.slice Ak.sa r.sus.length Ak.sc,.bool r.wed,.bool r.rdy,.int .i64 r.by_,.slice Ak.ma r.trm.length Ak.mc] 37)) wr.heap.size 37 #[.int .i64 r.ver,.slice Ak.ta r.txt.length Ak.tc,.slice Ak.ga r.got.length Ak.gc,.slice Ak.sa r.sus.length Ak.sc,.bool r.wed,.bool r.rdy,.int .i64 r.by_,.slice Ak.ma r.trm.length Ak.mc]) := hxr
   have HBw : Hid (Below W.heap.size W (wr.alloc (.cells #[.int .i64 r.ver,.slice Ak.ta r.txt.length Ak.tc,.slice Ak.ga r.got.length Ak.gc,.slice Ak.sa r.sus.length Ak.sc,.bool r.wed,.bool r.rdy,.int .i64 r.by_,.slice Ak.ma r.trm.length Ak.mc] 37))) := HBr.out.trans (hbl.mono HBr.out.size)
   have HBl : Hid (Below wr.heap.size wr (wr.alloc (.cells #[.int .i64 r.ver,.slice Ak.ta r.txt.length Ak.tc,.slice Ak.ga r.got.length Ak.gc,.slice Ak.sa r.sus.length Ak.sc,.bool r.wed,.bool r.rdy,.int .i64 r.by_,.slice Ak.ma r.trm.length Ak.mc] 37))) := hbl
   have HMX : Hid (∀ X,Below W.heap.size W X → Bx X w.heap.size 27 #[.int .i64 m.id,.int .i64 m.n,.slice A.ra m.rows.length A.rc,.slice A.sa m.sung.length A.sc,.bool m.done]) := fun X h => HX.out.below h
   clear hrp hall hbl hxr HP HA hbr H1 H2 HOwn
   have hwl := HX.out.lt
   have hwr2 := HBr.out.size
   go_upto_region 8 with fail
   generalize wr.alloc (.cells #[.int .i64 r.ver,.slice Ak.ta r.txt.length Ak.tc,.slice Ak.ga r.got.length Ak.gc,.slice Ak.sa r.sus.length Ak.sc,.bool r.wed,.bool r.rdy,.int .i64 r.by_,.slice Ak.ma r.trm.length Ak.mc] 37) = W5 at *
   clear c0 c1 c2 c3 c4 d0 d1 d2 d3 d4 d5 d6 d7 hra
   have facts : ∀ X,Below W5.heap.size W5 X → Below W.heap.size W X ∧ Below w.heap.size w X := fun X h => ⟨HBw.out.trans (h.mono HBw.out.size),(HB0.out.trans (HBw.out.mono HB0.out.size)).trans (h.mono (HB0.out.trans (HBw.out.mono HB0.out.size)).size)⟩
   have HFa : Hid (∀ X,Below W5.heap.size W5 X → Below W.heap.size W X ∧ Below w.heap.size w X) := facts
   obtain ⟨⟨x0,x1,x2,x3⟩,x4,x5,x6,x7⟩ := Bx.r8 HXr.out
   obtain ⟨c0,c1,c2,c3,c4⟩ := Bx.r5 (HMX.out _ HBw.out)
   rw [hi] at c0
   obtain ⟨gb,go,hga,hgcell⟩ := hgc _ HBl.out
   rw [hga] at x2
   have T : ∀ {x v},W5.cell? x = some v → ∀ q : Bk W5,q.w.cell? x = some v := fun h q => (q.h.cell (World.block_lt_of_cell? _ _ h)).trans h
   have y0 := T c0
   have y1 := T x1
   have y2 := T x2
   have y3 := T x3
   have y4 := T hgcell
   have hCn : ∀ q : Bk W5,Calls Tryz.prog 101 #[.slice Ak.sa r.sus.length Ak.sc,.int .i64 (i : Int)] q.w fun e w' => e = .returned (.bool (decide ((i : Int) ∈ r.sus))) ∧ Below q.w.heap.size q.w w' := fun q => (hCon q.w (HBl.out.trans (q.h.mono HBl.out.size))).mono (fun e w' h => ⟨h.1,by rw [h.2];exact Below.refl _ _⟩)
   have HL : Hid (m.rows.length = n) := hln
   clear T x0 x1 x2 x3 x4 x5 x6 x7 c0 c1 c2 c3 c4 facts hCon hgc hga hgcell hln hi hmi
   by_cases e7 : gi = (r.txt.length : Int)
   case neg =>
    have HZ : Hid (OK = false) := H3.out (by rw [decide_eq_false e7];rfl)
    have e7' : (gi == (r.txt.length : Int)) = false := by simpa using e7
    clear e7 H3 H4 H5
    refine wp_region_quiet_tail (C := fun w' => ∃ p : Bk W5,w' = p.w) 18 hmix (by kernel_rfl) ⟨⟨W5.drewN 1,belowN (Below.refl _ _)⟩,rfl⟩ ?_
    simp only [List.take_succ_cons,List.take_zero]
    repeat (go_big_quiet_step ((first | (go_at_call 101;exact bk_call _ (hCn _)) | rfl)))
    refine wpQuiet_nil ?_
    intro wE hw'
    obtain ⟨⟨w11,hb11⟩,hw''⟩ := hw'
    have hwe : wE = w11 := hw''
    clear hw''
    subst hwe
    simp only [List.drop_succ_cons,List.drop_zero]
    have HB9 : Hid (Below w.heap.size w wE) := (HFa.out _ hb11).2
    clear y0 y1 y2 y3 y4 hb11
    go_wp2_with (go_at_call 80;refine (wantF _).mono ?_;rintro e w' ⟨⟨T,v,rfl⟩,hw'⟩;rw [hw'];clear hw')
    exact ⟨rfl,.inr ⟨HOk.out.trans HZ.out,_,_,rfl⟩,HB9.out⟩
   have e7' : (gi == (r.txt.length : Int)) = true := by simpa using e7
   by_cases e8 : (i : Int) ∈ r.sus
   ·have HZ : Hid (OK = false) := H3.out (by rw [decide_eq_true e7,decide_eq_false (by simpa using e8)];rfl)
    rw [decide_eq_true e8] at hCn
    clear e7 H3 H4 H5 e8
    refine wp_region_quiet_tail (C := fun w' => ∃ p : Bk W5,w' = p.w) 18 hmix (by kernel_rfl) ⟨⟨W5.drewN 1,belowN (Below.refl _ _)⟩,rfl⟩ ?_
    simp only [List.take_succ_cons,List.take_zero]
    repeat (go_big_quiet_step ((first | (go_at_call 101;exact bk_call _ (hCn _)) | rfl)))
    refine wpQuiet_nil ?_
    intro wE hw'
    obtain ⟨⟨w11,hb11⟩,hw''⟩ := hw'
    have hwe : wE = w11 := hw''
    clear hw''
    subst hwe
    simp only [List.drop_succ_cons,List.drop_zero]
    have HB9 : Hid (Below w.heap.size w wE) := (HFa.out _ hb11).2
    clear y0 y1 y2 y3 y4 hb11
    go_wp2_with (go_at_call 80;refine (wantF _).mono ?_;rintro e w' ⟨⟨T,v,rfl⟩,hw'⟩;rw [hw'];clear hw')
    exact ⟨rfl,.inr ⟨HOk.out.trans HZ.out,_,_,rfl⟩,HB9.out⟩
   have HZ5 : Hid (sb = true → OK = (if m.done = true then r.rdy else fb)) := H5.out (by rw [decide_eq_true e7,decide_eq_true e8];rfl)
   rw [decide_eq_false e8] at hCn
   clear e7 H3 H5 e8
   refine wp_region_quiet_tail (C := fun w' => ∃ p : Bk W5,w' = p.w) 18 hmix (by kernel_rfl) ⟨⟨W5.drewN 1,belowN (Below.refl _ _)⟩,rfl⟩ ?_
   simp only [List.take_succ_cons,List.take_zero]
   repeat (go_big_quiet_step ((first | (go_at_call 101;exact bk_call _ (hCn _)) | rfl)))
   refine wpQuiet_nil ?_
   intro wE hw'
   obtain ⟨⟨w11,hb11⟩,hw''⟩ := hw'
   have hwe : wE = w11 := hw''
   clear hw''
   subst hwe
   simp only [List.drop_succ_cons,List.drop_zero]
   have HB9 : Hid (Below w.heap.size w wE) := (HFa.out _ hb11).2
   have hBW := (HFa.out _ hb11).1
   have hsu9 := hsu _ hBW
   have hcf9 := hcf _ hBW
   obtain ⟨c0,c1,c2,c3,c4⟩ := Bx.r5 (HMX.out _ hBW)
   obtain ⟨⟨x0,x1,x2,x3⟩,x4,x5,x6,x7⟩ := Bx.r8 (HXr.out.below hb11)
   clear y0 y1 y2 y3 y4 hb11 hBW hCn hsu hcf
   cases sb with
   | false =>
    have HZ : Hid (OK = false) := H4.out rfl
    go_wp2_with (first | (go_at_call 102;refine hsu9.mono ?_;rintro e w' ⟨rfl,hw'⟩;rw [hw'];clear hw') | (go_at_call 80;first | (refine (wantT _).mono ?_;rintro e w' ⟨rfl,hw'⟩;rw [hw'];clear hw') | (refine (wantF _).mono ?_;rintro e w' ⟨⟨T,v,rfl⟩,hw'⟩;rw [hw'];clear hw')))
    exact ⟨rfl,.inr ⟨HOk.out.trans HZ.out,_,_,rfl⟩,HB9.out⟩
   | true =>
    have HZ := HZ5.out rfl
    have HZ6 : Hid (OK = (if m.done = true then r.rdy else fb)) := HZ
    clear HZ HZ5 H4
    cases hd : m.done with
    | true =>
     rw [hd] at c4
     cases hr : r.rdy with
     | true =>
      have HZ : Hid (OK = true) := by rw [Hid,HZ6.out,hd,hr];rfl
      rw [hr] at x5
      clear hd hr
      go_wp2_with (first | (go_at_call 102;refine hsu9.mono ?_;rintro e w' ⟨rfl,hw'⟩;rw [hw'];clear hw') | (go_at_call 80;refine (wantT _).mono ?_;rintro e w' ⟨rfl,hw'⟩;rw [hw'];clear hw'))
      first | go_end0 | go_ret
      exact ⟨.inl ⟨HOk.out.trans HZ.out,rfl⟩,HB9.out⟩
     | false =>
      have HZ : Hid (OK = false) := by rw [Hid,HZ6.out,hd,hr];rfl
      rw [hr] at x5
      clear hd hr
      go_wp2_with (first | (go_at_call 102;refine hsu9.mono ?_;rintro e w' ⟨rfl,hw'⟩;rw [hw'];clear hw') | (go_at_call 80;first | (refine (wantT _).mono ?_;rintro e w' ⟨rfl,hw'⟩;rw [hw'];clear hw') | (refine (wantF _).mono ?_;rintro e w' ⟨⟨T,v,rfl⟩,hw'⟩;rw [hw'];clear hw')))
      exact ⟨rfl,.inr ⟨HOk.out.trans HZ.out,_,_,rfl⟩,HB9.out⟩
    | false =>
     rw [hd] at c4
     cases fb with
     | true =>
      have HZ : Hid (OK = true) := by rw [Hid,HZ6.out,hd];rfl
      clear hd
      go_wp2_with (first | (go_at_call 102;refine hsu9.mono ?_;rintro e w' ⟨rfl,hw'⟩;rw [hw'];clear hw') | (go_at_call 103;refine hcf9.mono ?_;rintro e w' ⟨rfl,hw'⟩;rw [hw'];clear hw') | (go_at_call 80;refine (wantT _).mono ?_;rintro e w' ⟨rfl,hw'⟩;rw [hw'];clear hw'))
      first | go_end0 | go_ret
      exact ⟨.inl ⟨HOk.out.trans HZ.out,rfl⟩,HB9.out⟩
     | false =>
      have HZ : Hid (OK = false) := by rw [Hid,HZ6.out,hd];rfl
      clear hd
      go_wp2_with (first | (go_at_call 102;refine hsu9.mono ?_;rintro e w' ⟨rfl,hw'⟩;rw [hw'];clear hw') | (go_at_call 103;refine hcf9.mono ?_;rintro e w' ⟨rfl,hw'⟩;rw [hw'];clear hw') | (go_at_call 80;first | (refine (wantT _).mono ?_;rintro e w' ⟨rfl,hw'⟩;rw [hw'];clear hw') | (refine (wantF _).mono ?_;rintro e w' ⟨⟨T,v,rfl⟩,hw'⟩;rw [hw'];clear hw')))
      exact ⟨rfl,.inr ⟨HOk.out.trans HZ.out,_,_,rfl⟩,HB9.out⟩
set_option maxRecDepth 100000 in
set_option maxHeartbeats 800000 in
theorem memI_any (A : Ma) (m : Mb) (w : World) (hv : MbP w A m) :
  Calls Tryz.prog 17 #[mbV A m] w fun e w' => e = .returned (.bool (okMb m)) ∧ Below w.heap.size w w' := by
 have hmf : ∀ (fn : Fn) (first cap : Array Value) (w : World),(Instr.makeFunc fn first cap).run Tryz.prog w = .ok (.func fn first cap) w := fun _ _ _ _ => rfl
 have hb0 := oneA16 w (.cells (mbC A m) 27)
 have hx0 := Bx.new w 27 (mbC A m)
 have h0 := hv.below hb0
 have hb1 := oneA16 (w.alloc (.cells (mbC A m) 27)) (.cells #[.bool false] 4)
 have hT := told_any 45 #[mbV A m] #[] (w.alloc (.cells (mbC A m) 27)) (fun b X => b = okMb m ∧ Below ((w.alloc (.cells (mbC A m) 27)).alloc (.cells #[.bool false] 4)).heap.size ((w.alloc (.cells (mbC A m) 27)).alloc (.cells #[.bool false] 4)) X) (fun _ _ => enters_of Tryz.func45 (by kernel_rfl) rfl _ _) ((chk_any A m _ (h0.below hb1)).mono (fun e w' ⟨h1,h2⟩ => by
  rcases h1 with ⟨h,h1⟩ | ⟨h,h1⟩
  ·exact .inl ⟨h1,h.symm,h2⟩
  ·exact .inr ⟨h1,h.symm,h2⟩)) (fun b X h => (Bx.new _ _ _).below h.2)
 have hF : ∀ e w',(∃ b X,e = Ending.returned (.bool b) ∧ (b = okMb m ∧ Below ((w.alloc (.cells (mbC A m) 27)).alloc (.cells #[.bool false] 4)).heap.size ((w.alloc (.cells (mbC A m) 27)).alloc (.cells #[.bool false] 4)) X) ∧ Wrt (fun x => x = (w.alloc (.cells (mbC A m) 27)).heap.size) X w') → e = .returned (.bool (okMb m)) ∧ Below w.heap.size w w' := by
  rintro e w' ⟨b,X,rfl,⟨rfl,h1⟩,h2⟩
  have hs := hb0.size
  have hbX := (hb0.trans (hb1.mono hb0.size)).trans (h1.mono (hb0.trans (hb1.mono hb0.size)).size)
  exact ⟨rfl,h2.below hbX hbX.size (fun b e => by omega)⟩
 have hT2 := hT.mono hF
 obtain ⟨c0,c1,c2,c3,c4⟩ := Bx.r5 hx0
 clear hF hT hb1 h0 hx0 hb0 hv
 unfold mbV mbC at *
 generalize okMb m = OK at *
 generalize hWW : w.alloc (.cells #[.int .i64 m.id,.int .i64 m.n,.slice A.ra m.rows.length A.rc,.slice A.sa m.sung.length A.sc,.bool m.done] 27) = W at *
 go_enter Tryz.func17,Tryz.ntmps17
 go_wp2_with (go_at_call 43;refine hT2.mono ?_;rintro e w1 ⟨rfl,hb1⟩;have HB1 : Hid (Below w.heap.size w w1) := hb1;clear hb1)
 go_ret
 exact ⟨rfl,HB1.out⟩
theorem implMemberOk : ImplMemberOk := fun A m w h => memI_any A m w h
end Go.Proofs.YtidnfdobljihoaaGreat