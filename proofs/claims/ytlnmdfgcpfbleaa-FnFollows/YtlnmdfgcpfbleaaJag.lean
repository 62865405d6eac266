/-
  Texts in one: Rzk Rzu Rzv.
-/
import Derived.Test.YtlnmdfgcpfbleaaJaf
namespace Go.Proofs.Ytlnmdfgcpfbleaa
set_option linter.unusedVariables false
set_option linter.unusedSimpArgs false
open Go.RowKit Go.Sort
theorem okRw_tx {r : Rw} {n : Int} (h : txB r.txt = false) : okRw r n = false := by
 rw [txB,Bool.and_eq_false_iff] at h
 rw [okRw]
 rcases h with h | h <;> simp [h]
theorem okRw_ends {r : Rw} {n : Int} (h1 : inB n 1 5 = true) (h2 : inB r.ver 0 1000000 = true) (h3 : txB r.txt = true) (h4 : smB r.got n = true) (h5 : susB r.sus n = true) : okRw r n = (flB r && lsB r n) := by
 rw [txB,Bool.and_eq_true] at h3
 rw [← endB_fl,okRw,h1,h2,h3.1,h3.2,h4,h5]
 rfl
set_option maxRecDepth 100000 in
set_option maxHeartbeats 3200000 in
theorem stOf_any (A : Ra) (r : Rw) (n : Int) (w : World) (hv : RwP w A r) :
  Calls Try.prog 79 #[rwV A r,.int .i64 n] w fun e w' => ∃ s,e = .returned (.tuple #[s,.bool (okRw r n)]) ∧ (okRw r n = true → s = stV A r) ∧ Below w.heap.size w w' := by
 have hB0 := oneA16 w (.cells (rwC A r) 35)
 have hx := Bx.new w 35 (rwC A r)
 have h0 := hv.below hB0
 generalize hW : w.alloc (.cells (rwC A r) 35) = W at *
 have hS := h0.rws
 have hTx := areTx_any A.ta A.tc r.txt W h0.txt.txs hS.mt
 have hCt := areCt_any A.ga A.gc r.got n W h0.got.vec h0.got.le h0.got.mx
 have hSu : ∀ m,Calls Try.prog 117 #[.slice A.sa r.sus.length A.sc,.int .i64 (n - 1)] (W.drewN m) fun e w' => e = .returned (.bool (susB r.sus n)) ∧ w' = W.drewN m := fun m => by
  have := rw14_any A.sa r.sus.length A.sc n r.sus (W.drewN m) (h0.below (belowN (Below.refl _ _))).sus.vec hS.ms
  rw [sus_row] at this
  exact this
 have hFl := fun X => flag_any A r X hS.mm
 have hEn : ∀ X,Below W.heap.size W X → 1 ≤ n ∧ n ≤ 5 → Calls Try.prog 119 #[stV A r,.int .i64 n] X fun e w' => e = .returned (.bool (lsB r n)) ∧ Below X.heap.size X w' := fun X h hn => endR_any A r n X (h0.below h) hn
 have HZn : Hid (inB n 1 5 = false → okRw r n = false) := fun h => okRw_n h
 have HZv : Hid (inB r.ver 0 1000000 = false → okRw r n = false) := fun h => okRw_v h
 have HZt : Hid (txB r.txt = false → okRw r n = false) := fun h => okRw_tx h
 have HZg : Hid (smB r.got n = false → okRw r n = false) := fun h => okRw_g h
 have HZs : Hid (susB r.sus n = false → okRw r n = false) := fun h => okRw_s h
 have HZe : Hid (inB n 1 5 = true → inB r.ver 0 1000000 = true → txB r.txt = true → smB r.got n = true → susB r.sus n = true → okRw r n = (flB r && lsB r n)) := fun a b c d e => okRw_ends a b c d e
 have HB0 : Hid (Below w.heap.size w W) := hB0
 have HSt : Hid (∀ s : Value,s = stV A r → s = stV A r) := fun _ h => h
 generalize hq : okRw r n = Q at *
 clear hq
 generalize stV A r = V at *
 generalize flB r = fl at *
 generalize lsB r n = ls at *
 generalize txB r.txt = tb at *
 generalize smB r.got n = sg at *
 generalize susB r.sus n = sb at *
 obtain ⟨ver,txt,got,sus,wed,rdy,by_,trm⟩ := r
 obtain ⟨ta,tc,ga,gc,sa,sc,ma,mc⟩ := A
 have hw0 : w.alloc (.cells #[.int .i64 ver,.slice ta txt.length tc,.slice ga got.length gc,.slice sa sus.length sc,.bool wed,.bool rdy,.int .i64 by_,.slice ma trm.length mc] 35) = W := hW
 obtain ⟨⟨c0,c1,c2,c3⟩,c4,c5,c6,c7⟩ := Bx.r8 hx
 simp only [rwV,rwC] at c0 c1 c2 c3 c4 c5 c6 c7 hTx hCt hSu hFl HZv HZe
 unfold rwV rwC
 clear hv h0 hx hW hB0 hS
 simp only
 cases e1 : inB n 1 5 with
 | false =>
  have HZ : Hid (Q = false) := HZn.out e1
  go_enter Try.func79,Try.ntmps79
  go_wp2_with (first | (go_at_call 84;refine (isRl_any _ _).mono ?_;rintro e w' ⟨rfl,hw'⟩;rw [hw',e1];clear hw'))
  refine bodyPost_ret (v := .tuple #[.nilIface,.bool false]) (by simp [results,Try.results79,go_sem, *]) rfl ?_
  exact ⟨.nilIface,by rw [HZ.out],fun h => (by rw [HZ.out] at h;cases h),HB0.out⟩
 | true =>
 have hn5 := inB7.1 e1
 have hwn : wrap64 (n - 1) = n - 1 := by unfold wrap64;omega
 have hEn2 := fun X h => hEn X h hn5
 have HN1 : Hid (inB n 1 5 = true) := e1
 have hRl : ∀ X,Calls Try.prog 84 #[.int .i64 n] X fun e w' => e = .returned (.bool true) ∧ w' = X := fun X => by
  have := isRl_any n X
  rw [e1] at this
  exact this
 clear e1 hEn hn5
 cases e2 : inB ver 0 1000000 with
 | false =>
  have HZ : Hid (Q = false) := HZv.out e2
  go_enter Try.func79,Try.ntmps79
  go_wp2_with (first | (go_at_call 84;refine (hRl _).mono ?_;rintro e w' ⟨rfl,hw'⟩;rw [hw'];clear hw') | (go_at_call 114;refine (isW14_any _ _ _).mono ?_;rintro e w' ⟨rfl,hw'⟩;rw [hw',e2];clear hw'))
  refine bodyPost_ret (v := .tuple #[.nilIface,.bool false]) (by simp [results,Try.results79,go_sem, *]) rfl ?_
  exact ⟨.nilIface,by rw [HZ.out],fun h => (by rw [HZ.out] at h;cases h),HB0.out⟩
 | true =>
 have HN2 : Hid (inB ver 0 1000000 = true) := e2
 have hWi : ∀ X,Calls Try.prog 114 #[.int .i64 ver,.int .i64 1000000] X fun e w' => e = .returned (.bool true) ∧ w' = X := fun X => by
  have := isW14_any ver 1000000 X
  rw [e2] at this
  exact this
 clear e2
 cases tb with
 | false =>
  have HZ : Hid (Q = false) := HZt.out rfl
  go_enter Try.func79,Try.ntmps79
  go_wp2_with (first | (go_at_call 84;refine (hRl _).mono ?_;rintro e w' ⟨rfl,hw'⟩;rw [hw'];clear hw') | (go_at_call 114;refine (hWi _).mono ?_;rintro e w' ⟨rfl,hw'⟩;rw [hw'];clear hw') | (go_at_call 115;refine hTx.mono ?_;rintro e w' ⟨rfl,hw'⟩;rw [hw'];clear hw'))
  refine bodyPost_ret (v := .tuple #[.nilIface,.bool false]) (by simp [results,Try.results79,go_sem, *]) rfl ?_
  exact ⟨.nilIface,by rw [HZ.out],fun h => (by rw [HZ.out] at h;cases h),HB0.out⟩
 | true =>
 cases sg with
 | false =>
  have HZ : Hid (Q = false) := HZg.out rfl
  go_enter Try.func79,Try.ntmps79
  go_wp2_with (first | (go_at_call 84;refine (hRl _).mono ?_;rintro e w' ⟨rfl,hw'⟩;rw [hw'];clear hw') | (go_at_call 114;refine (hWi _).mono ?_;rintro e w' ⟨rfl,hw'⟩;rw [hw'];clear hw') | (go_at_call 115;refine hTx.mono ?_;rintro e w' ⟨rfl,hw'⟩;rw [hw'];clear hw') | (go_at_call 116;refine hCt.mono ?_;rintro e w' ⟨rfl,m1,rfl⟩))
  refine bodyPost_ret (v := .tuple #[.nilIface,.bool false]) (by simp [results,Try.results79,go_sem, *]) rfl ?_
  exact ⟨.nilIface,by rw [HZ.out],fun h => (by rw [HZ.out] at h;cases h),belowN HB0.out⟩
 | true =>
 cases sb with
 | false =>
  have HZ : Hid (Q = false) := HZs.out rfl
  go_enter Try.func79,Try.ntmps79
  go_wp2_with (first | (go_at_call 84;refine (hRl _).mono ?_;rintro e w' ⟨rfl,hw'⟩;rw [hw'];clear hw') | (go_at_call 114;refine (hWi _).mono ?_;rintro e w' ⟨rfl,hw'⟩;rw [hw'];clear hw') | (go_at_call 115;refine hTx.mono ?_;rintro e w' ⟨rfl,hw'⟩;rw [hw'];clear hw') | (go_at_call 116;refine hCt.mono ?_;rintro e w' ⟨rfl,m1,rfl⟩) | (go_at_call 117;refine (hSu _).mono ?_;rintro e w' ⟨rfl,hw'⟩;rw [hw'];clear hw'))
  refine bodyPost_ret (v := .tuple #[.nilIface,.bool false]) (by simp [results,Try.results79,go_sem, *]) rfl ?_
  exact ⟨.nilIface,by rw [HZ.out],fun h => (by rw [HZ.out] at h;cases h),belowN HB0.out⟩
 | true =>
 have HE : Hid (Q = (fl && ls)) := HZe.out HN1.out HN2.out rfl rfl rfl
 clear HZn HZv HZt HZg HZs HZe HN1 HN2
 cases fl with
 | false =>
  have HZ : Hid (Q = false) := by rw [Hid,HE.out];rfl
  go_enter Try.func79,Try.ntmps79
  go_wp2_with (first | (go_at_call 84;refine (hRl _).mono ?_;rintro e w' ⟨rfl,hw'⟩;rw [hw'];clear hw') | (go_at_call 114;refine (hWi _).mono ?_;rintro e w' ⟨rfl,hw'⟩;rw [hw'];clear hw') | (go_at_call 115;refine hTx.mono ?_;rintro e w' ⟨rfl,hw'⟩;rw [hw'];clear hw') | (go_at_call 116;refine hCt.mono ?_;rintro e w' ⟨rfl,m1,rfl⟩) | (go_at_call 117;refine (hSu _).mono ?_;rintro e w' ⟨rfl,hw'⟩;rw [hw'];clear hw') | (go_at_call 118;refine (hFl _).mono ?_;rintro e w1 ⟨s1,rfl,hs1,hb1⟩;have HB1 : Hid (Below w.heap.size w w1) := ((belowN HB0.out).trans (hb1.mono (belowN HB0.out).size));clear hb1 hs1))
  refine bodyPost_ret (v := .tuple #[s1,.bool false]) (by simp [results,Try.results79,go_sem, *]) rfl ?_
  exact ⟨s1,by rw [HZ.out],fun h => (by rw [HZ.out] at h;cases h),HB1.out⟩
 | true =>
  have HZ : Hid (Q = ls) := by rw [Hid,HE.out];rfl
  have hF2 : ∀ X,Calls Try.prog 118 #[.agg #[.int .i64 ver,.slice ta txt.length tc,.slice ga got.length gc,.slice sa sus.length sc,.bool wed,.bool rdy,.int .i64 by_,.slice ma trm.length mc]] X fun e w' => e = .returned (.tuple #[V,.bool true]) ∧ Below X.heap.size X w' := fun X => (hFl X).mono (fun e w' ⟨s,h1,h2,h3⟩ => ⟨by rw [h1,h2 rfl],h3⟩)
  clear hFl
  have HRf : Hid (∀ m,Below W.heap.size W (W.drewN m)) := fun m => belowN (Below.refl _ _)
  go_enter Try.func79,Try.ntmps79
  go_wp2_with (first | (go_at_call 84;refine (hRl _).mono ?_;rintro e w' ⟨rfl,hw'⟩;rw [hw'];clear hw') | (go_at_call 114;refine (hWi _).mono ?_;rintro e w' ⟨rfl,hw'⟩;rw [hw'];clear hw') | (go_at_call 115;refine hTx.mono ?_;rintro e w' ⟨rfl,hw'⟩;rw [hw'];clear hw') | (go_at_call 116;refine hCt.mono ?_;rintro e w' ⟨rfl,m1,rfl⟩) | (go_at_call 117;refine (hSu _).mono ?_;rintro e w' ⟨rfl,hw'⟩;rw [hw'];clear hw') | (go_at_call 118;refine (hF2 _).mono ?_;rintro e w1 ⟨rfl,hb1⟩;have HB1 : Hid (Below w.heap.size w w1) := ((belowN HB0.out).trans (hb1.mono (belowN HB0.out).size));have hE3 := hEn2 w1 ((HRf.out m1).trans (hb1.mono (HRf.out m1).size));clear hb1) | (go_at_call 119;refine hE3.mono ?_;rintro e w2 ⟨rfl,hb2⟩;have HB2 : Hid (Below w.heap.size w w2) := (HB1.out.trans (hb2.mono HB1.out.size));clear hb2))
  refine bodyPost_ret (v := .tuple #[V,.bool ls]) (by simp [results,Try.results79,go_sem, *]) rfl ?_
  exact ⟨V,by rw [HZ.out],fun _ => rfl,HB2.out⟩
set_option maxRecDepth 100000 in
set_option maxHeartbeats 800000 in
theorem rowI_any (A : Ra) (r : Rw) (n : Int) (w : World) (hv : RwP w A r) :
  Calls Try.prog 35 #[rwV A r,.int .i64 n] w fun e w' => e = .returned (.bool (okRw r n)) ∧ Below w.heap.size w w' := by
 have hB0 := oneA16 w (.cells (rwC A r) 35)
 have hx := Bx.new w 35 (rwC A r)
 have h0 := hv.below hB0
 generalize hW : w.alloc (.cells (rwC A r) 35) = W at *
 have hSt : Calls Try.prog 79 #[rwV A r,.int .i64 n] W fun e w' => ∃ s,e = .returned (.tuple #[s,.bool (okRw r n)]) ∧ Below W.heap.size W w' := (stOf_any A r n W h0).mono (fun e w' ⟨s,h1,_,h2⟩ => ⟨s,h1,h2⟩)
 have HB0 : Hid (Below w.heap.size w W) := hB0
 generalize okRw r n = Q at *
 obtain ⟨ver,txt,got,sus,wed,rdy,by_,trm⟩ := r
 obtain ⟨ta,tc,ga,gc,sa,sc,ma,mc⟩ := A
 have hw0 : w.alloc (.cells #[.int .i64 ver,.slice ta txt.length tc,.slice ga got.length gc,.slice sa sus.length sc,.bool wed,.bool rdy,.int .i64 by_,.slice ma trm.length mc] 35) = W := hW
 obtain ⟨⟨c0,c1,c2,c3⟩,c4,c5,c6,c7⟩ := Bx.r8 hx
 simp only [rwV,rwC] at c0 c1 c2 c3 c4 c5 c6 c7 hSt
 unfold rwV rwC
 clear hv h0 hx hW hB0
 simp only
 go_enter Try.func35,Try.ntmps35
 go_wp2_with (go_at_call 79;refine hSt.mono ?_;rintro e w1 ⟨s1,rfl,hb1⟩;have HB1 : Hid (Below w.heap.size w w1) := (HB0.out.trans (hb1.mono HB0.out.size));clear hb1)
 go_ret
 exact ⟨rfl,HB1.out⟩
theorem implRowOk : ImplRowOk := fun A r n w hv _ => rowI_any A r n w hv
end Go.Proofs.Ytlnmdfgcpfbleaa
namespace Go.Proofs.Ytlnmdfgcpfbleaa
set_option linter.unusedVariables false
set_option linter.unusedSimpArgs false
open Go.RowKit Go.Sort
theorem two16 (A B : Ra) (r s : Rw) (T : TypeId) (w : World) : ∃ W,(w.alloc (.cells (rwC A r) T)).alloc (.cells (rwC B s) 35) = W ∧ Bx W w.heap.size T (rwC A r) ∧ Bx W (w.heap.size + 1) 35 (rwC B s) ∧ Below w.heap.size w W := by
 refine ⟨_,rfl,(Bx.new w _ _).alloc _, ?_,(oneA16 w _).trans ((oneA16 _ _).mono (oneA16 w _).size)⟩
 have := Bx.new (w.alloc (.cells (rwC A r) T)) 35 (rwC B s)
 simpa using this
def grwB (r s : Rw) : Bool := decide (r.ver ≤ s.ver) && (begB s.txt r.txt && (underB r.got s.got && r.sus.all (fun x => decide (x ∈ s.sus))))
def mayB (r s : Rw) : Bool := if r.rdy then s.rdy && (decide (r.by_ ≤ s.by_) && grwB r s) else if r.wed then s.wed && grwB r s else grwB r s
theorem fol_may (r s : Rw) (n : Int) : folB r s n = (okRw r n && (okRw s n && mayB r s)) := by
 cases h1 : okRw r n with
 | false => simp [folB,h1]
 | true =>
  cases h2 : okRw s n with
  | false => simp [folB,h2]
  | true =>
   have w1 : r.rdy = true → r.wed = true := fun h => by
    simp only [okRw,h,if_true,Bool.and_eq_true] at h1
    exact h1.2.2.2.2.2.2.1
   have w2 : s.rdy = true → s.wed = true := fun h => by
    simp only [okRw,h,if_true,Bool.and_eq_true] at h2
    exact h2.2.2.2.2.2.2.1
   simp only [folB,h1,h2,mayB,grwB,begB,Bool.true_and]
   cases e1 : r.rdy <;> cases e2 : s.rdy <;> cases e3 : r.wed <;> cases e4 : s.wed <;> simp [e1,e2,e3,e4] at w1 w2 ⊢
   all_goals
    cases decide (r.ver ≤ s.ver) <;> cases decide (r.txt.length ≤ s.txt.length) <;> cases decide (s.txt.take r.txt.length = r.txt) <;> cases underB r.got s.got <;> simp [Bool.and_comm]
set_option maxRecDepth 100000 in
set_option maxHeartbeats 1600000 in
theorem grew_any (A B : Ra) (r s : Rw) (w : World) (hv : RwP w A r) (hu : RwP w B s) :
  Calls Try.prog 173 #[rwV A r,rwV B s] w fun e w' => e = .returned (.bool (grwB r s)) ∧ Below w.heap.size w w' := by
 obtain ⟨W,hW,hx,hy,hB0⟩ := two16 A B r s 35 w
 have h0 := hv.below hB0
 have g0 := hu.below hB0
 have hS := h0.rws
 have gS := g0.rws
 have hBg := begW_any B.ta A.ta B.tc A.tc s.txt r.txt W g0.txt hS.txt gS.mt hS.mt
 have hUn : ∀ m,Calls Try.prog 18 #[.slice A.ga r.got.length A.gc,.slice B.ga s.got.length B.gc] (W.drewN m) fun e w' => e = .returned (.bool (underB r.got s.got)) ∧ ∃ n,w' = (W.drewN m).drewN n := fun m => implUnder_any A.ga B.ga r.got.length A.gc s.got.length B.gc r.got s.got (W.drewN m) (h0.below (belowN (Below.refl _ _))).got.vec (g0.below (belowN (Below.refl _ _))).got.vec h0.got.le g0.got.le h0.got.mx g0.got.mx
 have hAm : ∀ m,Calls Try.prog 175 #[.slice A.sa r.sus.length A.sc,.slice B.sa s.sus.length B.sc] (W.drewN m) fun e w' => e = .returned (.bool (r.sus.all (fun x => decide (x ∈ s.sus)))) ∧ w' = W.drewN m := fun m => ammI_any B.sa A.sa B.sc A.sc s.sus r.sus (W.drewN m) (g0.below (belowN (Below.refl _ _))).sus.vec (h0.below (belowN (Below.refl _ _))).sus.vec gS.ms hS.ms
 have HG : Hid (grwB r s = (decide (r.ver ≤ s.ver) && (begB s.txt r.txt && (underB r.got s.got && r.sus.all (fun x => decide (x ∈ s.sus)))))) := rfl
 generalize grwB r s = G at *
 generalize begB s.txt r.txt = b1 at *
 generalize underB r.got s.got = b2 at *
 generalize r.sus.all (fun x => decide (x ∈ s.sus)) = b3 at *
 have HB0 : Hid (Below w.heap.size w W) := hB0
 obtain ⟨pv,pt,pg,ps,pw,pd,py,pm⟩ := r
 obtain ⟨qv,qt,qg,qs,qw,qd,qy,qm⟩ := s
 obtain ⟨pA,pa,pB,pb,pC,pc,pD,pe⟩ := A
 obtain ⟨qA,qa,qB,qb,qC,qc,qD,qe⟩ := B
 have hw0 : (w.alloc (.cells #[.int .i64 pv,.slice pA pt.length pa,.slice pB pg.length pb,.slice pC ps.length pc,.bool pw,.bool pd,.int .i64 py,.slice pD pm.length pe] 35)).alloc (.cells #[.int .i64 qv,.slice qA qt.length qa,.slice qB qg.length qb,.slice qC qs.length qc,.bool qw,.bool qd,.int .i64 qy,.slice qD qm.length qe] 35) = W := hW
 obtain ⟨⟨c0,c1,c2,c3⟩,c4,c5,c6,c7⟩ := Bx.r8 hx
 obtain ⟨⟨d0,d1,d2,d3⟩,d4,d5,d6,d7⟩ := Bx.r8 hy
 simp only [rwV,rwC] at c0 c1 c2 c3 c4 c5 c6 c7 d0 d1 d2 d3 d4 d5 d6 d7 hBg hUn hAm HG
 unfold rwV rwC
 clear hv hu h0 g0 hx hy hW hB0 hS gS
 simp only
 by_cases hver : pv ≤ qv
 rotate_left
 ·have HZ : Hid (G = false) := by rw [Hid,HG.out,decide_eq_false hver];rfl
  go_enter Try.func173,Try.ntmps173
  go_wp2
  go_ret
  exact ⟨ret_bool (by rw [HZ.out]),HB0.out⟩
 have HG1 : Hid (G = (b1 && (b2 && b3))) := by rw [Hid,HG.out,decide_eq_true hver];rfl
 clear HG
 cases b1 with
 | false =>
  have HZ : Hid (G = false) := HG1.out
  go_enter Try.func173,Try.ntmps173
  go_wp2_with (go_at_call 174;refine hBg.mono ?_;rintro e w' ⟨rfl,m1,rfl⟩)
  go_ret
  exact ⟨ret_bool (by rw [HZ.out]),belowN HB0.out⟩
 | true =>
 cases b2 with
 | false =>
  have HZ : Hid (G = false) := HG1.out
  go_enter Try.func173,Try.ntmps173
  go_wp2_with (first | (go_at_call 174;refine hBg.mono ?_;rintro e w' ⟨rfl,m1,rfl⟩) | (go_at_call 18;refine (hUn _).mono ?_;rintro e w' ⟨rfl,m2,hw'⟩;rw [hw',World.drewN_drewN];clear hw'))
  go_ret
  exact ⟨ret_bool (by rw [HZ.out]),belowN HB0.out⟩
 | true =>
  have HZ : Hid (G = b3) := HG1.out
  go_enter Try.func173,Try.ntmps173
  go_wp2_with (first | (go_at_call 174;refine hBg.mono ?_;rintro e w' ⟨rfl,m1,rfl⟩) | (go_at_call 18;refine (hUn _).mono ?_;rintro e w' ⟨rfl,m2,hw'⟩;rw [hw',World.drewN_drewN];clear hw') | (go_at_call 175;refine (hAm _).mono ?_;rintro e w' ⟨rfl,hw'⟩;rw [hw'];clear hw'))
  go_ret
  exact ⟨ret_bool (by rw [HZ.out]),belowN HB0.out⟩
set_option maxRecDepth 100000 in
set_option maxHeartbeats 1600000 in
theorem mbcS_any (A B : Ra) (r s : Rw) (w : World) (hv : RwP w A r) (hu : RwP w B s) :
  Calls Try.prog 178 #[rwV A r,rwV B s] w fun e w' => e = .returned (.bool (grwB r s)) ∧ Below w.heap.size w w' := by
 obtain ⟨W,hW,hx,hy,hB0⟩ := two16 A B r s 152 w
 have h0 := hv.below hB0
 have g0 := hu.below hB0
 have hGr := grew_any A B r s W h0 g0
 generalize grwB r s = G at *
 have HB0 : Hid (Below w.heap.size w W) := hB0
 obtain ⟨pv,pt,pg,ps,pw,pd,py,pm⟩ := r
 obtain ⟨qv,qt,qg,qs,qw,qd,qy,qm⟩ := s
 obtain ⟨pA,pa,pB,pb,pC,pc,pD,pe⟩ := A
 obtain ⟨qA,qa,qB,qb,qC,qc,qD,qe⟩ := B
 have hw0 : (w.alloc (.cells #[.int .i64 pv,.slice pA pt.length pa,.slice pB pg.length pb,.slice pC ps.length pc,.bool pw,.bool pd,.int .i64 py,.slice pD pm.length pe] 152)).alloc (.cells #[.int .i64 qv,.slice qA qt.length qa,.slice qB qg.length qb,.slice qC qs.length qc,.bool qw,.bool qd,.int .i64 qy,.slice qD qm.length qe] 35) = W := hW
 obtain ⟨⟨c0,c1,c2,c3⟩,c4,c5,c6,c7⟩ := Bx.r8 hx
 obtain ⟨⟨d0,d1,d2,d3⟩,d4,d5,d6,d7⟩ := Bx.r8 hy
 simp only [rwV,rwC] at c0 c1 c2 c3 c4 c5 c6 c7 d0 d1 d2 d3 d4 d5 d6 d7 hGr
 unfold rwV rwC
 clear hv hu h0 g0 hx hy hW hB0
 simp only
 go_enter Try.func178,Try.ntmps178
 go_wp2_with (go_at_call 173;refine hGr.mono ?_;rintro e w1 ⟨rfl,hb1⟩;have HB1 : Hid (Below w.heap.size w w1) := (HB0.out.trans (hb1.mono HB0.out.size));clear hb1)
 go_ret
 exact ⟨rfl,HB1.out⟩
set_option maxRecDepth 100000 in
set_option maxHeartbeats 1600000 in
theorem mbcW_any (A B : Ra) (r s : Rw) (w : World) (hv : RwP w A r) (hu : RwP w B s) :
  Calls Try.prog 177 #[rwV A r,rwV B s] w fun e w' => e = .returned (.bool (s.wed && grwB r s)) ∧ Below w.heap.size w w' := by
 obtain ⟨W,hW,hx,hy,hB0⟩ := two16 A B r s 151 w
 have h0 := hv.below hB0
 have g0 := hu.below hB0
 have hGr := grew_any A B r s W h0 g0
 generalize grwB r s = G at *
 have HB0 : Hid (Below w.heap.size w W) := hB0
 obtain ⟨pv,pt,pg,ps,pw,pd,py,pm⟩ := r
 obtain ⟨qv,qt,qg,qs,qw,qd,qy,qm⟩ := s
 obtain ⟨pA,pa,pB,pb,pC,pc,pD,pe⟩ := A
 obtain ⟨qA,qa,qB,qb,qC,qc,qD,qe⟩ := B
 have hw0 : (w.alloc (.cells #[.int .i64 pv,.slice pA pt.length pa,.slice pB pg.length pb,.slice pC ps.length pc,.bool pw,.bool pd,.int .i64 py,.slice pD pm.length pe] 151)).alloc (.cells #[.int .i64 qv,.slice qA qt.length qa,.slice qB qg.length qb,.slice qC qs.length qc,.bool qw,.bool qd,.int .i64 qy,.slice qD qm.length qe] 35) = W := hW
 obtain ⟨⟨c0,c1,c2,c3⟩,c4,c5,c6,c7⟩ := Bx.r8 hx
 obtain ⟨⟨d0,d1,d2,d3⟩,d4,d5,d6,d7⟩ := Bx.r8 hy
 simp only [rwV,rwC] at c0 c1 c2 c3 c4 c5 c6 c7 d0 d1 d2 d3 d4 d5 d6 d7 hGr
 unfold rwV rwC
 clear hv hu h0 g0 hx hy hW hB0
 simp only
 cases qw with
 | false =>
  go_enter Try.func177,Try.ntmps177
  go_wp2
  go_ret
  exact ⟨rfl,HB0.out⟩
 | true =>
  go_enter Try.func177,Try.ntmps177
  go_wp2_with (go_at_call 173;refine hGr.mono ?_;rintro e w1 ⟨rfl,hb1⟩;have HB1 : Hid (Below w.heap.size w w1) := (HB0.out.trans (hb1.mono HB0.out.size));clear hb1)
  go_ret
  exact ⟨rfl,HB1.out⟩
set_option maxRecDepth 100000 in
set_option maxHeartbeats 1600000 in
theorem mbcE_any (A B : Ra) (r s : Rw) (w : World) (hv : RwP w A r) (hu : RwP w B s) :
  Calls Try.prog 172 #[rwV A r,rwV B s] w fun e w' => e = .returned (.bool (s.rdy && (decide (r.by_ ≤ s.by_) && grwB r s))) ∧ Below w.heap.size w w' := by
 obtain ⟨W,hW,hx,hy,hB0⟩ := two16 A B r s 150 w
 have h0 := hv.below hB0
 have g0 := hu.below hB0
 have hGr := grew_any A B r s W h0 g0
 generalize grwB r s = G at *
 have HB0 : Hid (Below w.heap.size w W) := hB0
 obtain ⟨pv,pt,pg,ps,pw,pd,py,pm⟩ := r
 obtain ⟨qv,qt,qg,qs,qw,qd,qy,qm⟩ := s
 obtain ⟨pA,pa,pB,pb,pC,pc,pD,pe⟩ := A
 obtain ⟨qA,qa,qB,qb,qC,qc,qD,qe⟩ := B
 have hw0 : (w.alloc (.cells #[.int .i64 pv,.slice pA pt.length pa,.slice pB pg.length pb,.slice pC ps.length pc,.bool pw,.bool pd,.int .i64 py,.slice pD pm.length pe] 150)).alloc (.cells #[.int .i64 qv,.slice qA qt.length qa,.slice qB qg.length qb,.slice qC qs.length qc,.bool qw,.bool qd,.int .i64 qy,.slice qD qm.length qe] 35) = W := hW
 obtain ⟨⟨c0,c1,c2,c3⟩,c4,c5,c6,c7⟩ := Bx.r8 hx
 obtain ⟨⟨d0,d1,d2,d3⟩,d4,d5,d6,d7⟩ := Bx.r8 hy
 simp only [rwV,rwC] at c0 c1 c2 c3 c4 c5 c6 c7 d0 d1 d2 d3 d4 d5 d6 d7 hGr
 unfold rwV rwC
 clear hv hu h0 g0 hx hy hW hB0
 simp only
 cases qd with
 | false =>
  go_enter Try.func172,Try.ntmps172
  go_wp2
  go_ret
  exact ⟨rfl,HB0.out⟩
 | true =>
  by_cases hy : py ≤ qy
  ·have HD : Hid (decide (py ≤ qy) = true) := decide_eq_true hy
   go_enter Try.func172,Try.ntmps172
   go_wp2_with (go_at_call 173;refine hGr.mono ?_;rintro e w1 ⟨rfl,hb1⟩;have HB1 : Hid (Below w.heap.size w w1) := (HB0.out.trans (hb1.mono HB0.out.size));clear hb1)
   go_ret
   exact ⟨ret_bool (by rw [HD.out];rfl),HB1.out⟩
  ·have HD : Hid (decide (py ≤ qy) = false) := decide_eq_false hy
   go_enter Try.func172,Try.ntmps172
   go_wp2
   go_ret
   exact ⟨ret_bool (by rw [HD.out];rfl),HB0.out⟩
end Go.Proofs.Ytlnmdfgcpfbleaa
namespace Go.Proofs.Ytlnmdfgcpfbleaa
set_option linter.unusedVariables false
set_option linter.unusedSimpArgs false
open Go.RowKit Go.Sort
theorem mayI_any (A B : Ra) (r s : Rw) : (r.rdy = true → ∀ w,RwP w A r → RwP w B s → Calls Try.prog 172 #[rwV A r,rwV B s] w fun e w' => e = .returned (.bool (mayB r s)) ∧ Below w.heap.size w w') ∧ (r.rdy = false → r.wed = true → ∀ w,RwP w A r → RwP w B s → Calls Try.prog 177 #[rwV A r,rwV B s] w fun e w' => e = .returned (.bool (mayB r s)) ∧ Below w.heap.size w w') ∧ (r.rdy = false → r.wed = false → ∀ w,RwP w A r → RwP w B s → Calls Try.prog 178 #[rwV A r,rwV B s] w fun e w' => e = .returned (.bool (mayB r s)) ∧ Below w.heap.size w w') := by
 refine ⟨fun h w h1 h2 => ?_,fun h h' w h1 h2 => ?_,fun h h' w h1 h2 => ?_⟩
 ·have e : mayB r s = (s.rdy && (decide (r.by_ ≤ s.by_) && grwB r s)) := by rw [mayB,h];rfl
  rw [e]
  exact mbcE_any A B r s w h1 h2
 ·have e : mayB r s = (s.wed && grwB r s) := by rw [mayB,h,h'];rfl
  rw [e]
  exact mbcW_any A B r s w h1 h2
 ·have e : mayB r s = grwB r s := by rw [mayB,h,h'];rfl
  rw [e]
  exact mbcS_any A B r s w h1 h2
set_option maxRecDepth 100000 in
set_option maxHeartbeats 3200000 in
theorem folI_any (A B : Ra) (r s : Rw) (n : Int) (w : World) (hv : RwP w A r) (hu : RwP w B s) :
  Calls Try.prog 28 #[rwV A r,rwV B s,.int .i64 n] w fun e w' => e = .returned (.bool (folB r s n)) ∧ Below w.heap.size w w' := by
 obtain ⟨W,hW,hx,hy,hB0⟩ := two16 A B r s 35 w
 have h0 := hv.below hB0
 have g0 := hu.below hB0
 have hSt0 := stOf_any A r n W h0
 have hRo : ∀ X,Below W.heap.size W X → Calls Try.prog 35 #[rwV B s,.int .i64 n] X fun e w' => e = .returned (.bool (okRw s n)) ∧ Below X.heap.size X w' := fun X h => rowI_any B s n X (g0.below h)
 obtain ⟨m1,m2,m3⟩ := mayI_any A B r s
 have hM1 := fun h X hX => m1 h X (h0.below hX) (g0.below hX)
 have hM2 := fun h h' X hX => m2 h h' X (h0.below hX) (g0.below hX)
 have hM3 := fun h h' X hX => m3 h h' X (h0.below hX) (g0.below hX)
 have HY0 : Hid (∀ X,Below W.heap.size W X → Bx X (w.heap.size + 1) 35 (rwC B s)) := fun X h => hy.below h
 have HB0 : Hid (Below w.heap.size w W) := hB0
 rw [fol_may r s n]
 generalize okRw r n = o1 at *
 generalize okRw s n = o2 at *
 generalize mayB r s = G at *
 obtain ⟨pv,pt,pg,ps,pw,pd,py,pm⟩ := r
 obtain ⟨qv,qt,qg,qs,qw,qd,qy,qm⟩ := s
 obtain ⟨pA,pa,pB,pb,pC,pc,pD,pe⟩ := A
 obtain ⟨qA,qa,qB,qb,qC,qc,qD,qe⟩ := B
 have hw0 : (w.alloc (.cells #[.int .i64 pv,.slice pA pt.length pa,.slice pB pg.length pb,.slice pC ps.length pc,.bool pw,.bool pd,.int .i64 py,.slice pD pm.length pe] 35)).alloc (.cells #[.int .i64 qv,.slice qA qt.length qa,.slice qB qg.length qb,.slice qC qs.length qc,.bool qw,.bool qd,.int .i64 qy,.slice qD qm.length qe] 35) = W := hW
 have HY : Hid (∀ X,Below W.heap.size W X → Bx X (w.heap.size + 1) 35 #[.int .i64 qv,.slice qA qt.length qa,.slice qB qg.length qb,.slice qC qs.length qc,.bool qw,.bool qd,.int .i64 qy,.slice qD qm.length qe]) := HY0
 obtain ⟨⟨c0,c1,c2,c3⟩,c4,c5,c6,c7⟩ := Bx.r8 hx
 obtain ⟨⟨d0,d1,d2,d3⟩,d4,d5,d6,d7⟩ := Bx.r8 hy
 simp only [rwV,rwC] at c0 c1 c2 c3 c4 c5 c6 c7 d0 d1 d2 d3 d4 d5 d6 d7 hRo hM1 hM2 hM3
 unfold rwV rwC
 clear hv hu h0 g0 hx hy hW hB0 HY0 m1 m2 m3
 simp only
 cases o1 with
 | false =>
  have hSt : Calls Try.prog 79 #[.agg #[.int .i64 pv,.slice pA pt.length pa,.slice pB pg.length pb,.slice pC ps.length pc,.bool pw,.bool pd,.int .i64 py,.slice pD pm.length pe],.int .i64 n] W fun e w' => ∃ s,e = .returned (.tuple #[s,.bool false]) ∧ Below W.heap.size W w' := hSt0.mono (fun e w' ⟨s,h1,_,h2⟩ => ⟨s,h1,h2⟩)
  clear hSt0 hM1 hM2 hM3
  go_enter Try.func28,Try.ntmps28
  go_wp2_with (go_at_call 79;refine hSt.mono ?_;rintro e w1 ⟨s1,rfl,hb1⟩;have HB1 : Hid (Below w.heap.size w w1) := (HB0.out.trans (hb1.mono HB0.out.size));clear c0 c1 c2 c3 c4 c5 c6 c7 d0 d1 d2 d3 d4 d5 d6 d7;obtain ⟨⟨d0,d1,d2,d3⟩,d4,d5,d6,d7⟩ := Bx.r8 (HY.out w1 hb1);have hR := hRo w1 hb1;have hBW1 : Below W.heap.size W w1 := hb1;clear hb1)
  go_ret
  exact ⟨rfl,HB1.out⟩
 | true =>
 have hSt : Calls Try.prog 79 #[.agg #[.int .i64 pv,.slice pA pt.length pa,.slice pB pg.length pb,.slice pC ps.length pc,.bool pw,.bool pd,.int .i64 py,.slice pD pm.length pe],.int .i64 n] W fun e w' => e = .returned (.tuple #[stV ⟨pA,pa,pB,pb,pC,pc,pD,pe⟩ ⟨pv,pt,pg,ps,pw,pd,py,pm⟩,.bool true]) ∧ Below W.heap.size W w' := hSt0.mono (fun e w' ⟨s,h1,h2,h3⟩ => ⟨by rw [h1,h2 rfl],h3⟩)
 clear hSt0
 cases pd with
 | true =>
  have hSt : Calls Try.prog 79 #[.agg #[.int .i64 pv,.slice pA pt.length pa,.slice pB pg.length pb,.slice pC ps.length pc,.bool pw,.bool true,.int .i64 py,.slice pD pm.length pe],.int .i64 n] W fun e w' => e = .returned (.tuple #[.iface 150 (.agg #[.int .i64 pv,.slice pA pt.length pa,.slice pB pg.length pb,.slice pC ps.length pc,.bool pw,.bool true,.int .i64 py,.slice pD pm.length pe]),.bool true]) ∧ Below W.heap.size W w' := hSt
  have hMa := hM1 rfl
  clear hM1 hM2 hM3
  have hme := mbE_any (.agg #[.int .i64 pv,.slice pA pt.length pa,.slice pB pg.length pb,.slice pC ps.length pc,.bool pw,.bool true,.int .i64 py,.slice pD pm.length pe])
  cases o2 with
  | false =>
   go_enter Try.func28,Try.ntmps28
   go_wp2_with (first | (go_at_call 79;refine hSt.mono ?_;rintro e w1 ⟨rfl,hb1⟩;have HB1 : Hid (Below w.heap.size w w1) := (HB0.out.trans (hb1.mono HB0.out.size));clear c0 c1 c2 c3 c4 c5 c6 c7 d0 d1 d2 d3 d4 d5 d6 d7;obtain ⟨⟨d0,d1,d2,d3⟩,d4,d5,d6,d7⟩ := Bx.r8 (HY.out w1 hb1);have hR := hRo w1 hb1;have hBW1 : Hid (Below W.heap.size W w1) := hb1;clear hb1) | (go_at_call 35;refine hR.mono ?_;rintro e w2 ⟨rfl,hb2⟩;have HB2 : Hid (Below w.heap.size w w2) := (HB1.out.trans (hb2.mono HB1.out.size));have hBW2 : Below W.heap.size W w2 := (hBW1.out.trans (hb2.mono hBW1.out.size));clear d0 d1 d2 d3 d4 d5 d6 d7;obtain ⟨⟨d0,d1,d2,d3⟩,d4,d5,d6,d7⟩ := Bx.r8 (HY.out w2 hBW2);have hM := hMa w2 hBW2;clear hb2))
   go_ret
   exact ⟨rfl,HB2.out⟩
  | true =>
   go_enter Try.func28,Try.ntmps28
   go_wp2_with (first | (go_at_call 79;refine hSt.mono ?_;rintro e w1 ⟨rfl,hb1⟩;have HB1 : Hid (Below w.heap.size w w1) := (HB0.out.trans (hb1.mono HB0.out.size));clear c0 c1 c2 c3 c4 c5 c6 c7 d0 d1 d2 d3 d4 d5 d6 d7;obtain ⟨⟨d0,d1,d2,d3⟩,d4,d5,d6,d7⟩ := Bx.r8 (HY.out w1 hb1);have hR := hRo w1 hb1;have hBW1 : Hid (Below W.heap.size W w1) := hb1;clear hb1) | (go_at_call 35;refine hR.mono ?_;rintro e w2 ⟨rfl,hb2⟩;have HB2 : Hid (Below w.heap.size w w2) := (HB1.out.trans (hb2.mono HB1.out.size));have hBW2 : Below W.heap.size W w2 := (hBW1.out.trans (hb2.mono hBW1.out.size));clear d0 d1 d2 d3 d4 d5 d6 d7;obtain ⟨⟨d0,d1,d2,d3⟩,d4,d5,d6,d7⟩ := Bx.r8 (HY.out w2 hBW2);have hM := hMa w2 hBW2;clear hb2) | (go_at_call 172;refine hM.mono ?_;rintro e w3 ⟨rfl,hb3⟩;have HB3 : Hid (Below w.heap.size w w3) := (HB2.out.trans (hb3.mono HB2.out.size));clear hb3))
   go_ret
   exact ⟨rfl,HB3.out⟩
 | false =>
  cases pw with
  | true =>
   have hSt : Calls Try.prog 79 #[.agg #[.int .i64 pv,.slice pA pt.length pa,.slice pB pg.length pb,.slice pC ps.length pc,.bool true,.bool false,.int .i64 py,.slice pD pm.length pe],.int .i64 n] W fun e w' => e = .returned (.tuple #[.iface 151 (.agg #[.int .i64 pv,.slice pA pt.length pa,.slice pB pg.length pb,.slice pC ps.length pc,.bool true,.bool false,.int .i64 py,.slice pD pm.length pe]),.bool true]) ∧ Below W.heap.size W w' := hSt
   have hMa := hM2 rfl rfl
   clear hM1 hM2 hM3
   have hme := mbW_any (.agg #[.int .i64 pv,.slice pA pt.length pa,.slice pB pg.length pb,.slice pC ps.length pc,.bool true,.bool false,.int .i64 py,.slice pD pm.length pe])
   cases o2 with
   | false =>
    go_enter Try.func28,Try.ntmps28
    go_wp2_with (first | (go_at_call 79;refine hSt.mono ?_;rintro e w1 ⟨rfl,hb1⟩;have HB1 : Hid (Below w.heap.size w w1) := (HB0.out.trans (hb1.mono HB0.out.size));clear c0 c1 c2 c3 c4 c5 c6 c7 d0 d1 d2 d3 d4 d5 d6 d7;obtain ⟨⟨d0,d1,d2,d3⟩,d4,d5,d6,d7⟩ := Bx.r8 (HY.out w1 hb1);have hR := hRo w1 hb1;have hBW1 : Hid (Below W.heap.size W w1) := hb1;clear hb1) | (go_at_call 35;refine hR.mono ?_;rintro e w2 ⟨rfl,hb2⟩;have HB2 : Hid (Below w.heap.size w w2) := (HB1.out.trans (hb2.mono HB1.out.size));have hBW2 : Below W.heap.size W w2 := (hBW1.out.trans (hb2.mono hBW1.out.size));clear d0 d1 d2 d3 d4 d5 d6 d7;obtain ⟨⟨d0,d1,d2,d3⟩,d4,d5,d6,d7⟩ := Bx.r8 (HY.out w2 hBW2);have hM := hMa w2 hBW2;clear hb2))
    go_ret
    exact ⟨rfl,HB2.out⟩
   | true =>
    go_enter Try.func28,Try.ntmps28
    go_wp2_with (first | (go_at_call 79;refine hSt.mono ?_;rintro e w1 ⟨rfl,hb1⟩;have HB1 : Hid (Below w.heap.size w w1) := (HB0.out.trans (hb1.mono HB0.out.size));clear c0 c1 c2 c3 c4 c5 c6 c7 d0 d1 d2 d3 d4 d5 d6 d7;obtain ⟨⟨d0,d1,d2,d3⟩,d4,d5,d6,d7⟩ := Bx.r8 (HY.out w1 hb1);have hR := hRo w1 hb1;have hBW1 : Hid (Below W.heap.size W w1) := hb1;clear hb1) | (go_at_call 35;refine hR.mono ?_;rintro e w2 ⟨rfl,hb2⟩;have HB2 : Hid (Below w.heap.size w w2) := (HB1.out.trans (hb2.mono HB1.out.size));have hBW2 : Below W.heap.size W w2 := (hBW1.out.trans (hb2.mono hBW1.out.size));clear d0 d1 d2 d3 d4 d5 d6 d7;obtain ⟨⟨d0,d1,d2,d3⟩,d4,d5,d6,d7⟩ := Bx.r8 (HY.out w2 hBW2);have hM := hMa w2 hBW2;clear hb2) | (go_at_call 177;refine hM.mono ?_;rintro e w3 ⟨rfl,hb3⟩;have HB3 : Hid (Below w.heap.size w w3) := (HB2.out.trans (hb3.mono HB2.out.size));clear hb3))
    go_ret
    exact ⟨rfl,HB3.out⟩
  | false =>
   have hSt : Calls Try.prog 79 #[.agg #[.int .i64 pv,.slice pA pt.length pa,.slice pB pg.length pb,.slice pC ps.length pc,.bool false,.bool false,.int .i64 py,.slice pD pm.length pe],.int .i64 n] W fun e w' => e = .returned (.tuple #[.iface 152 (.agg #[.int .i64 pv,.slice pA pt.length pa,.slice pB pg.length pb,.slice pC ps.length pc,.bool false,.bool false,.int .i64 py,.slice pD pm.length pe]),.bool true]) ∧ Below W.heap.size W w' := hSt
   have hMa := hM3 rfl rfl
   clear hM1 hM2 hM3
   have hme := mbS_any (.agg #[.int .i64 pv,.slice pA pt.length pa,.slice pB pg.length pb,.slice pC ps.length pc,.bool false,.bool false,.int .i64 py,.slice pD pm.length pe])
   cases o2 with
   | false =>
    go_enter Try.func28,Try.ntmps28
    go_wp2_with (first | (go_at_call 79;refine hSt.mono ?_;rintro e w1 ⟨rfl,hb1⟩;have HB1 : Hid (Below w.heap.size w w1) := (HB0.out.trans (hb1.mono HB0.out.size));clear c0 c1 c2 c3 c4 c5 c6 c7 d0 d1 d2 d3 d4 d5 d6 d7;obtain ⟨⟨d0,d1,d2,d3⟩,d4,d5,d6,d7⟩ := Bx.r8 (HY.out w1 hb1);have hR := hRo w1 hb1;have hBW1 : Hid (Below W.heap.size W w1) := hb1;clear hb1) | (go_at_call 35;refine hR.mono ?_;rintro e w2 ⟨rfl,hb2⟩;have HB2 : Hid (Below w.heap.size w w2) := (HB1.out.trans (hb2.mono HB1.out.size));have hBW2 : Below W.heap.size W w2 := (hBW1.out.trans (hb2.mono hBW1.out.size));clear d0 d1 d2 d3 d4 d5 d6 d7;obtain ⟨⟨d0,d1,d2,d3⟩,d4,d5,d6,d7⟩ := Bx.r8 (HY.out w2 hBW2);have hM := hMa w2 hBW2;clear hb2))
    go_ret
    exact ⟨rfl,HB2.out⟩
   | true =>
    go_enter Try.func28,Try.ntmps28
    go_wp2_with (first | (go_at_call 79;refine hSt.mono ?_;rintro e w1 ⟨rfl,hb1⟩;have HB1 : Hid (Below w.heap.size w w1) := (HB0.out.trans (hb1.mono HB0.out.size));clear c0 c1 c2 c3 c4 c5 c6 c7 d0 d1 d2 d3 d4 d5 d6 d7;obtain ⟨⟨d0,d1,d2,d3⟩,d4,d5,d6,d7⟩ := Bx.r8 (HY.out w1 hb1);have hR := hRo w1 hb1;have hBW1 : Hid (Below W.heap.size W w1) := hb1;clear hb1) | (go_at_call 35;refine hR.mono ?_;rintro e w2 ⟨rfl,hb2⟩;have HB2 : Hid (Below w.heap.size w w2) := (HB1.out.trans (hb2.mono HB1.out.size));have hBW2 : Below W.heap.size W w2 := (hBW1.out.trans (hb2.mono hBW1.out.size));clear d0 d1 d2 d3 d4 d5 d6 d7;obtain ⟨⟨d0,d1,d2,d3⟩,d4,d5,d6,d7⟩ := Bx.r8 (HY.out w2 hBW2);have hM := hMa w2 hBW2;clear hb2) | (go_at_call 178;refine hM.mono ?_;rintro e w3 ⟨rfl,hb3⟩;have HB3 : Hid (Below w.heap.size w w3) := (HB2.out.trans (hb3.mono HB2.out.size));clear hb3))
    go_ret
    exact ⟨rfl,HB3.out⟩
theorem implFollows : ImplFollows := fun A B r s n w hv hu _ => folI_any A B r s n w hv hu
set_option maxHeartbeats 800000 in
theorem latI_any (A B : Ra) (r s : Rw) (w : World) :
  Calls Try.prog 33 #[rwV A r,rwV B s] w fun e w' => e = .returned (.bool (decide (s.ver < r.ver))) ∧ Below w.heap.size w w' := by
 have hB0 : Below w.heap.size w ((w.alloc (.cells (rwC A r) 35)).alloc (.cells (rwC B s) 35)) := (oneA16 w _).trans ((oneA16 _ _).mono (oneA16 w _).size)
 have hx : Bx ((w.alloc (.cells (rwC A r) 35)).alloc (.cells (rwC B s) 35)) w.heap.size 35 (rwC A r) := (Bx.new w _ _).alloc _
 have hy : Bx ((w.alloc (.cells (rwC A r) 35)).alloc (.cells (rwC B s) 35)) (w.heap.size + 1) 35 (rwC B s) := by
  have := Bx.new (w.alloc (.cells (rwC A r) 35)) 35 (rwC B s)
  simpa using this
 have c0 := hx.at 0 (v := .int .i64 r.ver) rfl
 have d0 := hy.at 0 (v := .int .i64 s.ver) rfl
 have HB : Hid (Below w.heap.size w ((w.alloc (.cells (rwC A r) 35)).alloc (.cells (rwC B s) 35))) := hB0
 unfold rwV
 unfold rwC at *
 clear hx hy hB0
 by_cases h : s.ver < r.ver
 ·have HZ : Hid (decide (s.ver < r.ver) = true) := decide_eq_true h
  go_enter Try.func33,Try.ntmps33
  go_wp2
  go_ret
  exact ⟨ret_bool (by rw [HZ.out]),HB.out⟩
 ·have HZ : Hid (decide (s.ver < r.ver) = false) := decide_eq_false h
  go_enter Try.func33,Try.ntmps33
  go_wp2
  go_ret
  exact ⟨ret_bool (by rw [HZ.out]),HB.out⟩
theorem implLater : ImplLater := fun A B r s w _ _ => latI_any A B r s w
set_option maxRecDepth 100000 in
set_option maxHeartbeats 3200000 in
theorem nrwI_any (n : Int) (w : World) :
  Calls Try.prog 38 #[.int .i64 n] w fun e w' => AnsRw w w' e (newRw n) := by
 have hb0 := oneA16 w (.cells #[.int .i64 0,.slice none 0 0,.slice none 0 0,.slice none 0 0,.bool false,.bool false,.int .i64 0,.slice none 0 0] 35)
 have hx := Bx.new w 35 #[.int .i64 0,.slice none 0 0,.slice none 0 0,.slice none 0 0,.bool false,.bool false,.int .i64 0,.slice none 0 0]
 have HB0 : Hid (Below w.heap.size w (w.alloc (.cells #[.int .i64 0,.slice none 0 0,.slice none 0 0,.slice none 0 0,.bool false,.bool false,.int .i64 0,.slice none 0 0] 35))) := hb0
 generalize hW : w.alloc (.cells #[.int .i64 0,.slice none 0 0,.slice none 0 0,.slice none 0 0,.bool false,.bool false,.int .i64 0,.slice none 0 0] 35) = W at *
 have hlt := hx.lt
 cases e1 : inB n 1 5 with
 | false =>
  have HZ : Hid (newRw n = zeroRw) := by rw [Hid,newRw,e1];rfl
  obtain ⟨⟨c0,c1,c2,c3⟩,c4,c5,c6,c7⟩ := hx.r8
  obtain ⟨⟨f0,f1,f2,f3⟩,f4,f5,f6,f7⟩ := hx.f8
  clear hx hb0
  go_enter Try.func38,Try.ntmps38
  go_wp2_with (go_at_call 84;refine (isRl_any _ _).mono ?_;rintro e w' ⟨rfl,hw'⟩;rw [hw'];clear hw')
  refine bodyPost_ret (v := rwV ⟨none,0,none,0,none,0,none,0⟩ zeroRw) (by simp [results,Try.results38,go_sem,rwV,rwC,zeroRw, *]) rfl ?_
  rw [HZ.out]
  exact ⟨_,rfl,ans_zero ((wrt8 W w.heap.size).below HB0.out HB0.out.size (fun b h => by rw [h];exact Nat.le_refl _))⟩
 | true =>
  have hn := inB7.1 e1
  obtain ⟨N,rfl⟩ : ∃ N : Nat,n = (N : Int) := ⟨n.toNat,by omega⟩
  have HZ : Hid (newRw (N : Int) = ⟨0,[],List.replicate N 0,[],false,false,0,[]⟩) := by rw [Hid,newRw,e1];simp
  have hmk := run_make_row' (P := Try.prog) 24 2 (.int .i64 0) 8 Try.underlying24 Try.info2 rfl .i64 .i64 N (by omega) (by omega)
  have hM := made_oi (w.alloc (.cells #[.int .i64 0,.slice none 0 0,.slice (some ⟨w.heap.size + 1,0,none⟩) N N,.slice none 0 0,.bool false,.bool false,.int .i64 0,.slice none 0 0] 35)) N (by unfold maxLen;omega)
  have hbM : Below w.heap.size w ((w.alloc (.cells #[.int .i64 0,.slice none 0 0,.slice (some ⟨w.heap.size + 1,0,none⟩) N N,.slice none 0 0,.bool false,.bool false,.int .i64 0,.slice none 0 0] 35)).alloc (.cells (madeCells #[.int .i64 0] N) 2)) := (oneA16 w _).trans ((oneA16 _ _).mono (oneA16 w _).size)
  rw [World.size_alloc] at hM
  have HA : Hid (NewL w ((w.alloc (.cells #[.int .i64 0,.slice none 0 0,.slice (some ⟨w.heap.size + 1,0,none⟩) N N,.slice none 0 0,.bool false,.bool false,.int .i64 0,.slice none 0 0] 35)).alloc (.cells (madeCells #[.int .i64 0] N) 2)) (rwCels ⟨0,[],List.replicate N 0,[],false,false,0,[]⟩) (rwVals ⟨none,0,some ⟨w.heap.size + 1,0,none⟩,N,none,0,none,0⟩ ⟨0,[],List.replicate N 0,[],false,false,0,[]⟩)) := by
   refine ⟨_,owL4 (ow_none_s _) (f2 := fun b => b = w.heap.size + 1) ?_ (ow_none_i _) (ow_none_i _) (fun b h => absurd h id) (fun b _ h => by rcases h with h | h <;> exact absurd h id) (fun b h => absurd h id),fun b h => ?_,hbM⟩
   ·refine ow_icl.2 ⟨_,N,some (w.heap.size + 1),rfl,OSo.of ?_,fun b => by simp [eq_comm]⟩
    have e : (List.replicate N (0 : Int)).length = N := List.length_replicate
    simp only [e]
    exact hM
   ·rcases h with h | h | h | h
    ·exact absurd h id
    ·rw [h];omega
    ·exact absurd h id
    ·exact absurd h id
  clear hx hb0 hM hbM hW hlt HB0
  go_enter Try.func38,Try.ntmps38
  go_wp2_with (go_at_call 84;refine (isRl_any _ _).mono ?_;rintro e w' ⟨rfl,hw'⟩;rw [hw'];clear hw')
  refine bodyPost_ret (v := rwV ⟨none,0,some ⟨w.heap.size + 1,0,none⟩,N,none,0,none,0⟩ ⟨0,[],List.replicate N 0,[],false,false,0,[]⟩) (by simp [results,Try.results38,go_sem,rwV,rwC]) rfl ?_
  rw [HZ.out]
  exact ⟨_,rfl,HA.out⟩
theorem implNewRow : ImplNewRow := fun n w _ => nrwI_any n w
end Go.Proofs.Ytlnmdfgcpfbleaa