/-
  Texts in one.
-/
import Derived.Test.YtafimeakbdmkjaaGreatZaa
import Derived.Test.YtafimeakbdmkjaaGreatZan
import Derived.Test.YtafimeakbdmkjaaGreatZam
import Derived.Test.YtafimeakbdmkjaaGreatZaf
namespace Go.Proofs.YtafimeakbdmkjaaGreat
set_option linter.unusedVariables false
set_option linter.unusedSimpArgs false
open Go.RowKit Go.Sort
set_option maxRecDepth 100000
set_option maxHeartbeats 12800000
theorem ac7 {r:Rw} {n:Int} (h:wR r.txt=false):bI r n=false:=by
 rw[wR,Bool.and_eq_false_iff] at h;rw[bI];rcases h with h|h<;>simp[h]
theorem TP {r:Rw} {n:Int} (h1:inB n 1 5=true) (h2:inB r.ver 0 1000000=true) (h3:wR r.txt=true) (h4:jc r.got n=true) (h5:jv r.ak n=true):bI r n=(wS r&&lsB r n):=by
 rw[wR,Bool.and_eq_true] at h3;rw[← ab8,bI,h1,h2,h3.1,h3.2,h4,h5]
 rfl
theorem Lr (A:Ra) (r:Rw) (n:Int) (w:World) (hv:iM w A r) :
  Calls Tryz.prog 50 #[bV A r,.int .i64 n] w fun e w'=>∃ s,e=.returned (.tuple #[s,.bool (bI r n)])∧(bI r n=true→s=yU A r)∧Below w.heap.size w w':=by
 have hB0:=aF w (.cells (bD A r) 44);have hx:=Bx.new w 44 (bD A r);have h0:=hv.below hB0;generalize hW:w.alloc (.cells (bD A r) 44)=W at *;have hS:=h0.rws;have hTx:=TN A.ta A.tc r.txt W h0.txt.NM hS.mt;have TQ:=Ik A.ga A.gc r.got n W h0.got.vec h0.got.le h0.got.mx
 have Di:∀ m,Calls Tryz.prog 89 #[.slice A.sa r.ak.length A.sc,.int .i64 (n-1)] (W.drewN m) fun e w'=>e=.returned (.bool (jv r.ak n))∧w'=W.drewN m:=fun m=>by
  have:=Ll A.sa r.ak.length A.sc n r.ak (W.drewN m) (h0.below (bg (Below.refl _ _))).ak.vec hS.ms;rw[OC] at this;exact this
 have pJ:=fun X=>WA A r X hS.mm
 have Fa:∀ X,Below W.heap.size W X→1≤n∧n≤5→Calls Tryz.prog 97 #[yU A r,.int .i64 n] X fun e w'=>e=.returned (.bool (lsB r n))∧Below X.heap.size X w':=fun X h hn=>WC A r n X (h0.below h) hn
 have HZn:Hid (inB n 1 5=false→bI r n=false):=fun h=>Rj h
 have HZv:Hid (inB r.ver 0 1000000=false→bI r n=false):=fun h=>Rk h
 have HZt:Hid (wR r.txt=false→bI r n=false):=fun h=>ac7 h
 have HZg:Hid (jc r.got n=false→bI r n=false):=fun h=>EC h
 have HZs:Hid (jv r.ak n=false→bI r n=false):=fun h=>Rl h
 have HZe:Hid (inB n 1 5=true→inB r.ver 0 1000000=true→wR r.txt=true→jc r.got n=true→jv r.ak n=true→bI r n=(wS r&&lsB r n)):=fun a b c d e=>TP a b c d e
 have HB0:Hid (Below w.heap.size w W):=hB0;have HSt:Hid (∀ s:Value,s=yU A r→s=yU A r):=fun _ h=>h
 generalize hq:bI r n=Q at *;clear hq;generalize yU A r=V at *;generalize wS r=fl at *;generalize lsB r n=ls at *;generalize wR r.txt=tb at *;generalize jc r.got n=sg at *;generalize jv r.ak n=sb at *;obtain⟨ver,txt,got,ak,wed,aB,aC,aA⟩:=r;obtain⟨ta,tc,ga,gc,sa,sc,ma,mc⟩:=A;have hw0:w.alloc (.cells #[.int .i64 ver,.slice ta txt.length tc,.slice ga got.length gc,.slice sa ak.length sc,.bool wed,.bool aB,.int .i64 aC,.slice ma aA.length mc] 44)=W:=hW;obtain⟨⟨c0,c1,c2,c3⟩,c4,c5,c6,c7⟩:=Bx.r8 hx;simp only[bV,bD] at c0 c1 c2 c3 c4 c5 c6 c7 hTx TQ Di pJ HZv HZe;unfold bV bD;clear hv h0 hx hW hB0 hS;simp only
 cases e1:inB n 1 5 with
 | false =>
  have HZ:Hid (Q=false):=HZn.out e1;go_enter Tryz.func50,Tryz.ntmps50
  go_wp2_with (first|(go_at_call 52;refine (qL _ _).mono ?_;rintro e w' ⟨rfl,hw'⟩;rw[hw',e1];clear hw'))
  refine bodyPost_ret (v:=.tuple #[.nilIface,.bool false]) (by simp[results,Tryz.results50,go_sem, *]) rfl ?_
  exact⟨.nilIface,by rw[HZ.out],fun h=>(by rw[HZ.out] at h;cases h),HB0.out⟩
 | true =>
 have fG:=dP.1 e1;have hwn:wrap64 (n-1)=n-1:=by unfold wrap64;omega
 have aA0:=fun X h=>Fa X h fG
 have yH:Hid (inB n 1 5=true):=e1
 have hRl:∀ X,Calls Tryz.prog 52 #[.int .i64 n] X fun e w'=>e=.returned (.bool true)∧w'=X:=fun X=>by
  have:=qL n X;rw[e1] at this;exact this
 clear e1 Fa fG
 cases e2:inB ver 0 1000000 with
 | false =>
  have HZ:Hid (Q=false):=HZv.out e2;go_enter Tryz.func50,Tryz.ntmps50
  go_wp2_with (first|(go_at_call 52;refine (hRl _).mono ?_;rintro e w' ⟨rfl,hw'⟩;rw[hw'];clear hw')|(go_at_call 87;refine (iI _ _ _).mono ?_;rintro e w' ⟨rfl,hw'⟩;rw[hw',e2];clear hw'))
  refine bodyPost_ret (v:=.tuple #[.nilIface,.bool false]) (by simp[results,Tryz.results50,go_sem, *]) rfl ?_
  exact⟨.nilIface,by rw[HZ.out],fun h=>(by rw[HZ.out] at h;cases h),HB0.out⟩
 | true =>
 have zT:Hid (inB ver 0 1000000=true):=e2
 have Il:∀ X,Calls Tryz.prog 87 #[.int .i64 ver,.int .i64 1000000] X fun e w'=>e=.returned (.bool true)∧w'=X:=fun X=>by
  have:=iI ver 1000000 X;rw[e2] at this;exact this
 clear e2
 cases tb with
 | false =>
  have HZ:Hid (Q=false):=HZt.out rfl;go_enter Tryz.func50,Tryz.ntmps50
  go_wp2_with (first|(go_at_call 52;refine (hRl _).mono ?_;rintro e w' ⟨rfl,hw'⟩;rw[hw'];clear hw')|(go_at_call 87;refine (Il _).mono ?_;rintro e w' ⟨rfl,hw'⟩;rw[hw'];clear hw')|(go_at_call 94;refine hTx.mono ?_;rintro e w' ⟨rfl,hw'⟩;rw[hw'];clear hw'))
  refine bodyPost_ret (v:=.tuple #[.nilIface,.bool false]) (by simp[results,Tryz.results50,go_sem, *]) rfl ?_
  exact⟨.nilIface,by rw[HZ.out],fun h=>(by rw[HZ.out] at h;cases h),HB0.out⟩
 | true =>
 cases sg with
 | false =>
  have HZ:Hid (Q=false):=HZg.out rfl;go_enter Tryz.func50,Tryz.ntmps50
  go_wp2_with (first|(go_at_call 52;refine (hRl _).mono ?_;rintro e w' ⟨rfl,hw'⟩;rw[hw'];clear hw')|(go_at_call 87;refine (Il _).mono ?_;rintro e w' ⟨rfl,hw'⟩;rw[hw'];clear hw')|(go_at_call 94;refine hTx.mono ?_;rintro e w' ⟨rfl,hw'⟩;rw[hw'];clear hw')|(go_at_call 95;refine TQ.mono ?_;rintro e w' ⟨rfl,m1,rfl⟩))
  refine bodyPost_ret (v:=.tuple #[.nilIface,.bool false]) (by simp[results,Tryz.results50,go_sem, *]) rfl ?_
  exact⟨.nilIface,by rw[HZ.out],fun h=>(by rw[HZ.out] at h;cases h),bg HB0.out⟩
 | true =>
 cases sb with
 | false =>
  have HZ:Hid (Q=false):=HZs.out rfl;go_enter Tryz.func50,Tryz.ntmps50
  go_wp2_with (first|(go_at_call 52;refine (hRl _).mono ?_;rintro e w' ⟨rfl,hw'⟩;rw[hw'];clear hw')|(go_at_call 87;refine (Il _).mono ?_;rintro e w' ⟨rfl,hw'⟩;rw[hw'];clear hw')|(go_at_call 94;refine hTx.mono ?_;rintro e w' ⟨rfl,hw'⟩;rw[hw'];clear hw')|(go_at_call 95;refine TQ.mono ?_;rintro e w' ⟨rfl,m1,rfl⟩)|(go_at_call 89;refine (Di _).mono ?_;rintro e w' ⟨rfl,hw'⟩;rw[hw'];clear hw'))
  refine bodyPost_ret (v:=.tuple #[.nilIface,.bool false]) (by simp[results,Tryz.results50,go_sem, *]) rfl ?_
  exact⟨.nilIface,by rw[HZ.out],fun h=>(by rw[HZ.out] at h;cases h),bg HB0.out⟩
 | true =>
 have HE:Hid (Q=(fl&&ls)):=HZe.out yH.out zT.out rfl rfl rfl;clear HZn HZv HZt HZg HZs HZe yH zT
 cases fl with
 | false =>
  have HZ:Hid (Q=false):=by rw[Hid,HE.out];rfl
  go_enter Tryz.func50,Tryz.ntmps50
  go_wp2_with (first|(go_at_call 52;refine (hRl _).mono ?_;rintro e w' ⟨rfl,hw'⟩;rw[hw'];clear hw')|(go_at_call 87;refine (Il _).mono ?_;rintro e w' ⟨rfl,hw'⟩;rw[hw'];clear hw')|(go_at_call 94;refine hTx.mono ?_;rintro e w' ⟨rfl,hw'⟩;rw[hw'];clear hw')|(go_at_call 95;refine TQ.mono ?_;rintro e w' ⟨rfl,m1,rfl⟩)|(go_at_call 89;refine (Di _).mono ?_;rintro e w' ⟨rfl,hw'⟩;rw[hw'];clear hw')|(go_at_call 96;refine (pJ _).mono ?_;rintro e w1 ⟨s1,rfl,hs1,hb1⟩;have HB1:Hid (Below w.heap.size w w1):=((bg HB0.out).trans (hb1.mono (bg HB0.out).size));clear hb1 hs1))
  refine bodyPost_ret (v:=.tuple #[s1,.bool false]) (by simp[results,Tryz.results50,go_sem, *]) rfl ?_
  exact⟨s1,by rw[HZ.out],fun h=>(by rw[HZ.out] at h;cases h),HB1.out⟩
 | true =>
  have HZ:Hid (Q=ls):=by rw[Hid,HE.out];rfl
  have hF2:∀ X,Calls Tryz.prog 96 #[.agg #[.int .i64 ver,.slice ta txt.length tc,.slice ga got.length gc,.slice sa ak.length sc,.bool wed,.bool aB,.int .i64 aC,.slice ma aA.length mc]] X fun e w'=>e=.returned (.tuple #[V,.bool true])∧Below X.heap.size X w':=fun X=>(pJ X).mono (fun e w' ⟨s,h1,h2,h3⟩=>⟨by rw[h1,h2 rfl],h3⟩)
  clear pJ;have HRf:Hid (∀ m,Below W.heap.size W (W.drewN m)):=fun m=>bg (Below.refl _ _)
  go_enter Tryz.func50,Tryz.ntmps50
  go_wp2_with (first|(go_at_call 52;refine (hRl _).mono ?_;rintro e w' ⟨rfl,hw'⟩;rw[hw'];clear hw')|(go_at_call 87;refine (Il _).mono ?_;rintro e w' ⟨rfl,hw'⟩;rw[hw'];clear hw')|(go_at_call 94;refine hTx.mono ?_;rintro e w' ⟨rfl,hw'⟩;rw[hw'];clear hw')|(go_at_call 95;refine TQ.mono ?_;rintro e w' ⟨rfl,m1,rfl⟩)|(go_at_call 89;refine (Di _).mono ?_;rintro e w' ⟨rfl,hw'⟩;rw[hw'];clear hw')|(go_at_call 96;refine (hF2 _).mono ?_;rintro e w1 ⟨rfl,hb1⟩;have HB1:Hid (Below w.heap.size w w1):=((bg HB0.out).trans (hb1.mono (bg HB0.out).size));have hE3:=aA0 w1 ((HRf.out m1).trans (hb1.mono (HRf.out m1).size));clear hb1)|(go_at_call 97;refine hE3.mono ?_;rintro e w2 ⟨rfl,hb2⟩;have HB2:Hid (Below w.heap.size w w2):=(HB1.out.trans (hb2.mono HB1.out.size));clear hb2))
  refine bodyPost_ret (v:=.tuple #[V,.bool ls]) (by simp[results,Tryz.results50,go_sem, *]) rfl ?_
  exact⟨V,by rw[HZ.out],fun _=>rfl,HB2.out⟩
theorem zI (A:Ra) (r:Rw) (n:Int) (w:World) (hv:iM w A r) :
  Calls Tryz.prog 51 #[bV A r,.int .i64 n] w fun e w'=>e=.returned (.bool (bI r n))∧Below w.heap.size w w':=by
 have hB0:=aF w (.cells (bD A r) 44);have hx:=Bx.new w 44 (bD A r);have h0:=hv.below hB0;generalize hW:w.alloc (.cells (bD A r) 44)=W at *;have hSt:Calls Tryz.prog 50 #[bV A r,.int .i64 n] W fun e w'=>∃ s,e=.returned (.tuple #[s,.bool (bI r n)])∧Below W.heap.size W w':=(Lr A r n W h0).mono (fun e w' ⟨s,h1,_,h2⟩=>⟨s,h1,h2⟩)
 have HB0:Hid (Below w.heap.size w W):=hB0;generalize bI r n=Q at *;obtain⟨ver,txt,got,ak,wed,aB,aC,aA⟩:=r;obtain⟨ta,tc,ga,gc,sa,sc,ma,mc⟩:=A;have hw0:w.alloc (.cells #[.int .i64 ver,.slice ta txt.length tc,.slice ga got.length gc,.slice sa ak.length sc,.bool wed,.bool aB,.int .i64 aC,.slice ma aA.length mc] 44)=W:=hW;obtain⟨⟨c0,c1,c2,c3⟩,c4,c5,c6,c7⟩:=Bx.r8 hx;simp only[bV,bD] at c0 c1 c2 c3 c4 c5 c6 c7 hSt;unfold bV bD;clear hv h0 hx hW hB0;simp only
 go_enter Tryz.func51,Tryz.ntmps51
 go_wp2_with (go_at_call 50;refine hSt.mono ?_;rintro e w1 ⟨s1,rfl,hb1⟩;have HB1:Hid (Below w.heap.size w w1):=(HB0.out.trans (hb1.mono HB0.out.size));clear hb1)
 go_ret
 exact⟨rfl,HB1.out⟩
theorem TR:Ro:=fun A r n w hv _=>zI A r n w hv
theorem CZ (A B:Ra) (r s:Rw) (T:TypeId) (w:World):∃ W,(w.alloc (.cells (bD A r) T)).alloc (.cells (bD B s) 44)=W∧Bx W w.heap.size T (bD A r)∧Bx W (w.heap.size+1) 44 (bD B s)∧Below w.heap.size w W:=by
 refine⟨_,rfl,(Bx.new w _ _).alloc _, ?_,(aF w _).trans ((aF _ _).mono (aF w _).size)⟩;have:=Bx.new (w.alloc (.cells (bD A r) T)) 44 (bD B s);simpa using this
def pV (r s:Rw):Bool:=decide (r.ver≤s.ver)&&(zH s.txt r.txt&&(qY r.got s.got&&r.ak.all (fun x=>decide (x∈s.ak))))
def uV (r s:Rw):Bool:=if r.aB then s.aB&&(decide (r.aC≤s.aC)&&pV r s) else if r.wed then s.wed&&pV r s else pV r s
theorem ac8 (r s:Rw) (n:Int):yj r s n=(bI r n&&(bI s n&&uV r s)):=by
 cases h1:bI r n with
 | false=>simp[yj,h1]
 | true =>
  cases h2:bI s n with
  | false=>simp[yj,h2]
  | true =>
   have w1:r.aB=true→r.wed=true:=fun h=>by
    simp only[bI,h,if_true,Bool.and_eq_true] at h1;exact h1.2.2.2.2.2.2.1
   have w2:s.aB=true→s.wed=true:=fun h=>by
    simp only[bI,h,if_true,Bool.and_eq_true] at h2;exact h2.2.2.2.2.2.2.1
   simp only[yj,h1,h2,uV,pV,zH,Bool.true_and]
   cases e1:r.aB<;>cases e2:s.aB<;>cases e3:r.wed<;>cases e4:s.wed<;>simp[e1,e2,e3,e4] at w1 w2 ⊢
   all_goals
    cases decide (r.ver≤s.ver)<;>cases decide (r.txt.length≤s.txt.length)<;>cases decide (s.txt.take r.txt.length=r.txt)<;>cases qY r.got s.got<;>simp[Bool.and_comm]
theorem Eo (A B:Ra) (r s:Rw) (w:World) (hv:iM w A r) (hu:iM w B s) :
  Calls Tryz.prog 221 #[bV A r,bV B s] w fun e w'=>e=.returned (.bool (pV r s))∧Below w.heap.size w w':=by
 obtain⟨W,hW,hx,hy,hB0⟩:=CZ A B r s 44 w;have h0:=hv.below hB0;have g0:=hu.below hB0;have hS:=h0.rws;have gS:=g0.rws;have hBg:=Wy B.ta A.ta B.tc A.tc s.txt r.txt W g0.txt hS.txt gS.mt hS.mt;have hUn:∀ m,Calls Tryz.prog 223 #[.slice A.ga r.got.length A.gc,.slice B.ga s.got.length B.gc] (W.drewN m) fun e w'=>e=.returned (.bool (qY r.got s.got))∧∃ n,w'=(W.drewN m).drewN n:=fun m=>IU A.ga B.ga r.got.length A.gc s.got.length B.gc r.got s.got (W.drewN m) (h0.below (bg (Below.refl _ _))).got.vec (g0.below (bg (Below.refl _ _))).got.vec h0.got.le g0.got.le h0.got.mx g0.got.mx
 have hAm:∀ m,Calls Tryz.prog 192 #[.slice A.sa r.ak.length A.sc,.slice B.sa s.ak.length B.sc] (W.drewN m) fun e w'=>e=.returned (.bool (r.ak.all (fun x=>decide (x∈s.ak))))∧w'=W.drewN m:=fun m=>Lp B.sa A.sa B.sc A.sc s.ak r.ak (W.drewN m) (g0.below (bg (Below.refl _ _))).ak.vec (h0.below (bg (Below.refl _ _))).ak.vec gS.ms hS.ms
 have HG:Hid (pV r s=(decide (r.ver≤s.ver)&&(zH s.txt r.txt&&(qY r.got s.got&&r.ak.all (fun x=>decide (x∈s.ak)))))):=rfl
 generalize pV r s=G at *;generalize zH s.txt r.txt=b1 at *;generalize qY r.got s.got=b2 at *;generalize r.ak.all (fun x=>decide (x∈s.ak))=b3 at *
 have HB0:Hid (Below w.heap.size w W):=hB0;obtain⟨pv,pt,pg,ps,pw,pd,py,pm⟩:=r;obtain⟨qv,qt,qg,qs,qw,qd,qy,qm⟩:=s;obtain⟨pA,pa,pB,pb,pC,pc,pD,pe⟩:=A;obtain⟨qA,qa,qB,qb,qC,qc,qD,qe⟩:=B;have hw0:(w.alloc (.cells #[.int .i64 pv,.slice pA pt.length pa,.slice pB pg.length pb,.slice pC ps.length pc,.bool pw,.bool pd,.int .i64 py,.slice pD pm.length pe] 44)).alloc (.cells #[.int .i64 qv,.slice qA qt.length qa,.slice qB qg.length qb,.slice qC qs.length qc,.bool qw,.bool qd,.int .i64 qy,.slice qD qm.length qe] 44)=W:=hW;obtain⟨⟨c0,c1,c2,c3⟩,c4,c5,c6,c7⟩:=Bx.r8 hx;obtain⟨⟨d0,d1,d2,d3⟩,d4,d5,d6,d7⟩:=Bx.r8 hy;simp only[bV,bD] at c0 c1 c2 c3 c4 c5 c6 c7 d0 d1 d2 d3 d4 d5 d6 d7 hBg hUn hAm HG;unfold bV bD;clear hv hu h0 g0 hx hy hW hB0 hS gS;simp only
 by_cases gU:pv≤qv;rotate_left
 ·have HZ:Hid (G=false):=by rw[Hid,HG.out,decide_eq_false gU];rfl
  go_enter Tryz.func221,Tryz.ntmps221
  go_wp2;go_ret
  exact⟨aH (by rw[HZ.out]),HB0.out⟩
 have kU:Hid (G=(b1&&(b2&&b3))):=by rw[Hid,HG.out,decide_eq_true gU];rfl
 clear HG
 cases b1 with
 | false =>
  have HZ:Hid (G=false):=kU.out;go_enter Tryz.func221,Tryz.ntmps221
  go_wp2_with (go_at_call 222;refine hBg.mono ?_;rintro e w' ⟨rfl,m1,rfl⟩)
  go_ret
  exact⟨aH (by rw[HZ.out]),bg HB0.out⟩
 | true =>
 cases b2 with
 | false =>
  have HZ:Hid (G=false):=kU.out;go_enter Tryz.func221,Tryz.ntmps221
  go_wp2_with (first|(go_at_call 222;refine hBg.mono ?_;rintro e w' ⟨rfl,m1,rfl⟩)|(go_at_call 223;refine (hUn _).mono ?_;rintro e w' ⟨rfl,m2,hw'⟩;rw[hw',World.drewN_drewN];clear hw'))
  go_ret
  exact⟨aH (by rw[HZ.out]),bg HB0.out⟩
 | true =>
  have HZ:Hid (G=b3):=kU.out;go_enter Tryz.func221,Tryz.ntmps221
  go_wp2_with (first|(go_at_call 222;refine hBg.mono ?_;rintro e w' ⟨rfl,m1,rfl⟩)|(go_at_call 223;refine (hUn _).mono ?_;rintro e w' ⟨rfl,m2,hw'⟩;rw[hw',World.drewN_drewN];clear hw')|(go_at_call 192;refine (hAm _).mono ?_;rintro e w' ⟨rfl,hw'⟩;rw[hw'];clear hw'))
  go_ret
  exact⟨aH (by rw[HZ.out]),bg HB0.out⟩
theorem WE (A B:Ra) (r s:Rw) (w:World) (hv:iM w A r) (hu:iM w B s) :
  Calls Tryz.prog 226 #[bV A r,bV B s] w fun e w'=>e=.returned (.bool (pV r s))∧Below w.heap.size w w':=by
 obtain⟨W,hW,hx,hy,hB0⟩:=CZ A B r s 172 w;have h0:=hv.below hB0;have g0:=hu.below hB0;have Io:=Eo A B r s W h0 g0;generalize pV r s=G at *;have HB0:Hid (Below w.heap.size w W):=hB0;obtain⟨pv,pt,pg,ps,pw,pd,py,pm⟩:=r;obtain⟨qv,qt,qg,qs,qw,qd,qy,qm⟩:=s;obtain⟨pA,pa,pB,pb,pC,pc,pD,pe⟩:=A;obtain⟨qA,qa,qB,qb,qC,qc,qD,qe⟩:=B;have hw0:(w.alloc (.cells #[.int .i64 pv,.slice pA pt.length pa,.slice pB pg.length pb,.slice pC ps.length pc,.bool pw,.bool pd,.int .i64 py,.slice pD pm.length pe] 172)).alloc (.cells #[.int .i64 qv,.slice qA qt.length qa,.slice qB qg.length qb,.slice qC qs.length qc,.bool qw,.bool qd,.int .i64 qy,.slice qD qm.length qe] 44)=W:=hW;obtain⟨⟨c0,c1,c2,c3⟩,c4,c5,c6,c7⟩:=Bx.r8 hx;obtain⟨⟨d0,d1,d2,d3⟩,d4,d5,d6,d7⟩:=Bx.r8 hy;simp only[bV,bD] at c0 c1 c2 c3 c4 c5 c6 c7 d0 d1 d2 d3 d4 d5 d6 d7 Io;unfold bV bD;clear hv hu h0 g0 hx hy hW hB0;simp only
 go_enter Tryz.func226,Tryz.ntmps226
 go_wp2_with (go_at_call 221;refine Io.mono ?_;rintro e w1 ⟨rfl,hb1⟩;have HB1:Hid (Below w.heap.size w w1):=(HB0.out.trans (hb1.mono HB0.out.size));clear hb1)
 go_ret
 exact⟨rfl,HB1.out⟩
theorem WG (A B:Ra) (r s:Rw) (w:World) (hv:iM w A r) (hu:iM w B s) :
  Calls Tryz.prog 225 #[bV A r,bV B s] w fun e w'=>e=.returned (.bool (s.wed&&pV r s))∧Below w.heap.size w w':=by
 obtain⟨W,hW,hx,hy,hB0⟩:=CZ A B r s 171 w;have h0:=hv.below hB0;have g0:=hu.below hB0;have Io:=Eo A B r s W h0 g0;generalize pV r s=G at *;have HB0:Hid (Below w.heap.size w W):=hB0;obtain⟨pv,pt,pg,ps,pw,pd,py,pm⟩:=r;obtain⟨qv,qt,qg,qs,qw,qd,qy,qm⟩:=s;obtain⟨pA,pa,pB,pb,pC,pc,pD,pe⟩:=A;obtain⟨qA,qa,qB,qb,qC,qc,qD,qe⟩:=B;have hw0:(w.alloc (.cells #[.int .i64 pv,.slice pA pt.length pa,.slice pB pg.length pb,.slice pC ps.length pc,.bool pw,.bool pd,.int .i64 py,.slice pD pm.length pe] 171)).alloc (.cells #[.int .i64 qv,.slice qA qt.length qa,.slice qB qg.length qb,.slice qC qs.length qc,.bool qw,.bool qd,.int .i64 qy,.slice qD qm.length qe] 44)=W:=hW;obtain⟨⟨c0,c1,c2,c3⟩,c4,c5,c6,c7⟩:=Bx.r8 hx;obtain⟨⟨d0,d1,d2,d3⟩,d4,d5,d6,d7⟩:=Bx.r8 hy;simp only[bV,bD] at c0 c1 c2 c3 c4 c5 c6 c7 d0 d1 d2 d3 d4 d5 d6 d7 Io;unfold bV bD;clear hv hu h0 g0 hx hy hW hB0;simp only
 cases qw with
 | false =>
  go_enter Tryz.func225,Tryz.ntmps225
  go_wp2;go_ret
  exact⟨rfl,HB0.out⟩
 | true =>
  go_enter Tryz.func225,Tryz.ntmps225
  go_wp2_with (go_at_call 221;refine Io.mono ?_;rintro e w1 ⟨rfl,hb1⟩;have HB1:Hid (Below w.heap.size w w1):=(HB0.out.trans (hb1.mono HB0.out.size));clear hb1)
  go_ret
  exact⟨rfl,HB1.out⟩
theorem WH (A B:Ra) (r s:Rw) (w:World) (hv:iM w A r) (hu:iM w B s) :
  Calls Tryz.prog 220 #[bV A r,bV B s] w fun e w'=>e=.returned (.bool (s.aB&&(decide (r.aC≤s.aC)&&pV r s)))∧Below w.heap.size w w':=by
 obtain⟨W,hW,hx,hy,hB0⟩:=CZ A B r s 170 w;have h0:=hv.below hB0;have g0:=hu.below hB0;have Io:=Eo A B r s W h0 g0;generalize pV r s=G at *;have HB0:Hid (Below w.heap.size w W):=hB0;obtain⟨pv,pt,pg,ps,pw,pd,py,pm⟩:=r;obtain⟨qv,qt,qg,qs,qw,qd,qy,qm⟩:=s;obtain⟨pA,pa,pB,pb,pC,pc,pD,pe⟩:=A;obtain⟨qA,qa,qB,qb,qC,qc,qD,qe⟩:=B;have hw0:(w.alloc (.cells #[.int .i64 pv,.slice pA pt.length pa,.slice pB pg.length pb,.slice pC ps.length pc,.bool pw,.bool pd,.int .i64 py,.slice pD pm.length pe] 170)).alloc (.cells #[.int .i64 qv,.slice qA qt.length qa,.slice qB qg.length qb,.slice qC qs.length qc,.bool qw,.bool qd,.int .i64 qy,.slice qD qm.length qe] 44)=W:=hW;obtain⟨⟨c0,c1,c2,c3⟩,c4,c5,c6,c7⟩:=Bx.r8 hx;obtain⟨⟨d0,d1,d2,d3⟩,d4,d5,d6,d7⟩:=Bx.r8 hy;simp only[bV,bD] at c0 c1 c2 c3 c4 c5 c6 c7 d0 d1 d2 d3 d4 d5 d6 d7 Io;unfold bV bD;clear hv hu h0 g0 hx hy hW hB0;simp only
 cases qd with
 | false =>
  go_enter Tryz.func220,Tryz.ntmps220
  go_wp2;go_ret
  exact⟨rfl,HB0.out⟩
 | true =>
  by_cases hy:py≤qy
  ·have HD:Hid (decide (py≤qy)=true):=decide_eq_true hy
   go_enter Tryz.func220,Tryz.ntmps220
   go_wp2_with (go_at_call 221;refine Io.mono ?_;rintro e w1 ⟨rfl,hb1⟩;have HB1:Hid (Below w.heap.size w w1):=(HB0.out.trans (hb1.mono HB0.out.size));clear hb1)
   go_ret
   exact⟨aH (by rw[HD.out];rfl),HB1.out⟩
  ·have HD:Hid (decide (py≤qy)=false):=decide_eq_false hy
   go_enter Tryz.func220,Tryz.ntmps220
   go_wp2;go_ret
   exact⟨aH (by rw[HD.out];rfl),HB0.out⟩
theorem WI (A B:Ra) (r s:Rw):(r.aB=true→∀ w,iM w A r→iM w B s→Calls Tryz.prog 220 #[bV A r,bV B s] w fun e w'=>e=.returned (.bool (uV r s))∧Below w.heap.size w w')∧(r.aB=false→r.wed=true→∀ w,iM w A r→iM w B s→Calls Tryz.prog 225 #[bV A r,bV B s] w fun e w'=>e=.returned (.bool (uV r s))∧Below w.heap.size w w')∧(r.aB=false→r.wed=false→∀ w,iM w A r→iM w B s→Calls Tryz.prog 226 #[bV A r,bV B s] w fun e w'=>e=.returned (.bool (uV r s))∧Below w.heap.size w w'):=by
 refine⟨fun h w h1 h2=>?_,fun h h' w h1 h2=>?_,fun h h' w h1 h2=>?_⟩
 ·have e:uV r s=(s.aB&&(decide (r.aC≤s.aC)&&pV r s)):=by rw[uV,h];rfl
  rw[e];exact WH A B r s w h1 h2
 ·have e:uV r s=(s.wed&&pV r s):=by rw[uV,h,h'];rfl
  rw[e];exact WG A B r s w h1 h2
 ·have e:uV r s=pV r s:=by rw[uV,h,h'];rfl
  rw[e];exact WE A B r s w h1 h2
theorem WJ (A B:Ra) (r s:Rw) (n:Int) (w:World) (hv:iM w A r) (hu:iM w B s) :
  Calls Tryz.prog 17 #[bV A r,bV B s,.int .i64 n] w fun e w'=>e=.returned (.bool (yj r s n))∧Below w.heap.size w w':=by
 obtain⟨W,hW,hx,hy,hB0⟩:=CZ A B r s 44 w;have h0:=hv.below hB0;have g0:=hu.below hB0;have QC:=Lr A r n W h0;have sD:∀ X,Below W.heap.size W X→Calls Tryz.prog 51 #[bV B s,.int .i64 n] X fun e w'=>e=.returned (.bool (bI s n))∧Below X.heap.size X w':=fun X h=>zI B s n X (g0.below h)
 obtain⟨m1,m2,m3⟩:=WI A B r s;have hM1:=fun h X hX=>m1 h X (h0.below hX) (g0.below hX)
 have hM2:=fun h h' X hX=>m2 h h' X (h0.below hX) (g0.below hX)
 have uH:=fun h h' X hX=>m3 h h' X (h0.below hX) (g0.below hX)
 have HY0:Hid (∀ X,Below W.heap.size W X→Bx X (w.heap.size+1) 44 (bD B s)):=fun X h=>hy.below h
 have HB0:Hid (Below w.heap.size w W):=hB0;rw[ac8 r s n];generalize bI r n=o1 at *;generalize bI s n=o2 at *;generalize uV r s=G at *;obtain⟨pv,pt,pg,ps,pw,pd,py,pm⟩:=r;obtain⟨qv,qt,qg,qs,qw,qd,qy,qm⟩:=s;obtain⟨pA,pa,pB,pb,pC,pc,pD,pe⟩:=A;obtain⟨qA,qa,qB,qb,qC,qc,qD,qe⟩:=B;have hw0:(w.alloc (.cells #[.int .i64 pv,.slice pA pt.length pa,.slice pB pg.length pb,.slice pC ps.length pc,.bool pw,.bool pd,.int .i64 py,.slice pD pm.length pe] 44)).alloc (.cells #[.int .i64 qv,.slice qA qt.length qa,.slice qB qg.length qb,.slice qC qs.length qc,.bool qw,.bool qd,.int .i64 qy,.slice qD qm.length qe] 44)=W:=hW;have HY:Hid (∀ X,Below W.heap.size W X→Bx X (w.heap.size+1) 44 #[.int .i64 qv,.slice qA qt.length qa,.slice qB qg.length qb,.slice qC qs.length qc,.bool qw,.bool qd,.int .i64 qy,.slice qD qm.length qe]):=HY0;obtain⟨⟨c0,c1,c2,c3⟩,c4,c5,c6,c7⟩:=Bx.r8 hx;obtain⟨⟨d0,d1,d2,d3⟩,d4,d5,d6,d7⟩:=Bx.r8 hy;simp only[bV,bD] at c0 c1 c2 c3 c4 c5 c6 c7 d0 d1 d2 d3 d4 d5 d6 d7 sD hM1 hM2 uH;unfold bV bD;clear hv hu h0 g0 hx hy hW hB0 HY0 m1 m2 m3;simp only
 cases o1 with
 | false =>
  have hSt:Calls Tryz.prog 50 #[.agg #[.int .i64 pv,.slice pA pt.length pa,.slice pB pg.length pb,.slice pC ps.length pc,.bool pw,.bool pd,.int .i64 py,.slice pD pm.length pe],.int .i64 n] W fun e w'=>∃ s,e=.returned (.tuple #[s,.bool false])∧Below W.heap.size W w':=QC.mono (fun e w' ⟨s,h1,_,h2⟩=>⟨s,h1,h2⟩)
  clear QC hM1 hM2 uH;go_enter Tryz.func17,Tryz.ntmps17
  go_wp2_with (go_at_call 50;refine hSt.mono ?_;rintro e w1 ⟨s1,rfl,hb1⟩;have HB1:Hid (Below w.heap.size w w1):=(HB0.out.trans (hb1.mono HB0.out.size));clear c0 c1 c2 c3 c4 c5 c6 c7 d0 d1 d2 d3 d4 d5 d6 d7;obtain⟨⟨d0,d1,d2,d3⟩,d4,d5,d6,d7⟩:=Bx.r8 (HY.out w1 hb1);have hR:=sD w1 hb1;have hBW1:Below W.heap.size W w1:=hb1;clear hb1)
  go_ret
  exact⟨rfl,HB1.out⟩
 | true =>
 have hSt:Calls Tryz.prog 50 #[.agg #[.int .i64 pv,.slice pA pt.length pa,.slice pB pg.length pb,.slice pC ps.length pc,.bool pw,.bool pd,.int .i64 py,.slice pD pm.length pe],.int .i64 n] W fun e w'=>e=.returned (.tuple #[yU ⟨pA,pa,pB,pb,pC,pc,pD,pe⟩ ⟨pv,pt,pg,ps,pw,pd,py,pm⟩,.bool true])∧Below W.heap.size W w':=QC.mono (fun e w' ⟨s,h1,h2,h3⟩=>⟨by rw[h1,h2 rfl],h3⟩)
 clear QC
 cases pd with
 | true =>
  have hSt:Calls Tryz.prog 50 #[.agg #[.int .i64 pv,.slice pA pt.length pa,.slice pB pg.length pb,.slice pC ps.length pc,.bool pw,.bool true,.int .i64 py,.slice pD pm.length pe],.int .i64 n] W fun e w'=>e=.returned (.tuple #[.iface 170 (.agg #[.int .i64 pv,.slice pA pt.length pa,.slice pB pg.length pb,.slice pC ps.length pc,.bool pw,.bool true,.int .i64 py,.slice pD pm.length pe]),.bool true])∧Below W.heap.size W w':=hSt
  have Ip:=hM1 rfl;clear hM1 hM2 uH;have hme:=ac3 (.agg #[.int .i64 pv,.slice pA pt.length pa,.slice pB pg.length pb,.slice pC ps.length pc,.bool pw,.bool true,.int .i64 py,.slice pD pm.length pe])
  cases o2 with
  | false =>
   go_enter Tryz.func17,Tryz.ntmps17
   go_wp2_with (first|(go_at_call 50;refine hSt.mono ?_;rintro e w1 ⟨rfl,hb1⟩;have HB1:Hid (Below w.heap.size w w1):=(HB0.out.trans (hb1.mono HB0.out.size));clear c0 c1 c2 c3 c4 c5 c6 c7 d0 d1 d2 d3 d4 d5 d6 d7;obtain⟨⟨d0,d1,d2,d3⟩,d4,d5,d6,d7⟩:=Bx.r8 (HY.out w1 hb1);have hR:=sD w1 hb1;have hBW1:Hid (Below W.heap.size W w1):=hb1;clear hb1)|(go_at_call 51;refine hR.mono ?_;rintro e w2 ⟨rfl,hb2⟩;have HB2:Hid (Below w.heap.size w w2):=(HB1.out.trans (hb2.mono HB1.out.size));have hBW2:Below W.heap.size W w2:=(hBW1.out.trans (hb2.mono hBW1.out.size));clear d0 d1 d2 d3 d4 d5 d6 d7;obtain⟨⟨d0,d1,d2,d3⟩,d4,d5,d6,d7⟩:=Bx.r8 (HY.out w2 hBW2);have hM:=Ip w2 hBW2;clear hb2))
   go_ret
   exact⟨rfl,HB2.out⟩
  | true =>
   go_enter Tryz.func17,Tryz.ntmps17
   go_wp2_with (first|(go_at_call 50;refine hSt.mono ?_;rintro e w1 ⟨rfl,hb1⟩;have HB1:Hid (Below w.heap.size w w1):=(HB0.out.trans (hb1.mono HB0.out.size));clear c0 c1 c2 c3 c4 c5 c6 c7 d0 d1 d2 d3 d4 d5 d6 d7;obtain⟨⟨d0,d1,d2,d3⟩,d4,d5,d6,d7⟩:=Bx.r8 (HY.out w1 hb1);have hR:=sD w1 hb1;have hBW1:Hid (Below W.heap.size W w1):=hb1;clear hb1)|(go_at_call 51;refine hR.mono ?_;rintro e w2 ⟨rfl,hb2⟩;have HB2:Hid (Below w.heap.size w w2):=(HB1.out.trans (hb2.mono HB1.out.size));have hBW2:Below W.heap.size W w2:=(hBW1.out.trans (hb2.mono hBW1.out.size));clear d0 d1 d2 d3 d4 d5 d6 d7;obtain⟨⟨d0,d1,d2,d3⟩,d4,d5,d6,d7⟩:=Bx.r8 (HY.out w2 hBW2);have hM:=Ip w2 hBW2;clear hb2)|(go_at_call 220;refine hM.mono ?_;rintro e w3 ⟨rfl,hb3⟩;have HB3:Hid (Below w.heap.size w w3):=(HB2.out.trans (hb3.mono HB2.out.size));clear hb3))
   go_ret
   exact⟨rfl,HB3.out⟩
 | false =>
  cases pw with
  | true =>
   have hSt:Calls Tryz.prog 50 #[.agg #[.int .i64 pv,.slice pA pt.length pa,.slice pB pg.length pb,.slice pC ps.length pc,.bool true,.bool false,.int .i64 py,.slice pD pm.length pe],.int .i64 n] W fun e w'=>e=.returned (.tuple #[.iface 171 (.agg #[.int .i64 pv,.slice pA pt.length pa,.slice pB pg.length pb,.slice pC ps.length pc,.bool true,.bool false,.int .i64 py,.slice pD pm.length pe]),.bool true])∧Below W.heap.size W w':=hSt
   have Ip:=hM2 rfl rfl;clear hM1 hM2 uH;have hme:=ac5 (.agg #[.int .i64 pv,.slice pA pt.length pa,.slice pB pg.length pb,.slice pC ps.length pc,.bool true,.bool false,.int .i64 py,.slice pD pm.length pe])
   cases o2 with
   | false =>
    go_enter Tryz.func17,Tryz.ntmps17
    go_wp2_with (first|(go_at_call 50;refine hSt.mono ?_;rintro e w1 ⟨rfl,hb1⟩;have HB1:Hid (Below w.heap.size w w1):=(HB0.out.trans (hb1.mono HB0.out.size));clear c0 c1 c2 c3 c4 c5 c6 c7 d0 d1 d2 d3 d4 d5 d6 d7;obtain⟨⟨d0,d1,d2,d3⟩,d4,d5,d6,d7⟩:=Bx.r8 (HY.out w1 hb1);have hR:=sD w1 hb1;have hBW1:Hid (Below W.heap.size W w1):=hb1;clear hb1)|(go_at_call 51;refine hR.mono ?_;rintro e w2 ⟨rfl,hb2⟩;have HB2:Hid (Below w.heap.size w w2):=(HB1.out.trans (hb2.mono HB1.out.size));have hBW2:Below W.heap.size W w2:=(hBW1.out.trans (hb2.mono hBW1.out.size));clear d0 d1 d2 d3 d4 d5 d6 d7;obtain⟨⟨d0,d1,d2,d3⟩,d4,d5,d6,d7⟩:=Bx.r8 (HY.out w2 hBW2);have hM:=Ip w2 hBW2;clear hb2))
    go_ret
    exact⟨rfl,HB2.out⟩
   | true =>
    go_enter Tryz.func17,Tryz.ntmps17
    go_wp2_with (first|(go_at_call 50;refine hSt.mono ?_;rintro e w1 ⟨rfl,hb1⟩;have HB1:Hid (Below w.heap.size w w1):=(HB0.out.trans (hb1.mono HB0.out.size));clear c0 c1 c2 c3 c4 c5 c6 c7 d0 d1 d2 d3 d4 d5 d6 d7;obtain⟨⟨d0,d1,d2,d3⟩,d4,d5,d6,d7⟩:=Bx.r8 (HY.out w1 hb1);have hR:=sD w1 hb1;have hBW1:Hid (Below W.heap.size W w1):=hb1;clear hb1)|(go_at_call 51;refine hR.mono ?_;rintro e w2 ⟨rfl,hb2⟩;have HB2:Hid (Below w.heap.size w w2):=(HB1.out.trans (hb2.mono HB1.out.size));have hBW2:Below W.heap.size W w2:=(hBW1.out.trans (hb2.mono hBW1.out.size));clear d0 d1 d2 d3 d4 d5 d6 d7;obtain⟨⟨d0,d1,d2,d3⟩,d4,d5,d6,d7⟩:=Bx.r8 (HY.out w2 hBW2);have hM:=Ip w2 hBW2;clear hb2)|(go_at_call 225;refine hM.mono ?_;rintro e w3 ⟨rfl,hb3⟩;have HB3:Hid (Below w.heap.size w w3):=(HB2.out.trans (hb3.mono HB2.out.size));clear hb3))
    go_ret
    exact⟨rfl,HB3.out⟩
  | false =>
   have hSt:Calls Tryz.prog 50 #[.agg #[.int .i64 pv,.slice pA pt.length pa,.slice pB pg.length pb,.slice pC ps.length pc,.bool false,.bool false,.int .i64 py,.slice pD pm.length pe],.int .i64 n] W fun e w'=>e=.returned (.tuple #[.iface 172 (.agg #[.int .i64 pv,.slice pA pt.length pa,.slice pB pg.length pb,.slice pC ps.length pc,.bool false,.bool false,.int .i64 py,.slice pD pm.length pe]),.bool true])∧Below W.heap.size W w':=hSt
   have Ip:=uH rfl rfl;clear hM1 hM2 uH;have hme:=ac6 (.agg #[.int .i64 pv,.slice pA pt.length pa,.slice pB pg.length pb,.slice pC ps.length pc,.bool false,.bool false,.int .i64 py,.slice pD pm.length pe])
   cases o2 with
   | false =>
    go_enter Tryz.func17,Tryz.ntmps17
    go_wp2_with (first|(go_at_call 50;refine hSt.mono ?_;rintro e w1 ⟨rfl,hb1⟩;have HB1:Hid (Below w.heap.size w w1):=(HB0.out.trans (hb1.mono HB0.out.size));clear c0 c1 c2 c3 c4 c5 c6 c7 d0 d1 d2 d3 d4 d5 d6 d7;obtain⟨⟨d0,d1,d2,d3⟩,d4,d5,d6,d7⟩:=Bx.r8 (HY.out w1 hb1);have hR:=sD w1 hb1;have hBW1:Hid (Below W.heap.size W w1):=hb1;clear hb1)|(go_at_call 51;refine hR.mono ?_;rintro e w2 ⟨rfl,hb2⟩;have HB2:Hid (Below w.heap.size w w2):=(HB1.out.trans (hb2.mono HB1.out.size));have hBW2:Below W.heap.size W w2:=(hBW1.out.trans (hb2.mono hBW1.out.size));clear d0 d1 d2 d3 d4 d5 d6 d7;obtain⟨⟨d0,d1,d2,d3⟩,d4,d5,d6,d7⟩:=Bx.r8 (HY.out w2 hBW2);have hM:=Ip w2 hBW2;clear hb2))
    go_ret
    exact⟨rfl,HB2.out⟩
   | true =>
    go_enter Tryz.func17,Tryz.ntmps17
    go_wp2_with (first|(go_at_call 50;refine hSt.mono ?_;rintro e w1 ⟨rfl,hb1⟩;have HB1:Hid (Below w.heap.size w w1):=(HB0.out.trans (hb1.mono HB0.out.size));clear c0 c1 c2 c3 c4 c5 c6 c7 d0 d1 d2 d3 d4 d5 d6 d7;obtain⟨⟨d0,d1,d2,d3⟩,d4,d5,d6,d7⟩:=Bx.r8 (HY.out w1 hb1);have hR:=sD w1 hb1;have hBW1:Hid (Below W.heap.size W w1):=hb1;clear hb1)|(go_at_call 51;refine hR.mono ?_;rintro e w2 ⟨rfl,hb2⟩;have HB2:Hid (Below w.heap.size w w2):=(HB1.out.trans (hb2.mono HB1.out.size));have hBW2:Below W.heap.size W w2:=(hBW1.out.trans (hb2.mono hBW1.out.size));clear d0 d1 d2 d3 d4 d5 d6 d7;obtain⟨⟨d0,d1,d2,d3⟩,d4,d5,d6,d7⟩:=Bx.r8 (HY.out w2 hBW2);have hM:=Ip w2 hBW2;clear hb2)|(go_at_call 226;refine hM.mono ?_;rintro e w3 ⟨rfl,hb3⟩;have HB3:Hid (Below w.heap.size w w3):=(HB2.out.trans (hb3.mono HB2.out.size));clear hb3))
    go_ret
    exact⟨rfl,HB3.out⟩
theorem Nq:Dk:=fun A B r s n w hv hu _=>WJ A B r s n w hv hu
theorem WL (A B:Ra) (r s:Rw) (w:World) :
  Calls Tryz.prog 178 #[bV A r,bV B s] w fun e w'=>e=.returned (.bool (decide (s.ver<r.ver)))∧Below w.heap.size w w':=by
 have hB0:Below w.heap.size w ((w.alloc (.cells (bD A r) 44)).alloc (.cells (bD B s) 44)):=(aF w _).trans ((aF _ _).mono (aF w _).size);have hx:Bx ((w.alloc (.cells (bD A r) 44)).alloc (.cells (bD B s) 44)) w.heap.size 44 (bD A r):=(Bx.new w _ _).alloc _
 have hy:Bx ((w.alloc (.cells (bD A r) 44)).alloc (.cells (bD B s) 44)) (w.heap.size+1) 44 (bD B s):=by
  have:=Bx.new (w.alloc (.cells (bD A r) 44)) 44 (bD B s);simpa using this
 have c0:=hx.at 0 (v:=.int .i64 r.ver) rfl;have d0:=hy.at 0 (v:=.int .i64 s.ver) rfl;have HB:=aj hB0;unfold bV;unfold bD at *;clear hx hy hB0;by_cases h:s.ver<r.ver
 ·have HZ:Hid (decide (s.ver<r.ver)=true):=decide_eq_true h
  go_enter Tryz.func178,Tryz.ntmps178
  go_wp2;go_ret
  exact⟨aH (by rw[HZ.out]),HB.out⟩
 ·have HZ:Hid (decide (s.ver<r.ver)=false):=decide_eq_false h
  go_enter Tryz.func178,Tryz.ntmps178
  go_wp2;go_ret
  exact⟨aH (by rw[HZ.out]),HB.out⟩
theorem wU (m:Mb):fO m=((inB m.n 1 5&&(inB m.id 0 (m.n-1)&&decide ((m.rows.length:Int)=m.n)))&&(m.rows.all (fun r=>bI r m.n)&&((decide (el m.own.got m.i=(m.own.txt.length:Int))&&decide (m.id∉m.own.ak))&&(jv m.au 60&&(if m.done=true then m.own.aB else (List.range m.au.length).all (fun i=>decide (el m.au i=(i:Int)))))))):=by
 have hel:(∀ i,i<m.au.length→inB (el m.au i) 0 59=true)↔∀ x∈m.au,inB x 0 59=true:=by
  constructor
  ·intro h x hx
   obtain⟨j,hj,rfl⟩:=List.mem_iff_getElem.1 hx;have:=h j hj;simpa[el,hj] using this
  ·intro h i hi
   exact h _ (iF hi)
 rw[Bool.eq_iff_iff];unfold fO Qb jv;simp only[Bool.and_eq_true,List.all_eq_true,decide_eq_true_eq,List.mem_range,Bool.or_eq_true,Bool.not_eq_true']
 rw[show (60:Int)-1=59 from rfl]
 constructor
 ·rintro⟨h1,h2,h3,h4,h5,h6,h7,h8,h9,h10⟩
  refine⟨⟨h1,h2,h3⟩,h6,⟨h8,h9⟩,⟨hel.1 (fun i hi=>(h7 i hi).1),h5⟩, ?_⟩
  split
  ·rename_i hd
   rcases h10 with h|h
   ·rw[hd] at h;cases h
   ·exact h
  ·rename_i hd
   simp only[List.all_eq_true,List.mem_range,decide_eq_true_eq]
   exact fun i hi=>((h7 i hi).2).resolve_left hd
 ·rintro⟨⟨h1,h2,h3⟩,h6,⟨h8,h9⟩,⟨h7,h5⟩,h10⟩
  refine⟨h1,h2,h3, ?_,h5,h6,fun i hi=>⟨hel.2 h7 i hi, ?_⟩,h8,h9, ?_⟩
  ·refine xE (k:=60) (iK.1 h5) (fun x hx=>?_)
   have:=dP.1 (h7 x hx);omega
  ·by_cases hd:m.done=true
   ·exact .inl hd
   ·rw[if_neg hd] at h10
    simp only[List.all_eq_true,List.mem_range,decide_eq_true_eq] at h10;exact .inr (h10 i hi)
  ·by_cases hd:m.done=true
   ·rw[if_pos hd] at h10;exact .inr h10
   ·exact .inl (by simpa using hd)
theorem nS.below {w w':World} {A:Ma} {m:Mb} (h:nS w A m) (hb:Below w.heap.size w w'):nS w' A m:=by
 obtain⟨f,hf⟩:=h.own;exact⟨⟨f,bM hf hb⟩,h.fit,h.i64,h.sz⟩
theorem FB {F:Rw→Nat} {r:Rw}:∀ {R:List Rw},r∈R→F r≤(R.map F).sum
 | x::R,h=>by
  rw[List.map_cons,List.sum_cons];rcases List.mem_cons.1 h with h|h
  ·rw[h];omega
  ·have:=FB (F:=F) h;omega
theorem WM {m:Mb} {r:Rw} (h:r∈m.rows):iy r≤oU m:=by
 have:=FB (F:=iy) h;unfold oU Em DK;rw[List.take_length];omega
theorem nS.row {w:World} {A:Ma} {m:Mb} (h:nS w A m) {k:Nat} (hk:k<m.rows.length):∃ g off Ak,A.ra=some ⟨g,off,none⟩∧C8 w g (off+k*8) (.int .i64 (ah m.rows k).ver) (.slice Ak.ta (ah m.rows k).txt.length Ak.tc) (.slice Ak.ga (ah m.rows k).got.length Ak.gc) (.slice Ak.sa (ah m.rows k).ak.length Ak.sc) (.bool (ah m.rows k).wed) (.bool (ah m.rows k).aB) (.int .i64 (ah m.rows k).aC) (.slice Ak.ma (ah m.rows k).aA.length Ak.mc)∧iM w Ak (ah m.rows k):=by
 obtain⟨f,hf⟩:=h.own;obtain⟨f1,f2,o1,o2,_,_⟩:=OA hf;obtain⟨g,off,f3,hra,_,_,⟨vs,hpc,hov,_⟩,_⟩:=vZ gI (by omega) o1 (dW hk)
 obtain⟨Ak,rfl,hl⟩:=rU hov;have jm:(bD Ak (ah m.rows k)).toList.length=8:=rfl;have c:=hpc.cell;have hfit:=h.fit.1 _ (lJ hk);have hs:=WM (lJ hk);exact⟨g,off,Ak,hra,⟨⟨c 0 (by rw[jm];omega),c 1 (by rw[jm];omega),c 2 (by rw[jm];omega),c 3 (by rw[jm];omega)⟩,c 4 (by rw[jm];omega),c 5 (by rw[jm];omega),c 6 (by rw[jm];omega),c 7 (by rw[jm];omega)⟩,yI (wP hl (lo:=0) (fun b _=>Nat.zero_le b)) hfit (h.i64.2.2 _ (lJ hk)) (Nat.le_trans hs h.sz)⟩
theorem nS.FC {w:World} {A:Ma} {m:Mb} (h:nS w A m):NS w A m:=by
 obtain⟨f,hf⟩:=h.own;exact al2 (yG hf) h.fit
def tY (s:List Int):Bool:=(List.range s.length).all (fun i=>decide (el s i=(i:Int)))
theorem ac9 (a:Option Addr) (cap:Nat) (xs:List Int) (w:World) (hv:Vec w a xs.length xs) (hm:xs.length≤maxLen) :
  Calls Tryz.prog 90 #[.slice a xs.length cap] w fun e w'=>e=.returned (.bool (tY xs))∧w'=w:=by
 obtain⟨_,_,hc⟩:=hv;unfold maxLen at hm
 have HT:Hid ((∀ j,j<xs.length→el xs j=(j:Int))→tY xs=true):=fun h=>by
  simp only[Hid,tY,List.all_eq_true,List.mem_range,decide_eq_true_eq]
  exact h
 have HF:Hid (∀ k,k<xs.length→el xs k≠(k:Int)→tY xs=false):=fun k hk h=>by
  rw[Bool.eq_false_iff];intro hq;simp only[tY,List.all_eq_true,List.mem_range,decide_eq_true_eq] at hq;exact h (hq k hk)
 generalize tY xs=Q at *;go_enter Tryz.func90,Tryz.ntmps90
 go_wp2
 go_loopw [7] (fun i wr=>∃ k:Nat,k≤xs.length∧i=.int .i64 k∧(∀ j,j<k→el xs j=(j:Int))∧wr=w) (fun i _=>xs.length-(intOf i).toNat)
 case atStart=>exact⟨0,Nat.zero_le _,rfl,fun j hj=>by omega,rfl⟩
 case round =>
  obtain⟨k,hk,rfl,hall,rfl⟩:=hrel;have HA:=aj hall;clear hall;by_cases hlt:k<xs.length
  ·rcases hc with h0|⟨b,off,rfl,hc⟩
   ·omega
   have hck:=hc k hlt;have k1:(k:Int)<(xs.length:Int):=by omega
   have k0:(0:Int)≤(k:Int):=by omega
   by_cases he:el xs k=(k:Int)
   ·have HK:Hid (∀ j,j<k+1→el xs j=(j:Int)):=fun j hj=>by
     by_cases e:j=k
     ·subst e;exact he
     ·exact HA.out j (by omega)
    have e1:((el xs k) != (k:Int))=false:=by simp[he]
    clear he hc;generalize el xs k=x at *;go_wp2;go_roundw
    case rel=>exact⟨k+1,by omega,by go_num,HK.out,by first|rfl|trivial⟩
    case measure=>simp[intOf];omega
   ·have HK:Hid (Q=false):=HF.out k hlt he
    have e1:((el xs k) != (k:Int))=true:=by simp[he]
    clear he hc;generalize el xs k=x at *;go_wp2;go_ret
    exact⟨aH (by rw[HK.out]),by first|rfl|trivial⟩
  ·have k1:¬ ((k:Int)<(xs.length:Int)):=by omega
   obtain rfl:k=xs.length:=by omega
   have HK:=aj (HT.out HA.out);clear hc;go_wp2;go_ret
   exact⟨aH (by rw[HK.out]),by first|rfl|trivial⟩
theorem Ls {m:Mb} (h:(inB m.n 1 5&&(inB m.id 0 (m.n-1)&&decide ((m.rows.length:Int)=m.n)))=false):fO m=false:=by rw[wU,h];rfl
theorem ap4 {m:Mb} {k:Nat} (hk:k<m.rows.length) (h:bI (ah m.rows k) m.n=false):fO m=false:=by
 have:m.rows.all (fun r=>bI r m.n)=false:=by
  rw[Bool.eq_false_iff];intro hq;rw[List.all_eq_true.1 hq _ (lJ hk)] at h
  cases h
 rw[wU,this];simp
theorem ap5 {m:Mb} (h:(decide (el m.own.got m.i=(m.own.txt.length:Int))&&decide (m.id∉m.own.ak))=false):fO m=false:=by rw[wU,h];simp
theorem ap6 {m:Mb} (h:jv m.au 60=false):fO m=false:=by rw[wU,h];simp
theorem ap7 {m:Mb} (h1:(inB m.n 1 5&&(inB m.id 0 (m.n-1)&&decide ((m.rows.length:Int)=m.n)))=true) (h2:∀ k,k<m.rows.length→bI (ah m.rows k) m.n=true) (h3:(decide (el m.own.got m.i=(m.own.txt.length:Int))&&decide (m.id∉m.own.ak))=true) (h4:jv m.au 60=true):fO m=(if m.done=true then m.own.aB else tY m.au):=by
 have:m.rows.all (fun r=>bI r m.n)=true:=by
  rw[List.all_eq_true];intro r hr;obtain⟨k,hk,rfl⟩:=List.mem_iff_getElem.1 hr;have:=h2 k hk;simpa[ah,List.getD,hk] using this
 rw[wU,h1,this,h3,h4]
 rfl
theorem ad1 (A:Ma) (m:Mb) (w:World) (hv:nS w A m) :
  Calls Tryz.prog 48 #[eG A m] w fun e w'=>((fO m=true∧e=.returned (.tuple #[]))∨(fO m=false∧Gu e))∧Below w.heap.size w w':=by
 have bH:=dH;have hb0:=aF w (.cells (dZ A m) 47);have hx0:=Bx.new w 47 (dZ A m);have h0:=hv.below hb0;unfold eG dZ at *;generalize xG:w.alloc (.cells #[.int .i64 m.id,.int .i64 m.n,.slice A.ra m.rows.length A.rc,.slice A.sa m.au.length A.sc,.bool m.done] 47)=W at *;have HB0:=aj hb0;have HP:=aj h0;have HX:=aj hx0;obtain⟨c0,c1,c2,c3,c4⟩:=Bx.r5 hx0;have hsl:=h0.FC.ms;have hrl:=h0.FC.mr;unfold maxLen at hsl hrl;clear hb0 h0 hx0 hv
 cases e1:inB m.n 1 5 with
 | false =>
  have HZ:Hid (fO m=false):=Ls (by rw[e1];rfl)
  go_enter Tryz.func48,Tryz.ntmps48
  go_wp2_with (first|(go_at_call 52;refine (qL _ _).mono ?_;rintro e w' ⟨rfl,hw'⟩;rw[hw',e1];clear hw')|(go_at_call 86;refine (kT _).mono ?_;rintro e w' ⟨⟨T,v,rfl⟩,hw'⟩;rw[hw'];clear hw'))
  exact⟨rfl,.inr ⟨HZ.out,_,_,rfl⟩,HB0.out⟩
 | true =>
 have fG:=dP.1 e1;have hwn:wrap64 (m.n-1)=m.n-1:=by unfold wrap64;omega
 cases e2:inB m.id 0 (m.n-1) with
 | false =>
  have HZ:Hid (fO m=false):=Ls (by rw[e1,e2];rfl)
  go_enter Tryz.func48,Tryz.ntmps48
  go_wp2_with (first|(go_at_call 52;refine (qL _ _).mono ?_;rintro e w' ⟨rfl,hw'⟩;rw[hw',e1];clear hw')|(go_at_call 87;refine (iI _ _ _).mono ?_;rintro e w' ⟨rfl,hw'⟩;rw[hw',e2];clear hw')|(go_at_call 86;refine (kT _).mono ?_;rintro e w' ⟨⟨T,v,rfl⟩,hw'⟩;rw[hw'];clear hw'))
  exact⟨rfl,.inr ⟨HZ.out,_,_,rfl⟩,HB0.out⟩
 | true =>
 have hid:=dP.1 e2;by_cases e3:(m.rows.length:Int)=m.n
 case neg =>
  have HZ:Hid (fO m=false):=Ls (by rw[e1,e2,decide_eq_false e3];rfl)
  have e3':((m.rows.length:Int)==m.n)=false:=by simpa using e3
  go_enter Tryz.func48,Tryz.ntmps48
  go_wp2_with (first|(go_at_call 52;refine (qL _ _).mono ?_;rintro e w' ⟨rfl,hw'⟩;rw[hw',e1];clear hw')|(go_at_call 87;refine (iI _ _ _).mono ?_;rintro e w' ⟨rfl,hw'⟩;rw[hw',e2];clear hw')|(go_at_call 86;refine (kT _).mono ?_;rintro e w' ⟨⟨T,v,rfl⟩,hw'⟩;rw[hw'];clear hw'))
  exact⟨rfl,.inr ⟨HZ.out,_,_,rfl⟩,HB0.out⟩
 have H1:Hid ((inB m.n 1 5&&(inB m.id 0 (m.n-1)&&decide ((m.rows.length:Int)=m.n)))=true):=by rw[Hid,e1,e2,decide_eq_true e3];rfl
 have e3':((m.rows.length:Int)==m.n)=true:=by simpa using e3
 have hRl:∀ X,Calls Tryz.prog 52 #[.int .i64 m.n] X fun e w'=>e=.returned (.bool true)∧w'=X:=fun X=>by
  have:=qL m.n X;rw[e1] at this;exact this
 have Il:∀ X,Calls Tryz.prog 87 #[.int .i64 m.id,.int .i64 (m.n-1)] X fun e w'=>e=.returned (.bool true)∧w'=X:=fun X=>by
  have:=iI m.id (m.n-1) X;rw[e2] at this;exact this
 have HI:Hid (∃ i:Nat,m.id=(i:Int)∧i<m.rows.length∧m.i=i):=⟨m.id.toNat,by omega,by omega,rfl⟩
 have HN:Hid (∃ n:Nat,m.n=(n:Int)∧m.rows.length=n∧1≤n∧n≤5):=⟨m.n.toNat,by omega,by omega,by omega,by omega⟩
 clear e1 e2 e3 hid;go_enter Tryz.func48,Tryz.ntmps48
 go_wp2_with (first|(go_at_call 52;refine (hRl _).mono ?_;rintro e w' ⟨rfl,hw'⟩;rw[hw'];clear hw')|(go_at_call 87;refine (Il _).mono ?_;rintro e w' ⟨rfl,hw'⟩;rw[hw'];clear hw')|(go_at_call 86;refine (qx _).mono ?_;rintro e w' ⟨rfl,hw'⟩;rw[hw'];clear hw'))
 clear hRl Il c0 c1 c2 c3 c4
 go_loopw [28] (fun v wr=>∃ k:Nat,k≤m.rows.length∧v=.int .i64 (k:Int)∧(∀ j,j<k→bI (ah m.rows j) m.n=true)∧Below W.heap.size W wr) (fun v _=>m.rows.length-(intOf v).toNat)
 case atStart=>exact⟨0,Nat.zero_le _,rfl,fun j hj=>by omega,Below.refl _ _⟩
 case round =>
  obtain⟨k,hk,rfl,hall,hbr⟩:=hrel;have HA:=aj hall;have TS:=aj hbr;obtain⟨c0,c1,c2,c3,c4⟩:=Bx.r5 (HX.out.below hbr);by_cases hlt:k<m.rows.length
  ·obtain⟨g,off,Ak,hra,⟨⟨d0,d1,d2,d3⟩,d4,d5,d6,d7⟩,kV⟩:=(HP.out.below hbr).row hlt
   have HZ:Hid (bI (ah m.rows k) m.n=false→fO m=false):=fun h=>ap4 hlt h
   rw[hra] at *;have k0:(0:Int)≤(k:Int):=by omega
   have k1:(k:Int)<(m.rows.length:Int):=by omega
   have HK:Hid (bI (ah m.rows k) m.n=true→∀ j,j<k+1→bI (ah m.rows j) m.n=true):=fun h j hj=>by
    by_cases e:j=k
    ·subst e;exact h
    ·exact HA.out j (by omega)
   generalize ah m.rows k=r at *;have hbl:=aF wr (.cells #[.int .i64 r.ver,.slice Ak.ta r.txt.length Ak.tc,.slice Ak.ga r.got.length Ak.gc,.slice Ak.sa r.ak.length Ak.sc,.bool r.wed,.bool r.aB,.int .i64 r.aC,.slice Ak.ma r.aA.length Ak.mc] 44);have hxr:=Bx.new wr 44 #[.int .i64 r.ver,.slice Ak.ta r.txt.length Ak.tc,.slice Ak.ga r.got.length Ak.gc,.slice Ak.sa r.ak.length Ak.sc,.bool r.wed,.bool r.aB,.int .i64 r.aC,.slice Ak.ma r.aA.length Ak.mc];have sD:=zI Ak r m.n _ (kV.below hbl);unfold bV bD at sD;have l7:=aj (TS.out.trans (hbl.mono TS.out.size));have c1':=(hbl.cell (World.block_lt_of_cell? _ _ c1)).trans c1;obtain⟨⟨x0,x1,x2,x3⟩,x4,x5,x6,x7⟩:=Bx.r8 hxr;clear kV hall hbl hxr;go_upto_region 5 with fail
   generalize wr.alloc (.cells #[.int .i64 r.ver,.slice Ak.ta r.txt.length Ak.tc,.slice Ak.ga r.got.length Ak.gc,.slice Ak.sa r.ak.length Ak.sc,.bool r.wed,.bool r.aB,.int .i64 r.aC,.slice Ak.ma r.aA.length Ak.mc] 44)=W5 at *;clear c0 c1 c2 c3 c4 d0 d1 d2 d3 d4 d5 d6 d7
   cases hb:bI r m.n with
   | false =>
    have HZ1:=aj (HZ.out hb);rw[hb] at sD;go_wp2_with (first|(go_at_call 51;refine sD.mono ?_;rintro e w1 ⟨rfl,hb1⟩;have HB1:Hid (Below w.heap.size w w1):=(HB0.out.trans (l7.out.mono HB0.out.size)).trans (hb1.mono (HB0.out.trans (l7.out.mono HB0.out.size)).size);clear hb1)|(go_at_call 86;refine (kT _).mono ?_;rintro e w' ⟨⟨T,v,rfl⟩,hw'⟩;rw[hw'];clear hw'))
    exact⟨rfl,.inr ⟨HZ1.out,_,_,rfl⟩,HB1.out⟩
   | true =>
    have HK1:=HK.out hb;have HK2:=aj HK1;rw[hb] at sD;clear HK HK1;go_wp2_with (first|(go_at_call 51;refine sD.mono ?_;rintro e w1 ⟨rfl,hb1⟩;have HB1:Hid (Below W.heap.size W w1):=l7.out.trans (hb1.mono l7.out.size);clear hb1)|(go_at_call 86;refine (qx _).mono ?_;rintro e w' ⟨rfl,hw'⟩;rw[hw'];clear hw'))
    go_roundw
    case rel=>exact⟨k+1,by omega,by go_num,HK2.out,HB1.out⟩
    case measure=>simp[intOf];omega
  ·have k1:¬ ((k:Int)<(m.rows.length:Int)):=by omega
   obtain rfl:k=m.rows.length:=by omega
   have H2:=aj HA.out;obtain⟨i,hi,hil,Lu⟩:=HI.out;obtain⟨n,hn,hln,hn1,aC8⟩:=HN.out;obtain⟨g,off,Ak,hra,⟨⟨d0,d1,d2,d3⟩,d4,d5,d6,d7⟩,kV⟩:=(HP.out.below hbr).row hil
   have hgl:i<(ah m.rows i).got.length:=by
    have:=kG.1 (by rw[← hn];exact HA.out i hil:bI (ah m.rows i) (n:Int)=true)
    rw[this.gl];omega
   have QD:Hid (m.own=ah m.rows i):=by rw[Hid,Mb.own,Lu]
   have i0:(0:Int)≤(i:Int):=by omega
   have i1:(i:Int)<(m.rows.length:Int):=by omega
   have i2:(i:Int)<((ah m.rows i).got.length:Int):=by omega
   have hsu:∀ X,Below W.heap.size W X→Calls Tryz.prog 89 #[.slice A.sa m.au.length A.sc,.int .i64 59] X fun e w'=>e=.returned (.bool (jv m.au 60))∧w'=X:=fun X hX=>by
    have:=Ll A.sa m.au.length A.sc 60 m.au X (HP.out.FC.au.below hX (Nat.le_refl _)) HP.out.FC.ms;rw[OC] at this;exact this
   have hcf:∀ X,Below W.heap.size W X→Calls Tryz.prog 90 #[.slice A.sa m.au.length A.sc] X fun e w'=>e=.returned (.bool (tY m.au))∧w'=X:=fun X hX=>ac9 A.sa A.sc m.au X (HP.out.FC.au.below hX (Nat.le_refl _)) HP.out.FC.ms
   have H3:Hid ((decide (el (ah m.rows i).got i=((ah m.rows i).txt.length:Int))&&decide ((i:Int)∉(ah m.rows i).ak))=false→fO m=false):=fun h=>ap5 (by rw[QD.out,Lu,hi];exact h)
   have H4:Hid (jv m.au 60=false→fO m=false):=ap6
   have H5:Hid ((decide (el (ah m.rows i).got i=((ah m.rows i).txt.length:Int))&&decide ((i:Int)∉(ah m.rows i).ak))=true→jv m.au 60=true→fO m=(if m.done=true then (ah m.rows i).aB else tY m.au)):=fun h1 h2=>by
    have:=ap7 H1.out H2.out (by rw[QD.out,Lu,hi];exact h1) h2
    rw[QD.out] at this;exact this
   have hgc:∀ X,Below wr.heap.size wr X→∃ gb go,Ak.ga=some ⟨gb,go,none⟩∧X.cell? ⟨gb,go+i,none⟩=some (.int .i64 (el (ah m.rows i).got i)):=fun X hX=>by
    rcases (kV.below hX).got.vec.2.2 with h|⟨gb,go,e,h⟩
    ·omega
    ·exact⟨gb,go,e,h i hgl⟩
   have ap8:∀ X,Below wr.heap.size wr X→Calls Tryz.prog 88 #[.slice Ak.sa (ah m.rows i).ak.length Ak.sc,.int .i64 (i:Int)] X fun e w'=>e=.returned (.bool (decide ((i:Int)∈(ah m.rows i).ak)))∧w'=X:=fun X hX=>oV Ak.sa Ak.sc (ah m.rows i).ak (i:Int) X (kV.below hX).ak.vec (kV.below hX).rws.ms
   rw[hi] at c0;rw[hra] at c2;generalize hOK:fO m=OK at *;have cO:=aj hOK;clear hOK;generalize ah m.rows i=r at *;generalize hge:el r.got i=gi at *;generalize jv m.au 60=sb at *;generalize tY m.au=fb at *;have hbl:=aF wr (.cells #[.int .i64 r.ver,.slice Ak.ta r.txt.length Ak.tc,.slice Ak.ga r.got.length Ak.gc,.slice Ak.sa r.ak.length Ak.sc,.bool r.wed,.bool r.aB,.int .i64 r.aC,.slice Ak.ma r.aA.length Ak.mc] 44);have hxr:=Bx.new wr 44 #[.int .i64 r.ver,.slice Ak.ta r.txt.length Ak.tc,.slice Ak.ga r.got.length Ak.gc,.slice Ak.sa r.ak.length Ak.sc,.bool r.wed,.bool r.aB,.int .i64 r.aC,.slice Ak.ma r.aA.length Ak.mc];have mG:=aj hxr;have l7:=aj (TS.out.trans (hbl.mono TS.out.size));have HBl:=aj hbl;have HMX:Hid (∀ X,Below W.heap.size W X→Bx X w.heap.size 47 #[.int .i64 m.id,.int .i64 m.n,.slice A.ra m.rows.length A.rc,.slice A.sa m.au.length A.sc,.bool m.done]):=fun X h=>HX.out.below h
   clear kV hall hbl hxr HP HA hbr H1 H2 QD;have hwl:=HX.out.lt;have hwr2:=TS.out.size;go_upto_region 8 with fail
   generalize wr.alloc (.cells #[.int .i64 r.ver,.slice Ak.ta r.txt.length Ak.tc,.slice Ak.ga r.got.length Ak.gc,.slice Ak.sa r.ak.length Ak.sc,.bool r.wed,.bool r.aB,.int .i64 r.aC,.slice Ak.ma r.aA.length Ak.mc] 44)=W5 at *;clear c0 c1 c2 c3 c4 d0 d1 d2 d3 d4 d5 d6 d7 hra;have facts:∀ X,Below W5.heap.size W5 X→Below W.heap.size W X∧Below w.heap.size w X:=fun X h=>⟨l7.out.trans (h.mono l7.out.size),(HB0.out.trans (l7.out.mono HB0.out.size)).trans (h.mono (HB0.out.trans (l7.out.mono HB0.out.size)).size)⟩
   have Zk:=aj facts;obtain⟨⟨x0,x1,x2,x3⟩,x4,x5,x6,x7⟩:=Bx.r8 mG.out;obtain⟨c0,c1,c2,c3,c4⟩:=Bx.r5 (HMX.out _ l7.out);rw[hi] at c0;obtain⟨gb,go,hga,TU⟩:=hgc _ HBl.out;rw[hga] at x2;have T:∀ {x v},W5.cell? x=some v→∀ q:Bk W5,q.w.cell? x=some v:=fun h q=>(q.h.cell (World.block_lt_of_cell? _ _ h)).trans h
   have y0:=T c0;have y1:=T x1;have y2:=T x2;have y3:=T x3;have y4:=T TU;have Iq:∀ q:Bk W5,Calls Tryz.prog 88 #[.slice Ak.sa r.ak.length Ak.sc,.int .i64 (i:Int)] q.w fun e w'=>e=.returned (.bool (decide ((i:Int)∈r.ak)))∧Below q.w.heap.size q.w w':=fun q=>(ap8 q.w (HBl.out.trans (q.h.mono HBl.out.size))).mono (fun e w' h=>⟨h.1,by rw[h.2];exact Below.refl _ _⟩)
   have HL:=aj hln;clear T x0 x1 x2 x3 x4 x5 x6 x7 c0 c1 c2 c3 c4 facts ap8 hgc hga TU hln hi Lu;by_cases e7:gi=(r.txt.length:Int)
   case neg =>
    have HZ:Hid (OK=false):=H3.out (by rw[decide_eq_false e7];rfl)
    have e7':(gi==(r.txt.length:Int))=false:=by simpa using e7
    clear e7 H3 H4 H5;refine bK (C:=fun w'=>∃ p:Bk W5,w'=p.w) 18 bH (by kernel_rfl) ⟨⟨W5.drewN 1,bg (Below.refl _ _)⟩,rfl⟩ ?_
    simp only[List.take_succ_cons,List.take_zero]
    repeat (go_big_quiet_step ((first|(go_at_call 88;exact aQ _ (Iq _))|rfl)))
    refine wpQuiet_nil (dK fun wE aJ=>?_)
    simp only[List.drop_succ_cons,List.drop_zero]
    have BN:Hid (Below w.heap.size w wE):=(Zk.out _ aJ).2;clear y0 y1 y2 y3 y4 aJ;go_wp2_with (go_at_call 86;refine (kT _).mono ?_;rintro e w' ⟨⟨T,v,rfl⟩,hw'⟩;rw[hw'];clear hw')
    exact⟨rfl,.inr ⟨cO.out.trans HZ.out,_,_,rfl⟩,BN.out⟩
   have e7':(gi==(r.txt.length:Int))=true:=by simpa using e7
   by_cases e8:(i:Int)∈r.ak
   ·have HZ:Hid (OK=false):=H3.out (by rw[decide_eq_true e7,decide_eq_false (by simpa using e8)];rfl)
    rw[decide_eq_true e8] at Iq;clear e7 H3 H4 H5 e8;refine bK (C:=fun w'=>∃ p:Bk W5,w'=p.w) 18 bH (by kernel_rfl) ⟨⟨W5.drewN 1,bg (Below.refl _ _)⟩,rfl⟩ ?_
    simp only[List.take_succ_cons,List.take_zero]
    repeat (go_big_quiet_step ((first|(go_at_call 88;exact aQ _ (Iq _))|rfl)))
    refine wpQuiet_nil (dK fun wE aJ=>?_)
    simp only[List.drop_succ_cons,List.drop_zero]
    have BN:Hid (Below w.heap.size w wE):=(Zk.out _ aJ).2;clear y0 y1 y2 y3 y4 aJ;go_wp2_with (go_at_call 86;refine (kT _).mono ?_;rintro e w' ⟨⟨T,v,rfl⟩,hw'⟩;rw[hw'];clear hw')
    exact⟨rfl,.inr ⟨cO.out.trans HZ.out,_,_,rfl⟩,BN.out⟩
   have HZ5:Hid (sb=true→OK=(if m.done=true then r.aB else fb)):=H5.out (by rw[decide_eq_true e7,decide_eq_true e8];rfl)
   rw[decide_eq_false e8] at Iq;clear e7 H3 H5 e8;refine bK (C:=fun w'=>∃ p:Bk W5,w'=p.w) 18 bH (by kernel_rfl) ⟨⟨W5.drewN 1,bg (Below.refl _ _)⟩,rfl⟩ ?_
   simp only[List.take_succ_cons,List.take_zero]
   repeat (go_big_quiet_step ((first|(go_at_call 88;exact aQ _ (Iq _))|rfl)))
   refine wpQuiet_nil (dK fun wE aJ=>?_)
   simp only[List.drop_succ_cons,List.drop_zero]
   have BN:Hid (Below w.heap.size w wE):=(Zk.out _ aJ).2;have hBW:=(Zk.out _ aJ).1;have LC:=hsu _ hBW;have ap9:=hcf _ hBW;obtain⟨c0,c1,c2,c3,c4⟩:=Bx.r5 (HMX.out _ hBW);obtain⟨⟨x0,x1,x2,x3⟩,x4,x5,x6,x7⟩:=Bx.r8 (mG.out.below aJ);clear y0 y1 y2 y3 y4 aJ hBW Iq hsu hcf
   cases sb with
   | false =>
    have HZ:=aj (H4.out rfl);go_wp2_with (first|(go_at_call 89;refine LC.mono ?_;rintro e w' ⟨rfl,hw'⟩;rw[hw'];clear hw')|(go_at_call 86;first|(refine (qx _).mono ?_;rintro e w' ⟨rfl,hw'⟩;rw[hw'];clear hw')|(refine (kT _).mono ?_;rintro e w' ⟨⟨T,v,rfl⟩,hw'⟩;rw[hw'];clear hw')))
    exact⟨rfl,.inr ⟨cO.out.trans HZ.out,_,_,rfl⟩,BN.out⟩
   | true =>
    have HZ:=HZ5.out rfl;have Zl:=aj HZ;clear HZ HZ5 H4
    cases hd:m.done with
    | true =>
     rw[hd] at c4
     cases hr:r.aB with
     | true =>
      have HZ:Hid (OK=true):=by rw[Hid,Zl.out,hd,hr];rfl
      rw[hr] at x5;clear hd hr;go_wp2_with (first|(go_at_call 89;refine LC.mono ?_;rintro e w' ⟨rfl,hw'⟩;rw[hw'];clear hw')|(go_at_call 86;refine (qx _).mono ?_;rintro e w' ⟨rfl,hw'⟩;rw[hw'];clear hw'))
      first|go_end0|go_ret
      exact⟨.inl ⟨cO.out.trans HZ.out,rfl⟩,BN.out⟩
     | false =>
      have HZ:Hid (OK=false):=by rw[Hid,Zl.out,hd,hr];rfl
      rw[hr] at x5;clear hd hr;go_wp2_with (first|(go_at_call 89;refine LC.mono ?_;rintro e w' ⟨rfl,hw'⟩;rw[hw'];clear hw')|(go_at_call 86;first|(refine (qx _).mono ?_;rintro e w' ⟨rfl,hw'⟩;rw[hw'];clear hw')|(refine (kT _).mono ?_;rintro e w' ⟨⟨T,v,rfl⟩,hw'⟩;rw[hw'];clear hw')))
      exact⟨rfl,.inr ⟨cO.out.trans HZ.out,_,_,rfl⟩,BN.out⟩
    | false =>
     rw[hd] at c4
     cases fb with
     | true =>
      have HZ:Hid (OK=true):=by rw[Hid,Zl.out,hd];rfl
      clear hd;go_wp2_with (first|(go_at_call 89;refine LC.mono ?_;rintro e w' ⟨rfl,hw'⟩;rw[hw'];clear hw')|(go_at_call 90;refine ap9.mono ?_;rintro e w' ⟨rfl,hw'⟩;rw[hw'];clear hw')|(go_at_call 86;refine (qx _).mono ?_;rintro e w' ⟨rfl,hw'⟩;rw[hw'];clear hw'))
      first|go_end0|go_ret
      exact⟨.inl ⟨cO.out.trans HZ.out,rfl⟩,BN.out⟩
     | false =>
      have HZ:Hid (OK=false):=by rw[Hid,Zl.out,hd];rfl
      clear hd;go_wp2_with (first|(go_at_call 89;refine LC.mono ?_;rintro e w' ⟨rfl,hw'⟩;rw[hw'];clear hw')|(go_at_call 90;refine ap9.mono ?_;rintro e w' ⟨rfl,hw'⟩;rw[hw'];clear hw')|(go_at_call 86;first|(refine (qx _).mono ?_;rintro e w' ⟨rfl,hw'⟩;rw[hw'];clear hw')|(refine (kT _).mono ?_;rintro e w' ⟨⟨T,v,rfl⟩,hw'⟩;rw[hw'];clear hw')))
      exact⟨rfl,.inr ⟨cO.out.trans HZ.out,_,_,rfl⟩,BN.out⟩
theorem LD (A:Ma) (m:Mb) (w:World) (hv:nS w A m) :
  Calls Tryz.prog 53 #[eG A m] w fun e w'=>e=.returned (.bool (fO m))∧Below w.heap.size w w':=by
 have hmf:∀ (fn:Fn) (first cap:Array Value) (w:World),(Instr.makeFunc fn first cap).run Tryz.prog w=.ok (.func fn first cap) w:=fun _ _ _ _=>rfl
 have hb0:=aF w (.cells (dZ A m) 47);have hx0:=Bx.new w 47 (dZ A m);have h0:=hv.below hb0;have hb1:=aF (w.alloc (.cells (dZ A m) 47)) (.cells #[.bool false] 4)
 have hT := Lj 48 #[eG A m] #[] (w.alloc (.cells (dZ A m) 47)) (fun b X => b = fO m ∧ Below ((w.alloc (.cells (dZ A m) 47)).alloc (.cells #[.bool false] 4)).heap.size ((w.alloc (.cells (dZ A m) 47)).alloc (.cells #[.bool false] 4)) X) (fun _ _ => enters_of Tryz.func48 (by kernel_rfl) rfl _ _) ((ad1 A m _ (h0.below hb1)).mono (fun e w' ⟨h1,h2⟩ => by
  rcases h1 with ⟨h,h1⟩|⟨h,h1⟩
  ·exact .inl ⟨h1,h.symm,h2⟩
  ·exact .inr ⟨h1,h.symm,h2⟩)) (fun b X h=>(Bx.new _ _ _).below h.2)
 have hF:∀ e w',(∃ b X,e=Ending.returned (.bool b)∧(b=fO m∧Below ((w.alloc (.cells (dZ A m) 47)).alloc (.cells #[.bool false] 4)).heap.size ((w.alloc (.cells (dZ A m) 47)).alloc (.cells #[.bool false] 4)) X)∧aO (fun x=>x=(w.alloc (.cells (dZ A m) 47)).heap.size) X w')→e=.returned (.bool (fO m))∧Below w.heap.size w w':=by
  rintro e w' ⟨b,X,rfl,⟨rfl,h1⟩,h2⟩;have hs:=hb0.size;have hbX:=(hb0.trans (hb1.mono hb0.size)).trans (h1.mono (hb0.trans (hb1.mono hb0.size)).size);exact⟨rfl,h2.below hbX hbX.size (fun b e=>by omega)⟩
 have hT2:=hT.mono hF;obtain⟨c0,c1,c2,c3,c4⟩:=Bx.r5 hx0;clear hF hT hb1 h0 hx0 hb0 hv;unfold eG dZ at *;generalize fO m=OK at *;generalize xG:w.alloc (.cells #[.int .i64 m.id,.int .i64 m.n,.slice A.ra m.rows.length A.rc,.slice A.sa m.au.length A.sc,.bool m.done] 47)=W at *;go_enter Tryz.func53,Tryz.ntmps53
 go_wp2_with (go_at_call 46;refine hT2.mono ?_;rintro e w1 ⟨rfl,hb1⟩;have HB1:Hid (Below w.heap.size w w1):=hb1;clear hb1)
 go_ret
 exact⟨rfl,HB1.out⟩
def jL (n:Int) (xs:List Int):Bool:=(List.range xs.length).all (fun i=>inB (el xs i) 0 (n-1)&&decide (el xs i∉xs.take i))
theorem LH (n f t:Int):jL n [f,t]=(inB f 0 (n-1)&&(inB t 0 (n-1)&&decide (f≠t))):=by
 have e:List.range [f,t].length=[0,1]:=rfl;rw[jL,e];simp[el,eq_comm]
theorem WO (n f:Int):jL n [f]=inB f 0 (n-1):=by
 have e:List.range [f].length=[0]:=rfl;rw[jL,e];simp[el]
theorem ad2 {a:Option Addr} {n c j:Nat} (ha:a≠none) (hj:j≤n) (hc:n≤c) (hm:c≤maxLen) (X:World) :
  (Instr.slice 41 (.slice a n c) none (some (.int .i64 (j:Int))) none).run Tryz.prog X=.ok (.slice a j c) X:=by
 obtain⟨i0,hi0,hz0,hz1,hz2⟩:=gX Tryz.info2n;unfold maxLen at hm
 have hs:(Instr.slice 41 (.slice a n c) none (some (.int .i64 (j:Int))) none).run Tryz.prog X=.ok (sliced a 0 j c 1) X:=by
  rw[run_slice_h X 41 a n c (by kernel_rfl) .i64 (j:Int) (by omega) (by omega)]
  rw[show Tryz.prog.elem 41=2 by kernel_rfl]
  rw[run_sizeOf X hi0,show Tryz.prog.cellsOf 2=1 by kernel_rfl]
  simp[Result.andThen]
 rw[hs]
 have e:(if c=0 then a else a.map (·.add (0*1)))=a:=by
  split
  ·rfl
  ·cases a with
   | none=>exact absurd rfl ha
   | some p=>simp[Addr.add]
 simp only[sliced,e,Nat.sub_zero]
theorem Gp (n:Int) (b off c:Nat) (xs:List Int) (w:World) (hv:Vec w (some ⟨b,off,none⟩) xs.length xs) (hl:xs.length≤100) (hc:xs.length≤c) (hm:c≤maxLen) (hn:-1000000≤n∧n≤1000000) :
  Calls Tryz.prog 54 #[.int .i64 n,.slice (some ⟨b,off,none⟩) xs.length c] w fun e w'=>e=.returned (.bool (jL n xs))∧w'=w:=by
 have HV:=aj hv;have hw:wrap64 (n-1)=n-1:=by unfold wrap64;omega
 have hsl:=fun (j:Nat) (hj:j≤xs.length) (X:World)=>ad2 (a:=some ⟨b,off,none⟩) (n:=xs.length) (c:=c) (j:=j) (by simp) hj hc hm X
 have yN:=aj hsl
 have HC:Hid (∀ j,j<xs.length→Calls Tryz.prog 88 #[.slice (some ⟨b,off,none⟩) j c,.int .i64 (el xs j)] w fun e w'=>e=.returned (.bool (decide (el xs j∈xs.take j)))∧w'=w):=fun j hj=>by
  have e:(xs.take j).length=j:=by rw[List.length_take];omega
  have hvt:Vec w (some ⟨b,off,none⟩) (xs.take j).length (xs.take j):=by
   refine⟨rfl,fun x hx=>hv.2.1 x (List.mem_of_mem_take hx),.inr ⟨b,off,rfl,fun k hk=>?_⟩⟩
   rcases hv.2.2 with h0|⟨b',o',ee,hcell⟩
   ·omega
   ·cases ee
    rw[hcell k (by omega)]
    simp[el,List.getD,show k<j by omega]
  have:=oV (some ⟨b,off,none⟩) c (xs.take j) (el xs j) w hvt (by unfold maxLen;omega)
  rw[e] at this;exact this
 clear hv hsl;go_enter Tryz.func54,Tryz.ntmps54
 go_wp2
 go_loop [9] (fun i=>∃ k:Nat,k≤xs.length∧i=.int .i64 (k:Int)∧Hid (∀ j,j<k→(inB (el xs j) 0 (n-1)&&decide (el xs j∉xs.take j))=true)) (fun i=>xs.length-(intOf i).toNat)
 case atStart=>exact⟨0,Nat.zero_le _,rfl,fun j hj=>by omega⟩
 case round =>
  obtain⟨k,hk,rfl,HA⟩:=hrel;by_cases hlt:k<xs.length
  ·rcases HV.out.2.2 with h0|⟨b',o',ee,hcell⟩
   ·omega
   cases ee
   have hck:=hcell k hlt;have k1:(k:Int)<(xs.length:Int):=by omega
   have k0:(0:Int)≤(k:Int):=by omega
   have hT:=yN.out k hk;have hCk:=HC.out k hlt;have hI:∀ z,z=n-1→Calls Tryz.prog 87 #[.int .i64 (el xs k),.int .i64 z] w fun e w'=>e=.returned (.bool (inB (el xs k) 0 (n-1)))∧w'=w:=fun z hz=>by rw[hz];exact iI _ _ w
   have HF:Hid ((inB (el xs k) 0 (n-1)&&decide (el xs k∉xs.take k))=false→jL n xs=false):=fun h=>by
    rw[jL,List.all_eq_false];exact⟨k,List.mem_range.2 hlt,by rw[h];decide⟩
   have HT:Hid ((inB (el xs k) 0 (n-1)&&decide (el xs k∉xs.take k))=true→∀ j,j<k+1→(inB (el xs j) 0 (n-1)&&decide (el xs j∉xs.take j))=true):=fun h j hj=>by
    rcases Nat.lt_succ_iff_lt_or_eq.1 hj with h1|h1
    ·exact HA.out j h1
    ·rw[h1];exact h
   clear hcell;have hd:decide (el xs k∉xs.take k)=!decide (el xs k∈xs.take k):=by simp
   rw[hd] at HF HT;clear hd;generalize decide (el xs k∈xs.take k)=q at *;generalize inB (el xs k) 0 (n-1)=p at *;generalize el xs k=x at *
   cases p with
   | false =>
    have HZ:=aj (HF.out rfl);clear HF HT;go_wp2_with (go_at_call 87;refine (hI _ (by first|rfl|exact hw)).mono ?_;rintro e w' ⟨rfl,hw'⟩;rw[hw'];clear hw')
    go_ret
    exact⟨aH (by rw[HZ.out]),rfl⟩
   | true =>
    cases q with
    | true =>
     have HZ:=aj (HF.out rfl);clear HF HT;go_wp2_with (first|(go_at_call 87;refine (hI _ (by first|rfl|exact hw)).mono ?_;rintro e w' ⟨rfl,hw'⟩;rw[hw'];clear hw')|(go_at_call 88;refine hCk.mono ?_;rintro e w' ⟨rfl,hw'⟩;rw[hw'];clear hw'))
     go_ret
     exact⟨aH (by rw[HZ.out]),rfl⟩
    | false =>
     have HZ:Hid _:=HT.out rfl;clear HF HT;go_wp2_with (first|(go_at_call 87;refine (hI _ (by first|rfl|exact hw)).mono ?_;rintro e w' ⟨rfl,hw'⟩;rw[hw'];clear hw')|(go_at_call 88;refine hCk.mono ?_;rintro e w' ⟨rfl,hw'⟩;rw[hw'];clear hw'))
     go_round
     case rel=>exact⟨k+1,by omega,by go_num,HZ⟩
     case measure=>simp[intOf];omega
  ·have k1:¬ ((k:Int)<(xs.length:Int)):=by omega
   have HZ:Hid (jL n xs=true):=by
    rw[Hid,jL,List.all_eq_true];intro j hj;exact HA.out j (by have:=List.mem_range.1 hj;omega)
   go_wp2;go_ret
   exact⟨aH (by rw[HZ.out]),rfl⟩
theorem uO.below {w w':World} {A:Ga} {g:Gr} (h:uO w A g) (hb:Below w.heap.size w w'):uO w' A g:=by
 obtain⟨f,hf⟩:=h.own;exact⟨⟨f,bM hf hb⟩,h.fit,h.i64,h.sz⟩
theorem uO.grs {w:World} {A:Ga} {g:Gr} (h:uO w A g):RQ w A g:=by
 obtain⟨f,hf⟩:=h.own;exact al5 (yG hf) h.fit
theorem wV {g:Gr} {k:Nat} (hk:k<g.mem.length):aN g k∈g.mem:=List.mem_of_getElem? (vS hk)
theorem BO {g:Gr} {k:Nat} (hk:k<g.aG.length):aU g k∈g.aG:=List.mem_of_getElem? (lK hk)
theorem LJ {g:Gr} {m:Mb} (h:m∈g.mem):oU m≤BH g:=by
 obtain⟨k,hk,rfl⟩:=List.mem_iff_getElem.1 h;have h1:=V4 (R:=g.mem) hk;have h2:=V5 (R:=g.mem) (show k+1≤g.mem.length by omega)
 have e:TF g.mem k=g.mem[k]:=by simp[TF,List.getD,hk]
 rw[e] at h1;unfold BH V7;omega
theorem WQ {g:Gr} {x:Ml} (h:x∈g.aG):iy x.row≤BH g:=by
 obtain⟨k,hk,rfl⟩:=List.mem_iff_getElem.1 h;have h1:=V8 (R:=g.aG) hk;have h2:=Wh (R:=g.aG) (show k+1≤g.aG.length by omega)
 have e:TG g.aG k=g.aG[k]:=by simp[TG,List.getD,hk]
 rw[e] at h1;have h3:En g.aG[k]=iy g.aG[k].row:=rfl;unfold BH Wi;omega
theorem uO.member {w:World} {A:Ga} {g:Gr} (h:uO w A g) {k:Nat} (hk:k<g.mem.length):∃ b off Ak,A.ma=some ⟨b,off,none⟩∧C5 w b (off+k*5) (.int .i64 (aN g k).id) (.int .i64 (aN g k).n) (.slice Ak.ra (aN g k).rows.length Ak.rc) (.slice Ak.sa (aN g k).au.length Ak.sc) (.bool (aN g k).done)∧nS w Ak (aN g k):=by
 obtain⟨f,hf⟩:=h.own;obtain⟨u1,rD,f1,f2,e,o1,_,_,_⟩:=hf
 cases e
 obtain⟨b,off,f3,hra,_,_,⟨vs,hpc,hov,_⟩,_⟩:=vZ sU (by omega) o1 (vS hk)
 obtain⟨Ak,rfl,hl⟩:=EL hov;have hl5:(dZ Ak (aN g k)).toList.length=5:=rfl;have c:=hpc.cell;exact⟨b,off,Ak,hra,⟨c 0 (by rw[hl5];omega),c 1 (by rw[hl5];omega),c 2 (by rw[hl5];omega),c 3 (by rw[hl5];omega),c 4 (by rw[hl5];omega)⟩,⟨f3,hl⟩,h.fit.1 _ (wV hk),h.i64.1 _ (wV hk),Nat.le_trans (LJ (wV hk)) h.sz⟩
theorem uO.letter {w:World} {A:Ga} {g:Gr} (h:uO w A g) {k:Nat} (hk:k<g.aG.length):∃ b off Ak,A.la=some ⟨b,off,none⟩∧w.cell? ⟨b,off+k*10,none⟩=some (.int .i64 (aU g k).fr)∧w.cell? ⟨b,off+k*10+1,none⟩=some (.int .i64 (aU g k).to)∧C8 w b (off+k*10+2) (.int .i64 (aU g k).row.ver) (.slice Ak.ta (aU g k).row.txt.length Ak.tc) (.slice Ak.ga (aU g k).row.got.length Ak.gc) (.slice Ak.sa (aU g k).row.ak.length Ak.sc) (.bool (aU g k).row.wed) (.bool (aU g k).row.aB) (.int .i64 (aU g k).row.aC) (.slice Ak.ma (aU g k).row.aA.length Ak.mc)∧iM w Ak (aU g k).row:=by
 obtain⟨f,hf⟩:=h.own;obtain⟨u1,rD,f1,f2,e,_,hf2,_,_⟩:=hf
 cases e
 obtain⟨u2,uy,f4,f5,e,_,hf3,_,_⟩:=hf2
 cases e
 obtain⟨u3,Dj,f6,f7,e,o3,_,_,_⟩:=hf3
 cases e
 obtain⟨b,off,f3,hra,_,_,⟨vs,hpc,hov,_⟩,_⟩:=vZ kK (by omega) o3 (lK hk)
 obtain⟨us0,rfl,hq0⟩:=lZ hov;obtain⟨us9,rfl,hq1⟩:=lZ hq0;obtain⟨Ak,rfl,hl⟩:=rU hq1;have jm:(bD Ak (aU g k).row).toList.length=8:=rfl;have c:=hpc.cell
 have c':∀ j,j<8→w.cell? ⟨b,off+k*10+2+j,none⟩=(bD Ak (aU g k).row).toList[j]?:=fun j hj=>by
  have:=c (j+2) (by simp[jm];omega)
  rw[show off+k*10+(j+2)=off+k*10+2+j by omega] at this
  rw[this];simp[jm,hj]
 have hx:=BO hk;refine⟨b,off,Ak,hra,c 0 (by simp),c 1 (by simp),⟨⟨c' 0 (by omega),c' 1 (by omega),c' 2 (by omega),c' 3 (by omega)⟩,c' 4 (by omega),c' 5 (by omega),c' 6 (by omega),c' 7 (by omega)⟩,yI (wP hl (lo:=0) (fun b _=>Nat.zero_le b)) (h.fit.2 _ hx) (h.i64.2 _ hx).2.2 (Nat.le_trans (WQ hx) h.sz)⟩
end Go.Proofs.YtafimeakbdmkjaaGreat