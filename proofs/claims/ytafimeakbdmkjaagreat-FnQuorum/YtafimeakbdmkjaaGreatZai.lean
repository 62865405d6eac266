/-
  Texts in one.
-/
import Derived.Test.YtafimeakbdmkjaaGreatZah
import Derived.Test.YtafimeakbdmkjaaGreatZaa
import Derived.Deep.LoopGhost
namespace Go.Proofs.YtafimeakbdmkjaaGreat
set_option linter.unusedVariables false
set_option linter.unusedSimpArgs false
open Go.RowKit Go.Sort
set_option maxRecDepth 100000
set_option maxHeartbeats 12800000
theorem RV.below {X Y:World} {g q:Nat} {A:Ra} {r:Rw} (h:RV X g q A r) (hb:Below X.heap.size X Y):RV Y g q A r:=by
 obtain⟨⟨⟨c0,c1,c2,c3⟩,c4,c5,c6,c7⟩,hr⟩:=h;have t:∀ {x v},X.cell? x=some v→Y.cell? x=some v:=fun h=>(hb.cell (World.block_lt_of_cell? _ _ h)).trans h
 exact⟨⟨⟨t c0,t c1,t c2,t c3⟩,t c4,t c5,t c6,t c7⟩,hr.below hb⟩
theorem jo {w:World} {a:Option Addr} {c:Nat} {Z:List Int} {f:Fp} (h:aI.ow w (bQ Z) (.slice a Z.length c) f) (hf:Fits Z):Vec w a Z.length Z:=by
 obtain⟨a',c',e,hv,_⟩:=jV (aI.tK h) hf
 cases e
 exact hv
theorem sW {L:List Nat} {n:Nat} (h:∀ k∈L,k<n) (hn:n≤1000000):Fits (lN L):=fun x hx=>by
 obtain⟨k,hk,rfl⟩:=List.mem_map.1 hx;have:=h k hk;omega
theorem jq {L:List Nat} {k:Nat} (h:k<L.length):L.getD k 0∈L:=by
 simp[List.getD,h]
theorem SB (B o:Nat) (m:Mb) (i n:Nat) (fp:Fp) (w:World) (h:dN w B o (gW m) fp) (ok:dO m i n) :
  Calls Tryz.prog 116 #[.pointer (some ⟨B,o,none⟩)] w fun e w'=>e=.returned (.tuple #[])∧Mk w w' B o { m with rows:=m.rows.set i (learn m.rows i (ah m.rows i) (aP n (ah m.rows i).ak)) } fp:=by
 have bH:=dH;have hil:i<m.rows.length:=by rw[ok.len];exact ok.lt
 obtain⟨g,off,c,M0⟩:=Mw.start h (by omega)
 have HC2:=aj M0.rws;have Qn:=h.flt;have hBlt:=h.lt;obtain⟨c0,c1,c4⟩:=M0.id';have c2:=M0.rws;rw[ok.hid] at c0;have i0:(0:Int)≤(i:Int):=by omega
 have i1:(i:Int)<(m.rows.length:Int):=by omega
 have p0:∀ q:Bk w,q.w.cell? ⟨B,o,none⟩=_:=fun q=>(q.h.cell (World.block_lt_of_cell? _ _ c0)).trans c0
 have p2:∀ q:Bk w,q.w.cell? ⟨B,o+2,none⟩=_:=fun q=>(q.h.cell (World.block_lt_of_cell? _ _ c2)).trans c2
 have ig:=aj M0;have HPl:=aj h;have hr:=ok.ok i ok.lt;have fG:=hr.n5;clear c0 c1 c4 c2 M0 h;go_enter Tryz.func116,Tryz.ntmps116
 go_wp2_with fail
 refine eU ?_;repeat (go_big_quiet_step ((first|rfl)))
 refine wpQuiet_nil (dK fun wE aJ=>?_)
 clear p0 p2;have bF:=aj (ig.out.step aJ);have hbs:=aJ.size;have l7:=aj aJ;clear aJ;go_wp2_with fail
 refine (Ht w B o m i n fp g off c wE bF.out ok).mono ?_;rintro e wl ⟨la,lc,rfl,fl,hl1,hl2,hl3⟩;have hlt3:=aI.iT hl1;have hbl:=l7.out.trans (hl3.mono l7.out.size);have yM:Hid (Mw wl wl B o m fp g off c):=⟨bC.refl (HPl.out.below hbl),(bF.out.step hl3).rws⟩;have SC:Hid (∀ (Y:World) (m':Mb),Mw wl Y B o m' fp g off c→m'.rows.length=m.rows.length→Mk w Y B o m' fp):=fun Y m' hY hl=>⟨hY.bU.first hbl hBlt Qn,by rw[hY.rws,HC2.out,hl]⟩
 have uI:=aj hl1;have zU:Hid (∀ b,fl b→¬ fp b∧b≠B):=fun b hb=>⟨fun k=>by have:=Qn b k;have:=hl2 b hb;omega,fun k=>by have:=hl2 b hb;omega⟩
 have HLn:Hid (∀ k∈aP n (ah m.rows i).ak,k<n):=fun k hk=>(dY.1 hk).1
 have ru:Hid ((aP n (ah m.rows i).ak).length≤n):=oP _ _;generalize Dq:aP n (ah m.rows i).ak=L at *;have HLe:Hid (aP n (ah m.rows i).ak=L):=Dq;clear Dq;rw[eP] at uI ⊢;clear hl1 hl2 hl3 hlt3 hbl l7 ig bF hbs;go_wp2_with fail
 go_loopw [4] (fun v wr=>∃ (k:Nat) (ow:Rw),k≤L.length∧v=.int .i64 (k:Int)∧Hid (ow=learn m.rows i (ah m.rows i) (L.take k))∧Mw wl wr B o { m with rows:=m.rows.set i ow } fp g off c) (fun v _=>L.length-(intOf v).toNat)
 case atStart =>
  refine⟨0,ah m.rows i,Nat.zero_le _,rfl,rfl, ?_⟩
  have e:({ m with rows:=m.rows.set i (ah m.rows i) }:Mb)=m:=by
   have:=lg (dW hil);rw[this]
  rw[e];exact yM.out
 case round =>
  obtain⟨k,ow,hk,rfl,lF,M⟩:=hrel;have EU:=ru.out;by_cases hlt:k<L.length
  ·have yB:dL ow n:=by rw[lF.out];exact Bz ok.ok hr (fun x hx=>HLn.out x (List.mem_of_mem_take hx))
   have hfm:kH { m with rows:=m.rows.set i ow }:=J8 ok yB
   have l9:L.getD k 0<n:=HLn.out _ (jq hlt);have pK:L.getD k 0<({ m with rows:=m.rows.set i ow }:Mb).rows.length:=by rw[jD,ok.len];exact l9
   have Oc:=M.Ob uI.out zU.out;have nP:=jo (by rw[eP];exact Oc) (sW HLn.out (by omega))
   rcases nP.2.2 with hz|⟨lb,lo,rfl,hlc⟩
   ·rw[eP] at hz;omega
   have hlk:=hlc k (by rw[eP];exact hlt)
   rw[rX hlt] at hlk;have Hw:Hid (learn m.rows i (ah m.rows i) (L.take (k+1))=jd i ow (L.getD k 0) (ah m.rows (L.getD k 0))):=by rw[Hid,ES hlt,← lF.out]
   have HRk:Hid (L.getD k 0≠i→ah (m.rows.set i ow) (L.getD k 0)=ah m.rows (L.getD k 0)):=fun hne=>by rw[bZ hil,if_neg hne]
   generalize L.getD k 0=J at *;have k1:(k:Int)<(L.length:Int):=by omega
   have k0:(0:Int)≤(k:Int):=by omega
   have J0:(0:Int)≤(J:Int):=by omega
   have J1:(J:Int)<(m.rows.length:Int):=by rw[ok.len];omega
   obtain⟨AJ,J9,hRS⟩:=M.row hfm pK;simp only at J9 hRS
   have HRV:Hid (RV wr g (off+J*8) AJ (ah (m.rows.set i ow) J)):=⟨J9,hRS⟩;have HM:=aj M;have jP:=M.rws;rw[jD] at jP
   have KS:∀ X,Below wr.heap.size wr X→(X.cell? ⟨B,o+2,none⟩=some (.slice (some ⟨g,off,none⟩) m.rows.length c)∧X.cell? ⟨lb,lo+k,none⟩=some (.int .i64 (J:Int))∧X.cell? ⟨g,off+J*8,none⟩=some (.int .i64 (ah (m.rows.set i ow) J).ver)∧X.cell? ⟨g,off+J*8+1,none⟩=some (.slice AJ.ta (ah (m.rows.set i ow) J).txt.length AJ.tc)∧X.cell? ⟨g,off+J*8+2,none⟩=some (.slice AJ.ga (ah (m.rows.set i ow) J).got.length AJ.gc)∧X.cell? ⟨g,off+J*8+3,none⟩=some (.slice AJ.sa (ah (m.rows.set i ow) J).ak.length AJ.sc)∧X.cell? ⟨g,off+J*8+4,none⟩=some (.bool (ah (m.rows.set i ow) J).wed)∧X.cell? ⟨g,off+J*8+5,none⟩=some (.bool (ah (m.rows.set i ow) J).aB)∧X.cell? ⟨g,off+J*8+6,none⟩=some (.int .i64 (ah (m.rows.set i ow) J).aC)∧X.cell? ⟨g,off+J*8+7,none⟩=some (.slice AJ.ma (ah (m.rows.set i ow) J).aA.length AJ.mc)):=fun X hX=>by
    obtain⟨⟨d0,d1,d2,d3⟩,d4,d5,d6,d7⟩:=J9;have t:∀ {x v},wr.cell? x=some v→X.cell? x=some v:=fun h=>(hX.cell (World.block_lt_of_cell? _ _ h)).trans h
    exact⟨t jP,t hlk,t d0,t d1,t d2,t d3,t d4,t d5,t d6,t d7⟩
   have hbd:=(Same.drewN wr 1).below;have HLk:=aj hlk;generalize hrr:ah (m.rows.set i ow) J=r at *;have hRR:=aj hrr
   have hokr:dL r n:=by
    rw[← hrr,bZ hil]
    split
    ·exact yB
    ·exact ok.ok J l9
   clear hrr M J9 hRS hlc Oc nP jP hlk;go_wp2_with fail
   refine jE (S:=fun X:World=>X.cell? ⟨B,o+2,none⟩=some (.slice (some ⟨g,off,none⟩) m.rows.length c)∧X.cell? ⟨lb,lo+k,none⟩=some (.int .i64 (J:Int))∧X.cell? ⟨g,off+J*8,none⟩=some (.int .i64 r.ver)∧X.cell? ⟨g,off+J*8+1,none⟩=some (.slice AJ.ta r.txt.length AJ.tc)∧X.cell? ⟨g,off+J*8+2,none⟩=some (.slice AJ.ga r.got.length AJ.gc)∧X.cell? ⟨g,off+J*8+3,none⟩=some (.slice AJ.sa r.ak.length AJ.sc)∧X.cell? ⟨g,off+J*8+4,none⟩=some (.bool r.wed)∧X.cell? ⟨g,off+J*8+5,none⟩=some (.bool r.aB)∧X.cell? ⟨g,off+J*8+6,none⟩=some (.int .i64 r.aC)∧X.cell? ⟨g,off+J*8+7,none⟩=some (.slice AJ.ma r.aA.length AJ.mc)) 11 bH ((KS _ hbd)) fun hHeld=>?_
   refine aY (i:=0) rfl hHeld ?_;refine aY (i:=1) rfl hHeld ?_;refine aY (i:=2) rfl hHeld ?_;refine aY (i:=3) rfl hHeld ?_;refine aY (i:=4) rfl hHeld ?_;refine aY (i:=5) rfl hHeld ?_;refine aY (i:=6) rfl hHeld ?_;refine aY (i:=7) rfl hHeld ?_;refine aY (i:=8) rfl hHeld ?_;refine aY (i:=9) rfl hHeld ?_;refine dI (i:=10) rfl fun K hK=>?_
   go_simp;have hb2:Below wr.heap.size wr (wr.drew.alloc (.cells #[.int .i64 0,.slice none 0 0,.slice none 0 0,.slice none 0 0,.bool false,.bool false,.int .i64 0,.slice none 0 0] 44)):=hbd.trans ((aF wr.drew _).mono hbd.size);refine hK.out _ _ (KS _ hb2) (fun aK=>?_)
   clear hK hHeld;have hHeld:=aK;try simp only[dw]
   refine lQ rfl fun K hK=>?_
   go_simp;refine hK.out _ _ ?_;have hb5:Below wr.heap.size wr (wr.alloc (.cells #[.int .i64 r.ver,.slice AJ.ta r.txt.length AJ.tc,.slice AJ.ga r.got.length AJ.gc,.slice AJ.sa r.ak.length AJ.sc,.bool r.wed,.bool r.aB,.int .i64 r.aC,.slice AJ.ma r.aA.length AJ.mc] 44)).drew:=(aF wr _).trans ((Same.drewN _ 1).below.mono (aF wr _).size);have hx5:Bx (wr.alloc (.cells #[.int .i64 r.ver,.slice AJ.ta r.txt.length AJ.tc,.slice AJ.ga r.got.length AJ.gc,.slice AJ.sa r.ak.length AJ.sc,.bool r.wed,.bool r.aB,.int .i64 r.aC,.slice AJ.ma r.aA.length AJ.mc] 44)).drew wr.heap.size 44 #[.int .i64 r.ver,.slice AJ.ta r.txt.length AJ.tc,.slice AJ.ga r.got.length AJ.gc,.slice AJ.sa r.ak.length AJ.sc,.bool r.wed,.bool r.aB,.int .i64 r.aC,.slice AJ.ma r.aA.length AJ.mc]:=Bx.new wr _ _;generalize (wr.alloc (.cells #[.int .i64 r.ver,.slice AJ.ta r.txt.length AJ.tc,.slice AJ.ga r.got.length AJ.gc,.slice AJ.sa r.ak.length AJ.sc,.bool r.wed,.bool r.aB,.int .i64 r.aC,.slice AJ.ma r.aA.length AJ.mc] 44)).drew=W5 at *;clear hHeld KS hbd hb2 hK;have Dt:Hid (Bx W5 wr.heap.size 44 #[.int .i64 r.ver,.slice AJ.ta r.txt.length AJ.tc,.slice AJ.ga r.got.length AJ.gc,.slice AJ.sa r.ak.length AJ.sc,.bool r.wed,.bool r.aB,.int .i64 r.aC,.slice AJ.ma r.aA.length AJ.mc]):=hx5;have lS:Hid (Below wr.heap.size wr W5):=hb5;obtain⟨⟨x0,x1,x2,x3⟩,x4,x5,x6,x7⟩:=Bx.r8 hx5;have M5:=HM.out.step hb5;obtain⟨c0,c1,c4⟩:=M5.id';simp only at c0
   rw[ok.hid] at c0;have T:∀ {x v},W5.cell? x=some v→∀ q:Bk W5,q.w.cell? x=some v:=fun h q=>(q.h.cell (World.block_lt_of_cell? _ _ h)).trans h
   have p0:=T c0;have pl:=T ((hb5.cell (World.block_lt_of_cell? _ _ HLk.out)).trans HLk.out);have EW:=T x3;have Du:=T x4;clear x0 x1 x2 x3 x4 x5 x6 x7 c0 c1 c4 M5 hx5 hb5 T;by_cases xK:J=i
   ·have e1:((J:Int)==(i:Int))=true:=by simp[xK]
    have HT:Hid (ow=learn m.rows i (ah m.rows i) (L.take (k+1))):=by rw[Hid,Hw.out,jd,if_pos (.inl xK)]
    clear xK;go_wp2_with fail
    refine eU ?_;repeat (go_big_quiet_step ((first|rfl)))
    refine wpQuiet_nil (dK fun wE aJ=>?_)
    have lD:Hid (Mw wl wE B o { m with rows:=m.rows.set i ow } fp g off c):=(HM.out.step lS.out).step aJ
    clear p0 pl EW Du aJ;go_wp2;go_roundw
    case rel=>exact⟨k+1,ow,by omega,by go_num,HT,lD.out⟩
    case measure=>simp[intOf];omega
   have e1:((J:Int)==(i:Int))=false:=by simp;omega
   have EX:=HRk.out xK;by_cases hws:r.wed=false∧r.ak=[]
   ·have e2:r.wed=false:=hws.1
    have e3:(((r.ak.length:Nat):Int)==0)=true:=by rw[hws.2];rfl
    have HT:Hid (ow=learn m.rows i (ah m.rows i) (L.take (k+1))):=by rw[Hid,Hw.out,jd,if_pos (.inr (by rw[← EX];exact hws))]
    rw[e2] at Du;clear xK hws e2 EX;go_wp2_with fail
    refine eU ?_;repeat (go_big_quiet_step ((first|rfl)))
    refine wpQuiet_nil (dK fun wE aJ=>?_)
    have lD:Hid (Mw wl wE B o { m with rows:=m.rows.set i ow } fp g off c):=(HM.out.step lS.out).step aJ
    clear p0 pl EW Du aJ;go_wp2;go_roundw
    case rel=>exact⟨k+1,ow,by omega,by go_num,HT,lD.out⟩
    case measure=>simp[intOf];omega
   have HT:Hid ({ ow with wed:=true,ak:=gY i ow.ak r.ak }=learn m.rows i (ah m.rows i) (L.take (k+1))):=by rw[Hid,Hw.out,jd,if_neg (by rw[← EX];rintro (h|h);exact xK h;exact hws h),← EX]
   have e3:r.wed=false→(((r.ak.length:Nat):Int)==0)=false:=fun hw=>by
    have:r.ak≠[]:=fun h=>hws ⟨hw,h⟩
    have:r.ak.length≠0:=fun h=>this (List.eq_nil_of_length_eq_zero h)
    simp
    omega
   have Oe:=aj xK;have SE:=aj hRR.out;clear xK EX hws
   have key:∀ wE,Below W5.heap.size W5 wE→∃ gy,(∀ b,gy b→b<wr.heap.size)∧B<wr.heap.size∧Mw wE wE B o { m with rows:=m.rows.set i ow } gy g off c∧Bx wE wr.heap.size 44 #[.int .i64 r.ver,.slice AJ.ta r.txt.length AJ.tc,.slice AJ.ga r.got.length AJ.gc,.slice AJ.sa r.ak.length AJ.sc,.bool r.wed,.bool r.aB,.int .i64 r.aC,.slice AJ.ma r.aA.length AJ.mc]∧RV wE g (off+J*8) AJ r∧∀ (Y:World) (m':Mb),Mw wE Y B o m' gy g off c→Mw wl Y B o m' fp g off c:=fun wE hbE=>by
    have hbb:=lS.out.trans (hbE.mono lS.out.size);obtain⟨gy,f1,f2,_,f3,f4⟩:=HM.out.sub hbb;exact⟨gy,f1,f2,f3,Dt.out.below hbE,HRV.out.below hbb,f4⟩
   have am6:=aj key;clear key Dt lS;generalize wr.heap.size=bb at *;go_upto_region 6 with fail
   go_cut [53] from 34 to 53 (fun v X=>v=.bool false∧Below W5.heap.size W5 X)
   case first =>
    rcases Bool.eq_false_or_eq_true r.wed with hwd|hwd
    ·rw[hwd] at Du
     clear hwd e3;refine eU ?_;repeat (go_big_quiet_step ((first|rfl)))
     refine wpQuiet_nil (dK fun wE aJ=>?_)
     try go_wp2_with fail
     go_meet
     case rel=>exact⟨rfl,aJ⟩
    ·have e4:=e3 hwd
     rw[hwd] at Du;clear hwd e3;refine eU ?_;repeat (go_big_quiet_step ((first|rfl)))
     refine wpQuiet_nil (dK fun wE aJ=>?_)
     try go_wp2_with fail
     go_meet
     case rel=>exact⟨rfl,aJ⟩
   case rest =>
    obtain⟨rfl,hBc⟩:=hcut;obtain⟨gy,f1,f2,M5,BA,am7,f4⟩:=am6.out _ hBc;clear p0 pl EW Du e3 am6 hBc;generalize wc=V at *;have ax6:i<({ m with rows:=m.rows.set i ow }:Mb).rows.length:=by rw[jD];exact hil
    have hself:ah (m.rows.set i ow) i=ow:=dM hil;have aC4:J<(m.rows.set i ow).length:=pK;obtain⟨u,f,q1,q2,⟨rfl,qf⟩,_,q4⟩:=M5.YQ ax6 pK Oe.out (by simp only[SE.out];exact hokr.fit) (A':=AJ) (by simp only[SE.out];exact am7) (j:=4) (cl:=.v (.bool ow.wed)) (by simp only[hself];rfl)
    obtain⟨_,_,M6,Ef⟩:=q4 V (.v (.bool true)) (.bool true) (fun _=>False) { ow with wed:=true } (by simp only[hself];rfl) (aO.refl _ _) ⟨rfl,fun _ h=>h⟩ (fun b hb=>hb.elim)
    simp only[SE.out,List.set_set] at M6 Ef;have gJ:=aj M6;have ax7:=aj Ef;have HX6:=aj BA;have HF1:=aj f1;have HF2:=aj f2;have uJ:=aj f4;clear M5 M6 Ef q4 qf f1 f2 f4 BA am7 hself;go_wp2_with fail
    generalize V.setCell ⟨g,off+i*8+4,none⟩ (.bool true)=V6 at *;clear q1 q2;have hsl:=hokr.sl
    go_loopw [6] (fun v wi=>∃ (j:Nat) (s:List Int),j≤r.ak.length∧v=.int .i64 (j:Int)∧Hid (s=gY i ow.ak (r.ak.take j))∧Mw V wi B o { m with rows:=m.rows.set i { ow with wed:=true,ak:=s } } gy g off c∧RV wi g (off+J*8) AJ r) (fun v _=>r.ak.length-(intOf v).toNat)
    case atStart=>exact⟨0,ow.ak,Nat.zero_le _,rfl,rfl,gJ.out,ax7.out⟩
    case round =>
     obtain⟨j,s,hj,rfl,hs,M,wJ⟩:=hrel;have hXi:=M.bx HX6.out (fun k=>by have:=HF1.out _ k;omega) (by have:=HF2.out;omega)
     obtain⟨⟨x0,x1,x2,x3⟩,x4,x5,x6,x7⟩:=Bx.r8 hXi;by_cases hlt2:j<r.ak.length
     ·have j1:(j:Int)<(r.ak.length:Int):=by omega
      have j0:(0:Int)≤(j:Int):=by omega
      rcases wJ.2.ak.2.2 with h0|⟨sb,so,hsa,hsc⟩
      ·omega
      have hsx:=hsc j hlt2;have HTj:Hid (gY i ow.ak (r.ak.take (j+1))=if el r.ak j=(i:Int) then s else bT s (el r.ak j)):=by rw[Hid,Dp hlt2,← hs.out]
      have hxr:=hokr.ak (el r.ak j) (iF hlt2);rw[hsa] at x3;clear hsa;have HM:=aj M;have am8:=aj wJ;obtain⟨c0,c1,c4⟩:=M.id';simp only at c0
      rw[ok.hid] at c0;have T:∀ {x v},wr.cell? x=some v→∀ q:Bk wr,q.w.cell? x=some v:=fun h q=>(q.h.cell (World.block_lt_of_cell? _ _ h)).trans h
      have p0:=T c0;have p3:=T x3;have px:=T hsx;generalize el r.ak j=x at *;clear M wJ hXi x0 x1 x2 x4 x5 x6 x7 c0 c1 c4 hsc hsx T;by_cases hxi:x=(i:Int)
      ·have e5:(x != (i:Int))=false:=by simp[hxi]
       have HS2:Hid (s=gY i ow.ak (r.ak.take (j+1))):=by rw[Hid,HTj.out,if_pos hxi]
       clear hxi;go_wp2_with fail
       refine eU ?_;repeat (go_big_quiet_step ((first|rfl)))
       refine wpQuiet_nil (dK fun wE aJ=>?_)
       have lD:=aj (HM.out.step aJ);have Bl:=aj (am8.out.below aJ);clear p0 p3 px x3 aJ;go_wp2;go_roundw
       case rel=>exact⟨j+1,s,by omega,by go_num,HS2,lD.out,Bl.out⟩
       case measure=>simp[intOf];omega
      ·have e5:(x != (i:Int))=true:=by simpa using hxi
       have HS2:Hid (bT s x=gY i ow.ak (r.ak.take (j+1))):=by rw[Hid,HTj.out,if_neg hxi]
       clear hxi;go_wp2_with fail
       refine eU ?_;repeat (go_big_quiet_step ((first|rfl)))
       refine wpQuiet_nil (dK fun wE aJ=>?_)
       have M7:=HM.out.step aJ;have am9:=am8.out.below aJ;have x37:=p3 ⟨wE,aJ⟩;have hx7:=px ⟨wE,aJ⟩;simp only at x37 hx7
       clear p0 p3 px x3 aJ;have Qp:i<({ m with rows:=m.rows.set i { ow with wed:=true,ak:=s } }:Mb).rows.length:=by rw[jD];exact hil
       have ax8:J<({ m with rows:=m.rows.set i { ow with wed:=true,ak:=s } }:Mb).rows.length:=by rw[jD,ok.len];exact l9
       have I5:ah (m.rows.set i { ow with wed:=true,ak:=s }) J=r:=by rw[← SE.out,bZ hil,bZ hil,if_neg Oe.out,if_neg Oe.out]
       have Ko:ah (m.rows.set i { ow with wed:=true,ak:=s }) i={ ow with wed:=true,ak:=s }:=dM hil
       have VJ:dL { ow with wed:=true,ak:=s } n:=by rw[hs.out];exact ET yB hokr j
       obtain⟨u,f,hu,hfz,how,sZ,hset⟩:=M7.YQ Qp ax8 Oe.out (by simp only[I5];exact hokr.fit) (A':=AJ) (by simp only[I5];exact am9) (j:=3) (cl:=bQ s) (by simp only[Ko];rfl)
       have how':=how;obtain⟨ya,yc,G,rfl,_,_⟩:=fB.1 how';have av3:s.length≤100000000:=by have:s.length≤n:=VJ.sl;omega
       have av4:Fits s:=VJ.fit.2.1
       have HS:Hid (∀ (X1:World) (u':Value) (f':Fp) (s':List Int),aO f wE X1→aI.ow X1 (bQ s') u' f'→(∀ b,f' b→f b∨wE.heap.size≤b)→X1.cell? ⟨g,off+i*8+3,none⟩=some (.slice ya s.length yc)∧X1.frozen? ⟨g,off+i*8+3,none⟩=false∧Mw V (X1.setCell ⟨g,off+i*8+3,none⟩ u') B o { m with rows:=m.rows.set i { ow with wed:=true,ak:=s' } } gy g off c∧RV (X1.setCell ⟨g,off+i*8+3,none⟩ u') g (off+J*8) AJ r):=fun X1 u' f' s' h1 h2 h3=>by
        have:=hset X1 (bQ s') u' f' { ow with wed:=true,ak:=s' } (by simp only[Ko];rfl) h1 h2 h3
        simp only[I5,List.set_set] at this;exact this
       have hbd:=(Same.drewN wE 1).below;have hP:=Jr ya yc s x wE.drew f (aI.cZ how hbd) av4 av3
       have KS:∀ X,Below wE.heap.size wE X→(X.cell? ⟨g,off+i*8+3,none⟩=some (.slice ya s.length yc)∧X.cell? ⟨bb,3,none⟩=some (.slice (some ⟨sb,so,none⟩) r.ak.length AJ.sc)∧X.cell? ⟨sb,so+j,none⟩=some (.int .i64 x)):=fun X hX=>by
        have t:∀ {x v},wE.cell? x=some v→X.cell? x=some v:=fun h=>(hX.cell (World.block_lt_of_cell? _ _ h)).trans h
        exact⟨t hu,t x37,t hx7⟩
       clear M7 am9 hset how how' sZ hu x37 hx7 VJ Ko I5;go_wp2_with fail
       refine jE (S:=fun X:World=>X.cell? ⟨g,off+i*8+3,none⟩=some (.slice ya s.length yc)∧X.cell? ⟨bb,3,none⟩=some (.slice (some ⟨sb,so,none⟩) r.ak.length AJ.sc)∧X.cell? ⟨sb,so+j,none⟩=some (.int .i64 x)) 13 bH ((KS _ hbd)) fun hHeld=>?_
       refine aY (i:=0) rfl hHeld ?_;refine aY (i:=1) rfl hHeld ?_;refine aY (i:=2) rfl hHeld ?_;refine aY (i:=3) rfl hHeld ?_;refine aY (i:=4) rfl hHeld ?_;refine aY (i:=5) rfl hHeld ?_;refine aY (i:=6) rfl hHeld ?_;refine aY (i:=7) rfl hHeld ?_;refine aY (i:=8) rfl hHeld ?_;refine aY (i:=9) rfl hHeld ?_;refine dI (i:=10) rfl fun K hK=>?_
       go_simp
       go_at_call 106
       refine hP.mono ?_;rintro e w1 ⟨a1,e1',f1,rfl,k1',k2,k3⟩;have hb1:=hbd.trans (k3.mono hbd.size);obtain⟨q1,q2,M8,Kq⟩:=HS.out w1 _ f1 (bT s x) (aO.of_below hb1) k1' (fun b hb=>k2 b hb)
       have lG:=aj M8;have VK:=aj Kq;refine hK.out _ _ (KS _ hb1) (fun aK=>?_)
       clear hK hHeld;have hHeld:=aK;try simp only[dw]
       refine aS (i:=11) rfl ?_;refine aY (i:=12) rfl hHeld ?_;refine lQ rfl fun K hK=>?_
       go_simp;refine hK.out _ _ ?_;clear M8 Kq k1' k2 k3 hP HS hHeld KS hbd hb1 hK hfz;generalize w1.setCell ⟨g,off+i*8+3,none⟩ (.slice a1 (bT s x).length e1')=V9 at *;clear q1 q2;go_wp2;go_roundw
       case rel=>exact⟨j+1,bT s x,by omega,by go_num,HS2,lG.out,VK.out⟩
       case measure=>simp[intOf];omega
     ·have j1:¬ ((j:Int)<(r.ak.length:Int)):=by omega
      have HT2:Hid ({ ow with wed:=true,ak:=s }=learn m.rows i (ah m.rows i) (L.take (k+1))):=by rw[Hid,← HT.out,hs.out,List.take_of_length_le (by omega)]
      have lD:=aj (uJ.out _ _ M);clear M wJ hXi x0 x1 x2 x4 x5 x6 x7;go_wp2;go_roundw
      case rel=>exact⟨k+1,_,by omega,by go_num,HT2,lD.out⟩
      case measure=>simp[intOf];omega
  ·have k1:¬ ((k:Int)<(L.length:Int)):=by omega
   have HE:=aj (SC.out _ _ M (jD _));have HOW:Hid (ow=learn m.rows i (ah m.rows i) L):=by rw[Hid,lF.out,List.take_of_length_le (by omega)]
   clear M lF;go_wp2;go_end0;rw[HLe.out,← HOW.out];exact⟨rfl,HE.out⟩
theorem Kr {R:List Rw} {n q k:Nat} (hk:k<R.length) (h:¬ (((q/n:Nat):Int)<el (ah R k).got (q%n))):lC R n q=false:=by
 rw[lC,List.all_eq_false];exact⟨ah R k,List.mem_of_getElem? (dW hk),by simpa using h⟩
theorem Hy {R:List Rw} {n q:Nat} (h:∀ k,k<R.length→((q/n:Nat):Int)<el (ah R k).got (q%n)):lC R n q=true:=by
 rw[lC,List.all_eq_true];intro r hr;obtain⟨j,hj,rfl⟩:=JA hr;simpa using h j hj
theorem SG (B o:Nat) (m:Mb) (i n:Nat) (fp:Fp) (w:World) (h:dN w B o (gW m) fp) (ok:dO m i n) :
  Calls Tryz.prog 117 #[.pointer (some ⟨B,o,none⟩)] w fun e w'=>e=.returned (.tuple #[])∧Mk w w' B o { m with au:=iW m.rows n (60-m.au.length) m.au } fp:=by
 have bH:=dH;have hil:i<m.rows.length:=by rw[ok.len];exact ok.lt
 obtain⟨g,off,c,M0⟩:=Mw.start h (by omega)
 have HC9:=aj M0.rws;have ig:=aj M0;have fG:=ok.n5;have hsl:=ok.sl;clear M0 h;go_enter Tryz.func117,Tryz.ntmps117
 go_wp2_with fail
 go_loopg [3] 61 (fun gk v wr=>∃ s:List Int,s.length≤60∧60-s.length<gk∧Fits s∧Hid (iW m.rows n (60-m.au.length) m.au=iW m.rows n (60-s.length) s)∧Mw w wr B o { m with au:=s } fp g off c)
 case atStart=>exact⟨m.au,hsl,by omega,ok.fit.2,rfl,ig.out⟩
 case round =>
  obtain⟨s,Jz,hgk,hfs,hS,M⟩:=hrel;have hfm:kH { m with au:=s }:=⟨ok.fit.1,hfs⟩
  obtain⟨sa,sc,⟨c0,c1,c2,c3,c4⟩,hms⟩:=M.box hfm;simp only at c0 c1 c2 c3 c4
  rw[ok.hn] at c1;have HM:=aj M;by_cases hlt:s.length<60
  ·have k1:(s.length:Int)<60:=by omega
   obtain⟨q,hq⟩:∃ q:Nat,s.length=q:=⟨_,rfl⟩;have HQ:=aj hq;have hqm:q%n<n:=Nat.mod_lt _ (by omega)
   have tm:((s.length:Int)).tmod (n:Int)=((q%n:Nat):Int):=by rw[hq,Int.tmod_eq_emod_of_nonneg (by omega)];rfl
   have td:((s.length:Int)).tdiv (n:Int)=((q/n:Nat):Int):=by rw[hq,Int.tdiv_eq_ediv_of_nonneg (by omega)];rfl
   clear hq;obtain⟨y,hy⟩:∃ y:Int,Hid (((q/n:Nat):Int)=y):=⟨_,rfl⟩;obtain⟨z,hz⟩:∃ z:Nat,Hid (q%n=z):=⟨_,rfl⟩;rw[hz.out] at tm hqm;rw[hy.out] at td
   have hyb:0≤y∧y≤60:=by
    have h1:=Nat.div_le_self q n;have h2:=hy.out;have h3:=HQ.out;generalize q/n=yy at *;omega
   have hwy:wrap64 y=y:=by unfold wrap64;omega
   have hrl:m.rows.length≤5:=by rw[ok.len];omega
   have n0:((n:Int)==0)=false:=by simp;omega
   have xM:=aj c1;have HC2:=aj c2;clear M hms c0 c1 c2 c4;go_wp2_with fail
   go_loopw [3] (fun v wi=>∃ k:Nat,k≤m.rows.length∧v=.int .i64 (k:Int)∧(∀ j,j<k→y<el (ah m.rows j).got z)∧Below wr.heap.size wr wi) (fun v _=>m.rows.length-(intOf v).toNat)
   case atStart=>exact⟨0,Nat.zero_le _,rfl,fun j hj=>by omega,Below.refl _ _⟩
   case round =>
    obtain⟨k,hk,rfl,hall,hgr⟩:=hrel;have M1:=HM.out.step hgr;have HA:=aj hall;have c2:=M1.rws;have c1:=M1.id'.2.1;simp only at c1
    rw[ok.hn] at c1;clear hall;by_cases hlt2:k<m.rows.length
    ·have j1:(k:Int)<(m.rows.length:Int):=by omega
     have j0:(0:Int)≤(k:Int):=by omega
     obtain⟨Ak,⟨⟨d0,d1,d2,d3⟩,d4,d5,d6,d7⟩,hrs⟩:=M1.row hfm (k:=k) hlt2;simp only at d2 hrs
     have hgl:=(ok.ok k (by rw[← ok.len];exact hlt2)).gl
     rcases hrs.got.2.2 with h0|⟨gb,go,hga,hgc⟩
     ·omega
     have hge:=hgc z (by omega)
     rw[hga] at d2;have q0:(0:Int)≤(z:Int):=by omega
     have q1:(z:Int)<((ah m.rows k).got.length:Int):=by omega
     have T:∀ {x v},wr.cell? x=some v→∀ q:Bk wr,q.w.cell? x=some v:=fun h q=>(q.h.cell (World.block_lt_of_cell? _ _ h)).trans h
     have p1:=T c1;have p2:=T c2;have pg:=T d2;have pe:=T hge
     have HY:Hid (y<el (ah m.rows k).got z→∀ j,j<k+1→y<el (ah m.rows j).got z):=fun h1 j hj=>by
      rcases Nat.lt_succ_iff_lt_or_eq.1 hj with h|h
      ·exact HA.out j h
      ·rw[h];exact h1
     have jA:Hid (¬ (y<el (ah m.rows k).got z)→lC m.rows n q=false):=fun h=>Kr hlt2 (by rw[hy.out,hz.out];exact h)
     generalize el (ah m.rows k).got z=x at *;have HG:=aj hgr;clear hgc hge hga d0 d1 d2 d3 d4 d5 d6 d7 hrs c1 T M1 hgr;by_cases hxy:y<x
     ·have e1:decide (x≤y)=false:=by simpa using hxy
      have e2:¬ (x≤y):=by omega
      have HN:=HY.out hxy;clear HY jA hxy;go_wp2_with fail
      refine eU ?_;repeat (go_big_quiet_step ((first|rfl)))
      refine wpQuiet_nil (dK fun wE aJ=>?_)
      have uK:=aj (HG.out.trans (aJ.mono HG.out.size));clear p1 p2 pg pe aJ c2;go_wp2;go_roundw
      case rel=>exact⟨k+1,by omega,by go_num,HN,uK.out⟩
      case measure=>simp[intOf];omega
     ·have e1:decide (x≤y)=true:=by simpa using hxy
      have e2:x≤y:=by omega
      have HN:=jA.out hxy
      have HFin:Hid (iW m.rows n (60-m.au.length) m.au=s):=by
       rw[Hid,hS.out,HQ.out];obtain⟨f,hf⟩:∃ f,60-q=f+1:=⟨60-q-1,by have:=HQ.out;omega⟩
       rw[hf,iW,HQ.out,HN]
       rfl
      clear HY jA hxy HN;go_wp2_with fail
      refine eU ?_;repeat (go_big_quiet_step ((first|rfl)))
      refine wpQuiet_nil (dK fun wE aJ=>?_)
      have Kt:Hid (Mw w wE B o { m with au:=s } fp g off c):=(HM.out.step HG.out).step aJ
      clear p1 p2 pg pe aJ c2;go_wp2
      (try simp only[Exit.inBlock,Exit.then])
      refine bodyPost_ret (results_none rfl _ _ _) rfl ?_;rw[HFin.out];exact⟨rfl,Kt.out.mk' HC9.out rfl⟩
    ·have j1:¬ ((k:Int)<(m.rows.length:Int)):=by omega
     have HY:Hid (lC m.rows n q=true):=Hy (fun j hj=>by rw[hy.out,hz.out];exact HA.out j (by omega))
     have HS2:Hid (iW m.rows n (60-m.au.length) m.au=iW m.rows n (60-(s++[(s.length:Int)]).length) (s++[(s.length:Int)])):=by
      rw[Hid,hS.out,HQ.out,List.length_append,HQ.out];obtain⟨f,hf⟩:∃ f,60-q=f+1:=⟨60-q-1,by have:=HQ.out;omega⟩
      rw[hf,iW,HQ.out,HY.out,if_pos rfl,show 60-(q+[((q:Nat):Int)].length)=f by simp;omega]
     have HFs:Hid (Fits (s++[(s.length:Int)])):=fun x hx=>by
      rcases List.mem_append.1 hx with h|h
      ·exact hfs x h
      ·simp at h;omega
     have yN:Hid ((s++[(s.length:Int)]).length=s.length+1):=by rw[Hid,List.length_append];rfl
     obtain⟨u,f,hu,hfz,how,sZ,hset⟩:=M1.He (j:=3) (cl:=bQ s) rfl (by omega)
     obtain⟨ya,yc,rfl,hA⟩:=ny (s.length:Int) how (by omega)
     have HS:=aj hset;clear hset how sZ M1 hgr c1 tm td;go_wp2_with (at_builtin;refine aZ (by rfl) _ _ _ _ (by rfl) _ _ (by rfl) (by rfl) hA ⟨rfl,rfl,rfl,rfl⟩ ?_;rintro v1 w1 ⟨a1,e1,f1,rfl,q1,q2,q3⟩;obtain⟨z1,z2,M2⟩:=HS.out w1 _ _ f1 { m with au:=s++[(s.length:Int)] } rfl rfl q3 q1 q2;have eF:Hid (Mw w (w1.setCell ⟨B,o+3,none⟩ (.slice a1 (s.length+1) e1)) B o { m with au:=s++[(s.length:Int)] } fp g off c):=M2;clear M2 q1 q2 q3 hA HS)
     generalize w1.setCell ⟨B,o+3,none⟩ (.slice a1 (s.length+1) e1)=V9 at *;clear z1 z2 hu hfz
     go_roundg (gk-1)
     case measure=>omega
     case rel=>exact⟨s++[(s.length:Int)],by rw[yN.out];omega,by rw[yN.out];omega,HFs.out,HS2,eF.out⟩
  ·have k1:¬ ((s.length:Int)<60):=by omega
   have HFin:Hid (iW m.rows n (60-m.au.length) m.au=s):=by
    rw[Hid,hS.out,show 60-s.length=0 by omega]
    rfl
   clear M hms c0 c1 c2 c4;go_wp2;go_end0;rw[HFin.out];exact⟨rfl,HM.out.mk' HC9.out rfl⟩
theorem rY {X:World} {x:Option Addr} {c:Nat} {xs:List Int} (hv:Vec X x xs.length xs) (hl:xs.length≤1000000) :
  ∀ Z,Same Z (X.alloc (.cells #[] 2))→∃ v' w4,(Builtin.append_ #[41,41] 41 #[.slice (some ⟨X.heap.size,0,none⟩) 0 0,.slice x xs.length c]).run Tryz.prog Z=.ok v' w4∧∃ a' c' f',v'=.slice a' xs.length c'∧aI.ow w4 (bQ xs) v' f'∧(∀ b,f' b→X.heap.size≤b)∧Below X.heap.size X w4:=by
 intro Z hZ;obtain⟨i0,hi0,hz0,hz1,hz2⟩:=gX Tryz.info2n;have nN:=(aF X _).trans (hZ.below.mono (aF X _).size);obtain⟨a6,c6,w6,NU,JI,JJ,hw6,G9⟩:=yg (P:=Tryz.prog) (w:=Z) 41 41 2 i0 Tryz.underlying41 hi0 hz0 hz1 hz2 (jG X.heap.size 0) (x:=x) (c:=c) (hv.below nN (Nat.le_refl _)) hl;exact⟨_,w6,JI,a6,c6,NU,rfl,JJ,fun b hb=>by have:=G9 b hb;have:=nN.size;omega,hw6.below nN nN.size (fun b h=>h.elim)⟩
theorem SH (B o:Nat) (m:Mb) (i n F:Nat) (fp:Fp) (w:World) (h:dN w B o (gW m) fp) (ok:dO m i n) (hF:F<n) (yO:F≠i) :
  Calls Tryz.prog 120 #[.pointer (some ⟨B,o,none⟩),.int .i64 (F:Int)] w fun e w'=>e=.returned (.tuple #[])∧Mk w w' B o { m with rows:=m.rows.set i (adopt m.rows i (ah m.rows i) F) } fp:=by
 have bH:=dH;have hil:i<m.rows.length:=by rw[ok.len];exact ok.lt
 have pJ:F<m.rows.length:=by rw[ok.len];exact hF
 obtain⟨g,off,c,M0⟩:=Mw.start h (by omega)
 obtain⟨c0,c1,c4⟩:=M0.id';have c2:=M0.rws;rw[ok.hid] at c0;have i0:(0:Int)≤(i:Int):=by omega
 have i1:(i:Int)<(m.rows.length:Int):=by omega
 have F0:(0:Int)≤(F:Int):=by omega
 have F1:(F:Int)<(m.rows.length:Int):=by omega
 have p0:∀ q:Bk w,q.w.cell? ⟨B,o,none⟩=_:=fun q=>(q.h.cell (World.block_lt_of_cell? _ _ c0)).trans c0
 have p2:∀ q:Bk w,q.w.cell? ⟨B,o+2,none⟩=_:=fun q=>(q.h.cell (World.block_lt_of_cell? _ _ c2)).trans c2
 have HC2:=aj M0.rws;have ig:=aj M0;have hr:=ok.ok i ok.lt;have hrF:=ok.ok F hF;have fG:=hr.n5;clear c0 c1 c4 c2 M0 h;go_enter Tryz.func120,Tryz.ntmps120
 go_wp2_with fail
 refine eU ?_;repeat (go_big_quiet_step ((first|rfl)))
 refine wpQuiet_nil (dK fun wE aJ=>?_)
 clear p0 p2;have bF:=aj (ig.out.step aJ);have c2:=bF.out.rws;obtain⟨AF,J9,hRS⟩:=bF.out.row ok.fit pJ;have an0:Hid (RV wE g (off+F*8) AF (ah m.rows F)):=⟨J9,hRS⟩;obtain⟨⟨d0,d1,d2,d3⟩,d4,d5,d6,d7⟩:=J9;clear aJ ig;go_upto_region 1 with fail
 go_upto_region 2 with fail
 have hb5:=aF wE (.cells #[.int .i64 (ah m.rows F).ver,.slice AF.ta (ah m.rows F).txt.length AF.tc,.slice AF.ga (ah m.rows F).got.length AF.gc,.slice AF.sa (ah m.rows F).ak.length AF.sc,.bool (ah m.rows F).wed,.bool (ah m.rows F).aB,.int .i64 (ah m.rows F).aC,.slice AF.ma (ah m.rows F).aA.length AF.mc] 44);have hx5:=Bx.new wE 44 #[.int .i64 (ah m.rows F).ver,.slice AF.ta (ah m.rows F).txt.length AF.tc,.slice AF.ga (ah m.rows F).got.length AF.gc,.slice AF.sa (ah m.rows F).ak.length AF.sc,.bool (ah m.rows F).wed,.bool (ah m.rows F).aB,.int .i64 (ah m.rows F).aC,.slice AF.ma (ah m.rows F).aA.length AF.mc];generalize wE.alloc (.cells #[.int .i64 (ah m.rows F).ver,.slice AF.ta (ah m.rows F).txt.length AF.tc,.slice AF.ga (ah m.rows F).got.length AF.gc,.slice AF.sa (ah m.rows F).ak.length AF.sc,.bool (ah m.rows F).wed,.bool (ah m.rows F).aB,.int .i64 (ah m.rows F).aC,.slice AF.ma (ah m.rows F).aA.length AF.mc] 44)=W5 at *;have M5:=bF.out.step hb5;have ax9:=trivial;have lS:=aj hb5;have dJ:=aj M5;have an1:=aj (an0.out.below hb5);have VL:=an1.out.2;have Dt:=aj hx5;obtain⟨⟨x0,x1,x2,x3⟩,x4,x5,x6,x7⟩:=Bx.r8 hx5;obtain⟨e0,e1,e4⟩:=M5.id';rw[ok.hid] at e0;obtain⟨Ao,⟨⟨o0,o1,o2,o3⟩,o4,o5,o6,o7⟩,_⟩:=M5.row ok.fit hil;have T:∀ {x v},W5.cell? x=some v→∀ q:Bk W5,q.w.cell? x=some v:=fun h q=>(q.h.cell (World.block_lt_of_cell? _ _ h)).trans h
 have p0:=T e0;have EW:=T x3;have Ku:=T x5;have px6:=T x6;have Kv:=T o5;have po6:=T o6;have C2:∀ q:Bk W5,Calls Tryz.prog 113 #[.slice AF.sa (ah m.rows F).ak.length AF.sc,.int .i64 (i:Int)] q.w fun e w'=>e=.returned (.bool (decide ((i:Int)∈(ah m.rows F).ak)))∧Below q.w.heap.size q.w w':=fun q=>(oI AF.sa (ah m.rows F).ak.length AF.sc (i:Int) (ah m.rows F).ak q.w (VL.ak.below q.h (Nat.le_refl _)) VL.ms).mono (fun e w' h=>⟨h.1,by rw[h.2];exact Below.refl _ _⟩)
 have HD:Hid (∀ b:Bool,b=decide ((ah m.rows F).aB=true∧(ah m.rows F).aC=(F:Int)∧(i:Int)∉(ah m.rows F).ak∧¬ ((ah m.rows i).aB=true∧(F:Int)≤(ah m.rows i).aC))→adopt m.rows i (ah m.rows i) F=if b=true then { ah m.rows i with aB:=true,aC:=(F:Int),aA:=(ah m.rows F).aA } else ah m.rows i):=fun b hb=>by
  rw[adopt,hb];simp only[decide_eq_true_eq]
 have HDD:Hid (decide ((ah m.rows F).aB=true∧(ah m.rows F).aC=(F:Int)∧(i:Int)∉(ah m.rows F).ak∧¬ ((ah m.rows i).aB=true∧(F:Int)≤(ah m.rows i).aC))=decide ((ah m.rows F).aB=true∧(ah m.rows F).aC=(F:Int)∧(i:Int)∉(ah m.rows F).ak∧¬ ((ah m.rows i).aB=true∧(F:Int)≤(ah m.rows i).aC))):=rfl;obtain⟨d,hd⟩:∃ d:Bool,Hid (d=decide ((ah m.rows F).aB=true∧(ah m.rows F).aC=(F:Int)∧(i:Int)∉(ah m.rows F).ak∧¬ ((ah m.rows i).aB=true∧(F:Int)≤(ah m.rows i).aC))):=⟨_,rfl⟩;have HA:=HD.out d hd.out;have HAd:=aj HA;clear HDD HD HA M5 VL hx5 e0 e1 e4 x0 x1 x2 x3 x4 x5 x6 x7 o0 o1 o2 o3 o4 o5 o6 o7 T d0 d1 d2 d3 d4 d5 d6 d7 c2 hRS an0 ax9 hb5
 go_cut [53] from 22 to 53 (fun v X=>v=.bool (!d)∧Below W5.heap.size W5 X)
 case first =>
  by_cases a1:(ah m.rows F).aB=true;rotate_left
  ·have a1':(ah m.rows F).aB=false:=by simpa using a1
   have hd0:Hid (d=false):=by rw[Hid,hd.out];simp[a1']
   rw[a1'] at Ku;clear a1 a1';refine eU ?_;repeat (go_big_quiet_step ((first|(go_at_call 113;exact aQ _ (C2 _))|rfl)))
   refine wpQuiet_nil (dK fun wE aJ=>?_)
   try go_wp2_with fail
   go_meet
   case rel=>exact⟨by rw[hd0.out];rfl,aJ⟩
  rw[a1] at Ku;by_cases a2:(ah m.rows F).aC=(F:Int);rotate_left
  ·have hd0:Hid (d=false):=by rw[Hid,hd.out];simp[a2]
   have g2:((ah m.rows F).aC != (F:Int))=true:=by simpa using a2
   clear a1 a2;refine eU ?_;repeat (go_big_quiet_step ((first|(go_at_call 113;exact aQ _ (C2 _))|rfl)))
   refine wpQuiet_nil (dK fun wE aJ=>?_)
   try go_wp2_with fail
   go_meet
   case rel=>exact⟨by rw[hd0.out];rfl,aJ⟩
  have g2:((ah m.rows F).aC != (F:Int))=false:=by simpa using a2
  by_cases a3:(i:Int)∈(ah m.rows F).ak
  ·have hd0:Hid (d=false):=by rw[Hid,hd.out];simp[a3]
   rw[decide_eq_true a3] at C2;clear a1 a2 a3;refine eU ?_;repeat (go_big_quiet_step ((first|(go_at_call 113;exact aQ _ (C2 _))|rfl)))
   refine wpQuiet_nil (dK fun wE aJ=>?_)
   try go_wp2_with fail
   go_meet
   case rel=>exact⟨by rw[hd0.out];rfl,aJ⟩
  rw[decide_eq_false a3] at C2;by_cases a4:(ah m.rows i).aB=true;rotate_left
  ·have a4':(ah m.rows i).aB=false:=by simpa using a4
   have hd0:Hid (d=true):=by rw[Hid,hd.out];simp[a1,a2,a3,a4']
   rw[a4'] at Kv;clear a1 a2 a3 a4 a4';refine eU ?_;repeat (go_big_quiet_step ((first|(go_at_call 113;exact aQ _ (C2 _))|rfl)))
   refine wpQuiet_nil (dK fun wE aJ=>?_)
   try go_wp2_with fail
   go_meet
   case rel=>exact⟨by rw[hd0.out];rfl,aJ⟩
  rw[a4] at Kv;by_cases a5:(F:Int)≤(ah m.rows i).aC
  ·have hd0:Hid (d=false):=by rw[Hid,hd.out];simp[a4,a5]
   have g5:decide ((F:Int)≤(ah m.rows i).aC)=true:=by simpa using a5
   clear a1 a2 a3 a4;refine eU ?_;repeat (go_big_quiet_step ((first|(go_at_call 113;exact aQ _ (C2 _))|rfl)))
   refine wpQuiet_nil (dK fun wE aJ=>?_)
   try go_wp2_with fail
   go_meet
   case rel=>exact⟨by rw[hd0.out];rfl,aJ⟩
  have hd0:Hid (d=true):=by rw[Hid,hd.out];simp[a1,a2,a3];omega
  have g5:decide ((F:Int)≤(ah m.rows i).aC)=false:=by simpa using a5
  clear a1 a2 a3 a4;refine eU ?_;repeat (go_big_quiet_step ((first|(go_at_call 113;exact aQ _ (C2 _))|rfl)))
  refine wpQuiet_nil (dK fun wE aJ=>?_)
  try go_wp2_with fail
  go_meet
  case rel=>exact⟨by rw[hd0.out];rfl,aJ⟩
 case rest =>
  obtain⟨rfl,hBc⟩:=hcut;generalize wc=V at *;have M6:=dJ.out.step hBc;have gJ:=aj M6;have Ef:=an1.out.below hBc;have EY:=Dt.out.below hBc;clear p0 EW Ku px6 Kv po6 C2
  cases d with
  | false =>
   have HE:Hid (adopt m.rows i (ah m.rows i) F=ah m.rows i):=by rw[Hid,HAd.out];rfl
   have HE2:Hid (({ m with rows:=m.rows.set i (ah m.rows i) }:Mb)=m):=by rw[Hid,lg (dW hil)]
   clear M6 Ef EY hBc;go_wp2
   (try simp only[Exit.inBlock,Exit.then])
   refine bodyPost_ret (results_none rfl _ _ _) rfl ?_;rw[HE.out,HE2.out];exact⟨rfl,gJ.out.mk' HC2.out rfl⟩
  | true =>
   have HE:Hid (adopt m.rows i (ah m.rows i) F={ ah m.rows i with aB:=true,aC:=(F:Int),aA:=(ah m.rows F).aA }):=by rw[Hid,HAd.out];rfl
   obtain⟨gy,f1,f2,_,M7,f4⟩:=bF.out.sub (lS.out.trans (hBc.mono lS.out.size));have hself:ah m.rows i=ah m.rows i:=rfl;obtain⟨_,_,q1,q2,⟨rfl,_⟩,_,q4⟩:=M7.YQ hil pJ yO hrF.fit Ef (j:=5) (cl:=.v (.bool (ah m.rows i).aB)) rfl;obtain⟨_,_,M8,Kq⟩:=q4 V (.v (.bool true)) (.bool true) (fun _=>False) { ah m.rows i with aB:=true } rfl (aO.refl _ _) ⟨rfl,fun _ h=>h⟩ (fun b hb=>hb.elim)
   have HX7:=aj EY;have HF1:=aj f1;have HF2:=aj f2;have uJ:=aj f4;have lG:=aj M8;have VK:=aj Kq;generalize wE.heap.size=bb at *;clear M6 M7 M8 Kq Ef EY q4 f1 f2 f4 hBc;go_upto_region 4 with fail
   generalize V.setCell ⟨g,off+i*8+5,none⟩ (.bool true)=V1 at *;clear q1 q2;generalize hr1:({ ah m.rows i with aB:=true }:Rw)=r1 at *
   have hs1:ah (m.rows.set i r1) i=r1:=dM hil;have qJ:i<(m.rows.set i r1).length:=by rw[List.length_set];exact hil
   have ay0:F<(m.rows.set i r1).length:=by rw[List.length_set];exact pJ
   have Qq:ah (m.rows.set i r1) F=ah m.rows F:=by rw[bZ hil,if_neg yO]
   obtain⟨_,_,q1,q2,⟨rfl,_⟩,_,q4⟩:=lG.out.YQ qJ ay0 yO (by simp only[Qq];exact hrF.fit) (A':=AF) (by simp only[Qq];exact VK.out) (j:=6) (cl:=.v (.int .i64 r1.aC)) (by simp only[hs1];rfl)
   obtain⟨_,_,M9,VN⟩:=q4 V1 (.v (.int .i64 (F:Int))) (.int .i64 (F:Int)) (fun _=>False) { r1 with aC:=(F:Int) } (by simp only[hs1];rfl) (aO.refl _ _) ⟨rfl,fun _ h=>h⟩ (fun b hb=>hb.elim)
   simp only[Qq,List.set_set] at M9 VN;have gu:=aj M9;have ay1:=aj VN;have HR1:=aj hr1;clear M9 VN q4 hs1 Qq hr1;go_upto_region 5 with fail
   generalize V1.setCell ⟨g,off+i*8+6,none⟩ (.int .i64 (F:Int))=V2 at *;clear q1 q2;generalize hr2:({ r1 with aC:=(F:Int) }:Rw)=r2 at *
   have hs2:ah (m.rows.set i r2) i=r2:=dM hil;have nC:i<(m.rows.set i r2).length:=by rw[List.length_set];exact hil
   have xO:=gu.out.bx HX7.out (fun k=>by have:=HF1.out _ k;omega) (by have:=HF2.out;omega)
   have x7:=xO.at 7 rfl;have x7':=(xO.alloc (.cells #[] 2)).at 7 rfl;simp only[List.getElem_toArray,List.getElem_cons_succ,List.getElem_cons_zero] at x7 x7';have hml:=hrF.ml;have hA:=rY (c:=AF.mc) ay1.out.2.aA (by omega)
   obtain⟨u,f,hu,hfz,how,sZ,hset⟩:=gu.out.at nC (j:=7) (cl:=bQ r2.aA) (by simp only[hs2];rfl)
   have HS:Hid (∀ (X1:World) (u':Value) (f':Fp),Below V2.heap.size V2 X1→aI.ow X1 (bQ (ah m.rows F).aA) u' f'→(∀ b,f' b→V2.heap.size≤b)→X1.cell? ⟨g,off+i*8+7,none⟩=some u∧X1.frozen? ⟨g,off+i*8+7,none⟩=false∧Mw V (X1.setCell ⟨g,off+i*8+7,none⟩ u') B o { m with rows:=m.rows.set i { r2 with aA:=(ah m.rows F).aA } } gy g off c):=fun X1 u' f' h1 h2 h3=>by
    have:=hset X1 (bQ (ah m.rows F).aA) u' f' { r2 with aA:=(ah m.rows F).aA } (by simp only[hs2];rfl) (aO.of_below h1) h2 (fun b hb=>.inr (h3 b hb))
    simp only[List.set_set] at this;exact⟨this.1,this.2.1,this.2.2.1⟩
   have HFin:Hid (({ r2 with aA:=(ah m.rows F).aA }:Rw)=adopt m.rows i (ah m.rows i) F):=by rw[Hid,HE.out,← hr2,← HR1.out]
   clear hset how sZ hu hfz hs2 xO hr2;go_wp2_with (at_builtin;refine aZ (by rfl) _ _ _ _ (by rfl) _ _ (by rfl) (by rfl) hA ⟨rfl,rfl,rfl,rfl⟩ ?_;rintro v1 w1 ⟨a1,e1,f1,rfl,q1,q2,q3⟩;obtain⟨z1,z2,M10⟩:=HS.out w1 _ f1 q3 q1 q2;have rZ:Hid (Mw V (w1.setCell ⟨g,off+i*8+7,none⟩ (.slice a1 (ah m.rows F).aA.length e1)) B o { m with rows:=m.rows.set i { r2 with aA:=(ah m.rows F).aA } } gy g off c):=M10;clear M10 q1 q2 q3 hA HS)
   go_end0;rw[← HFin.out];exact⟨rfl,(uJ.out _ _ rZ.out).mk' HC2.out (jD _)⟩
section
open Go.RowKit
theorem EZ (a a':Option Addr) (len cap len' cap':Nat) (xs ys:List Int) (w:World) (hv:Vec w a len xs) (hv':Vec w a' len' ys) (hm:len≤maxLen) :
  Calls Tryz.prog 153 #[.slice a len cap,.slice a' len' cap'] w fun e w'=>e=.returned (.bool (decide (xs=ys)))∧∃ n,w'=w.drewN n:=by
 unfold maxLen at hm;obtain⟨hlen,_,hcs⟩:=hv;obtain⟨hlen',_,hcs'⟩:=hv';by_cases hl:len=len'
 ·have hne:((len:Int) != (len':Int))=false:=by simp[hl]
  have HL:=aj hlen;have yE:=aj hlen';have ru:=aj hl;have hle:(len:Int)≤(len':Int):=by omega
  clear hlen hlen' hl;by_cases h0:len=0
  ·have hx:xs=[]:=List.length_eq_zero_iff.1 (by rw[HL.out];exact h0)
   have hy:ys=[]:=List.length_eq_zero_iff.1 (by rw[yE.out,← ru.out];exact h0)
   subst h0 hx hy;clear hcs hcs';go_enter Tryz.func153,Tryz.ntmps153
   go_wp2
   go_loop [5] (fun i=>i=.int .i64 0) (fun _=>0)
   case atStart=>rfl
   case round =>
    subst hrel;go_wp2;go_ret
    exact⟨rfl,0,rfl⟩
  ·rcases hcs with h|⟨b,off,rfl,hc⟩
   ·omega
   rcases hcs' with h|⟨b',off',rfl,hc'⟩
   ·have:=ru.out;omega
   go_enter Tryz.func153,Tryz.ntmps153
   go_wp2
   go_loopw [5] (fun i wr=>∃ k:Nat,k≤len∧i=.int .i64 k∧(∀ j,j<k→el xs j=el ys j)∧∃ n,wr=w.drewN n) (fun i _=>len-(intOf i).toNat)
   case atStart=>exact⟨0,Nat.zero_le _,rfl,fun j hj=>by omega,0,rfl⟩
   case round =>
    obtain⟨k,hk,rfl,hall,n,rfl⟩:=hrel;have HA:=aj hall;clear hall;by_cases hlt:k<len
    ·have hck:=hc k hlt
     have U2:=hc' k (by have:=ru.out;omega)
     have hi1:(k:Int)<(len:Int):=by omega
     have hi2:(k:Int)<(len':Int):=by omega
     by_cases he:el xs k=el ys k
     ·have hd:(el xs k != el ys k)=false:=by simp[he]
      have HX:=aj he;clear he;go_wp2_with fail
      go_quiet (fail)
      go_wp2;go_roundw
      case rel => exact ⟨k + 1,by omega,by go_num,fun j hj => by
       rcases Nat.lt_succ_iff_lt_or_eq.1 hj with h|h
       ·exact HA.out j h
       ·rw[h];exact HX.out,_,rfl⟩
      case measure=>simp[intOf];omega
     ·have hd:(el xs k != el ys k)=true:=by simp[he]
      go_wp2_with fail
      go_quiet (fail)
      go_wp2;go_ret
      exact⟨aH (by symm;rw[decide_eq_false_iff_not];intro h;exact he (by rw[h])),_,World.drewN_drewN _ _ _⟩
    ·go_wp2
     go_ret
     exact⟨aH (by symm;rw[decide_eq_true_iff];exact Aq (by rw[HL.out,yE.out,ru.out]) (fun j hj=>HA.out j (by rw[HL.out] at hj;omega))),_,rfl⟩
 ·have hne:((len:Int) != (len':Int))=true:=by simp;omega
  go_enter Tryz.func153,Tryz.ntmps153
  go_wp2;go_ret
  exact⟨aH (by symm;rw[decide_eq_false_iff_not];intro h;rw[h] at hlen;omega),0,rfl⟩
theorem tV (a a':Option Addr) (len cap len' cap':Nat) (xs ys:List Int) (w:World) (hv:Vec w a len xs) (hv':Vec w a' len' ys) (hm:len≤maxLen) :
  Calls Tryz.prog 176 #[.slice a len cap,.slice a' len' cap'] w fun e w'=>e=.returned (.bool (decide (xs=ys)))∧∃ n,w'=w.drewN n:=by
 unfold maxLen at hm;obtain⟨hlen,_,hcs⟩:=hv;obtain⟨hlen',_,hcs'⟩:=hv';by_cases hl:len=len'
 ·have hne:((len:Int) != (len':Int))=false:=by simp[hl]
  have HL:=aj hlen;have yE:=aj hlen';have ru:=aj hl;have hle:(len:Int)≤(len':Int):=by omega
  clear hlen hlen' hl;by_cases h0:len=0
  ·have hx:xs=[]:=List.length_eq_zero_iff.1 (by rw[HL.out];exact h0)
   have hy:ys=[]:=List.length_eq_zero_iff.1 (by rw[yE.out,← ru.out];exact h0)
   subst h0 hx hy;clear hcs hcs';go_enter Tryz.func176,Tryz.ntmps176
   go_wp2
   go_loop [13] (fun i=>i=.int .i64 0) (fun _=>0)
   case atStart=>rfl
   case round =>
    subst hrel;go_wp2;go_ret
    exact⟨rfl,0,rfl⟩
  ·rcases hcs with h|⟨b,off,rfl,hc⟩
   ·omega
   rcases hcs' with h|⟨b',off',rfl,hc'⟩
   ·have:=ru.out;omega
   go_enter Tryz.func176,Tryz.ntmps176
   go_wp2
   go_loopw [13] (fun i wr=>∃ k:Nat,k≤len∧i=.int .i64 k∧(∀ j,j<k→el xs j=el ys j)∧∃ n,wr=w.drewN n) (fun i _=>len-(intOf i).toNat)
   case atStart=>exact⟨0,Nat.zero_le _,rfl,fun j hj=>by omega,0,rfl⟩
   case round =>
    obtain⟨k,hk,rfl,hall,n,rfl⟩:=hrel;have HA:=aj hall;clear hall;by_cases hlt:k<len
    ·have hck:=hc k hlt
     have U2:=hc' k (by have:=ru.out;omega)
     have hi1:(k:Int)<(len:Int):=by omega
     have hi2:(k:Int)<(len':Int):=by omega
     by_cases he:el xs k=el ys k
     ·have hd:(el xs k != el ys k)=false:=by simp[he]
      have HX:=aj he;clear he;go_wp2_with fail
      go_quiet (fail)
      go_wp2;go_roundw
      case rel => exact ⟨k + 1,by omega,by go_num,fun j hj => by
       rcases Nat.lt_succ_iff_lt_or_eq.1 hj with h|h
       ·exact HA.out j h
       ·rw[h];exact HX.out,_,rfl⟩
      case measure=>simp[intOf];omega
     ·have hd:(el xs k != el ys k)=true:=by simp[he]
      go_wp2_with fail
      go_quiet (fail)
      go_wp2;go_ret
      exact⟨aH (by symm;rw[decide_eq_false_iff_not];intro h;exact he (by rw[h])),_,World.drewN_drewN _ _ _⟩
    ·go_wp2
     go_ret
     exact⟨aH (by symm;rw[decide_eq_true_iff];exact Aq (by rw[HL.out,yE.out,ru.out]) (fun j hj=>HA.out j (by rw[HL.out] at hj;omega))),_,rfl⟩
 ·have hne:((len:Int) != (len':Int))=true:=by simp;omega
  go_enter Tryz.func176,Tryz.ntmps176
  go_wp2;go_ret
  exact⟨aH (by symm;rw[decide_eq_false_iff_not];intro h;rw[h] at hlen;omega),0,rfl⟩
end
theorem VO (A B:Ra) (r s:Rw) (w:World) (hv:nJ w A r) (hu:nJ w B s) :
  Calls Tryz.prog 122 #[bV A r,bV B s] w fun e w'=>e=.returned (.bool (jI r s))∧Below w.heap.size w w':=by
 have hB0:Below w.heap.size w ((w.alloc (.cells (bD A r) 44)).alloc (.cells (bD B s) 44)):=(aF w _).trans ((aF _ _).mono (aF w _).size);have hx:Bx ((w.alloc (.cells (bD A r) 44)).alloc (.cells (bD B s) 44)) w.heap.size 44 (bD A r):=(Bx.new w _ _).alloc _
 have hy:Bx ((w.alloc (.cells (bD A r) 44)).alloc (.cells (bD B s) 44)) (w.heap.size+1) 44 (bD B s):=by
  have:=Bx.new (w.alloc (.cells (bD A r) 44)) 44 (bD B s);simpa using this
 have KE:∀ X,Below w.heap.size w X→∀ (x y:Option Addr) (c d:Nat) (l k:List Int),Vec w x l.length l→Vec w y k.length k→l.length≤maxLen→Calls Tryz.prog 153 #[.slice x l.length c,.slice y k.length d] X fun e w'=>e=.returned (.bool (decide (l=k)))∧Below X.heap.size X w':=fun X h x y c d l k h1 h2 h3=>(EZ x y l.length c k.length d l k X (h1.below h (Nat.le_refl _)) (h2.below h (Nat.le_refl _)) h3).mono (fun e w' ⟨h4,n,h5⟩=>⟨h4,by rw[h5];exact bg (Below.refl _ _)⟩)
 obtain⟨ver,txt,got,ak,wed,aB,aC,aA⟩:=r;obtain⟨an2,txt',got',Kw,Ky,Kz,by',KA⟩:=s
 obtain⟨ta,tc,ga,gc,sa,sc,ma,mc⟩:=A;obtain⟨ub,uc,vb,vc,xb,xc,yb,yc⟩:=B;unfold bV;unfold bD at *;simp only at *
 generalize xG:(w.alloc (.cells #[.int .i64 ver,.slice ta txt.length tc,.slice ga got.length gc,.slice sa ak.length sc,.bool wed,.bool aB,.int .i64 aC,.slice ma aA.length mc] 44)).alloc (.cells #[.int .i64 an2,.slice ub txt'.length uc,.slice vb got'.length vc,.slice xb Kw.length xc,.bool Ky,.bool Kz,.int .i64 by',.slice yb KA.length yc] 44)=W at *
 have HX:=aj hx;have HY:=aj hy;have HB:=aj hB0;have hG:=fun X h=>KE X h ga vb gc vc got got' hv.got hu.got hv.mg
 have hS:=fun X h=>KE X h sa xb sc xc ak Kw hv.ak hu.ak hv.ms
 have hM:=fun X h=>KE X h ma yb mc yc aA KA hv.aA hu.aA hv.mm
 have HZ:Hid (jI ⟨ver,txt,got,ak,wed,aB,aC,aA⟩ ⟨an2,txt',got',Kw,Ky,Kz,by',KA⟩=((wed==Ky)&&((aB==Kz)&&((aC==by')&&(decide (got=got')&&(decide (ak=Kw)&&decide (aA=KA))))))):=by
  rw[Hid,jI];simp only
  by_cases h1:wed=Ky<;>by_cases h2:aB=Kz<;>by_cases h3:aC=by'<;>simp[h1,h2,h3]
 obtain⟨⟨c0,c1,c2,c3⟩,c4,c5,c6,c7⟩:=Bx.r8 hx;obtain⟨⟨d0,d1,d2,d3⟩,d4,d5,d6,d7⟩:=Bx.r8 hy;clear hx hy KE hB0 hv hu
 cases e1:(wed==Ky) with
 | false =>
  rw[e1] at HZ;go_enter Tryz.func122,Tryz.ntmps122
  go_wp2;go_ret
  exact⟨aH (by rw[HZ.out];rfl),HB.out⟩
 | true =>
 cases e2:(aB==Kz) with
 | false =>
  rw[e1,e2] at HZ;go_enter Tryz.func122,Tryz.ntmps122
  go_wp2;go_ret
  exact⟨aH (by rw[HZ.out];rfl),HB.out⟩
 | true =>
 cases e3:(aC==by') with
 | false =>
  rw[e1,e2,e3] at HZ;go_enter Tryz.func122,Tryz.ntmps122
  go_wp2;go_ret
  exact⟨aH (by rw[HZ.out];rfl),HB.out⟩
 | true =>
 rw[e1,e2,e3] at HZ;go_enter Tryz.func122,Tryz.ntmps122
 go_wp2_with fail
 refine (hG _ HB.out).mono ?_;rintro e w1 ⟨rfl,hb1⟩;have HB1:=aj (HB.out.trans (hb1.mono HB.out.size));have hx1:=HX.out.below hb1;have hy1:=HY.out.below hb1;have sJ:=aj hx1;have Dv:=aj hy1;clear c0 c1 c2 c3 c4 c5 c6 c7 d0 d1 d2 d3 d4 d5 d6 d7 hG HX HY;obtain⟨⟨c0,c1,c2,c3⟩,c4,c5,c6,c7⟩:=Bx.r8 hx1;obtain⟨⟨d0,d1,d2,d3⟩,d4,d5,d6,d7⟩:=Bx.r8 hy1;clear hx1 hy1 hb1;generalize decide (got=got')=t1 at *
 cases t1 with
 | false =>
  go_wp2;go_ret
  exact⟨aH (by rw[HZ.out];rfl),HB1.out⟩
 | true =>
 go_wp2_with fail
 refine (hS _ HB1.out).mono ?_;rintro e w2 ⟨rfl,hb2⟩;have HB2:=aj (HB1.out.trans (hb2.mono HB1.out.size));clear c0 c1 c2 c3 c4 c5 c6 c7 d0 d1 d2 d3 d4 d5 d6 d7 hS;obtain⟨⟨c0,c1,c2,c3⟩,c4,c5,c6,c7⟩:=Bx.r8 (sJ.out.below hb2);obtain⟨⟨d0,d1,d2,d3⟩,d4,d5,d6,d7⟩:=Bx.r8 (Dv.out.below hb2);clear hb2;generalize decide (ak=Kw)=t2 at *
 cases t2 with
 | false =>
  go_wp2;go_ret
  exact⟨aH (by rw[HZ.out];rfl),HB2.out⟩
 | true =>
 go_wp2_with fail
 refine (hM _ HB2.out).mono ?_;rintro e w3 ⟨rfl,hb3⟩;have HB3:=aj (HB2.out.trans (hb3.mono HB2.out.size));clear c0 c1 c2 c3 c4 c5 c6 c7 d0 d1 d2 d3 d4 d5 d6 d7 hM hb3;generalize decide (aA=KA)=t3 at *
 cases t3 with
 | false =>
  go_wp2;go_ret
  exact⟨aH (by rw[HZ.out];rfl),HB3.out⟩
 | true =>
  go_wp2;go_ret
  exact⟨aH (by rw[HZ.out];rfl),HB3.out⟩
def NeB (a:Option Addr) (xs:List Int) (g:Nat):Prop:=xs=[]∨∀ x,a=some x→x.block≠g
structure oQ (w:World) (a:Option Addr) (xs:List Int) (g:Nat):Prop where
 vec:Vec w a xs.length xs
 ne:NeB a xs g
theorem oQ.below {w w':World} {a:Option Addr} {xs:List Int} {g:Nat} (h:oQ w a xs g) (hb:Below w.heap.size w w'):oQ w' a xs g:=⟨h.vec.below hb (Nat.le_refl _),h.ne⟩
theorem oQ.set {w:World} {a:Option Addr} {xs:List Int} {g:Nat} (h:oQ w a xs g) (j:Nat) (v:Value):oQ (w.setCell ⟨g,j,none⟩ v) a xs g:=by
 refine⟨⟨h.vec.1,h.vec.2.1, ?_⟩,h.ne⟩;rcases h.vec.2.2 with h0|⟨b,off,ha,hc⟩
 ·exact .inl h0
 ·rcases h.ne with h1|h1
  ·exact .inl (by rw[h1];rfl)
  ·refine .inr ⟨b,off,ha,fun i hi=>?_⟩
   have:b≠g:=h1 _ ha;rw[World.cell?_setCell_other _ _ _ _ (by simp only[ne_eq,Addr.mk.injEq,not_and];intro e;exact absurd e.symm this)]
   exact hc i hi
theorem Qr {w:World} {a:Option Addr} {c:Nat} {xs:List Int} {f:Fp} {g:Nat} (h:aI.ow w (bQ xs) (.slice a xs.length c) f) (hg:¬ f g):NeB a xs g:=by
 obtain⟨a',c',G,e,ho,hf⟩:=fB.1 h
 cases e
 rcases ho.oi with ⟨h1,_⟩|⟨b,off,rfl,_,rfl⟩
 ·exact .inl h1
 ·refine .inr (fun x hx e=>?_)
  cases hx
  exact hg ((hf g).2 (by rw[← e]))
theorem Mw.KC {w X:World} {B o:Nat} {m:Mb} {fp:Fp} {g off c:Nat} (h:Mw w X B o m fp g off c) (hf:kH m) {k:Nat} (hk:k<m.rows.length):∃ Ak:Ra,RV X g (off+k*8) Ak (ah m.rows k)∧oQ X Ak.ga (ah m.rows k).got g∧oQ X Ak.ma (ah m.rows k).aA g:=by
 obtain⟨dD,hp,hf1,hgo⟩:=h.bU.next;obtain⟨g',off',c',f,h1,hgB,hfg,hfs,⟨vs,hpc,hov,uZ⟩,hput⟩:=hp.el (F:=eY) gI (by omega) (j:=2) (L:=m.rows) rfl (dW hk)
 have e:=Option.some.inj (h1.symm.trans h.rws)
 cases e
 have hfr:=hf.1 _ (List.mem_of_getElem? (dW hk));obtain⟨A,rfl,hl⟩:=rU hov;have Hu:=Bv.rv ⟨hpc,hov,uZ⟩ rfl hfr;obtain⟨u1,rD,f1,g1,e1,o1,h2,d1,i1⟩:=hl
 cases e1
 obtain⟨u2,uy,f2,g2,e2,o2,h3,d2,i2⟩:=h2
 cases e2
 obtain⟨u3,Dj,f3,g3,e3,o3,h4,d3,i3⟩:=h3
 cases e3
 obtain⟨u4,Ju,f4,g4,e4,o4,h5,d4,i4⟩:=h4
 cases e4
 refine⟨A,Hu,⟨Hu.2.got,Qr o2 (fun k=>uZ ((i1 g).2 (.inr ((i2 g).2 (.inl k)))))⟩,Hu.2.aA,Qr o4 (fun k=>uZ ((i1 g).2 (.inr ((i2 g).2 (.inr ((i3 g).2 (.inr ((i4 g).2 (.inl k)))))))))⟩
theorem Nl {R:List Rw} {o:Rw} {L:List Nat} {k:Nat} (hk:k<L.length):iH R o (L.take (k+1))=(iH R o (L.take k)&&((ah R (L.getD k 0)).wed&&o.ak.all (fun x=>decide (x∈(ah R (L.getD k 0)).ak)))):=by
 have e:L.getD k 0=L[k]:=by simp[List.getD,hk]
 unfold iH;rw[List.take_succ_eq_append_getElem hk,List.all_append,e];simp
theorem SI {R:List Rw} {o:Rw} {L:List Nat} {k:Nat} (hk:k<L.length) (h:((ah R (L.getD k 0)).wed&&o.ak.all (fun x=>decide (x∈(ah R (L.getD k 0)).ak)))=false):iH R o L=false:=by
 rw[iH,List.all_eq_false];exact⟨L.getD k 0,jq hk,by simp only[h];decide⟩
theorem SK {R:List Rw} {L:List Nat} {a:Int×List Int} {k:Nat} (hk:k<L.length):best R (L.take (k+1)) a=if (ah R (L.getD k 0)).aB=true∧(best R (L.take k) a).1<(ah R (L.getD k 0)).aC then ((ah R (L.getD k 0)).aC,(ah R (L.getD k 0)).aA) else best R (L.take k) a:=by
 have e:L.getD k 0=L[k]:=by simp[List.getD,hk]
 unfold best;rw[List.take_succ_eq_append_getElem hk,List.foldl_append,e]
 rfl
def tX (R:List Rw) (L:List Nat) (k:Nat):List Int:=meets R (L.take k)
theorem SL {R:List Rw} {L:List Nat} (hk:0<L.length):tX R L 1=(ah R (L.getD 0 0)).got:=by
 cases L with
 | nil=>simp at hk
 | cons x t=>rfl
theorem Qs {R:List Rw} {L:List Nat} {k:Nat} (h0:0<k) (hk:k<L.length):tX R L (k+1)=dU min (tX R L k) (ah R (L.getD k 0)).got:=by
 have e:L.getD k 0=L[k]:=by simp[List.getD,hk]
 cases L with
 | nil=>simp at hk
 | cons x t =>
  obtain⟨q,rfl⟩:∃ q,k=q+1:=⟨k-1,by omega⟩
  unfold tX;rw[List.take_succ_cons,List.take_succ_cons,e];have hq:q<t.length:=by simpa using hk
  rw[List.take_succ_eq_append_getElem hq];simp only[meets,List.foldl_append,List.foldl_cons,List.foldl_nil,List.getElem_cons_succ]
theorem KD {R:List Rw} {n:Nat}:∀ {t:List Nat} {acc:List Int},(acc.length≤8∨acc.length≤n)→(t.foldl (fun acc j=>dU min acc (ah R j).got) acc).length≤8∨(t.foldl (fun acc j=>dU min acc (ah R j).got) acc).length≤n
 | [],acc,h=>h
 | x::t,acc,h=>KD (t:=t) (.inl (Q7 _ _ _))
theorem SN {R:List Rw} {n x:Nat} {t:List Nat} (h:∀ j∈x::t,(ah R j).got.length=n):(meets R (x::t)).length≤8∨(meets R (x::t)).length≤n:=KD (.inr (by rw[h x List.mem_cons_self];exact Nat.le_refl _))
theorem SQ {R:List Rw} {L:List Nat}:tX R L L.length=meets R L:=by rw[tX,List.take_length]
end Go.Proofs.YtafimeakbdmkjaaGreat