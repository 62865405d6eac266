/-
  Texts in one.
-/
import Derived.Test.YtafimeakbdmkjaaGreatXai
import Derived.Test.YtafimeakbdmkjaaGreatXaa
import Derived.Deep.LoopGhost
namespace Go.Proofs.YtafimeakbdmkjaaGreat
open Bool renaming false->aC,true->aB
open Go renaming Addr->dH,Calls->dF,Value->aJ,World->aI,bodyPost_ret->bY,maxLen->dD,wpQuiet_nil->dh
open Go.Builtin renaming append_->bU
open Go.Ending renaming returned->aK
open Go.IntKind renaming i64->aA
open Go.Obj renaming cells->aH
open Go.Proofs.Tryz renaming prog->dA,underlying41->bG
open Go.RowKit renaming Hid->aG,intOf->dG
open Go.RowKit.Below renaming refl->dw
open Go.Value renaming bool->aF,int->ah,pointer->aO,slice->aj
open List renaming all_eq_true->bJ,length_append->bD,length_set->bQ,mem_cons_self->bF,take_of_length_le->aY,take_succ_eq_append_getElem->aQ
open Nat renaming le_refl->cO,lt_succ_iff_lt_or_eq->aW,zero_le->cZ
open Option renaming none->ak,some->au
open Option.some renaming inj->bT
set_option linter.unusedVariables false
set_option linter.unusedSimpArgs false
open Go.RowKit Go.Sort
set_option maxRecDepth 100000
set_option maxHeartbeats 12800000
variable {c k n q:Nat} {f:Fp} {L:List Nat} {R:List Rw} {X:aI} {o:Rw}
theorem RV.below {X Y:aI} {g q:Nat} {A:Ra} {r:Rw} (h:RV X g q A r) (hb:Below X.heap.size X Y):RV Y g q A r:=by
 obtain⟨⟨⟨c0,c1,c2,c3⟩,c4,c5,c6,c7⟩,hr⟩:=h;have t:∀ {x v},X.cell? x=au v->Y.cell? x=au v:=fun h=>gy hb h
 exact⟨⟨⟨t c0,t c1,t c2,t c3⟩,t c4,t c5,t c6,t c7⟩,hr.below hb⟩
theorem lW {w: aI} {a: Option dH} {Z: List Int} (h:dY.ow w (gJ Z) (aj a Z.length c) f) (hf:Fits Z):Vec w a Z.length Z:=by
 obtain⟨a',c',e,hv,_⟩:=l7 (dY.wF h) hf
 cases e
 exact hv
theorem wo (h:∀ k∈L,k<n) (hn:n<=1000000):Fits (lN L):=fun x hx=>by
 obtain⟨k,hk,rfl⟩:=List.mem_map.1 hx;have:=h k hk;omega
theorem lX (h:k<L.length):L.getD k 0∈L:=by
 simp[List.getD,h]
theorem Wj (B o:Nat) (m:Mb) (i n:Nat) (fp:Fp) (w:aI) (h:iP w B o (jY m) fp) (ok:iO m i n) :
  dF dA 116 #[aO (au ⟨B,o,ak⟩)] w fun e w'=>e=aK (.tuple #[])/\Mk w w' B o { m with rows:=m.rows.set i (learn m.rows i (dO m.rows i) (fA n (dO m.rows i).dQ)) } fp:=by
 have gq:=iD;have hil:i<m.rows.length:=by rw[ok.len];exact ok.lt
 obtain⟨g,off,c,M0⟩:=Mw.start h (by omega)
 have HC2:=dP M0.rws;have UA:=h.flt;have hBlt:=h.lt;obtain⟨c0,c1,c4⟩:=M0.id';have c2:=M0.rws;rw[ok.hid] at c0;have i0:(0:Int)<=i:=by omega
 have i1:(i:Int)<m.rows.length:=by omega
 have p0:∀ q:Bk w,q.w.cell? ⟨B,o,ak⟩=_:=fun q=>gy q.h c0
 have p2:∀ q:Bk w,q.w.cell? ⟨B,o+2,ak⟩=_:=fun q=>gy q.h c2
 have kQ:=dP M0;have HPl:=dP h;have hr:=ok.ok i ok.lt;have jq:=hr.n5;clear c0 c1 c4 c2 M0 h;go_enter Tryz.func116,Tryz.ntmps116
 go_wp2_with fail
 refine jg ?_;repeat (go_big_quiet_step ((first|rfl)))
 refine dh (iL fun wE eG=>?_)
 clear p0 p2;have fU:=dP (kQ.out.step eG);have hbs:=eG.size;have pU:=dP eG;clear eG;go_wp2_with fail
 refine (Lm w B o m i n fp g off c wE fU.out ok).mono ?_;rintro e wl ⟨la,lc,rfl,fl,hl1,hl2,hl3⟩;have hlt3:=dY.kW hl1;have hbl:=eU pU.out hl3;have wR:aG (Mw wl wl B o m fp g off c):=⟨fH.refl (HPl.out.below hbl),(fU.out.step hl3).rws⟩;have Wp:aG (∀ (Y:aI) (m':Mb),Mw wl Y B o m' fp g off c->m'.rows.length=m.rows.length->Mk w Y B o m' fp):=fun Y m' hY hl=>⟨hY.iw.first hbl hBlt UA,by rw[hY.rws,HC2.out,hl]⟩
 have yX:=dP hl1;have DV:aG (∀ b,fl b->¬ fp b/\b≠B):=fun b hb=>⟨fun k=>by have:=UA b k;have:=hl2 b hb;omega,fun k=>by have:=hl2 b hb;omega⟩
 have HLn:aG (∀ k∈fA n (dO m.rows i).dQ,k<n):=fun k hk=>(jh.1 hk).1
 have wz:aG ((fA n (dO m.rows i).dQ).length<=n):=tK _ _;generalize Gf:fA n (dO m.rows i).dQ=L at *;have HLe:aG (fA n (dO m.rows i).dQ=L):=Gf;clear Gf;rw[jl] at yX ⊢;clear hl1 hl2 hl3 hlt3 hbl pU kQ fU hbs;go_wp2_with fail
 go_loopw [4] (fun v wr=>∃ (k:Nat) (ow:Rw),k<=L.length/\v=ah aA (k:Int)/\aG (ow=learn m.rows i (dO m.rows i) (L.take k))/\Mw wl wr B o { m with rows:=m.rows.set i ow } fp g off c) (fun v _=>L.length-(dG v).toNat)
 case atStart =>
  refine⟨0,dO m.rows i,cZ _,rfl,rfl, ?_⟩
  have e:({ m with rows:=m.rows.set i (dO m.rows i) }:Mb)=m:=by
   have:=oP (iV hil);rw[this]
  rw[e];exact wR.out
 case round =>
  obtain⟨k,ow,hk,rfl,qR,M⟩:=hrel;have Jd:=wz.out;by_cases hlt:k<L.length
  ·have BJ:iR ow n:=by rw[qR.out];exact ER ok.ok hr (fun x hx=>HLn.out x (List.mem_of_mem_take hx))
   have hfm:nG { m with rows:=m.rows.set i ow }:=OD ok BJ
   have qI:L.getD k 0<n:=HLn.out _ (lX hlt);have uG:L.getD k 0<({ m with rows:=m.rows.set i ow }:Mb).rows.length:=by rw[mO,ok.len];exact qI
   have RX:=M.RU yX.out DV.out;have rQ:=lW (by rw[jl];exact RX) (wo HLn.out (by omega))
   rcases rQ.2.2 with hz|⟨lb,lo,rfl,hlc⟩
   ·rw[jl] at hz;omega
   have hlk:=hlc k (by rw[jl];exact hlt)
   rw[wQ hlt] at hlk;have Lr:aG (learn m.rows i (dO m.rows i) (L.take (k+1))=lM i ow (L.getD k 0) (dO m.rows (L.getD k 0))):=by rw[aG,Jb hlt,<- qR.out]
   have HRk:aG (L.getD k 0≠i->dO (m.rows.set i ow) (L.getD k 0)=dO m.rows (L.getD k 0)):=fun hne=>by rw[gY hil,if_neg hne]
   generalize L.getD k 0=J at *;have k1:(k:Int)<L.length:=by omega
   have k0:(0:Int)<=k:=by omega
   have J0:(0:Int)<=J:=by omega
   have J1:(J:Int)<m.rows.length:=by rw[ok.len];omega
   obtain⟨AJ,OE,hRS⟩:=M.row hfm uG;simp only at OE hRS
   have HRV:aG (RV wr g (off+J*8) AJ (dO (m.rows.set i ow) J)):=⟨OE,hRS⟩;have HM:=dP M;have nK:=M.rws;rw[mO] at nK
   have KS:∀ X,Below wr.heap.size wr X->(X.cell? ⟨B,o+2,ak⟩=au (aj (au ⟨g,off,ak⟩) m.rows.length c)/\X.cell? ⟨lb,lo+k,ak⟩=au (ah aA (J:Int))/\X.cell? ⟨g,off+J*8,ak⟩=au (ah aA (dO (m.rows.set i ow) J).ver)/\X.cell? ⟨g,off+J*8+1,ak⟩=au (aj AJ.ta (dO (m.rows.set i ow) J).txt.length AJ.tc)/\X.cell? ⟨g,off+J*8+2,ak⟩=au (aj AJ.ga (dO (m.rows.set i ow) J).got.length AJ.gc)/\X.cell? ⟨g,off+J*8+3,ak⟩=au (aj AJ.sa (dO (m.rows.set i ow) J).dQ.length AJ.sc)/\X.cell? ⟨g,off+J*8+4,ak⟩=au (aF (dO (m.rows.set i ow) J).wed)/\X.cell? ⟨g,off+J*8+5,ak⟩=au (aF (dO (m.rows.set i ow) J).dV)/\X.cell? ⟨g,off+J*8+6,ak⟩=au (ah aA (dO (m.rows.set i ow) J).dW)/\X.cell? ⟨g,off+J*8+7,ak⟩=au (aj AJ.ma (dO (m.rows.set i ow) J).dU.length AJ.mc)):=fun X hX=>by
    obtain⟨⟨d0,d1,d2,d3⟩,d4,d5,d6,d7⟩:=OE;have t:∀ {x v},wr.cell? x=au v->X.cell? x=au v:=fun h=>gy hX h
    exact⟨t nK,t hlk,t d0,t d1,t d2,t d3,t d4,t d5,t d6,t d7⟩
   have hbd:=(Same.drewN wr 1).below;have HLk:=dP hlk;generalize hrr:dO (m.rows.set i ow) J=r at *;have hRR:=dP hrr
   have hokr:iR r n:=by
    rw[<- hrr,gY hil]
    split
    ·exact BJ
    ·exact ok.ok J qI
   clear hrr M OE hRS hlc RX rQ nK hlk;go_wp2_with fail
   refine lU (S:=fun X:aI=>X.cell? ⟨B,o+2,ak⟩=au (aj (au ⟨g,off,ak⟩) m.rows.length c)/\X.cell? ⟨lb,lo+k,ak⟩=au (ah aA (J:Int))/\X.cell? ⟨g,off+J*8,ak⟩=au (ah aA r.ver)/\X.cell? ⟨g,off+J*8+1,ak⟩=au (aj AJ.ta r.txt.length AJ.tc)/\X.cell? ⟨g,off+J*8+2,ak⟩=au (aj AJ.ga r.got.length AJ.gc)/\X.cell? ⟨g,off+J*8+3,ak⟩=au (aj AJ.sa r.dQ.length AJ.sc)/\X.cell? ⟨g,off+J*8+4,ak⟩=au (aF r.wed)/\X.cell? ⟨g,off+J*8+5,ak⟩=au (aF r.dV)/\X.cell? ⟨g,off+J*8+6,ak⟩=au (ah aA r.dW)/\X.cell? ⟨g,off+J*8+7,ak⟩=au (aj AJ.ma r.dU.length AJ.mc)) 11 gq ((KS _ hbd)) fun hHeld=>?_
   refine fC (i:=0) rfl hHeld ?_;refine fC (i:=1) rfl hHeld ?_;refine fC (i:=2) rfl hHeld ?_;refine fC (i:=3) rfl hHeld ?_;refine fC (i:=4) rfl hHeld ?_;refine fC (i:=5) rfl hHeld ?_;refine fC (i:=6) rfl hHeld ?_;refine fC (i:=7) rfl hHeld ?_;refine fC (i:=8) rfl hHeld ?_;refine fC (i:=9) rfl hHeld ?_;refine iJ (i:=10) rfl fun K hK=>?_
   go_simp;have hb2:Below wr.heap.size wr (wr.drew.alloc (aH #[ah aA 0,aj ak 0 0,aj ak 0 0,aj ak 0 0,aF aC,aF aC,ah aA 0,aj ak 0 0] 44)):=hbd.trans ((dX wr.drew _).mono hbd.size);refine hK.out _ _ (KS _ hb2) (fun eP=>?_)
   clear hK hHeld;have hHeld:=eP;try simp only[iC]
   refine oV rfl fun K hK=>?_
   go_simp;refine hK.out _ _ ?_;have hb5:Below wr.heap.size wr (wr.alloc (aH #[ah aA r.ver,aj AJ.ta r.txt.length AJ.tc,aj AJ.ga r.got.length AJ.gc,aj AJ.sa r.dQ.length AJ.sc,aF r.wed,aF r.dV,ah aA r.dW,aj AJ.ma r.dU.length AJ.mc] 44)).drew:=(dX wr _).trans ((Same.drewN _ 1).below.mono (dX wr _).size);have hx5:Bx (wr.alloc (aH #[ah aA r.ver,aj AJ.ta r.txt.length AJ.tc,aj AJ.ga r.got.length AJ.gc,aj AJ.sa r.dQ.length AJ.sc,aF r.wed,aF r.dV,ah aA r.dW,aj AJ.ma r.dU.length AJ.mc] 44)).drew wr.heap.size 44 #[ah aA r.ver,aj AJ.ta r.txt.length AJ.tc,aj AJ.ga r.got.length AJ.gc,aj AJ.sa r.dQ.length AJ.sc,aF r.wed,aF r.dV,ah aA r.dW,aj AJ.ma r.dU.length AJ.mc]:=Bx.new wr _ _;generalize (wr.alloc (aH #[ah aA r.ver,aj AJ.ta r.txt.length AJ.tc,aj AJ.ga r.got.length AJ.gc,aj AJ.sa r.dQ.length AJ.sc,aF r.wed,aF r.dV,ah aA r.dW,aj AJ.ma r.dU.length AJ.mc] 44)).drew=W5 at *;clear hHeld KS hbd hb2 hK;have Gg:aG (Bx W5 wr.heap.size 44 #[ah aA r.ver,aj AJ.ta r.txt.length AJ.tc,aj AJ.ga r.got.length AJ.gc,aj AJ.sa r.dQ.length AJ.sc,aF r.wed,aF r.dV,ah aA r.dW,aj AJ.ma r.dU.length AJ.mc]):=hx5;have oM:aG (Below wr.heap.size wr W5):=hb5;obtain⟨⟨x0,x1,x2,x3⟩,x4,x5,x6,x7⟩:=Bx.r8 hx5;have M5:=HM.out.step hb5;obtain⟨c0,c1,c4⟩:=M5.id';simp only at c0
   rw[ok.hid] at c0;have T:∀ {x v},W5.cell? x=au v->∀ q:Bk W5,q.w.cell? x=au v:=fun h q=>gy q.h h
   have p0:=T c0;have pl:=T (gy hb5 HLk.out);have yI:=T x3;have xk:=T x4;clear x0 x1 x2 x3 x4 x5 x6 x7 c0 c1 c4 M5 hx5 hb5 T;by_cases AZ:J=i
   ·have e1:((J:Int)==(i:Int))=aB:=by simp[AZ]
    have HT:aG (ow=learn m.rows i (dO m.rows i) (L.take (k+1))):=by rw[aG,Lr.out,lM,if_pos (.inl AZ)]
    clear AZ;go_wp2_with fail
    refine jg ?_;repeat (go_big_quiet_step ((first|rfl)))
    refine dh (iL fun wE eG=>?_)
    have oW:aG (Mw wl wE B o { m with rows:=m.rows.set i ow } fp g off c):=(HM.out.step oM.out).step eG
    clear p0 pl yI xk eG;go_wp2;go_roundw
    case rel=>exact⟨k+1,ow,by omega,by go_num,HT,oW.out⟩
    case measure=>simp[dG];omega
   have e1:((J:Int)==(i:Int))=aC:=by simp;omega
   have Je:=HRk.out AZ;by_cases hws:r.wed=aC/\r.dQ=[]
   ·have e2:r.wed=aC:=hws.1
    have e3:(((r.dQ.length:Nat):Int)==0)=aB:=by rw[hws.2];rfl
    have HT:aG (ow=learn m.rows i (dO m.rows i) (L.take (k+1))):=by rw[aG,Lr.out,lM,if_pos (.inr (by rw[<- Je];exact hws))]
    rw[e2] at xk;clear AZ hws e2 Je;go_wp2_with fail
    refine jg ?_;repeat (go_big_quiet_step ((first|rfl)))
    refine dh (iL fun wE eG=>?_)
    have oW:aG (Mw wl wE B o { m with rows:=m.rows.set i ow } fp g off c):=(HM.out.step oM.out).step eG
    clear p0 pl yI xk eG;go_wp2;go_roundw
    case rel=>exact⟨k+1,ow,by omega,by go_num,HT,oW.out⟩
    case measure=>simp[dG];omega
   have HT:aG ({ ow with wed:=aB,dQ:=kF i ow.dQ r.dQ }=learn m.rows i (dO m.rows i) (L.take (k+1))):=by rw[aG,Lr.out,lM,if_neg (by rw[<- Je];rintro (h|h);exact AZ h;exact hws h),<- Je]
   have e3:r.wed=aC->(((r.dQ.length:Nat):Int)==0)=aC:=fun hw=>by
    have:r.dQ≠[]:=fun h=>hws ⟨hw,h⟩
    have:r.dQ.length≠0:=fun h=>this (List.eq_nil_of_length_eq_zero h)
    simp
    omega
   have RY:=dP AZ;have Wq:=dP hRR.out;clear AZ Je hws
   have key:∀ wE,Below W5.heap.size W5 wE->∃ jw,(∀ b,jw b->b<wr.heap.size)/\B<wr.heap.size/\Mw wE wE B o { m with rows:=m.rows.set i ow } jw g off c/\Bx wE wr.heap.size 44 #[ah aA r.ver,aj AJ.ta r.txt.length AJ.tc,aj AJ.ga r.got.length AJ.gc,aj AJ.sa r.dQ.length AJ.sc,aF r.wed,aF r.dV,ah aA r.dW,aj AJ.ma r.dU.length AJ.mc]/\RV wE g (off+J*8) AJ r/\∀ (Y:aI) (m':Mb),Mw wE Y B o m' jw g off c->Mw wl Y B o m' fp g off c:=fun wE hbE=>by
    have hbb:=eU oM.out hbE;obtain⟨jw,f1,f2,_,f3,f4⟩:=HM.out.sub hbb;exact⟨jw,f1,f2,f3,Gg.out.below hbE,HRV.out.below hbb,f4⟩
   have aw1:=dP key;clear key Gg oM;generalize wr.heap.size=bb at *;go_upto_region 6 with fail
   go_cut [53] from 34 to 53 (fun v X=>v=aF aC/\Below W5.heap.size W5 X)
   case first =>
    rcases Bool.eq_false_or_eq_true r.wed with hwd|hwd
    ·rw[hwd] at xk
     clear hwd e3;refine jg ?_;repeat (go_big_quiet_step ((first|rfl)))
     refine dh (iL fun wE eG=>?_)
     try go_wp2_with fail
     go_meet
     case rel=>exact⟨rfl,eG⟩
    ·have e4:=e3 hwd
     rw[hwd] at xk;clear hwd e3;refine jg ?_;repeat (go_big_quiet_step ((first|rfl)))
     refine dh (iL fun wE eG=>?_)
     try go_wp2_with fail
     go_meet
     case rel=>exact⟨rfl,eG⟩
   case rest =>
    obtain⟨rfl,hBc⟩:=hcut;obtain⟨jw,f1,f2,M5,Ls,aw2,f4⟩:=aw1.out _ hBc;clear p0 pl yI xk e3 aw1 hBc;generalize wc=V at *;have aI1:i<({ m with rows:=m.rows.set i ow }:Mb).rows.length:=by rw[mO];exact hil
    have hself:dO (m.rows.set i ow) i=ow:=iY hil;have aN5:J<(m.rows.set i ow).length:=uG;obtain⟨u,f,q1,q2,⟨rfl,qf⟩,_,q4⟩:=M5.atO aI1 uG RY.out (by simp only[Wq.out];exact hokr.fit) (A':=AJ) (by simp only[Wq.out];exact aw2) (j:=4) (cl:=.v (aF ow.wed)) (by simp only[hself];rfl)
    obtain⟨_,_,M6,Ht⟩:=q4 V (.v (aF aB)) (aF aB) (fun _=>False) { ow with wed:=aB } (by simp only[hself];rfl) (eX.refl _ _) ⟨rfl,fun _ h=>h⟩ (fun b hb=>hb.elim)
    simp only[Wq.out,List.set_set] at M6 Ht;have jW:=dP M6;have aI2:=dP Ht;have HX6:=dP Ls;have HF1:=dP f1;have HF2:=dP f2;have yJ:=dP f4;clear M5 M6 Ht q4 qf f1 f2 f4 Ls aw2 hself;go_wp2_with fail
    generalize V.setCell ⟨g,off+i*8+4,ak⟩ (aF aB)=V6 at *;clear q1 q2;have hsl:=hokr.sl
    go_loopw [6] (fun v wi=>∃ (j:Nat) (s:List Int),j<=r.dQ.length/\v=ah aA (j:Int)/\aG (s=kF i ow.dQ (r.dQ.take j))/\Mw V wi B o { m with rows:=m.rows.set i { ow with wed:=aB,dQ:=s } } jw g off c/\RV wi g (off+J*8) AJ r) (fun v _=>r.dQ.length-(dG v).toNat)
    case atStart=>exact⟨0,ow.dQ,cZ _,rfl,rfl,jW.out,aI2.out⟩
    case round =>
     obtain⟨j,s,hj,rfl,hs,M,zS⟩:=hrel;have hXi:=M.bx HX6.out (fun k=>by have:=HF1.out _ k;omega) (by have:=HF2.out;omega)
     obtain⟨⟨x0,x1,x2,x3⟩,x4,x5,x6,x7⟩:=Bx.r8 hXi;by_cases hlt2:j<r.dQ.length
     ·have j1:(j:Int)<r.dQ.length:=by omega
      have j0:(0:Int)<=j:=by omega
      rcases zS.2.dQ.2.2 with h0|⟨sb,so,hsa,hsc⟩
      ·omega
      have hsx:=hsc j hlt2;have HTj:aG (kF i ow.dQ (r.dQ.take (j+1))=if el r.dQ j=(i:Int) then s else gV s (el r.dQ j)):=by rw[aG,F9 hlt2,<- hs.out]
      have hxr:=hokr.dQ (el r.dQ j) (kK hlt2);rw[hsa] at x3;clear hsa;have HM:=dP M;have aw3:=dP zS;obtain⟨c0,c1,c4⟩:=M.id';simp only at c0
      rw[ok.hid] at c0;have T:∀ {x v},wr.cell? x=au v->∀ q:Bk wr,q.w.cell? x=au v:=fun h q=>gy q.h h
      have p0:=T c0;have p3:=T x3;have px:=T hsx;generalize el r.dQ j=x at *;clear M zS hXi x0 x1 x2 x4 x5 x6 x7 c0 c1 c4 hsc hsx T;by_cases hxi:x=(i:Int)
      ·have e5:(x != (i:Int))=aC:=by simp[hxi]
       have HS2:aG (s=kF i ow.dQ (r.dQ.take (j+1))):=by rw[aG,HTj.out,if_pos hxi]
       clear hxi;go_wp2_with fail
       refine jg ?_;repeat (go_big_quiet_step ((first|rfl)))
       refine dh (iL fun wE eG=>?_)
       have oW:=dP (HM.out.step eG);have I9:=dP (aw3.out.below eG);clear p0 p3 px x3 eG;go_wp2;go_roundw
       case rel=>exact⟨j+1,s,by omega,by go_num,HS2,oW.out,I9.out⟩
       case measure=>simp[dG];omega
      ·have e5:(x != (i:Int))=aB:=by simpa using hxi
       have HS2:aG (gV s x=kF i ow.dQ (r.dQ.take (j+1))):=by rw[aG,HTj.out,if_neg hxi]
       clear hxi;go_wp2_with fail
       refine jg ?_;repeat (go_big_quiet_step ((first|rfl)))
       refine dh (iL fun wE eG=>?_)
       have M7:=HM.out.step eG;have aw4:=aw3.out.below eG;have x37:=p3 ⟨wE,eG⟩;have hx7:=px ⟨wE,eG⟩;simp only at x37 hx7
       clear p0 p3 px x3 eG;have UC:i<({ m with rows:=m.rows.set i { ow with wed:=aB,dQ:=s } }:Mb).rows.length:=by rw[mO];exact hil
       have aI3:J<({ m with rows:=m.rows.set i { ow with wed:=aB,dQ:=s } }:Mb).rows.length:=by rw[mO,ok.len];exact qI
       have Nc:dO (m.rows.set i { ow with wed:=aB,dQ:=s }) J=r:=by rw[<- Wq.out,gY hil,gY hil,if_neg RY.out,if_neg RY.out]
       have OG:dO (m.rows.set i { ow with wed:=aB,dQ:=s }) i={ ow with wed:=aB,dQ:=s }:=iY hil
       have Zu:iR { ow with wed:=aB,dQ:=s } n:=by rw[hs.out];exact Jc BJ hokr j
       obtain⟨u,f,hu,hfz,how,xJ,hset⟩:=M7.atO UC aI3 RY.out (by simp only[Nc];exact hokr.fit) (A':=AJ) (by simp only[Nc];exact aw4) (j:=3) (cl:=gJ s) (by simp only[OG];rfl)
       have how':=how;obtain⟨ya,yc,G,rfl,_,_⟩:=je.1 how';have aF2:s.length<=100000000:=by have:s.length<=n:=Zu.sl;omega
       have aF3:Fits s:=Zu.fit.2.1
       have HS:aG (∀ (X1:aI) (u':aJ) (f':Fp) (s':List Int),eX f wE X1->dY.ow X1 (gJ s') u' f'->(∀ b,f' b->f b\/wE.heap.size<=b)->X1.cell? ⟨g,off+i*8+3,ak⟩=au (aj ya s.length yc)/\X1.frozen? ⟨g,off+i*8+3,ak⟩=aC/\Mw V (X1.setCell ⟨g,off+i*8+3,ak⟩ u') B o { m with rows:=m.rows.set i { ow with wed:=aB,dQ:=s' } } jw g off c/\RV (X1.setCell ⟨g,off+i*8+3,ak⟩ u') g (off+J*8) AJ r):=fun X1 u' f' s' h1 h2 h3=>by
        have:=hset X1 (gJ s') u' f' { ow with wed:=aB,dQ:=s' } (by simp only[OG];rfl) h1 h2 h3
        simp only[Nc,List.set_set] at this;exact this
       have hbd:=(Same.drewN wE 1).below;have hP:=NR ya yc s x wE.drew f (dY.ig how hbd) aF3 aF2
       have KS:∀ X,Below wE.heap.size wE X->(X.cell? ⟨g,off+i*8+3,ak⟩=au (aj ya s.length yc)/\X.cell? ⟨bb,3,ak⟩=au (aj (au ⟨sb,so,ak⟩) r.dQ.length AJ.sc)/\X.cell? ⟨sb,so+j,ak⟩=au (ah aA x)):=fun X hX=>by
        have t:∀ {x v},wE.cell? x=au v->X.cell? x=au v:=fun h=>gy hX h
        exact⟨t hu,t x37,t hx7⟩
       clear M7 aw4 hset how how' xJ hu x37 hx7 Zu OG Nc;go_wp2_with fail
       refine lU (S:=fun X:aI=>X.cell? ⟨g,off+i*8+3,ak⟩=au (aj ya s.length yc)/\X.cell? ⟨bb,3,ak⟩=au (aj (au ⟨sb,so,ak⟩) r.dQ.length AJ.sc)/\X.cell? ⟨sb,so+j,ak⟩=au (ah aA x)) 13 gq ((KS _ hbd)) fun hHeld=>?_
       refine fC (i:=0) rfl hHeld ?_;refine fC (i:=1) rfl hHeld ?_;refine fC (i:=2) rfl hHeld ?_;refine fC (i:=3) rfl hHeld ?_;refine fC (i:=4) rfl hHeld ?_;refine fC (i:=5) rfl hHeld ?_;refine fC (i:=6) rfl hHeld ?_;refine fC (i:=7) rfl hHeld ?_;refine fC (i:=8) rfl hHeld ?_;refine fC (i:=9) rfl hHeld ?_;refine iJ (i:=10) rfl fun K hK=>?_
       go_simp
       go_at_call 106
       refine hP.mono ?_;rintro e w1 ⟨a1,e1',f1,rfl,k1',k2,k3⟩;have hb1:=eU hbd k3;obtain⟨q1,q2,M8,OH⟩:=HS.out w1 _ f1 (gV s x) (eX.of_below hb1) k1' (fun b hb=>k2 b hb)
       have oZ:=dP M8;have Zv:=dP OH;refine hK.out _ _ (KS _ hb1) (fun eP=>?_)
       clear hK hHeld;have hHeld:=eP;try simp only[iC]
       refine fE (i:=11) rfl ?_;refine fC (i:=12) rfl hHeld ?_;refine oV rfl fun K hK=>?_
       go_simp;refine hK.out _ _ ?_;clear M8 OH k1' k2 k3 hP HS hHeld KS hbd hb1 hK hfz;generalize w1.setCell ⟨g,off+i*8+3,ak⟩ (aj a1 (gV s x).length e1')=V9 at *;clear q1 q2;go_wp2;go_roundw
       case rel=>exact⟨j+1,gV s x,by omega,by go_num,HS2,oZ.out,Zv.out⟩
       case measure=>simp[dG];omega
     ·have j1:¬ ((j:Int)<r.dQ.length):=by omega
      have HT2:aG ({ ow with wed:=aB,dQ:=s }=learn m.rows i (dO m.rows i) (L.take (k+1))):=by rw[aG,<- HT.out,hs.out,aY (by omega)]
      have oW:=dP (yJ.out _ _ M);clear M zS hXi x0 x1 x2 x4 x5 x6 x7;go_wp2;go_roundw
      case rel=>exact⟨k+1,_,by omega,by go_num,HT2,oW.out⟩
      case measure=>simp[dG];omega
  ·have k1:¬ ((k:Int)<L.length):=by omega
   have HE:=dP (Wp.out _ _ M (mO _));have HOW:aG (ow=learn m.rows i (dO m.rows i) L):=by rw[aG,qR.out,aY (by omega)]
   clear M qR;go_wp2;go_end0;rw[HLe.out,<- HOW.out];exact⟨rfl,HE.out⟩
theorem OJ (hk:k<R.length) (h:¬ (((q/n:Nat):Int)<el (dO R k).got (q%n))):oQ R n q=aC:=by
 rw[oQ,List.all_eq_false];exact⟨dO R k,List.mem_of_getElem? (iV hk),by simpa using h⟩
theorem Lu (h:∀ k,k<R.length->((q/n:Nat):Int)<el (dO R k).got (q%n)):oQ R n q=aB:=by
 rw[oQ,bJ];intro r hr;obtain⟨j,hj,rfl⟩:=N8 hr;simpa using h j hj
theorem Ws (B o:Nat) (m:Mb) (i n:Nat) (fp:Fp) (w:aI) (h:iP w B o (jY m) fp) (ok:iO m i n) :
  dF dA 117 #[aO (au ⟨B,o,ak⟩)] w fun e w'=>e=aK (.tuple #[])/\Mk w w' B o { m with dR:=lF m.rows n (60-m.dR.length) m.dR } fp:=by
 have gq:=iD;have hil:i<m.rows.length:=by rw[ok.len];exact ok.lt
 obtain⟨g,off,c,M0⟩:=Mw.start h (by omega)
 have HC9:=dP M0.rws;have kQ:=dP M0;have jq:=ok.n5;have hsl:=ok.sl;clear M0 h;go_enter Tryz.func117,Tryz.ntmps117
 go_wp2_with fail
 go_loopg [3] 61 (fun gk v wr=>∃ s:List Int,s.length<=60/\60-s.length<gk/\Fits s/\aG (lF m.rows n (60-m.dR.length) m.dR=lF m.rows n (60-s.length) s)/\Mw w wr B o { m with dR:=s } fp g off c)
 case atStart=>exact⟨m.dR,hsl,by omega,ok.fit.2,rfl,kQ.out⟩
 case round =>
  obtain⟨s,N7,hgk,hfs,hS,M⟩:=hrel;have hfm:nG { m with dR:=s }:=⟨ok.fit.1,hfs⟩
  obtain⟨sa,sc,⟨c0,c1,c2,c3,c4⟩,hms⟩:=M.box hfm;simp only at c0 c1 c2 c3 c4
  rw[ok.hn] at c1;have HM:=dP M;by_cases hlt:s.length<60
  ·have k1:(s.length:Int)<60:=by omega
   obtain⟨q,hq⟩:∃ q:Nat,s.length=q:=⟨_,rfl⟩;have HQ:=dP hq;have hqm:q%n<n:=Nat.mod_lt _ (by omega)
   have tm:((s.length:Int)).tmod (n:Int)=((q%n:Nat):Int):=by rw[hq,Int.tmod_eq_emod_of_nonneg (by omega)];rfl
   have td:((s.length:Int)).tdiv (n:Int)=((q/n:Nat):Int):=by rw[hq,Int.tdiv_eq_ediv_of_nonneg (by omega)];rfl
   clear hq;obtain⟨y,hy⟩:∃ y:Int,aG (((q/n:Nat):Int)=y):=⟨_,rfl⟩;obtain⟨z,hz⟩:∃ z:Nat,aG (q%n=z):=⟨_,rfl⟩;rw[hz.out] at tm hqm;rw[hy.out] at td
   have hyb:0<=y/\y<=60:=by
    have h1:=Nat.div_le_self q n;have h2:=hy.out;have h3:=HQ.out;generalize q/n=yy at *;omega
   have hwy:wrap64 y=y:=by unfold wrap64;omega
   have hrl:m.rows.length<=5:=by rw[ok.len];omega
   have n0:((n:Int)==0)=aC:=by simp;omega
   have yK:=dP c1;have HC2:=dP c2;clear M hms c0 c1 c2 c4;go_wp2_with fail
   go_loopw [3] (fun v wi=>∃ k:Nat,k<=m.rows.length/\v=ah aA (k:Int)/\(∀ j,j<k->y<el (dO m.rows j).got z)/\Below wr.heap.size wr wi) (fun v _=>m.rows.length-(dG v).toNat)
   case atStart=>exact⟨0,cZ _,rfl,fun j hj=>by omega,dw _ _⟩
   case round =>
    obtain⟨k,hk,rfl,hall,hgr⟩:=hrel;have M1:=HM.out.step hgr;have HA:=dP hall;have c2:=M1.rws;have c1:=M1.id'.2.1;simp only at c1
    rw[ok.hn] at c1;clear hall;by_cases hlt2:k<m.rows.length
    ·have j1:(k:Int)<m.rows.length:=by omega
     have j0:(0:Int)<=k:=by omega
     obtain⟨Ak,⟨⟨d0,d1,d2,d3⟩,d4,d5,d6,d7⟩,hrs⟩:=M1.row hfm (k:=k) hlt2;simp only at d2 hrs
     have hgl:=(ok.ok k (by rw[<- ok.len];exact hlt2)).gl
     rcases hrs.got.2.2 with h0|⟨gb,go,hga,hgc⟩
     ·omega
     have hge:=hgc z (by omega)
     rw[hga] at d2;have q0:(0:Int)<=z:=by omega
     have q1:(z:Int)<((dO m.rows k).got.length:Int):=by omega
     have T:∀ {x v},wr.cell? x=au v->∀ q:Bk wr,q.w.cell? x=au v:=fun h q=>gy q.h h
     have p1:=T c1;have p2:=T c2;have pg:=T d2;have pe:=T hge
     have HY:aG (y<el (dO m.rows k).got z->∀ j,j<k+1->y<el (dO m.rows j).got z):=fun h1 j hj=>by
      rcases aW.1 hj with h|h
      ·exact HA.out j h
      ·rw[h];exact h1
     have kP:aG (¬ (y<el (dO m.rows k).got z)->oQ m.rows n q=aC):=fun h=>OJ hlt2 (by rw[hy.out,hz.out];exact h)
     generalize el (dO m.rows k).got z=x at *;have HG:=dP hgr;clear hgc hge hga d0 d1 d2 d3 d4 d5 d6 d7 hrs c1 T M1 hgr;by_cases hxy:y<x
     ·have e1:decide (x<=y)=aC:=by simpa using hxy
      have e2:¬ (x<=y):=by omega
      have HN:=HY.out hxy;clear HY kP hxy;go_wp2_with fail
      refine jg ?_;repeat (go_big_quiet_step ((first|rfl)))
      refine dh (iL fun wE eG=>?_)
      have vX:=dP (eU HG.out eG);clear p1 p2 pg pe eG c2;go_wp2;go_roundw
      case rel=>exact⟨k+1,by omega,by go_num,HN,vX.out⟩
      case measure=>simp[dG];omega
     ·have e1:decide (x<=y)=aB:=by simpa using hxy
      have e2:x<=y:=by omega
      have HN:=kP.out hxy
      have HFin:aG (lF m.rows n (60-m.dR.length) m.dR=s):=by
       rw[aG,hS.out,HQ.out];obtain⟨f,hf⟩:∃ f,60-q=f+1:=⟨60-q-1,by have:=HQ.out;omega⟩
       rw[hf,lF,HQ.out,HN]
       rfl
      clear HY kP hxy HN;go_wp2_with fail
      refine jg ?_;repeat (go_big_quiet_step ((first|rfl)))
      refine dh (iL fun wE eG=>?_)
      have OL:aG (Mw w wE B o { m with dR:=s } fp g off c):=(HM.out.step HG.out).step eG
      clear p1 p2 pg pe eG c2;go_wp2
      (try simp only[Exit.inBlock,Exit.then])
      refine bY (results_none rfl _ _ _) rfl ?_;rw[HFin.out];exact⟨rfl,OL.out.mk' HC9.out rfl⟩
    ·have j1:¬ ((k:Int)<m.rows.length):=by omega
     have HY:aG (oQ m.rows n q=aB):=Lu (fun j hj=>by rw[hy.out,hz.out];exact HA.out j (by omega))
     have HS2:aG (lF m.rows n (60-m.dR.length) m.dR=lF m.rows n (60-(s++[(s.length:Int)]).length) (s++[(s.length:Int)])):=by
      rw[aG,hS.out,HQ.out,bD,HQ.out];obtain⟨f,hf⟩:∃ f,60-q=f+1:=⟨60-q-1,by have:=HQ.out;omega⟩
      rw[hf,lF,HQ.out,HY.out,if_pos rfl,show 60-(q+[((q:Nat):Int)].length)=f by simp;omega]
     have HFs:aG (Fits (s++[(s.length:Int)])):=fun x hx=>by
      rcases List.mem_append.1 hx with h|h
      ·exact hfs x h
      ·simp at h;omega
     have Ce:aG ((s++[(s.length:Int)]).length=s.length+1):=by rw[aG,bD];rfl
     obtain⟨u,f,hu,hfz,how,xJ,hset⟩:=M1.KX (j:=3) (cl:=gJ s) rfl (by omega)
     obtain⟨ya,yc,rfl,hA⟩:=nP (s.length:Int) how (by omega)
     have HS:=dP hset;clear hset how xJ M1 hgr c1 tm td;go_wp2_with (at_builtin;refine fG (by rfl) _ _ _ _ (by rfl) _ _ (by rfl) (by rfl) hA ⟨rfl,rfl,rfl,rfl⟩ ?_;rintro v1 w1 ⟨a1,e1,f1,rfl,q1,q2,q3⟩;obtain⟨z1,z2,M2⟩:=HS.out w1 _ _ f1 { m with dR:=s++[(s.length:Int)] } rfl rfl q3 q1 q2;have jk:aG (Mw w (w1.setCell ⟨B,o+3,ak⟩ (aj a1 (s.length+1) e1)) B o { m with dR:=s++[(s.length:Int)] } fp g off c):=M2;clear M2 q1 q2 q3 hA HS)
     generalize w1.setCell ⟨B,o+3,ak⟩ (aj a1 (s.length+1) e1)=V9 at *;clear z1 z2 hu hfz
     go_roundg (gk-1)
     case measure=>omega
     case rel=>exact⟨s++[(s.length:Int)],by rw[Ce.out];omega,by rw[Ce.out];omega,HFs.out,HS2,jk.out⟩
  ·have k1:¬ ((s.length:Int)<60):=by omega
   have HFin:aG (lF m.rows n (60-m.dR.length) m.dR=s):=by
    rw[aG,hS.out,show 60-s.length=0 by omega]
    rfl
   clear M hms c0 c1 c2 c4;go_wp2;go_end0;rw[HFin.out];exact⟨rfl,HM.out.mk' HC9.out rfl⟩
theorem wS {x: Option dH} {xs: List Int} (hv:Vec X x xs.length xs) (hl:xs.length<=1000000) :
  ∀ Z,Same Z (X.alloc (aH #[] 2))->∃ v' w4,(bU #[41,41] 41 #[aj (au ⟨X.heap.size,0,ak⟩) 0 0,aj x xs.length c]).run dA Z=.ok v' w4/\∃ a' c' f',v'=aj a' xs.length c'/\dY.ow w4 (gJ xs) v' f'/\(∀ b,f' b->X.heap.size<=b)/\Below X.heap.size X w4:=by
 intro Z hZ;obtain⟨i0,hi0,hz0,hz1,hz2⟩:=jX Tryz.info2n;have mW:=(dX X _).trans (hZ.below.mono (dX X _).size);obtain⟨a6,c6,w6,KW,IL,IQ,hw6,DU⟩:=xU (P:=dA) (w:=Z) 41 41 2 i0 bG hi0 hz0 hz1 hz2 (kL X.heap.size 0) (x:=x) (c:=c) (hv.below mW (cO _)) hl;exact⟨_,w6,IL,a6,c6,KW,rfl,IQ,fun b hb=>by have:=DU b hb;have:=mW.size;omega,hw6.below mW mW.size (fun b h=>h.elim)⟩
theorem Wu (B o:Nat) (m:Mb) (i n F:Nat) (fp:Fp) (w:aI) (h:iP w B o (jY m) fp) (ok:iO m i n) (hF:F<n) (Ci:F≠i) :
  dF dA 120 #[aO (au ⟨B,o,ak⟩),ah aA (F:Int)] w fun e w'=>e=aK (.tuple #[])/\Mk w w' B o { m with rows:=m.rows.set i (adopt m.rows i (dO m.rows i) F) } fp:=by
 have gq:=iD;have hil:i<m.rows.length:=by rw[ok.len];exact ok.lt
 have uF:F<m.rows.length:=by rw[ok.len];exact hF
 obtain⟨g,off,c,M0⟩:=Mw.start h (by omega)
 obtain⟨c0,c1,c4⟩:=M0.id';have c2:=M0.rws;rw[ok.hid] at c0;have i0:(0:Int)<=i:=by omega
 have i1:(i:Int)<m.rows.length:=by omega
 have F0:(0:Int)<=F:=by omega
 have F1:(F:Int)<m.rows.length:=by omega
 have p0:∀ q:Bk w,q.w.cell? ⟨B,o,ak⟩=_:=fun q=>gy q.h c0
 have p2:∀ q:Bk w,q.w.cell? ⟨B,o+2,ak⟩=_:=fun q=>gy q.h c2
 have HC2:=dP M0.rws;have kQ:=dP M0;have hr:=ok.ok i ok.lt;have hrF:=ok.ok F hF;have jq:=hr.n5;clear c0 c1 c4 c2 M0 h;go_enter Tryz.func120,Tryz.ntmps120
 go_wp2_with fail
 refine jg ?_;repeat (go_big_quiet_step ((first|rfl)))
 refine dh (iL fun wE eG=>?_)
 clear p0 p2;have fU:=dP (kQ.out.step eG);have c2:=fU.out.rws;obtain⟨AF,OE,hRS⟩:=fU.out.row ok.fit uF;have aw5:aG (RV wE g (off+F*8) AF (dO m.rows F)):=⟨OE,hRS⟩;obtain⟨⟨d0,d1,d2,d3⟩,d4,d5,d6,d7⟩:=OE;clear eG kQ;go_upto_region 1 with fail
 go_upto_region 2 with fail
 have hb5:=dX wE (aH #[ah aA (dO m.rows F).ver,aj AF.ta (dO m.rows F).txt.length AF.tc,aj AF.ga (dO m.rows F).got.length AF.gc,aj AF.sa (dO m.rows F).dQ.length AF.sc,aF (dO m.rows F).wed,aF (dO m.rows F).dV,ah aA (dO m.rows F).dW,aj AF.ma (dO m.rows F).dU.length AF.mc] 44);have hx5:=Bx.new wE 44 #[ah aA (dO m.rows F).ver,aj AF.ta (dO m.rows F).txt.length AF.tc,aj AF.ga (dO m.rows F).got.length AF.gc,aj AF.sa (dO m.rows F).dQ.length AF.sc,aF (dO m.rows F).wed,aF (dO m.rows F).dV,ah aA (dO m.rows F).dW,aj AF.ma (dO m.rows F).dU.length AF.mc];generalize wE.alloc (aH #[ah aA (dO m.rows F).ver,aj AF.ta (dO m.rows F).txt.length AF.tc,aj AF.ga (dO m.rows F).got.length AF.gc,aj AF.sa (dO m.rows F).dQ.length AF.sc,aF (dO m.rows F).wed,aF (dO m.rows F).dV,ah aA (dO m.rows F).dW,aj AF.ma (dO m.rows F).dU.length AF.mc] 44)=W5 at *;have M5:=fU.out.step hb5;have aI4:=trivial;have oM:=dP hb5;have iM:=dP M5;have aw6:=dP (aw5.out.below hb5);have Zw:=aw6.out.2;have Gg:=dP hx5;obtain⟨⟨x0,x1,x2,x3⟩,x4,x5,x6,x7⟩:=Bx.r8 hx5;obtain⟨e0,e1,e4⟩:=M5.id';rw[ok.hid] at e0;obtain⟨Ao,⟨⟨o0,o1,o2,o3⟩,o4,o5,o6,o7⟩,_⟩:=M5.row ok.fit hil;have T:∀ {x v},W5.cell? x=au v->∀ q:Bk W5,q.w.cell? x=au v:=fun h q=>gy q.h h
 have p0:=T e0;have yI:=T x3;have Cj:=T x5;have Jf:=T x6;have OM:=T o5;have po6:=T o6;have C2:∀ q:Bk W5,dF dA 113 #[aj AF.sa (dO m.rows F).dQ.length AF.sc,ah aA (i:Int)] q.w fun e w'=>e=aK (aF (decide ((i:Int)∈(dO m.rows F).dQ)))/\Below q.w.heap.size q.w w':=fun q=>(qL AF.sa (dO m.rows F).dQ.length AF.sc (i:Int) (dO m.rows F).dQ q.w (Zw.dQ.below q.h (cO _)) Zw.ms).mono (fun e w' h=>⟨h.1,by rw[h.2];exact dw _ _⟩)
 have HD:aG (∀ b:Bool,b=decide ((dO m.rows F).dV=aB/\(dO m.rows F).dW=(F:Int)/\(i:Int)∉(dO m.rows F).dQ/\¬ ((dO m.rows i).dV=aB/\(F:Int)<=(dO m.rows i).dW))->adopt m.rows i (dO m.rows i) F=if b=aB then { dO m.rows i with dV:=aB,dW:=(F:Int),dU:=(dO m.rows F).dU } else dO m.rows i):=fun b hb=>by
  rw[adopt,hb];simp only[decide_eq_true_eq]
 have HDD:aG (decide ((dO m.rows F).dV=aB/\(dO m.rows F).dW=(F:Int)/\(i:Int)∉(dO m.rows F).dQ/\¬ ((dO m.rows i).dV=aB/\(F:Int)<=(dO m.rows i).dW))=decide ((dO m.rows F).dV=aB/\(dO m.rows F).dW=(F:Int)/\(i:Int)∉(dO m.rows F).dQ/\¬ ((dO m.rows i).dV=aB/\(F:Int)<=(dO m.rows i).dW))):=rfl;obtain⟨d,hd⟩:∃ d:Bool,aG (d=decide ((dO m.rows F).dV=aB/\(dO m.rows F).dW=(F:Int)/\(i:Int)∉(dO m.rows F).dQ/\¬ ((dO m.rows i).dV=aB/\(F:Int)<=(dO m.rows i).dW))):=⟨_,rfl⟩;have HA:=HD.out d hd.out;have HAd:=dP HA;clear HDD HD HA M5 Zw hx5 e0 e1 e4 x0 x1 x2 x3 x4 x5 x6 x7 o0 o1 o2 o3 o4 o5 o6 o7 T d0 d1 d2 d3 d4 d5 d6 d7 c2 hRS aw5 aI4 hb5
 go_cut [53] from 22 to 53 (fun v X=>v=aF (!d)/\Below W5.heap.size W5 X)
 case first =>
  by_cases a1:(dO m.rows F).dV=aB;rotate_left
  ·have a1':(dO m.rows F).dV=aC:=by simpa using a1
   have hd0:aG (d=aC):=by rw[aG,hd.out];simp[a1']
   rw[a1'] at Cj;clear a1 a1';refine jg ?_;repeat (go_big_quiet_step ((first|(go_at_call 113;exact eY _ (C2 _))|rfl)))
   refine dh (iL fun wE eG=>?_)
   try go_wp2_with fail
   go_meet
   case rel=>exact⟨by rw[hd0.out];rfl,eG⟩
  rw[a1] at Cj;by_cases a2:(dO m.rows F).dW=(F:Int);rotate_left
  ·have hd0:aG (d=aC):=by rw[aG,hd.out];simp[a2]
   have g2:((dO m.rows F).dW != (F:Int))=aB:=by simpa using a2
   clear a1 a2;refine jg ?_;repeat (go_big_quiet_step ((first|(go_at_call 113;exact eY _ (C2 _))|rfl)))
   refine dh (iL fun wE eG=>?_)
   try go_wp2_with fail
   go_meet
   case rel=>exact⟨by rw[hd0.out];rfl,eG⟩
  have g2:((dO m.rows F).dW != (F:Int))=aC:=by simpa using a2
  by_cases a3:(i:Int)∈(dO m.rows F).dQ
  ·have hd0:aG (d=aC):=by rw[aG,hd.out];simp[a3]
   rw[decide_eq_true a3] at C2;clear a1 a2 a3;refine jg ?_;repeat (go_big_quiet_step ((first|(go_at_call 113;exact eY _ (C2 _))|rfl)))
   refine dh (iL fun wE eG=>?_)
   try go_wp2_with fail
   go_meet
   case rel=>exact⟨by rw[hd0.out];rfl,eG⟩
  rw[decide_eq_false a3] at C2;by_cases a4:(dO m.rows i).dV=aB;rotate_left
  ·have a4':(dO m.rows i).dV=aC:=by simpa using a4
   have hd0:aG (d=aB):=by rw[aG,hd.out];simp[a1,a2,a3,a4']
   rw[a4'] at OM;clear a1 a2 a3 a4 a4';refine jg ?_;repeat (go_big_quiet_step ((first|(go_at_call 113;exact eY _ (C2 _))|rfl)))
   refine dh (iL fun wE eG=>?_)
   try go_wp2_with fail
   go_meet
   case rel=>exact⟨by rw[hd0.out];rfl,eG⟩
  rw[a4] at OM;by_cases a5:(F:Int)<=(dO m.rows i).dW
  ·have hd0:aG (d=aC):=by rw[aG,hd.out];simp[a4,a5]
   have g5:decide ((F:Int)<=(dO m.rows i).dW)=aB:=by simpa using a5
   clear a1 a2 a3 a4;refine jg ?_;repeat (go_big_quiet_step ((first|(go_at_call 113;exact eY _ (C2 _))|rfl)))
   refine dh (iL fun wE eG=>?_)
   try go_wp2_with fail
   go_meet
   case rel=>exact⟨by rw[hd0.out];rfl,eG⟩
  have hd0:aG (d=aB):=by rw[aG,hd.out];simp[a1,a2,a3];omega
  have g5:decide ((F:Int)<=(dO m.rows i).dW)=aC:=by simpa using a5
  clear a1 a2 a3 a4;refine jg ?_;repeat (go_big_quiet_step ((first|(go_at_call 113;exact eY _ (C2 _))|rfl)))
  refine dh (iL fun wE eG=>?_)
  try go_wp2_with fail
  go_meet
  case rel=>exact⟨by rw[hd0.out];rfl,eG⟩
 case rest =>
  obtain⟨rfl,hBc⟩:=hcut;generalize wc=V at *;have M6:=iM.out.step hBc;have jW:=dP M6;have Ht:=aw6.out.below hBc;have Jg:=Gg.out.below hBc;clear p0 yI Cj Jf OM po6 C2
  cases d with
  | false =>
   have HE:aG (adopt m.rows i (dO m.rows i) F=dO m.rows i):=by rw[aG,HAd.out];rfl
   have HE2:aG (({ m with rows:=m.rows.set i (dO m.rows i) }:Mb)=m):=by rw[aG,oP (iV hil)]
   clear M6 Ht Jg hBc;go_wp2
   (try simp only[Exit.inBlock,Exit.then])
   refine bY (results_none rfl _ _ _) rfl ?_;rw[HE.out,HE2.out];exact⟨rfl,jW.out.mk' HC2.out rfl⟩
  | true =>
   have HE:aG (adopt m.rows i (dO m.rows i) F={ dO m.rows i with dV:=aB,dW:=(F:Int),dU:=(dO m.rows F).dU }):=by rw[aG,HAd.out];rfl
   obtain⟨jw,f1,f2,_,M7,f4⟩:=fU.out.sub (eU oM.out hBc);have hself:dO m.rows i=dO m.rows i:=rfl;obtain⟨_,_,q1,q2,⟨rfl,_⟩,_,q4⟩:=M7.atO hil uF Ci hrF.fit Ht (j:=5) (cl:=.v (aF (dO m.rows i).dV)) rfl;obtain⟨_,_,M8,OH⟩:=q4 V (.v (aF aB)) (aF aB) (fun _=>False) { dO m.rows i with dV:=aB } rfl (eX.refl _ _) ⟨rfl,fun _ h=>h⟩ (fun b hb=>hb.elim)
   have HX7:=dP Jg;have HF1:=dP f1;have HF2:=dP f2;have yJ:=dP f4;have oZ:=dP M8;have Zv:=dP OH;generalize wE.heap.size=bb at *;clear M6 M7 M8 OH Ht Jg q4 f1 f2 f4 hBc;go_upto_region 4 with fail
   generalize V.setCell ⟨g,off+i*8+5,ak⟩ (aF aB)=V1 at *;clear q1 q2;generalize hr1:({ dO m.rows i with dV:=aB }:Rw)=r1 at *
   have hs1:dO (m.rows.set i r1) i=r1:=iY hil;have yQ:i<(m.rows.set i r1).length:=by rw[bQ];exact hil
   have aI5:F<(m.rows.set i r1).length:=by rw[bQ];exact uF
   have UD:dO (m.rows.set i r1) F=dO m.rows F:=by rw[gY hil,if_neg Ci]
   obtain⟨_,_,q1,q2,⟨rfl,_⟩,_,q4⟩:=oZ.out.atO yQ aI5 Ci (by simp only[UD];exact hrF.fit) (A':=AF) (by simp only[UD];exact Zv.out) (j:=6) (cl:=.v (ah aA r1.dW)) (by simp only[hs1];rfl)
   obtain⟨_,_,M9,Zx⟩:=q4 V1 (.v (ah aA (F:Int))) (ah aA (F:Int)) (fun _=>False) { r1 with dW:=(F:Int) } (by simp only[hs1];rfl) (eX.refl _ _) ⟨rfl,fun _ h=>h⟩ (fun b hb=>hb.elim)
   simp only[UD,List.set_set] at M9 Zx;have jL:=dP M9;have aI6:=dP Zx;have HR1:=dP hr1;clear M9 Zx q4 hs1 UD hr1;go_upto_region 5 with fail
   generalize V1.setCell ⟨g,off+i*8+6,ak⟩ (ah aA (F:Int))=V2 at *;clear q1 q2;generalize hr2:({ r1 with dW:=(F:Int) }:Rw)=r2 at *
   have hs2:dO (m.rows.set i r2) i=r2:=iY hil;have tH:i<(m.rows.set i r2).length:=by rw[bQ];exact hil
   have OO:=jL.out.bx HX7.out (fun k=>by have:=HF1.out _ k;omega) (by have:=HF2.out;omega)
   have x7:=OO.at 7 rfl;have x7':=(OO.alloc (aH #[] 2)).at 7 rfl;simp only[List.getElem_toArray,List.getElem_cons_succ,List.getElem_cons_zero] at x7 x7';have hml:=hrF.ml;have hA:=wS (c:=AF.mc) aI6.out.2.dU (by omega)
   obtain⟨u,f,hu,hfz,how,xJ,hset⟩:=jL.out.at tH (j:=7) (cl:=gJ r2.dU) (by simp only[hs2];rfl)
   have HS:aG (∀ (X1:aI) (u':aJ) (f':Fp),Below V2.heap.size V2 X1->dY.ow X1 (gJ (dO m.rows F).dU) u' f'->(∀ b,f' b->V2.heap.size<=b)->X1.cell? ⟨g,off+i*8+7,ak⟩=au u/\X1.frozen? ⟨g,off+i*8+7,ak⟩=aC/\Mw V (X1.setCell ⟨g,off+i*8+7,ak⟩ u') B o { m with rows:=m.rows.set i { r2 with dU:=(dO m.rows F).dU } } jw g off c):=fun X1 u' f' h1 h2 h3=>by
    have:=hset X1 (gJ (dO m.rows F).dU) u' f' { r2 with dU:=(dO m.rows F).dU } (by simp only[hs2];rfl) (eX.of_below h1) h2 (fun b hb=>.inr (h3 b hb))
    simp only[List.set_set] at this;exact⟨this.1,this.2.1,this.2.2.1⟩
   have HFin:aG (({ r2 with dU:=(dO m.rows F).dU }:Rw)=adopt m.rows i (dO m.rows i) F):=by rw[aG,HE.out,<- hr2,<- HR1.out]
   clear hset how xJ hu hfz hs2 OO hr2;go_wp2_with (at_builtin;refine fG (by rfl) _ _ _ _ (by rfl) _ _ (by rfl) (by rfl) hA ⟨rfl,rfl,rfl,rfl⟩ ?_;rintro v1 w1 ⟨a1,e1,f1,rfl,q1,q2,q3⟩;obtain⟨z1,z2,M10⟩:=HS.out w1 _ f1 q3 q1 q2;have wU:aG (Mw V (w1.setCell ⟨g,off+i*8+7,ak⟩ (aj a1 (dO m.rows F).dU.length e1)) B o { m with rows:=m.rows.set i { r2 with dU:=(dO m.rows F).dU } } jw g off c):=M10;clear M10 q1 q2 q3 hA HS)
   go_end0;rw[<- HFin.out];exact⟨rfl,(yJ.out _ _ wU.out).mk' HC2.out (mO _)⟩
section
open Go.RowKit
theorem Jh (a a':Option dH) (len cap len' cap':Nat) (xs ys:List Int) (w:aI) (hv:Vec w a len xs) (hv':Vec w a' len' ys) (hm:len<=dD) :
  dF dA 153 #[aj a len cap,aj a' len' cap'] w fun e w'=>e=aK (aF (decide (xs=ys)))/\∃ n,w'=w.drewN n:=by
 unfold dD at hm;obtain⟨hlen,_,hcs⟩:=hv;obtain⟨hlen',_,hcs'⟩:=hv';by_cases hl:len=len'
 ·have hne:((len:Int) != (len':Int))=aC:=by simp[hl]
  have HL:=dP hlen;have BM:=dP hlen';have wz:=dP hl;have hle:(len:Int)<=len':=by omega
  clear hlen hlen' hl;by_cases h0:len=0
  ·have hx:xs=[]:=List.length_eq_zero_iff.1 (by rw[HL.out];exact h0)
   have hy:ys=[]:=List.length_eq_zero_iff.1 (by rw[BM.out,<- wz.out];exact h0)
   subst h0 hx hy;clear hcs hcs';go_enter Tryz.func153,Tryz.ntmps153
   go_wp2
   go_loop [5] (fun i=>i=ah aA 0) (fun _=>0)
   case atStart=>rfl
   case round =>
    subst hrel;go_wp2;go_ret
    exact⟨rfl,0,rfl⟩
  ·rcases hcs with h|⟨b,off,rfl,hc⟩
   ·omega
   rcases hcs' with h|⟨b',off',rfl,hc'⟩
   ·have:=wz.out;omega
   go_enter Tryz.func153,Tryz.ntmps153
   go_wp2
   go_loopw [5] (fun i wr=>∃ k:Nat,k<=len/\i=ah aA k/\(∀ j,j<k->el xs j=el ys j)/\∃ n,wr=w.drewN n) (fun i _=>len-(dG i).toNat)
   case atStart=>exact⟨0,cZ _,rfl,fun j hj=>by omega,0,rfl⟩
   case round =>
    obtain⟨k,hk,rfl,hall,n,rfl⟩:=hrel;have HA:=dP hall;clear hall;by_cases hlt:k<len
    ·have hck:=hc k hlt
     have au0:=hc' k (by have:=wz.out;omega)
     have hi1:(k:Int)<len:=by omega
     have hi2:(k:Int)<len':=by omega
     by_cases he:el xs k=el ys k
     ·have hd:(el xs k != el ys k)=aC:=by simp[he]
      have HX:=dP he;clear he;go_wp2_with fail
      go_quiet (fail)
      go_wp2;go_roundw
      case rel => exact ⟨k + 1,by omega,by go_num,fun j hj => by
       rcases aW.1 hj with h|h
       ·exact HA.out j h
       ·rw[h];exact HX.out,_,rfl⟩
      case measure=>simp[dG];omega
     ·have hd:(el xs k != el ys k)=aB:=by simp[he]
      go_wp2_with fail
      go_quiet (fail)
      go_wp2;go_ret
      exact⟨dZ (by symm;rw[decide_eq_false_iff_not];intro h;exact he (by rw[h])),_,World.drewN_drewN _ _ _⟩
    ·go_wp2
     go_ret
     exact⟨dZ (by symm;rw[decide_eq_true_iff];exact Ed (by rw[HL.out,BM.out,wz.out]) (fun j hj=>HA.out j (by rw[HL.out] at hj;omega))),_,rfl⟩
 ·have hne:((len:Int) != (len':Int))=aB:=by simp;omega
  go_enter Tryz.func153,Tryz.ntmps153
  go_wp2;go_ret
  exact⟨dZ (by symm;rw[decide_eq_false_iff_not];intro h;rw[h] at hlen;omega),0,rfl⟩
theorem xX (a a':Option dH) (len cap len' cap':Nat) (xs ys:List Int) (w:aI) (hv:Vec w a len xs) (hv':Vec w a' len' ys) (hm:len<=dD) :
  dF dA 176 #[aj a len cap,aj a' len' cap'] w fun e w'=>e=aK (aF (decide (xs=ys)))/\∃ n,w'=w.drewN n:=by
 unfold dD at hm;obtain⟨hlen,_,hcs⟩:=hv;obtain⟨hlen',_,hcs'⟩:=hv';by_cases hl:len=len'
 ·have hne:((len:Int) != (len':Int))=aC:=by simp[hl]
  have HL:=dP hlen;have BM:=dP hlen';have wz:=dP hl;have hle:(len:Int)<=len':=by omega
  clear hlen hlen' hl;by_cases h0:len=0
  ·have hx:xs=[]:=List.length_eq_zero_iff.1 (by rw[HL.out];exact h0)
   have hy:ys=[]:=List.length_eq_zero_iff.1 (by rw[BM.out,<- wz.out];exact h0)
   subst h0 hx hy;clear hcs hcs';go_enter Tryz.func176,Tryz.ntmps176
   go_wp2
   go_loop [13] (fun i=>i=ah aA 0) (fun _=>0)
   case atStart=>rfl
   case round =>
    subst hrel;go_wp2;go_ret
    exact⟨rfl,0,rfl⟩
  ·rcases hcs with h|⟨b,off,rfl,hc⟩
   ·omega
   rcases hcs' with h|⟨b',off',rfl,hc'⟩
   ·have:=wz.out;omega
   go_enter Tryz.func176,Tryz.ntmps176
   go_wp2
   go_loopw [13] (fun i wr=>∃ k:Nat,k<=len/\i=ah aA k/\(∀ j,j<k->el xs j=el ys j)/\∃ n,wr=w.drewN n) (fun i _=>len-(dG i).toNat)
   case atStart=>exact⟨0,cZ _,rfl,fun j hj=>by omega,0,rfl⟩
   case round =>
    obtain⟨k,hk,rfl,hall,n,rfl⟩:=hrel;have HA:=dP hall;clear hall;by_cases hlt:k<len
    ·have hck:=hc k hlt
     have au0:=hc' k (by have:=wz.out;omega)
     have hi1:(k:Int)<len:=by omega
     have hi2:(k:Int)<len':=by omega
     by_cases he:el xs k=el ys k
     ·have hd:(el xs k != el ys k)=aC:=by simp[he]
      have HX:=dP he;clear he;go_wp2_with fail
      go_quiet (fail)
      go_wp2;go_roundw
      case rel => exact ⟨k + 1,by omega,by go_num,fun j hj => by
       rcases aW.1 hj with h|h
       ·exact HA.out j h
       ·rw[h];exact HX.out,_,rfl⟩
      case measure=>simp[dG];omega
     ·have hd:(el xs k != el ys k)=aB:=by simp[he]
      go_wp2_with fail
      go_quiet (fail)
      go_wp2;go_ret
      exact⟨dZ (by symm;rw[decide_eq_false_iff_not];intro h;exact he (by rw[h])),_,World.drewN_drewN _ _ _⟩
    ·go_wp2
     go_ret
     exact⟨dZ (by symm;rw[decide_eq_true_iff];exact Ed (by rw[HL.out,BM.out,wz.out]) (fun j hj=>HA.out j (by rw[HL.out] at hj;omega))),_,rfl⟩
 ·have hne:((len:Int) != (len':Int))=aB:=by simp;omega
  go_enter Tryz.func176,Tryz.ntmps176
  go_wp2;go_ret
  exact⟨dZ (by symm;rw[decide_eq_false_iff_not];intro h;rw[h] at hlen;omega),0,rfl⟩
end
theorem Zy (A B:Ra) (r s:Rw) (w:aI) (hv:qj w A r) (hu:qj w B s) :
  dF dA 122 #[iK A r,iK B s] w fun e w'=>e=aK (aF (lQ r s))/\Below w.heap.size w w':=by
 have hB0:Below w.heap.size w ((w.alloc (aH (fQ A r) 44)).alloc (aH (fQ B s) 44)):=(dX w _).trans ((dX _ _).mono (dX w _).size);have hx:Bx ((w.alloc (aH (fQ A r) 44)).alloc (aH (fQ B s) 44)) w.heap.size 44 (fQ A r):=(Bx.new w _ _).alloc _
 have hy:Bx ((w.alloc (aH (fQ A r) 44)).alloc (aH (fQ B s) 44)) (w.heap.size+1) 44 (fQ B s):=by
  have:=Bx.new (w.alloc (aH (fQ A r) 44)) 44 (fQ B s);simpa using this
 have KE:∀ X,Below w.heap.size w X->∀ (x y:Option dH) (c d:Nat) (l k:List Int),Vec w x l.length l->Vec w y k.length k->l.length<=dD->dF dA 153 #[aj x l.length c,aj y k.length d] X fun e w'=>e=aK (aF (decide (l=k)))/\Below X.heap.size X w':=fun X h x y c d l k h1 h2 h3=>(Jh x y l.length c k.length d l k X (h1.below h (cO _)) (h2.below h (cO _)) h3).mono (fun e w' ⟨h4,n,h5⟩=>⟨h4,by rw[h5];exact fO (dw _ _)⟩)
 obtain⟨ver,txt,got,dQ,wed,dV,dW,dU⟩:=r;obtain⟨aw7,txt',got',OQ,OT,OU,by',OV⟩:=s
 obtain⟨ta,tc,ga,gc,sa,sc,ma,mc⟩:=A;obtain⟨ub,uc,vb,vc,xb,xc,yb,yc⟩:=B;unfold iK;unfold fQ at *;simp only at *
 generalize qP:(w.alloc (aH #[ah aA ver,aj ta txt.length tc,aj ga got.length gc,aj sa dQ.length sc,aF wed,aF dV,ah aA dW,aj ma dU.length mc] 44)).alloc (aH #[ah aA aw7,aj ub txt'.length uc,aj vb got'.length vc,aj xb OQ.length xc,aF OT,aF OU,ah aA by',aj yb OV.length yc] 44)=W at *
 have HX:=dP hx;have HY:=dP hy;have HB:=dP hB0;have hG:=fun X h=>KE X h ga vb gc vc got got' hv.got hu.got hv.mg
 have hS:=fun X h=>KE X h sa xb sc xc dQ OQ hv.dQ hu.dQ hv.ms
 have hM:=fun X h=>KE X h ma yb mc yc dU OV hv.dU hu.dU hv.mm
 have HZ:aG (lQ ⟨ver,txt,got,dQ,wed,dV,dW,dU⟩ ⟨aw7,txt',got',OQ,OT,OU,by',OV⟩=((wed==OT)&&((dV==OU)&&((dW==by')&&(decide (got=got')&&(decide (dQ=OQ)&&decide (dU=OV))))))):=by
  rw[aG,lQ];simp only
  by_cases h1:wed=OT<;>by_cases h2:dV=OU<;>by_cases h3:dW=by'<;>simp[h1,h2,h3]
 obtain⟨⟨c0,c1,c2,c3⟩,c4,c5,c6,c7⟩:=Bx.r8 hx;obtain⟨⟨d0,d1,d2,d3⟩,d4,d5,d6,d7⟩:=Bx.r8 hy;clear hx hy KE hB0 hv hu
 cases e1:(wed==OT) with
 | false =>
  rw[e1] at HZ;go_enter Tryz.func122,Tryz.ntmps122
  go_wp2;go_ret
  exact⟨dZ (by rw[HZ.out];rfl),HB.out⟩
 | true =>
 cases e2:(dV==OU) with
 | false =>
  rw[e1,e2] at HZ;go_enter Tryz.func122,Tryz.ntmps122
  go_wp2;go_ret
  exact⟨dZ (by rw[HZ.out];rfl),HB.out⟩
 | true =>
 cases e3:(dW==by') with
 | false =>
  rw[e1,e2,e3] at HZ;go_enter Tryz.func122,Tryz.ntmps122
  go_wp2;go_ret
  exact⟨dZ (by rw[HZ.out];rfl),HB.out⟩
 | true =>
 rw[e1,e2,e3] at HZ;go_enter Tryz.func122,Tryz.ntmps122
 go_wp2_with fail
 refine (hG _ HB.out).mono ?_;rintro e w1 ⟨rfl,hb1⟩;have HB1:=dP (eU HB.out hb1);have hx1:=HX.out.below hb1;have hy1:=HY.out.below hb1;have qH:=dP hx1;have Cm:=dP hy1;clear c0 c1 c2 c3 c4 c5 c6 c7 d0 d1 d2 d3 d4 d5 d6 d7 hG HX HY;obtain⟨⟨c0,c1,c2,c3⟩,c4,c5,c6,c7⟩:=Bx.r8 hx1;obtain⟨⟨d0,d1,d2,d3⟩,d4,d5,d6,d7⟩:=Bx.r8 hy1;clear hx1 hy1 hb1;generalize decide (got=got')=t1 at *
 cases t1 with
 | false =>
  go_wp2;go_ret
  exact⟨dZ (by rw[HZ.out];rfl),HB1.out⟩
 | true =>
 go_wp2_with fail
 refine (hS _ HB1.out).mono ?_;rintro e w2 ⟨rfl,hb2⟩;have HB2:=dP (eU HB1.out hb2);clear c0 c1 c2 c3 c4 c5 c6 c7 d0 d1 d2 d3 d4 d5 d6 d7 hS;obtain⟨⟨c0,c1,c2,c3⟩,c4,c5,c6,c7⟩:=Bx.r8 (qH.out.below hb2);obtain⟨⟨d0,d1,d2,d3⟩,d4,d5,d6,d7⟩:=Bx.r8 (Cm.out.below hb2);clear hb2;generalize decide (dQ=OQ)=t2 at *
 cases t2 with
 | false =>
  go_wp2;go_ret
  exact⟨dZ (by rw[HZ.out];rfl),HB2.out⟩
 | true =>
 go_wp2_with fail
 refine (hM _ HB2.out).mono ?_;rintro e w3 ⟨rfl,hb3⟩;have HB3:=dP (eU HB2.out hb3);clear c0 c1 c2 c3 c4 c5 c6 c7 d0 d1 d2 d3 d4 d5 d6 d7 hM hb3;generalize decide (dU=OV)=t3 at *
 cases t3 with
 | false =>
  go_wp2;go_ret
  exact⟨dZ (by rw[HZ.out];rfl),HB3.out⟩
 | true =>
  go_wp2;go_ret
  exact⟨dZ (by rw[HZ.out];rfl),HB3.out⟩
def NeB (a:Option dH) (xs:List Int) (g:Nat):Prop:=xs=[]\/∀ x,a=au x->x.block≠g
structure tV (w:aI) (a:Option dH) (xs:List Int) (g:Nat):Prop where
 vec:Vec w a xs.length xs
 ne:NeB a xs g
theorem tV.below {w w': aI} {a: Option dH} {xs: List Int} {g: Nat} (h:tV w a xs g) (hb:Below w.heap.size w w'):tV w' a xs g:=⟨h.vec.below hb (cO _),h.ne⟩
theorem tV.set {w: aI} {a: Option dH} {xs: List Int} {g: Nat} (h:tV w a xs g) (j:Nat) (v:aJ):tV (w.setCell ⟨g,j,ak⟩ v) a xs g:=by
 refine⟨⟨h.vec.1,h.vec.2.1, ?_⟩,h.ne⟩;rcases h.vec.2.2 with h0|⟨b,off,ha,hc⟩
 ·exact .inl h0
 ·rcases h.ne with h1|h1
  ·exact .inl (by rw[h1];rfl)
  ·refine .inr ⟨b,off,ha,fun i hi=>?_⟩
   have:b≠g:=h1 _ ha;rw[World.cell?_setCell_other _ _ _ _ (by simp only[ne_eq,Addr.mk.injEq,not_and];intro e;exact absurd e.symm this)]
   exact hc i hi
theorem UE {w: aI} {a: Option dH} {xs: List Int} {g: Nat} (h:dY.ow w (gJ xs) (aj a xs.length c) f) (hg:¬ f g):NeB a xs g:=by
 obtain⟨a',c',G,e,ho,hf⟩:=je.1 h
 cases e
 rcases ho.oi with ⟨h1,_⟩|⟨b,off,rfl,_,rfl⟩
 ·exact .inl h1
 ·refine .inr (fun x hx e=>?_)
  cases hx
  exact hg ((hf g).2 (by rw[<- e]))
theorem Mw.OW {w: aI} {B o: Nat} {m: Mb} {fp: Fp} {g off: Nat} (h:Mw w X B o m fp g off c) (hf:nG m) (hk:k<m.rows.length):∃ Ak:Ra,RV X g (off+k*8) Ak (dO m.rows k)/\tV X Ak.ga (dO m.rows k).got g/\tV X Ak.ma (dO m.rows k).dU g:=by
 obtain⟨gU,hp,hf1,hgo⟩:=h.iw.next;obtain⟨g',off',c',f,h1,hgB,hfg,hfs,⟨vs,hpc,hov,I4⟩,hput⟩:=hp.el (F:=jo) jU (by omega) (j:=2) (L:=m.rows) rfl (iV hk)
 have e:=bT (h1.symm.trans h.rws)
 cases e
 have hfr:=hf.1 _ (List.mem_of_getElem? (iV hk));obtain⟨A,rfl,hl⟩:=wP hov;have Lp:=EP.rv ⟨hpc,hov,I4⟩ rfl hfr;obtain⟨u1,vW,f1,g1,e1,o1,h2,d1,i1⟩:=hl
 cases e1
 obtain⟨u2,wY,f2,g2,e2,o2,h3,d2,i2⟩:=h2
 cases e2
 obtain⟨u3,Es,f3,g3,e3,o3,h4,d3,i3⟩:=h3
 cases e3
 obtain⟨u4,NU,f4,g4,e4,o4,h5,d4,i4⟩:=h4
 cases e4
 refine⟨A,Lp,⟨Lp.2.got,UE o2 (fun k=>I4 ((i1 g).2 (.inr ((i2 g).2 (.inl k)))))⟩,Lp.2.dU,UE o4 (fun k=>I4 ((i1 g).2 (.inr ((i2 g).2 (.inr ((i3 g).2 (.inr ((i4 g).2 (.inl k)))))))))⟩
theorem QO (hk:k<L.length):kR R o (L.take (k+1))=(kR R o (L.take k)&&((dO R (L.getD k 0)).wed&&o.dQ.all (fun x=>decide (x∈(dO R (L.getD k 0)).dQ)))):=by
 have e:L.getD k 0=L[k]:=by simp[List.getD,hk]
 unfold kR;rw[aQ hk,List.all_append,e];simp
theorem Wx (hk:k<L.length) (h:((dO R (L.getD k 0)).wed&&o.dQ.all (fun x=>decide (x∈(dO R (L.getD k 0)).dQ)))=aC):kR R o L=aC:=by
 rw[kR,List.all_eq_false];exact⟨L.getD k 0,lX hk,by simp only[h];decide⟩
theorem Wy {a: Int×List Int} (hk:k<L.length):best R (L.take (k+1)) a=if (dO R (L.getD k 0)).dV=aB/\(best R (L.take k) a).1<(dO R (L.getD k 0)).dW then ((dO R (L.getD k 0)).dW,(dO R (L.getD k 0)).dU) else best R (L.take k) a:=by
 have e:L.getD k 0=L[k]:=by simp[List.getD,hk]
 unfold best;rw[aQ hk,List.foldl_append,e]
 rfl
def xY (R:List Rw) (L:List Nat) (k:Nat):List Int:=meets R (L.take k)
theorem WA (hk:0<L.length):xY R L 1=(dO R (L.getD 0 0)).got:=by
 cases L with
 | nil=>simp at hk
 | cons x t=>rfl
theorem UF (h0:0<k) (hk:k<L.length):xY R L (k+1)=jc min (xY R L k) (dO R (L.getD k 0)).got:=by
 have e:L.getD k 0=L[k]:=by simp[List.getD,hk]
 cases L with
 | nil=>simp at hk
 | cons x t =>
  obtain⟨q,rfl⟩:∃ q,k=q+1:=⟨k-1,by omega⟩
  unfold xY;rw[List.take_succ_cons,List.take_succ_cons,e];have hq:q<t.length:=by simpa using hk
  rw[aQ hq];simp only[meets,List.foldl_append,List.foldl_cons,List.foldl_nil,List.getElem_cons_succ]
theorem OX {R:List Rw} {n:Nat}:∀ {t:List Nat} {acc:List Int},(acc.length<=8\/acc.length<=n)->(t.foldl (fun acc j=>jc min acc (dO R j).got) acc).length<=8\/(t.foldl (fun acc j=>jc min acc (dO R j).got) acc).length<=n
 | [],acc,h=>h
 | x::t,acc,h=>OX (t:=t) (.inl (Vp _ _ _))
theorem WB {x: Nat} {t: List Nat} (h:∀ j∈x::t,(dO R j).got.length=n):(meets R (x::t)).length<=8\/(meets R (x::t)).length<=n:=OX (.inr (by rw[h x bF];exact cO _))
theorem WC:xY R L L.length=meets R L:=by rw[xY,List.take_length]
end Go.Proofs.YtafimeakbdmkjaaGreat