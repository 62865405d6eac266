/-
  Texts in one.
-/
import Derived.Test.YtafimeakbdmkjaaGreatXaj
import Derived.Test.YtafimeakbdmkjaaGreatXad
import Derived.Test.YtafimeakbdmkjaaGreatXaa
namespace Go.Proofs.YtafimeakbdmkjaaGreat
open Bool renaming and_eq_true->bI,false->aC,true->aB
open Go renaming Addr->dH,Calls->dF,Value->aJ,World->aI,bodyPost_ret->bY,maxLen->dD,wpQuiet_nil->dh
open Go.Ending renaming returned->aK
open Go.IntKind renaming i64->aA
open Go.Obj renaming cells->aH
open Go.Proofs.Tryz renaming prog->dA,underlying41->bG
open Go.RowKit renaming Hid->aG,intOf->dG
open Go.RowKit.Below renaming refl->dw
open Go.Value renaming bool->aF,int->ah,int->dB,pointer->aO,slice->aj
open Go.World renaming block_lt_of_cell?->aX
open List renaming all_eq_true->bJ,length_append->bD,length_set->bQ,take_of_length_le->aY,take_succ_eq_append_getElem->aQ
open Nat renaming le_refl->cO,le_trans->bZ,zero_le->cZ
open Option renaming none->ak,some->au
open Option.some renaming inj->bT
set_option linter.unusedVariables false
set_option linter.unusedSimpArgs false
open Go.RowKit Go.Sort
set_option maxRecDepth 100000
set_option maxHeartbeats 12800000
variable {cs:List Int}
theorem WE (B o:Nat) (m:Mb) (i n:Nat) (L:List Nat) (la:Option dH) (lc:Nat) (fl fp:Fp) (w:aI) (h:iP w B o (jY m) fp) (ok:iO m i n) (hw:(dO m.rows i).wed=aB) (hl:dY.ow w (gJ (lN L)) (aj la L.length lc) fl) (hfl:∀ b,fl b->¬ fp b/\b≠B) (hL:∀ k∈L,k<n) (hne:0<L.length) (hLn:L.length<=n) :
  dF dA 119 #[aO (au ⟨B,o,ak⟩),aj la L.length lc] w fun e w'=>e=aK (.tuple #[])/\Mk w w' B o { m with rows:=m.rows.set i (lead m.rows i (dO m.rows i) L) } fp:=by
 have gq:=iD;have hil:i<m.rows.length:=by rw[ok.len];exact ok.lt
 obtain⟨g,off,c,M0⟩:=Mw.start h (by omega)
 obtain⟨c0,c1,c4⟩:=M0.id';have c2:=M0.rws;rw[ok.hid] at c0;have i0:(0:Int)<=i:=by omega
 have i1:(i:Int)<m.rows.length:=by omega
 have p0:∀ q:Bk w,q.w.cell? ⟨B,o,ak⟩=_:=fun q=>gy q.h c0
 have p2:∀ q:Bk w,q.w.cell? ⟨B,o+2,ak⟩=_:=fun q=>gy q.h c2
 have HC2:=dP M0.rws;have kQ:=dP M0;have hr:=ok.ok i ok.lt;have jq:=hr.n5;have HNO:aG (({ m with rows:=m.rows.set i (dO m.rows i) }:Mb)=m):=by rw[aG,oP (iV hil)]
 have Gh:aG (∀ X,Below w.heap.size w X->Vec X la (lN L).length (lN L)):=fun X hX=>lW (by rw[jl];exact dY.ig hl hX) (wo hL (by omega))
 have HL:=dP hL;clear c0 c1 c4 c2 M0 h hl hL;go_enter Tryz.func119,Tryz.ntmps119
 go_wp2_with fail
 refine jg ?_;repeat (go_big_quiet_step ((first|rfl)))
 refine dh (iL fun wE eG=>?_)
 clear p0 p2;have fU:=dP (kQ.out.step eG);have HB1:=dP eG;obtain⟨c0,c1,c4⟩:=fU.out.id';rw[ok.hid] at c0;obtain⟨Ao,⟨⟨o0,o1,o2,o3⟩,o4,o5,o6,o7⟩,_⟩:=fU.out.row ok.fit hil;have T:∀ {x v},wE.cell? x=au v->∀ q:Bk wE,q.w.cell? x=au v:=fun h q=>gy q.h h
 have p0:=T c0;have OM:=T o5;have po6:=T o6;obtain⟨d,hd⟩:∃ d:Bool,aG (d=decide ((dO m.rows i).dV=aB/\(i:Int)<=(dO m.rows i).dW)):=⟨_,rfl⟩
 have Oz:aG (lead m.rows i (dO m.rows i) L=if d=aB then dO m.rows i else if kR m.rows (dO m.rows i) L=aB then { dO m.rows i with dV:=aB,dW:=(i:Int),dU:=endOf m.rows L } else dO m.rows i):=by
  rw[aG,lead,hd.out];simp only[decide_eq_true_eq]
 clear c0 c1 c4 o0 o1 o2 o3 o4 o5 o6 o7 T eG kQ;go_upto_region 1 with fail
 go_cut [33] from 19 to 33 (fun v X=>v=aF d/\Below wE.heap.size wE X)
 case first =>
  by_cases a1:(dO m.rows i).dV=aB;rotate_left
  ·have a1':(dO m.rows i).dV=aC:=by simpa using a1
   have hd0:aG (d=aC):=by rw[aG,hd.out];simp[a1']
   rw[a1'] at OM;clear a1 a1';refine jg ?_;repeat (go_big_quiet_step ((first|rfl)))
   refine dh (iL fun wE eG=>?_)
   try go_wp2_with fail
   go_meet
   case rel=>exact⟨by rw[hd0.out],eG⟩
  rw[a1] at OM;by_cases a5:(i:Int)<=(dO m.rows i).dW
  ·have hd0:aG (d=aB):=by rw[aG,hd.out];simp[a1,a5]
   have g5:decide ((i:Int)<=(dO m.rows i).dW)=aB:=by simpa using a5
   clear a1;refine jg ?_;repeat (go_big_quiet_step ((first|rfl)))
   refine dh (iL fun wE eG=>?_)
   try go_wp2_with fail
   go_meet
   case rel=>exact⟨by rw[hd0.out],eG⟩
  have hd0:aG (d=aC):=by rw[aG,hd.out];simp;intro _;omega
  have g5:decide ((i:Int)<=(dO m.rows i).dW)=aC:=by simpa using a5
  clear a1;refine jg ?_;repeat (go_big_quiet_step ((first|rfl)))
  refine dh (iL fun wE eG=>?_)
  try go_wp2_with fail
  go_meet
  case rel=>exact⟨by rw[hd0.out],eG⟩
 case rest =>
  obtain⟨rfl,hBc⟩:=hcut;clear p0 OM po6;have jk:=dP (fU.out.step hBc);have HB2:=dP (eU HB1.out hBc);clear hBc;generalize wc=V at *
  cases d with
  | true =>
   have HE:aG (lead m.rows i (dO m.rows i) L=dO m.rows i):=by rw[aG,Oz.out];rfl
   go_wp2
   (try simp only[Exit.inBlock,Exit.then])
   refine bY (results_none rfl _ _ _) rfl ?_;rw[HE.out,HNO.out];exact⟨rfl,jk.out.mk' HC2.out rfl⟩
  | false =>
   have HE:aG (lead m.rows i (dO m.rows i) L=if kR m.rows (dO m.rows i) L=aB then { dO m.rows i with dV:=aB,dW:=(i:Int),dU:=endOf m.rows L } else dO m.rows i):=by rw[aG,Oz.out];rfl
   have hba:=dX V (aH #[] 2);have lC:=dP (jk.out.step hba);have HB3:=dP (eU HB2.out hba)
   have hgV:g<V.heap.size:=by
    obtain⟨gU,hp,_⟩:=jk.out.iw.next;obtain⟨g',off',c',f,h1,_,hfg,_⟩:=hp.el (F:=jo) jU (by omega) (j:=2) (L:=m.rows) rfl (iV hil)
    have e:=bT (h1.symm.trans jk.out.rws)
    cases e
    exact hp.flt _ hfg
   clear hba Oz;go_wp2_with fail
   generalize OY:V.alloc (aH #[] 2)=V3 at *;clear OY
   go_loopw [5,6,7] (fun b tr v wr=>∃ (k:Nat) (x:Int) (ta:Option dH) (tc:Nat) (T:List Int),k<=L.length/\v=ah aA (k:Int)/\b=ah aA x/\tr=aj ta T.length tc/\aG (best m.rows (L.take k) (-1,[])=(x,T))/\aG (kR m.rows (dO m.rows i) (L.take k)=aB)/\tV wr ta T g/\Below w.heap.size w wr/\Mw w wr B o m fp g off c) (fun _ _ v _=>L.length-(dG v).toNat)
   case atStart=>exact⟨0,-1,some ⟨V.heap.size,0,none⟩,0,[],cZ _,rfl,rfl,rfl,rfl,rfl,⟨⟨rfl,fun x hx=>absurd hx List.not_mem_nil,.inl rfl⟩,.inl rfl⟩,HB3.out,lC.out⟩
   case round =>
    obtain⟨k,x,ta,tc,T,hk,rfl,rfl,rfl,Gi,hLo,hV,hBw,M⟩:=hrel;by_cases hlt:k<L.length
    ·have qI:L.getD k 0<n:=HL.out _ (lX hlt)
     have uG:L.getD k 0<m.rows.length:=by rw[ok.len];exact qI
     have rQ:=Gh.out wr hBw;rcases rQ.2.2 with hz|⟨lb,lo,hla,hlc⟩
     ·rw[jl] at hz;omega
     have hlk:=hlc k (by rw[jl];exact hlt)
     rw[wQ hlt] at hlk;obtain⟨AJ,zS,RZ,Si⟩:=M.OW ok.fit uG;have HBt:aG (best m.rows (L.take (k+1)) (-1,[])=if (dO m.rows (L.getD k 0)).dV=aB/\x<(dO m.rows (L.getD k 0)).dW then ((dO m.rows (L.getD k 0)).dW,(dO m.rows (L.getD k 0)).dU) else (x,T)):=by rw[aG,Wy hlt,Gi.out]
     have HLt:aG (kR m.rows (dO m.rows i) (L.take (k+1))=((dO m.rows (L.getD k 0)).wed&&(dO m.rows i).dQ.all (fun x=>decide (x∈(dO m.rows (L.getD k 0)).dQ)))):=by rw[aG,QO hlt,hLo.out];rfl
     have aI7:aG (((dO m.rows (L.getD k 0)).wed&&(dO m.rows i).dQ.all (fun x=>decide (x∈(dO m.rows (L.getD k 0)).dQ)))=aC->kR m.rows (dO m.rows i) L=aC):=fun h=>Wx hlt h
     have aw8:=ok.ok _ qI;generalize L.getD k 0=J at *;obtain⟨Ao,⟨⟨o0,o1,o2,o3⟩,o4,o5,o6,o7⟩,UG⟩:=M.row ok.fit hil;have k1:(k:Int)<L.length:=by omega
     have k0:(0:Int)<=k:=by omega
     have J0:(0:Int)<=J:=by omega
     have J1:(J:Int)<m.rows.length:=by omega
     have nK:=M.rws;obtain⟨⟨⟨d0,d1,d2,d3⟩,d4,d5,d6,d7⟩,zT⟩:=zS;have Hu:=dP zT;have UH:=dP UG;have HO3:=dP o3;have HM:=dP M;have pU:=dP hBw;have HV:=dP hV;have HVm:=dP Si;generalize hrr:dO m.rows J=r at *;have HRR:=dP hrr
     have KS:∀ X,Below wr.heap.size wr X->(X.cell? ⟨B,o+2,ak⟩=au (aj (au ⟨g,off,ak⟩) m.rows.length c)/\X.cell? ⟨lb,lo+k,ak⟩=au (ah aA (J:Int))/\X.cell? ⟨g,off+J*8,ak⟩=au (ah aA r.ver)/\X.cell? ⟨g,off+J*8+1,ak⟩=au (aj AJ.ta r.txt.length AJ.tc)/\X.cell? ⟨g,off+J*8+2,ak⟩=au (aj AJ.ga r.got.length AJ.gc)/\X.cell? ⟨g,off+J*8+3,ak⟩=au (aj AJ.sa r.dQ.length AJ.sc)/\X.cell? ⟨g,off+J*8+4,ak⟩=au (aF r.wed)/\X.cell? ⟨g,off+J*8+5,ak⟩=au (aF r.dV)/\X.cell? ⟨g,off+J*8+6,ak⟩=au (ah aA r.dW)/\X.cell? ⟨g,off+J*8+7,ak⟩=au (aj AJ.ma r.dU.length AJ.mc)):=fun X hX=>by
      have t:∀ {x v},wr.cell? x=au v->X.cell? x=au v:=fun h=>gy hX h
      exact⟨t nK,t hlk,t d0,t d1,t d2,t d3,t d4,t d5,t d6,t d7⟩
     have hbd:=(Same.drewN wr 1).below;clear hrr M zT UG hlc hlk nK d0 d1 d2 d3 d4 d5 d6 d7 o0 o1 o2 o3 o4 o5 o6 o7 hV Si RZ hBw rQ;subst hla;go_wp2_with fail
     refine lU (S:=fun X:aI=>X.cell? ⟨B,o+2,ak⟩=au (aj (au ⟨g,off,ak⟩) m.rows.length c)/\X.cell? ⟨lb,lo+k,ak⟩=au (ah aA (J:Int))/\X.cell? ⟨g,off+J*8,ak⟩=au (ah aA r.ver)/\X.cell? ⟨g,off+J*8+1,ak⟩=au (aj AJ.ta r.txt.length AJ.tc)/\X.cell? ⟨g,off+J*8+2,ak⟩=au (aj AJ.ga r.got.length AJ.gc)/\X.cell? ⟨g,off+J*8+3,ak⟩=au (aj AJ.sa r.dQ.length AJ.sc)/\X.cell? ⟨g,off+J*8+4,ak⟩=au (aF r.wed)/\X.cell? ⟨g,off+J*8+5,ak⟩=au (aF r.dV)/\X.cell? ⟨g,off+J*8+6,ak⟩=au (ah aA r.dW)/\X.cell? ⟨g,off+J*8+7,ak⟩=au (aj AJ.ma r.dU.length AJ.mc)) 11 gq ((KS _ hbd)) fun hHeld=>?_
     refine fC (i:=0) rfl hHeld ?_;refine fC (i:=1) rfl hHeld ?_;refine fC (i:=2) rfl hHeld ?_;refine fC (i:=3) rfl hHeld ?_;refine fC (i:=4) rfl hHeld ?_;refine fC (i:=5) rfl hHeld ?_;refine fC (i:=6) rfl hHeld ?_;refine fC (i:=7) rfl hHeld ?_;refine fC (i:=8) rfl hHeld ?_;refine fC (i:=9) rfl hHeld ?_;refine iJ (i:=10) rfl fun K hK=>?_
     go_simp;have hb2:Below wr.heap.size wr (wr.drew.alloc (aH #[ah aA 0,aj ak 0 0,aj ak 0 0,aj ak 0 0,aF aC,aF aC,ah aA 0,aj ak 0 0] 44)):=hbd.trans ((dX wr.drew _).mono hbd.size);refine hK.out _ _ (KS _ hb2) (fun eP=>?_)
     clear hK hHeld;have hHeld:=eP;try simp only[iC]
     refine oV rfl fun K hK=>?_
     go_simp;refine hK.out _ _ ?_;have hb5:Below wr.heap.size wr (wr.alloc (aH #[ah aA r.ver,aj AJ.ta r.txt.length AJ.tc,aj AJ.ga r.got.length AJ.gc,aj AJ.sa r.dQ.length AJ.sc,aF r.wed,aF r.dV,ah aA r.dW,aj AJ.ma r.dU.length AJ.mc] 44)).drew:=(dX wr _).trans ((Same.drewN _ 1).below.mono (dX wr _).size);have hx5:Bx (wr.alloc (aH #[ah aA r.ver,aj AJ.ta r.txt.length AJ.tc,aj AJ.ga r.got.length AJ.gc,aj AJ.sa r.dQ.length AJ.sc,aF r.wed,aF r.dV,ah aA r.dW,aj AJ.ma r.dU.length AJ.mc] 44)).drew wr.heap.size 44 #[ah aA r.ver,aj AJ.ta r.txt.length AJ.tc,aj AJ.ga r.got.length AJ.gc,aj AJ.sa r.dQ.length AJ.sc,aF r.wed,aF r.dV,ah aA r.dW,aj AJ.ma r.dU.length AJ.mc]:=Bx.new wr _ _;generalize (wr.alloc (aH #[ah aA r.ver,aj AJ.ta r.txt.length AJ.tc,aj AJ.ga r.got.length AJ.gc,aj AJ.sa r.dQ.length AJ.sc,aF r.wed,aF r.dV,ah aA r.dW,aj AJ.ma r.dU.length AJ.mc] 44)).drew=W5 at *;clear hHeld KS hbd hb2 hK;have Gg:aG (Bx W5 wr.heap.size 44 #[ah aA r.ver,aj AJ.ta r.txt.length AJ.tc,aj AJ.ga r.got.length AJ.gc,aj AJ.sa r.dQ.length AJ.sc,aF r.wed,aF r.dV,ah aA r.dW,aj AJ.ma r.dU.length AJ.mc]):=hx5;have oM:aG (Below wr.heap.size wr W5):=hb5;obtain⟨⟨x0,x1,x2,x3⟩,x4,x5,x6,x7⟩:=Bx.r8 hx5;have T5:∀ {x v},W5.cell? x=au v->∀ q:Bk W5,q.w.cell? x=au v:=fun h q=>gy q.h h
     have yI:=T5 x3;have xk:=T5 x4;have po3:=T5 (gy hb5 HO3.out)
     have C2:∀ q:Bk W5,dF dA 151 #[aj AJ.sa r.dQ.length AJ.sc,aj Ao.sa (dO m.rows i).dQ.length Ao.sc] q.w fun e w'=>e=aK (aF ((dO m.rows i).dQ.all (fun x=>decide (x∈r.dQ))))/\Below q.w.heap.size q.w w':=fun q=>by
      have hq:=eU oM.out q.h;exact (YP AJ.sa Ao.sa AJ.sc Ao.sc r.dQ (dO m.rows i).dQ q.w ((Hu.out.below hq).dQ) ((UH.out.below hq).dQ) Hu.out.ms UH.out.ms).mono (fun e w' h=>⟨h.1,by rw[h.2];exact dw _ _⟩)
     clear x0 x1 x2 x3 x4 x5 x6 x7 hx5 hb5 T5;obtain⟨dd,hdd⟩:∃ dd:Bool,aG (dd=(r.wed&&(dO m.rows i).dQ.all (fun x=>decide (x∈r.dQ)))):=⟨_,rfl⟩
     go_upto_region 8 with fail
     go_cut [63] from 51 to 63 (fun v X=>v=aF (!dd)/\Below W5.heap.size W5 X)
     case first =>
      rcases Bool.eq_false_or_eq_true r.wed with a1|a1
      ·rw[a1] at xk hdd
       clear a1;generalize (dO m.rows i).dQ.all (fun x=>decide (x∈r.dQ))=al at *
       cases al
       ·have hd0:aG (dd=aC):=hdd.out
        refine jg ?_;repeat (go_big_quiet_step ((first|(go_at_call 151;exact eY _ (C2 _))|rfl)))
        refine dh (iL fun wE eG=>?_)
        try go_wp2_with fail
        go_meet
        case rel=>exact⟨by rw[hd0.out];rfl,eG⟩
       ·have hd0:aG (dd=aB):=hdd.out
        refine jg ?_;repeat (go_big_quiet_step ((first|(go_at_call 151;exact eY _ (C2 _))|rfl)))
        refine dh (iL fun wE eG=>?_)
        try go_wp2_with fail
        go_meet
        case rel=>exact⟨by rw[hd0.out];rfl,eG⟩
      ·have hd0:aG (dd=aC):=by rw[aG,hdd.out,a1];rfl
       rw[a1] at xk;clear a1;refine jg ?_;repeat (go_big_quiet_step ((first|(go_at_call 151;exact eY _ (C2 _))|rfl)))
       refine dh (iL fun wE eG=>?_)
       try go_wp2_with fail
       go_meet
       case rel=>exact⟨by rw[hd0.out];rfl,eG⟩
     case rest =>
      obtain⟨rfl,hBc⟩:=hcut;have Ji:=eU oM.out hBc;have jW:=dP (HM.out.step Ji);have uS:=dP (eU pU.out Ji);have HV6:=dP (HV.out.below Ji);have aI8:=dP (HVm.out.below Ji);obtain⟨⟨x0,x1,x2,x3⟩,x4,x5,x6,x7⟩:=Bx.r8 (Gg.out.below hBc);clear yI xk po3 C2 hBc Ji
      cases dd with
      | false =>
       have HZ:aG (lead m.rows i (dO m.rows i) L=dO m.rows i):=by rw[aG,HE.out,aI7.out hdd.out.symm];rfl
       go_wp2
       (try simp only[Exit.inBlock,Exit.then])
       refine bY (results_none rfl _ _ _) rfl ?_;rw[HZ.out,HNO.out];exact⟨rfl,jW.out.mk' HC2.out rfl⟩
      | true =>
       have Zz:aG (kR m.rows (dO m.rows i) (L.take (k+1))=aB):=by rw[aG,HLt.out];exact hdd.out.symm
       by_cases a1:r.dV=aB;rotate_left
       ·have a1':r.dV=aC:=by simpa using a1
        have OZ:aG (best m.rows (L.take (k+1)) (-1,[])=(x,T)):=by rw[aG,HBt.out,if_neg (fun h=>a1 h.1)]
        rw[a1'] at x5;clear a1 a1';go_wp2;go_roundw
        case rel=>exact⟨k+1,x,ta,tc,T,by omega,by go_num,rfl,rfl,OZ,Zz,HV6.out,uS.out,jW.out⟩
        case measure=>simp[dG];omega
       by_cases a2:x<r.dW
       ·have OZ:aG (best m.rows (L.take (k+1)) (-1,[])=(r.dW,r.dU)):=by rw[aG,HBt.out,if_pos ⟨a1,a2⟩]
        rw[a1] at x5;clear a1;go_wp2;go_roundw
        case rel=>exact⟨k+1,r.dW,AJ.ma,AJ.mc,r.dU,by omega,by go_num,rfl,rfl,OZ,Zz,aI8.out,uS.out,jW.out⟩
        case measure=>simp[dG];omega
       ·have OZ:aG (best m.rows (L.take (k+1)) (-1,[])=(x,T)):=by rw[aG,HBt.out,if_neg (fun h=>a2 h.2)]
        rw[a1] at x5;clear a1;go_wp2;go_roundw
        case rel=>exact⟨k+1,x,ta,tc,T,by omega,by go_num,rfl,rfl,OZ,Zz,HV6.out,uS.out,jW.out⟩
        case measure=>simp[dG];omega
    ·have k1:¬ ((k:Int)<L.length):=by omega
     have WG:aG (best m.rows L (-1,[])=(x,T)):=by rw[aG,<- Gi.out,aY (by omega)]
     have LC:aG (kR m.rows (dO m.rows i) L=aB):=by rw[aG,<- hLo.out,aY (by omega)]
     have HM:=dP M;have pU:=dP hBw;have HV:=dP hV;clear M hBw hV Gi hLo;by_cases hx0:x<0;rotate_left
     ·have Gl:aG (T=endOf m.rows L):=by rw[aG,endOf,WG.out,if_neg hx0]
      have HT:=dP Gl;have DW:=dP HM.out;have HVx:=dP HV.out;have HZ:aG (lead m.rows i (dO m.rows i) L={ dO m.rows i with dV:=aB,dW:=(i:Int),dU:=T }):=by rw[aG,HE.out,LC.out,if_pos rfl,<- HT.out]
      have hTl:T.length<=1000000:=by
       have e:=(Dt (R:=m.rows) (i:=i) (o:=dO m.rows i) (L:=L) hr hw ok.lt (by intro e;rw[e] at hne;simp at hne) (fun k hk=>ok.ok k (HL.out k hk))).1.ml
       rw[HZ.out] at e;have e2:T.length<=n:=e;omega
      obtain⟨q1,q2,M8⟩:=DW.out.put hil (j:=5) (x:=aF (dO m.rows i).dV) (y:=aF aB) (r':={ dO m.rows i with dV:=aB }) rfl rfl
      have WH:aG (tV (wr.setCell ⟨g,off+i*8+5,ak⟩ (aF aB)) ta T g):=HVx.out.set _ _;have oZ:aG (Mw w (wr.setCell ⟨g,off+i*8+5,ak⟩ (aF aB)) B o { m with rows:=m.rows.set i { dO m.rows i with dV:=aB } } fp g off c):=M8
      clear M8;go_upto_region 18 with fail
      go_upto_region 19 with fail
      generalize wr.setCell ⟨g,off+i*8+5,ak⟩ (aF aB)=V1 at *;clear q1 q2;generalize hr1:({ dO m.rows i with dV:=aB }:Rw)=r1 at *
      have hs1:dO (m.rows.set i r1) i=r1:=iY hil;have yQ:i<(m.rows.set i r1).length:=by rw[bQ];exact hil
      obtain⟨q1,q2,M9⟩:=oZ.out.put yQ (j:=6) (x:=ah aA r1.dW) (y:=ah aA (i:Int)) (r':={ r1 with dW:=(i:Int) }) (by rw[hs1];rfl) (by rw[hs1];rfl)
      rw[List.set_set] at M9;have y0:=oZ.out.id'.1;simp only at y0
      rw[ok.hid] at y0;have HV9:aG (tV (V1.setCell ⟨g,off+i*8+6,ak⟩ (ah aA (i:Int))) ta T g):=WH.out.set _ _;have jL:aG (Mw w (V1.setCell ⟨g,off+i*8+6,ak⟩ (ah aA (i:Int))) B o { m with rows:=m.rows.set i { r1 with dW:=(i:Int) } } fp g off c):=M9
      have HR1:aG (({ dO m.rows i with dV:=aB }:Rw)=r1):=hr1
      clear M9 hs1 hr1;go_upto_region 20 with fail
      generalize V1.setCell ⟨g,off+i*8+6,ak⟩ (ah aA (i:Int))=V2 at *;clear q1 q2 y0;generalize hr2:({ r1 with dW:=(i:Int) }:Rw)=r2 at *
      have hs2:dO (m.rows.set i r2) i=r2:=iY hil;have tH:i<(m.rows.set i r2).length:=by rw[bQ];exact hil
      have hA:=wS (c:=tc) HV9.out.vec hTl;obtain⟨u,f,hu,hfz,how,xJ,hset⟩:=jL.out.at tH (j:=7) (cl:=gJ r2.dU) (by simp only[hs2];rfl)
      have HS:aG (∀ (X1:aI) (u':aJ) (f':Fp),Below V2.heap.size V2 X1->dY.ow X1 (gJ T) u' f'->(∀ b,f' b->V2.heap.size<=b)->X1.cell? ⟨g,off+i*8+7,ak⟩=au u/\X1.frozen? ⟨g,off+i*8+7,ak⟩=aC/\Mw w (X1.setCell ⟨g,off+i*8+7,ak⟩ u') B o { m with rows:=m.rows.set i { r2 with dU:=T } } fp g off c):=fun X1 u' f' h1 h2 h3=>by
       have:=hset X1 (gJ T) u' f' { r2 with dU:=T } (by simp only[hs2];rfl) (eX.of_below h1) h2 (fun b hb=>.inr (h3 b hb))
       simp only[List.set_set] at this;exact⟨this.1,this.2.1,this.2.2.1⟩
      have HFin:aG (({ r2 with dU:=T }:Rw)=lead m.rows i (dO m.rows i) L):=by rw[aG,HZ.out,<- hr2,<- HR1.out]
      clear hset how xJ hu hfz hs2 hr2;go_wp2_with (at_builtin;refine fG (by rfl) _ _ _ _ (by rfl) _ _ (by rfl) (by rfl) hA ⟨rfl,rfl,rfl,rfl⟩ ?_;rintro v1 w1 ⟨a1,e1,f1,rfl,q1,q2,q3⟩;obtain⟨z1,z2,M10⟩:=HS.out w1 _ f1 q3 q1 q2;have wU:aG (Mw w (w1.setCell ⟨g,off+i*8+7,ak⟩ (aj a1 T.length e1)) B o { m with rows:=m.rows.set i { r2 with dU:=T } } fp g off c):=M10;clear M10 q1 q2 q3 hA HS)
      go_end0;rw[<- HFin.out];exact⟨rfl,wU.out.mk' HC2.out (mO _)⟩
     ·have Gl:aG (endOf m.rows L=meets m.rows L):=by rw[aG,endOf,WG.out,if_pos hx0]
      have qI:=HL.out _ (lX hne);have uG:L.getD 0 0<m.rows.length:=by rw[ok.len];exact qI
      have rQ:=Gh.out wr pU.out;rcases rQ.2.2 with hz|⟨lb,lo,hla,hlc⟩
      ·rw[jl] at hz;omega
      have hlk:=hlc 0 (by rw[jl];exact hne)
      rw[wQ hne] at hlk;obtain⟨AJ,zS,RZ,Si⟩:=HM.out.OW ok.fit uG;have HMt:aG (xY m.rows L 1=(dO m.rows (L.getD 0 0)).got):=WA hne;have n1:(0:Int)<L.length:=by omega
      generalize L.getD 0 0=J at *;have J0:(0:Int)<=J:=by omega
      have J1:(J:Int)<m.rows.length:=by omega
      obtain⟨⟨⟨d0,d1,d2,d3⟩,d4,d5,d6,d7⟩,zT⟩:=zS;have nK:=HM.out.rws;have T5:∀ {x v},wr.cell? x=au v->∀ q:Bk wr,q.w.cell? x=au v:=fun h q=>gy q.h h
      have p2:=T5 nK;have pl:=T5 hlk;have pg:=T5 d2;simp only[Nat.add_zero] at pl;have Sj:=dP RZ;subst hla;clear d0 d1 d2 d3 d4 d5 d6 d7 zT nK hlk hlc RZ Si T5 rQ;go_wp2_with fail
      refine jg ?_;repeat (go_big_quiet_step ((first|rfl)))
      refine dh (iL fun wE eG=>?_)
      have iM:=dP (HM.out.step eG);have oM:=dP (eU pU.out eG);have HV5:=dP (Sj.out.below eG);have hgw:g<w.heap.size\/True:=.inr trivial;clear p2 pl pg eG hgw;generalize (dO m.rows J).got=T1 at *;go_wp2_with fail
      go_loopw [6,9] (fun tr v wx=>∃ (k:Nat) (ta:Option dH) (tc:Nat) (T:List Int),1<=k/\k<=L.length/\v=ah aA (k:Int)/\tr=aj ta T.length tc/\aG (xY m.rows L k=T)/\tV wx ta T g/\Below w.heap.size w wx/\Mw w wx B o m fp g off c) (fun _ v _=>L.length-(dG v).toNat)
      case atStart=>exact⟨1,AJ.ga,AJ.gc,T1,cO _,hne,rfl,rfl,HMt,HV5.out,oM.out,iM.out⟩
      case round =>
       obtain⟨k,ta,tc,T,hk1,hk,rfl,rfl,hMe,hV,hBw,M⟩:=hrel;by_cases hlt:k<L.length
       ·have qI:L.getD k 0<n:=HL.out _ (lX hlt)
        have uG:L.getD k 0<m.rows.length:=by rw[ok.len];exact qI
        have rQ:=Gh.out wr hBw;rcases rQ.2.2 with hz|⟨lb2,lo2,hla,hlc⟩
        ·rw[jl] at hz;omega
        have hlk:=hlc k (by rw[jl];exact hlt)
        rw[wQ hlt] at hlk;obtain⟨Sl,zS,RZ,Si⟩:=M.OW ok.fit uG;have RJ:aG (xY m.rows L (k+1)=jc min T (dO m.rows (L.getD k 0)).got):=by rw[aG,UF (by omega) hlt,hMe.out]
        have aw8:=ok.ok _ qI;generalize L.getD k 0=J2 at *;have k1:(k:Int)<L.length:=by omega
        have k0:(0:Int)<=k:=by omega
        have J20:(0:Int)<=J2:=by omega
        have J21:(J2:Int)<m.rows.length:=by omega
        have nK:=M.rws;obtain⟨⟨⟨d0,d1,d2,d3⟩,d4,d5,d6,d7⟩,zT⟩:=zS
        cases hla
        have hbd:=(Same.drewN wr 1).below
        have hTl:T.length<=dD:=by
         have:T.length<=8\/T.length<=n:=by
          rw[<- hMe.out];unfold xY
          cases et:L.take k with
          | nil=>exact .inl (by simp[meets])
          | cons x t =>
           refine WB (n:=n) (fun j hj=>?_)
           exact (ok.ok j (HL.out j (List.mem_of_mem_take (by rw[et];exact hj)))).gl
         unfold dD;omega
        have hM:=Nv ta Sl.ga T.length tc (dO m.rows J2).got.length Sl.gc T (dO m.rows J2).got wr.drew (hV.vec.below hbd (cO _)) (zT.got.below hbd (cO _)) hTl zT.mg;have pV:=dP M;have LD:=dP hBw
        have KS:∀ X,Below wr.heap.size wr X->(X.cell? ⟨B,o+2,ak⟩=au (aj (au ⟨g,off,ak⟩) m.rows.length c)/\X.cell? ⟨lb,lo+k,ak⟩=au (ah aA (J2:Int))/\X.cell? ⟨g,off+J2*8+2,ak⟩=au (aj Sl.ga (dO m.rows J2).got.length Sl.gc)):=fun X hX=>by
         have t:∀ {x v},wr.cell? x=au v->X.cell? x=au v:=fun h=>gy hX h
         exact⟨t nK,t hlk,t d2⟩
        have aN6:=aX _ _ d2;generalize (dO m.rows J2).got=T2 at *;clear d0 d1 d2 d3 d4 d5 d6 d7 zT nK hlk hlc RZ Si rQ M hBw hV hMe;go_wp2_with fail
        refine lU (S:=fun X:aI=>X.cell? ⟨B,o+2,ak⟩=au (aj (au ⟨g,off,ak⟩) m.rows.length c)/\X.cell? ⟨lb,lo+k,ak⟩=au (ah aA (J2:Int))/\X.cell? ⟨g,off+J2*8+2,ak⟩=au (aj Sl.ga T2.length Sl.gc)) 14 gq ((KS _ hbd)) fun hHeld=>?_
        refine ni (i:=0) rfl hHeld ?_;refine ni (i:=1) rfl hHeld ?_;refine ni (i:=2) rfl hHeld ?_;refine ni (i:=3) rfl hHeld ?_;refine ni (i:=4) rfl hHeld ?_;refine ni (i:=5) rfl hHeld ?_;refine ni (i:=6) rfl hHeld ?_;refine ni (i:=7) rfl hHeld ?_;refine ni (i:=8) rfl hHeld ?_;refine ni (i:=9) rfl hHeld ?_;refine ni (i:=10) rfl hHeld ?_;refine ni (i:=11) rfl hHeld ?_;refine iJ (i:=12) rfl fun K hK=>?_
        go_simp
        go_at_call 152
        refine hM.mono ?_;rintro e w1 ⟨g1,cc1,rfl,hg1,I7,hb1⟩;have hb2:Below wr.heap.size wr w1:=eU hbd hb1;have oZ:aG (Mw w w1 B o m fp g off c):=pV.out.step hb2;have HB8:aG (Below w.heap.size w w1):=eU LD.out hb2;have hg1':wr.heap.size<=g1:=hg1;have WH:aG (tV w1 (au ⟨g1,0,ak⟩) (jc min T T2) g):=⟨I7.vec (Ug min (fun x y=>by omega) T T2),.inr (fun x hx=>by cases hx;show g1≠g;omega)⟩
        refine hK.out _ _ (KS _ hb2) (fun eP=>?_)
        clear hK hHeld;have hHeld:=eP;try simp only[iC]
        refine fE (i:=13) rfl ?_;refine uO (by kernel_rfl) ?_
        clear hM KS hbd hb2 hb1 I7 hg1 hHeld;generalize jc min T T2=T3 at *;go_wp2;go_roundw
        case rel=>exact⟨k+1,_,_,T3,by omega,by omega,by go_num,rfl,RJ,WH.out,HB8.out,oZ.out⟩
        case measure=>simp[dG];omega
       ·have k1:¬ ((k:Int)<L.length):=by omega
        have HT:aG (T=endOf m.rows L):=by rw[aG,Gl.out,<- WC,<- hMe.out,show k=L.length by omega]
        have pV:=dP M;have LD:=dP hBw;have HV7:=dP hV;clear M hBw hV hMe;have DW:=dP pV.out;have HVx:=dP HV7.out;have HZ:aG (lead m.rows i (dO m.rows i) L={ dO m.rows i with dV:=aB,dW:=(i:Int),dU:=T }):=by rw[aG,HE.out,LC.out,if_pos rfl,<- HT.out]
        have hTl:T.length<=1000000:=by
         have e:=(Dt (R:=m.rows) (i:=i) (o:=dO m.rows i) (L:=L) hr hw ok.lt (by intro e;rw[e] at hne;simp at hne) (fun k hk=>ok.ok k (HL.out k hk))).1.ml
         rw[HZ.out] at e;have e2:T.length<=n:=e;omega
        obtain⟨q1,q2,M8⟩:=DW.out.put hil (j:=5) (x:=aF (dO m.rows i).dV) (y:=aF aB) (r':={ dO m.rows i with dV:=aB }) rfl rfl
        have WH:aG (tV (wr.setCell ⟨g,off+i*8+5,ak⟩ (aF aB)) ta T g):=HVx.out.set _ _;have oZ:aG (Mw w (wr.setCell ⟨g,off+i*8+5,ak⟩ (aF aB)) B o { m with rows:=m.rows.set i { dO m.rows i with dV:=aB } } fp g off c):=M8
        clear M8;go_upto_region 18 with fail
        go_upto_region 19 with fail
        generalize wr.setCell ⟨g,off+i*8+5,ak⟩ (aF aB)=V1 at *;clear q1 q2;generalize hr1:({ dO m.rows i with dV:=aB }:Rw)=r1 at *
        have hs1:dO (m.rows.set i r1) i=r1:=iY hil;have yQ:i<(m.rows.set i r1).length:=by rw[bQ];exact hil
        obtain⟨q1,q2,M9⟩:=oZ.out.put yQ (j:=6) (x:=ah aA r1.dW) (y:=ah aA (i:Int)) (r':={ r1 with dW:=(i:Int) }) (by rw[hs1];rfl) (by rw[hs1];rfl)
        rw[List.set_set] at M9;have y0:=oZ.out.id'.1;simp only at y0
        rw[ok.hid] at y0;have HV9:aG (tV (V1.setCell ⟨g,off+i*8+6,ak⟩ (ah aA (i:Int))) ta T g):=WH.out.set _ _;have jL:aG (Mw w (V1.setCell ⟨g,off+i*8+6,ak⟩ (ah aA (i:Int))) B o { m with rows:=m.rows.set i { r1 with dW:=(i:Int) } } fp g off c):=M9
        have HR1:aG (({ dO m.rows i with dV:=aB }:Rw)=r1):=hr1
        clear M9 hs1 hr1;go_upto_region 20 with fail
        generalize V1.setCell ⟨g,off+i*8+6,ak⟩ (ah aA (i:Int))=V2 at *;clear q1 q2 y0;generalize hr2:({ r1 with dW:=(i:Int) }:Rw)=r2 at *
        have hs2:dO (m.rows.set i r2) i=r2:=iY hil;have tH:i<(m.rows.set i r2).length:=by rw[bQ];exact hil
        have hA:=wS (c:=tc) HV9.out.vec hTl;obtain⟨u,f,hu,hfz,how,xJ,hset⟩:=jL.out.at tH (j:=7) (cl:=gJ r2.dU) (by simp only[hs2];rfl)
        have HS:aG (∀ (X1:aI) (u':aJ) (f':Fp),Below V2.heap.size V2 X1->dY.ow X1 (gJ T) u' f'->(∀ b,f' b->V2.heap.size<=b)->X1.cell? ⟨g,off+i*8+7,ak⟩=au u/\X1.frozen? ⟨g,off+i*8+7,ak⟩=aC/\Mw w (X1.setCell ⟨g,off+i*8+7,ak⟩ u') B o { m with rows:=m.rows.set i { r2 with dU:=T } } fp g off c):=fun X1 u' f' h1 h2 h3=>by
         have:=hset X1 (gJ T) u' f' { r2 with dU:=T } (by simp only[hs2];rfl) (eX.of_below h1) h2 (fun b hb=>.inr (h3 b hb))
         simp only[List.set_set] at this;exact⟨this.1,this.2.1,this.2.2.1⟩
        have HFin:aG (({ r2 with dU:=T }:Rw)=lead m.rows i (dO m.rows i) L):=by rw[aG,HZ.out,<- hr2,<- HR1.out]
        clear hset how xJ hu hfz hs2 hr2;go_wp2_with (at_builtin;refine fG (by rfl) _ _ _ _ (by rfl) _ _ (by rfl) (by rfl) hA ⟨rfl,rfl,rfl,rfl⟩ ?_;rintro v1 w1 ⟨a1,e1,f1,rfl,q1,q2,q3⟩;obtain⟨z1,z2,M10⟩:=HS.out w1 _ f1 q3 q1 q2;have wU:aG (Mw w (w1.setCell ⟨g,off+i*8+7,ak⟩ (aj a1 T.length e1)) B o { m with rows:=m.rows.set i { r2 with dU:=T } } fp g off c):=M10;clear M10 q1 q2 q3 hA HS)
        go_end0;rw[<- HFin.out];exact⟨rfl,wU.out.mk' HC2.out (mO _)⟩
theorem xK (h:rZ cs=aB):okB cs=aB/\∀ i,i<cs.length->0<=el cs i/\el cs i<=100000:=by
 simp only[rZ,bI,bJ,decide_eq_true_eq] at h;exact⟨h.1,fun i hi=>⟨(wu h.1 hi).1,h.2 _ (kK hi)⟩⟩
theorem am0 (h:okB cs=aB) (hc:∀ i,i<cs.length->el cs i<=100000):rZ cs=aB:=by
 simp only[rZ,bI,bJ,decide_eq_true_eq]
 refine⟨h,fun c hm=>?_⟩
 obtain⟨i,hi,rfl⟩:=List.getElem_of_mem hm;have:=hc i hi
 rwa [qX hi] at this
theorem Sm (cs:List Int) (k j:Nat):(kJ cs k j).length<=j:=by
 unfold kJ;rw[List.length_map];exact bZ (List.length_filter_le _ _) (by simp)
theorem FU (cs:List Int) (M:Nat):(gZ cs M).length<=M*cs.length:=by
 induction M with
 | zero=>simp[gZ]
 | succ M ih =>
  rw[qM,bD,Nat.succ_mul];have:=Sm cs M cs.length;omega
def rU (cs:List Int) (k:Nat):Int:=hiL 0 (cs.take k)
theorem Hw {k: Nat} (h:k<cs.length):rU cs (k+1)=max (rU cs k) (el cs k):=by
 unfold rU;rw[aQ h,Nq,qX h]
theorem WI (hc:∀ i,i<cs.length->0<=el cs i/\el cs i<=100000):∀ k,k<=cs.length->0<=rU cs k/\rU cs k<=100000/\∀ i,i<k->el cs i<=rU cs k:=by
 intro k
 induction k with
 | zero=>intro _;exact⟨by simp[rU,hiL],by simp[rU,hiL],fun i hi=>by omega⟩
 | succ k ih =>
  intro hk;obtain⟨h1,h2,h3⟩:=ih (by omega)
  have h4:=hc k (by omega)
  rw[Hw (by omega)]
  refine⟨by omega,by omega,fun i hi=>?_⟩
  by_cases e:i=k
  ·subst e;omega
  ·have:=h3 i (by omega);omega
def nX (cs Z:List Int):Prop:=(rZ cs=aB/\pq cs<=200/\FN cs Z)\/((rZ cs=aC\/200<pq cs)/\Z=[])
theorem nX.unique {cs Z Y:List Int} (h:nX cs Z) (k:nX cs Y):Z=Y:=by
 rcases h with ⟨h1,h2,h3⟩|⟨h1,h2⟩<;>rcases k with ⟨k1,k2,k3⟩|⟨k1,k2⟩
 ·exact h3.unique k3
 ·rcases k1 with k1|k1
  ·rw[h1] at k1;cases k1
  ·omega
 ·rcases h1 with h1|h1
  ·rw[k1] at h1;cases h1
  ·omega
 ·rw[h2,k2]
theorem ES {M: Nat} (hl:cs.length<=8) (hM:M<=100000):Fits (gZ cs M):=fun q hq=>by
 obtain⟨k,i,hk,hi,_,rfl⟩:=xG.1 hq;have h1:(cs.length:Int)*(k:Int)<=8*100000:=Int.mul_le_mul (by omega) (by omega) (by omega) (by omega)
 have h0:0<=(cs.length:Int)*(k:Int):=Int.mul_nonneg (by omega) (by omega)
 omega
theorem QS (b off cap:Nat) (cs:List Int) (len:Nat) (w:aI) (hl:cs.length=len) (hlen:len<=8) (hc:∀ i,i<len->w.cell? ⟨b,off+i,ak⟩=au (ah aA (el cs i))) (hall:∀ i,i<cs.length->0<=el cs i/\el cs i<=100000) :
  dF dA 154 #[aj (au ⟨b,off,ak⟩) len cap] w fun e w'=>Dj w w' e (gZ cs (rU cs len).toNat):=by
 obtain⟨i0,hi0,hz0,hz1,hz2⟩:=jX Tryz.info2n;have HL:=dP hl;have HC:aG (∀ X,Below w.heap.size w X->∀ i,i<len->X.cell? ⟨b,off+i,ak⟩=au (ah aA (el cs i))):=fun X hX i hi=>(hX.cell (aX _ _ (hc i hi))).trans (hc i hi)
 have zJ:aG (∀ k,k<=len->0<=rU cs k/\rU cs k<=100000):=fun k hk=>by have:=WI hall k (by omega);exact⟨this.1,this.2.1⟩
 have B0:aG (Below w.heap.size w (w.alloc (aH #[] 2))):=(dw _ _).alloc (cO _) _;have HMS:aG (∀ k,k<len->rU cs (k+1)=max (rU cs k) (el cs k)):=fun k hk=>Hw (by omega)
 clear hc hall hl;go_enter Tryz.func154,Tryz.ntmps154
 go_wp2
 go_loop [5,6] (fun m i=>∃ k:Nat,k<=len/\i=ah aA k/\m=ah aA (rU cs k)) (fun _ i=>len-(dG i).toNat)
 case atStart=>exact⟨0,cZ _,rfl,rfl⟩
 case round =>
  obtain⟨k,hk,rfl,rfl⟩:=hrel;by_cases hlt:k<len
  ·have ck:=HC.out _ B0.out k hlt
   have HS':=dP (HMS.out k hlt);have k1:(k:Int)<len:=by omega
   have k0:(0:Int)<=k:=by omega
   generalize rU cs k=R at *;generalize el cs k=x at *;go_wp2_with (go_at_call 30;refine (Ef _ _ _).mono ?_;rintro e w' ⟨rfl,rfl⟩)
   go_round
   case rel=>exact⟨k+1,by omega,by go_num,by rw[HS'.out]⟩
   case measure=>simp[dG];omega
  ·have hkl:k=len:=by omega
   subst hkl;obtain⟨hm0,hm1⟩:=zJ.out k (cO _);obtain⟨M,hM⟩:∃ M:Nat,rU cs k=(M:Int):=⟨(rU cs k).toNat,by omega⟩
   have HM:aG ((rU cs k).toNat=M):=by rw[aG,hM];simp
   have hM1:M<=100000:=by omega
   rw[hM];clear hM hm0 hm1 hlt;go_wp2
   go_loopw [3,7] (fun v i wr=>∃ (p g og cg:Nat),p<=M/\i=ah aA p/\v=aj (au ⟨g,og,ak⟩) (gZ cs p).length cg/\w.heap.size<=g/\OI wr g og (gZ cs p).length cg (gZ cs p)/\Below w.heap.size w wr) (fun _ i _=>M-(dG i).toNat)
   case atStart=>exact⟨0,w.heap.size,0,0,cZ _,rfl,rfl,cO _,nS w 2,B0.out⟩
   case round =>
    obtain⟨p,g,og,cg,hp,rfl,rfl,hg,hO,hB⟩:=hrel;have KO:=dP hO;have KB:=dP hB;have KG:=dP hg;clear hO hB hg;by_cases hpl:p<M
    ·have p1:(p:Int)<M:=by omega
     go_wp2
     go_loopw [3,8] (fun v i wx=>∃ (j g og cg:Nat),j<=k/\i=ah aA j/\v=aj (au ⟨g,og,ak⟩) (gZ cs p++kJ cs p j).length cg/\w.heap.size<=g/\OI wx g og (gZ cs p++kJ cs p j).length cg (gZ cs p++kJ cs p j)/\Below w.heap.size w wx) (fun _ i _=>k-(dG i).toNat)
     case atStart=>exact⟨0,g,og,cg,cZ _,rfl,by simp[kJ],KG.out,by simpa[kJ] using KO.out,KB.out⟩
     case round =>
      obtain⟨j,g,og,cg,hj,rfl,rfl,hg,hO,hB⟩:=hrel;have LO:=dP hO;have LB:=dP hB;have LG:=dP hg
      have LLE:(gZ cs p++kJ cs p j).length<=1000000:=by
       rw[bD];have h1:=FU cs p;have h2:=Sm cs p j;rw[HL.out] at h1;have h3:p*k<=100000*8:=Nat.mul_le_mul (by omega) hlen
       omega
      clear hO hg KO KB KG;by_cases hjl:j<k
      ·have cj:=HC.out _ hB j hjl
       have j1:(j:Int)<k:=by omega
       have j0:(0:Int)<=j:=by omega
       have HR:aG (gZ cs p++kJ cs p (j+1)=(gZ cs p++kJ cs p j)++(if (p:Int)<el cs j then [(k:Int)*(p:Int)+(j:Int)] else [])):=by rw[aG,yC,List.append_assoc,HL.out]
       have m0:0<=(k:Int)*(p:Int):=Int.mul_nonneg (by omega) (by omega)
       have m1:(k:Int)*(p:Int)<=8*100000:=Int.mul_le_mul (by omega) (by omega) (by omega) (by omega)
       clear hB;generalize hW:gZ cs p++kJ cs p (j+1)=W1 at *;generalize gZ cs p++kJ cs p j=W0 at *;generalize el cs j=x at *;by_cases hx:(p:Int)<x
       ·rw[if_pos hx] at HR
        generalize hmm:(k:Int)*(p:Int)=m at *;have hO2:jE (wr.alloc (aH #[ah aA (m+(j:Int))] 2)) 1 g og W0.length cg (W0.map (dB aA)):=jE.below LO.out ((dw _ _).alloc (cO _) _) LO.out.blk;go_wp2_with (at_builtin;refine iI _ rfl _ _ _ rfl 2 i0 _ 1 8 bG hi0 hz0 hz1 hz2 rfl (by omega) g og W0.length cg _ rfl hO2 ⟨wr.heap.size,0,ak⟩ 1 1 [ah aA (m+(j:Int))] rfl rfl (World.news_of_block (cs:=#[ah aA (m+(j:Int))]) (t:=2) (fr:=(0,0)) (heap_alloc_new _ _)) (by simp[Value.oneCell']) (by unfold dD;omega) (by omega) ?_;intro g6 o6 c6 w6 CB yY xM)
        have NG:aG (w.heap.size<=g6):=by
         rcases xM with h|h
         ·rw[h];exact LG.out
         ·rw[h];exact bZ LB.out.size (by simp)
        have NL:aG (W1.length=W0.length+1):=by rw[aG,HR.out];simp
        have NO:aG (OI w6 g6 o6 W1.length c6 W1):=by
         rw[aG,NL.out,HR.out,OI,List.map_append];exact CB
        have NB:aG (Below w.heap.size w w6):=oq (LB.out.alloc LB.out.size _) yY LG.out (bZ LB.out.size (by simp))
        clear CB yY xM hO2;go_wp2;go_roundw
        case rel=>exact⟨j+1,g6,o6,c6,by omega,by go_num,by rw[hW,NL.out],NG.out,by rw[hW];exact NO.out,NB.out⟩
        case measure=>simp[dG];omega
       ·rw[if_neg hx,List.append_nil] at HR
        have hd:decide ((p:Int)<x)=aC:=by simpa using hx
        clear hx;go_wp2;go_roundw
        case rel=>exact⟨j+1,g,og,cg,by omega,by go_num,by rw[hW,HR.out],LG.out,by rw[hW,HR.out];exact LO.out,LB.out⟩
        case measure=>simp[dG];omega
      ·have hjk:j=k:=by omega
       subst hjk;have HE:aG (gZ cs (p+1)=gZ cs p++kJ cs p j):=by rw[aG,qM,HL.out]
       clear hB;go_wp2;go_roundw
       case rel=>exact⟨p+1,g,og,cg,by omega,by go_num,by rw[HE.out],LG.out,by rw[HE.out];exact LO.out,LB.out⟩
       case measure=>simp[dG];omega
    ·have hpM:p=M:=by omega
     subst hpM;go_wp2;go_ret
     rw[HM.out];exact⟨g,og,cg,rfl,KG.out,KO.out,KB.out⟩
end Go.Proofs.YtafimeakbdmkjaaGreat