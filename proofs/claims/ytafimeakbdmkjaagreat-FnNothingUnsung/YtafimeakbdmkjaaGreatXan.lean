/-
  Texts in one.
-/
import Derived.Test.YtafimeakbdmkjaaGreatXaa
import Derived.Test.YtafimeakbdmkjaaGreatXal
import Derived.Test.YtafimeakbdmkjaaGreatXak
import Derived.Test.YtafimeakbdmkjaaGreatXaj
import Derived.Test.YtafimeakbdmkjaaGreatXam
import Derived.Test.YtafimeakbdmkjaaGreatXai
import Derived.Test.YtafimeakbdmkjaaGreatXah
import Derived.Test.YtafimeakbdmkjaaGreatXag
import Derived.Deep.CutRange
import Derived.Deep.LoopGhost
namespace Go.Proofs.YtafimeakbdmkjaaGreat
open Bool renaming and_eq_true->bI,false->aC,true->aB
open Go renaming Calls->dF,Value->aJ,World->aI,bodyPost_ret->bY,wpQuiet_nil->dh
open Go.Ending renaming returned->aK
open Go.IntKind renaming i64->aA
open Go.Obj renaming cells->aH
open Go.Proofs.Tryz renaming prog->dA
open Go.RowKit renaming Hid->aG,intOf->dG
open Go.RowKit.Below renaming refl->dw
open Go.Value renaming bool->aF,int->ah,pointer->aO,slice->aj,string->aN
open List renaming getD_eq_getElem?_getD->aS,getElem?_eq_getElem->aV,length_set->bQ,mem_iff_getElem->bg
open Nat renaming le_refl->cO,lt_succ_iff_lt_or_eq->aW,zero_le->cZ
open Option renaming none->ak,some->au
open Option.some renaming inj->bT
set_option linter.unusedVariables false
set_option linter.unusedSimpArgs false
open Go.RowKit Go.Sort
set_option maxRecDepth 100000
set_option maxHeartbeats 12800000
variable {w:aI} {B k n o:Nat} {m:Mb} {fp:Fp} {T:TypeId} {g:Gr} {x:Ac}
theorem Mw.call {X: aI} {g off c: Nat} (h:Mw w X B o m fp g off c):∃ gU,iP X B o (jY m) gU/\(∀ b,gU b->fp b\/w.heap.size<=b)/\∀ (Y:aI) (m':Mb),m'.rows.length=m.rows.length->Mk X Y B o m' gU->Mw w Y B o m' fp g off c:=by
 obtain⟨gU,hp,hf1,hgo⟩:=h.iw.next;exact⟨gU,hp,hf1,fun Y m' hl hk=>⟨hgo Y _ rfl hk.iw,by rw[hk.rws,h.rws,hl]⟩⟩
theorem iR.sz {r: Rw} (h:iR r n):kH r<=1048576:=by
 have h5:=h.n5;have h1:=h.gl;have h2:=h.sl;have h3:=h.ml;have h4:=h.tl;have h6:Bz r.txt r.txt.length<=r.txt.length*20:=CG (fun i hi=>h.ts _ (by rw[aS,aV hi];exact List.getElem_mem hi)) _ (cO _)
 unfold kH;omega
theorem EX (B o:Nat) (m:Mb) (i n:Nat) (fp:Fp) (w:aI) (h:iP w B o (jY m) fp) (ok:iO m i n) :
  dF dA 77 #[aO (au ⟨B,o,ak⟩)] w fun e w'=>e=aK (.tuple #[])/\fH w w' B o (jY (fM m)) fp:=by
 have gq:=iD;have hil:i<m.rows.length:=by rw[ok.len];exact ok.lt
 obtain⟨g,off,c,M0⟩:=Mw.start h (by omega)
 obtain⟨c0,c1,c4⟩:=M0.id';have c2:=M0.rws;rw[ok.hid] at c0;have i0:(0:Int)<=i:=by omega
 have i1:(i:Int)<m.rows.length:=by omega
 have p0:∀ q:Bk w,q.w.cell? ⟨B,o,ak⟩=_:=fun q=>gy q.h c0
 have p2:∀ q:Bk w,q.w.cell? ⟨B,o+2,ak⟩=_:=fun q=>gy q.h c2
 have kQ:=dP M0;clear c0 c1 c4 c2 M0 h;go_enter Tryz.func77,Tryz.ntmps77
 go_wp2_with fail
 refine jg ?_;repeat (go_big_quiet_step ((first|rfl)))
 refine dh (iL fun wE eG=>?_)
 clear p0 p2;have fU:=dP (kQ.out.step eG);obtain⟨c0,c1,c4⟩:=fU.out.id';obtain⟨Ak,⟨⟨d0,d1,d2,d3⟩,d4,d5,d6,d7⟩,hrs⟩:=fU.out.row ok.fit hil;have hr:=ok.ok i ok.lt;have kP:aG (m.done=aB\/(dO m.rows i).ver=1000000->fM m=m):=fun h=>by rw[fM,if_pos (by rw[ok.own];exact h)]
 have BI:aG (¬ (m.done=aB\/(dO m.rows i).ver=1000000)->fM m={ m with rows:=m.rows.set i (kN m),dR:=if jK m=aB then jJ (iT m) (fB m).dU else iT m,done:=jK m }):=fun h=>by rw[fM,if_neg (by rw[ok.own];exact h),ok.i]
 cases hdn:m.done with
 | true =>
  have HZ:=dP (kP.out (.inl hdn));rw[hdn] at c4;clear kP BI hrs d0 d1 d2 d3 d4 d5 d6 d7 c0 c1 hdn;go_wp2
  (try simp only[Exit.inBlock,Exit.then])
  refine bY (results_none rfl _ _ _) rfl ?_;rw[HZ.out];exact⟨rfl,fU.out.iw⟩
 | false =>
 rw[hdn] at c4;by_cases kC:(dO m.rows i).ver=1000000
 ·have HZ:aG (fM m=m):=kP.out (.inr kC)
  have ev:((dO m.rows i).ver==1000000)=aB:=by rw[kC];rfl
  clear kP BI hrs d1 d2 d3 d4 d5 d6 d7 c0 c1 hdn kC;go_wp2
  (try simp only[Exit.inBlock,Exit.then])
  refine bY (results_none rfl _ _ _) rfl ?_;rw[HZ.out];exact⟨rfl,fU.out.iw⟩
 have ev:((dO m.rows i).ver==1000000)=aC:=by simpa using kC
 have G:=DF ok hdn;have HZ:aG (fM m=_):=BI.out (by rw[hdn];simp;exact kC)
 have HVB:=dP kC;have HDN:=dP hdn;have hC:=yG Ak (dO m.rows i) wE hrs hr.ln.1 hr.ln.2.1 hr.ln.2.2.1 hr.ln.2.2.2;unfold iK fQ at hC;clear kP BI kC hdn;go_wp2_with fail
 refine hC.mono ?_;rintro e w1 ⟨Ao,rfl,hN⟩;have BQ:=dP hN;clear hN hC hrs d0 d1 d2 d3 d4 d5 d6 d7 c0 c1 c4;unfold iK fQ;go_wp2_with fail
 have hb1:Below wE.heap.size wE w1:=by obtain⟨_,_,_,hb⟩:=BQ.out;exact hb
 have hb5:Below wE.heap.size wE (w1.alloc (aH #[ah aA (dO m.rows i).ver,aj Ao.ta (dO m.rows i).txt.length Ao.tc,aj Ao.ga (dO m.rows i).got.length Ao.gc,aj Ao.sa (dO m.rows i).dQ.length Ao.sc,aF (dO m.rows i).wed,aF (dO m.rows i).dV,ah aA (dO m.rows i).dW,aj Ao.ma (dO m.rows i).dU.length Ao.mc] 44)):=hb1.trans ((dX w1 _).mono hb1.size);have hx5:Bx (w1.alloc (aH #[ah aA (dO m.rows i).ver,aj Ao.ta (dO m.rows i).txt.length Ao.tc,aj Ao.ga (dO m.rows i).got.length Ao.gc,aj Ao.sa (dO m.rows i).dQ.length Ao.sc,aF (dO m.rows i).wed,aF (dO m.rows i).dV,ah aA (dO m.rows i).dW,aj Ao.ma (dO m.rows i).dU.length Ao.mc] 44)) w1.heap.size 44 #[ah aA (dO m.rows i).ver,aj Ao.ta (dO m.rows i).txt.length Ao.tc,aj Ao.ga (dO m.rows i).got.length Ao.gc,aj Ao.sa (dO m.rows i).dQ.length Ao.sc,aF (dO m.rows i).wed,aF (dO m.rows i).dV,ah aA (dO m.rows i).dW,aj Ao.ma (dO m.rows i).dU.length Ao.mc]:=Bx.new w1 _ _;have hi5:It (w1.alloc (aH #[ah aA (dO m.rows i).ver,aj Ao.ta (dO m.rows i).txt.length Ao.tc,aj Ao.ga (dO m.rows i).got.length Ao.gc,aj Ao.sa (dO m.rows i).dQ.length Ao.sc,aF (dO m.rows i).wed,aF (dO m.rows i).dV,ah aA (dO m.rows i).dW,aj Ao.ma (dO m.rows i).dU.length Ao.mc] 44)) (jM (dO m.rows i)) (jr Ao (dO m.rows i)) wE.heap.size w1.heap.size:=(It.au1 BQ.out).below (dX w1 _);generalize w1.alloc (aH #[ah aA (dO m.rows i).ver,aj Ao.ta (dO m.rows i).txt.length Ao.tc,aj Ao.ga (dO m.rows i).got.length Ao.gc,aj Ao.sa (dO m.rows i).dQ.length Ao.sc,aF (dO m.rows i).wed,aF (dO m.rows i).dV,ah aA (dO m.rows i).dW,aj Ao.ma (dO m.rows i).dU.length Ao.mc] 44)=W5 at *;obtain⟨jw,f1,f2,f3,M5,f5⟩:=fU.out.sub hb5;have ay2:aG (∀ (Y:aI) (m':Mb),Mw W5 Y B o m' jw g off c->Mw w Y B o m' fp g off c):=f5;have ay3:aG (∀ (Y:aI) (m':Mb),Mw W5 Y B o m' jw g off c->Bx Y w1.heap.size 44 #[ah aA (dO m.rows i).ver,aj Ao.ta (dO m.rows i).txt.length Ao.tc,aj Ao.ga (dO m.rows i).got.length Ao.gc,aj Ao.sa (dO m.rows i).dQ.length Ao.sc,aF (dO m.rows i).wed,aF (dO m.rows i).dV,ah aA (dO m.rows i).dW,aj Ao.ma (dO m.rows i).dU.length Ao.mc]/\qj Y Ao (dO m.rows i)):=fun Y m' hY=>⟨hY.bx hx5 (fun h=>by have:=f1 _ h;have:=hb1.size;omega) (by have:=hb1.size;omega),NV (hi5.wrt hY.iw.wrt (fun b hb=>.inl (by rcases hb with hb|hb;exact f1 b hb;rw[hb];exact f2))) hr.fit hr.sz⟩
 obtain⟨fq,hpq,_,zX⟩:=M5.call;have hL:=Wj B o m i n fq W5 hpq ok;rw[<- G.e1] at hL;refine hL.mono ?_;rintro e X1 ⟨rfl,hk1⟩;have jW:=dP (zX X1 _ (mO _) hk1);have HVR:aG (0<=(dO m.rows i).ver/\(dO m.rows i).ver<1000000):=by have h1:=hr.ver;have h2:=HVB.out;rw[aG];omega
 have jq:=ok.n5;generalize w1.heap.size=ob at *;clear hL hk1 hpq zX M5 f5 f1 f2 f3 hb5 hx5 hi5 hb1 BQ fU kQ eG hr HVB ev;have hls:∀ r:Rw,(m.rows.set i r).length=m.rows.length:=fun r=>bQ
 have hs:∀ r:Rw,dO (m.rows.set i r) i=r:=fun r=>iY hil
 have uT:=dP hls;have HSL:=dP hs;clear hls hs;obtain⟨_,_,w4,_,⟨rfl,_⟩,_⟩:=jW.out.at (k:=i) (by simp only[uT.out];exact hil) (j:=4) (cl:=.v (aF (fD m).wed)) (by simp only[HSL.out];rfl)
 obtain⟨b1,hb1⟩:∃ b:Bool,aG ((fD m).wed=b):=⟨_,rfl⟩;rw[hb1.out] at w4
 go_upto_if 36 with fail
 clear w4
 go_cut [4] from 37 to 69 (fun _ wx=>Mw W5 wx B o { m with rows:=m.rows.set i (gW m),dR:=iT m } jw g off c)
 case first =>
  cases b1 with
  | true =>
   obtain⟨e2,eS⟩:=G.wd hb1.out;have HE:aG (Mw W5 X1 B o { m with rows:=m.rows.set i (gW m),dR:=iT m } jw g off c):=by rw[aG,e2,eS];exact jW.out
   clear e2 eS;go_wp2;go_meet
   case rel=>exact HE.out
  | false =>
   obtain⟨e2,aK2,eS⟩:=G.uw hb1.out;have HE2:=dP e2;have HES:=dP eS;have hgl:(fD m).got.length=n:=by have:=(G.ok1.ok i ok.lt).gl;simp only[HSL.out] at this;exact this
   have HTX:aG (∀ (j:Nat) (r:Rw),r.txt=(fD m).txt->(dO (m.rows.set i r) j).txt=(dO m.rows j).txt):=fun j r hr=>by
    rw[gY hil]
    split
    ·rename_i h;rw[h,hr,G.e1];exact (qN _ _ _ _).txt
    ·rfl
   have HGB:aG (∀ j,j<n->0<=el (fD m).got j/\el (fD m).got j<=12):=fun j hj=>by have:=(G.ok1.ok i ok.lt).g j hj;simp only[HSL.out] at this;exact this
   have HTB:aG (∀ j,j<n->(dO m.rows j).txt.length<=12):=fun j hj=>(ok.ok j hj).tl
   clear e2 eS;go_wp2_with fail
   go_loopw [4] (fun k wr=>∃ j:Nat,j<=n/\k=ah aA (j:Int)/\Mw W5 wr B o { m with rows:=m.rows.set i { fD m with got:=jZ m.rows (fD m) n j } } jw g off c) (fun k _=>n-(dG k).toNat)
   case atStart=>exact⟨0,cZ _,rfl,by rw[LP hgl];exact jW.out⟩
   case round =>
    obtain⟨j,hj,rfl,M⟩:=hrel;have HM:=dP M;obtain⟨c0,c1,c4⟩:=M.id';simp only at c1
    rw[ok.hn] at c1;by_cases hlt:j<n
    ·have j1:(j:Int)<n:=by omega
     have j0:(0:Int)<=j:=by omega
     have j2:(j:Int)<m.rows.length:=by rw[ok.len];exact j1
     have hjl:j<m.rows.length:=by rw[ok.len];exact hlt
     have c2:=M.rws;simp only[uT.out] at c2;obtain⟨_,_,hu1,_,ay4,_⟩:=M.at (k:=j) (by simp only[uT.out];exact hjl) (j:=1) (cl:=pO (dO (m.rows.set i { fD m with got:=jZ m.rows (fD m) n j }) j).txt) rfl
     obtain⟨ta,tc,_,rfl,_⟩:=uN.1 ay4;rw[HTX.out j { fD m with got:=jZ m.rows (fD m) n j } rfl] at hu1
     have Gn:j<(jZ m.rows (fD m) n j).length:=by rw[rF];exact hlt
     obtain⟨_,_,hu2,_,Hr,_⟩:=M.at (k:=i) (by simp only[uT.out];exact hil) (j:=2) (cl:=gJ (jZ m.rows (fD m) n j)) (by simp only[HSL.out];rfl)
     obtain⟨gb,go,gc,rfl,_,hge,_,_⟩:=nR Hr Gn;rw[rF] at hu2;rw[SA hlt,if_neg (Nat.lt_irrefl _)] at hge;have CM:∀ q:Bk wr,dF dA 30 #[ah aA (el (fD m).got j),ah aA ((dO m.rows j).txt.length:Int)] q.w fun e w'=>e=aK (ah aA (max (el (fD m).got j) ((dO m.rows j).txt.length:Int)))/\Below q.w.heap.size q.w w':=fun q=>(Ef _ _ q.w).mono (fun e w' h=>⟨h.1,by rw[h.2];exact dw _ _⟩)
     have T:∀ {x v},wr.cell? x=au v->∀ q:Bk wr,q.w.cell? x=au v:=fun h q=>gy q.h h
     have p2:=T c2;have q1:=T hu1;have q2:=T hu2;have q3:=T hge;have HGP:aG ((jZ m.rows (fD m) n j).set j (max (el (fD m).got j) ((dO m.rows j).txt.length:Int))=jZ m.rows (fD m) n (j+1)):=LQ hlt;have wj:wrap64 ((j:Int)+1)=(j:Int)+1:=by unfold wrap64;omega
     clear c0 c4 c2 hu1 ay4 hu2 Hr hge T M;generalize hmx:max (el (fD m).got j) ((dO m.rows j).txt.length:Int)=mx at *;generalize el (fD m).got j=x at *;go_wp2_with fail
     clear c1;refine gK (C:=fun w'=>∃ p:Bk wr,w'=p.w) 23 gq (by kernel_rfl) ⟨⟨wr.drewN 1,fO (dw _ _)⟩,rfl⟩ ?_
     simp only[List.take_succ_cons,List.take_zero]
     repeat (go_big_quiet_step ((first|(go_at_call 30;exact eY _ (CM _))|rfl)))
     refine dh (iL fun wE eG=>?_)
     simp only[List.drop_succ_cons,List.drop_zero]
     have hu3:=q2 ⟨wE,eG⟩;simp only at hu3
     have M3:=HM.out.step eG;obtain⟨u,f3,hu,hfz,how,hlt3,hset⟩:=M3.at (k:=i) (by simp only[uT.out];exact hil) (j:=2) (cl:=gJ (jZ m.rows (fD m) n j)) (by simp only[HSL.out];rfl)
     obtain rfl:=bT (hu.symm.trans hu3);obtain⟨gb',go',gc',e4,Zp,hge,hgz,hgs⟩:=nR how Gn;rw[rF] at e4
     cases e4
     obtain⟨k1,k2⟩:=hgs mx;obtain⟨_,_,_,zL⟩:=hset _ (gJ ((jZ m.rows (fD m) n j).set j mx)) _ f3 { fD m with got:=(jZ m.rows (fD m) n j).set j mx } (by simp only[HSL.out];rfl) k2 k1 (fun b hb=>.inl hb)
     have mG:aG (Mw W5 (wE.setCell ⟨gb,go+j,ak⟩ (ah aA mx)) B o { m with rows:=m.rows.set i { fD m with got:=jZ m.rows (fD m) n (j+1) } } jw g off c):=by
      have:=zL rfl;simp only[List.set_set] at this;rw[HGP.out] at this;exact this
     clear zL hgs k1 k2 hset M3 how hu hu3 hfz p2 q1 q2 q3 hlt3 CM;go_wp2;go_roundw
     case rel=>exact⟨j+1,by omega,by go_num,mG.out⟩
     case measure=>simp[dG];omega
    ·have j1:¬ ((j:Int)<n):=by omega
     obtain rfl:j=n:=by omega
     have M2:Mw W5 wr B o { m with rows:=m.rows.set i (gW m) } jw g off c:=by
      have:=HM.out;rw[Pm,<- HE2.out] at this;exact this
     obtain⟨fq,hpq,_,zX⟩:=M2.call;have hS:=Ws B o _ i j fq wr hpq aK2;clear M c0 c4;go_wp2_with fail
     refine hS.mono ?_;rintro e X2 ⟨rfl,hk2⟩
     have HE:aG (Mw W5 X2 B o { m with rows:=m.rows.set i (gW m),dR:=iT m } jw g off c):=by
      have:=zX X2 _ rfl hk2;rw[<- HES.out] at this;exact this
     clear hS hk2 hpq zX M2;go_wp2;go_meet
     case rel=>exact HE.out
 case rest =>
  have pV:=dP hcut;clear hcut jW;generalize wc=X2 at *;have hLf:=Lm W5 B o _ i n jw g off c X2 pV.out G.ok2;simp only[HSL.out] at hLf;rw[<- G.eL] at hLf;go_wp2_with fail
  refine hLf.mono ?_;rintro e X3 ⟨la,lc,rfl,fl,hl1,hl2,hbl⟩;obtain⟨DY,g1,g2,g3,M7,g5⟩:=pV.out.sub hbl;have ay5:=dP g5;have ay6:=dP (dY.kW hl1);have DV:aG (∀ b,fl b->¬ DY b/\b≠B):=fun b hb=>⟨fun k=>by have:=g1 b k;have:=hl2 b hb;omega,fun k=>by have:=hl2 b hb;omega⟩
  rw[jl] at hl1 ⊢;have UK:aG (∀ (Y:aI) (m':Mb),Mw X3 Y B o m' DY g off c->dY.ow Y (gJ (lN (jR m))) (aj la (jR m).length lc) fl):=fun Y m' hY=>hY.RU hl1 DV.out
  obtain⟨hL0,hLh,DZ,hLm⟩:=LU G.mem;have UL:∀ k∈jR m,k<n:=fun k hk=>by rw[G.eL] at hk;exact (jh.1 hk).1
  have hLn:(jR m).length<=n:=by rw[G.eL];exact tK _ _
  have HL0:aG (∀ (Y:aI) (m':Mb),Mw X3 Y B o m' DY g off c->∃ lb lo,la=au ⟨lb,lo,ak⟩/\Y.cell? ⟨lb,lo,ak⟩=au (ah aA (((jR m).getD 0 0:Nat):Int))):=fun Y m' hY=>by
   have hv:=lW (by rw[jl];exact UK.out Y m' hY) (wo UL (by omega))
   rcases hv.2.2 with hz|⟨lb,lo,rfl,hlc⟩
   ·rw[jl] at hz;omega
   have hlk:=hlc 0 (by rw[jl];exact hL0)
   rw[wQ hL0] at hlk;exact⟨lb,lo,rfl,hlk⟩
  have KU:=G.e3;have Jl:=G.e4;rw[DZ] at Jl;have HH3:aG (iF m=if (gW m).wed=aB/\n<2*(jR m).length/\(jR m).getD 0 0=i then lead (m.rows.set i (gW m)) i (gW m) (jR m) else gW m):=by rw[aG,KU];simp only[hLh]
  have HH4:aG (fB m=if (iF m).wed=aB/\(jR m).getD 0 0≠i then adopt (m.rows.set i (iF m)) i (iF m) ((jR m).getD 0 0) else iF m):=by rw[aG,Jl];simp only[ne_eq,hLh]
  have V8:=dP (UL _ hLm);have HeE:=dP G.eE;have ay7:=dP UL;have HLp:=dP hL0;have DW:=dP M7;clear KU Jl hLh DZ hLm UL hl1 hl2 hbl M7 g5 g1 g2 g3 hLf pV;obtain⟨lb,lo,rfl,_⟩:=HL0.out X3 _ DW.out
  have yX:aG (∀ (Y:aI) (m':Mb),Mw X3 Y B o m' DY g off c->Y.cell? ⟨lb,lo,ak⟩=au (ah aA (((jR m).getD 0 0:Nat):Int))):=fun Y m' hY=>by
   obtain⟨lb',lo',e,hc⟩:=HL0.out Y m' hY
   cases e
   exact hc
  have hw2:wrap64 (2*((jR m).length:Int))=2*((jR m).length:Int):=by unfold wrap64;omega
  have i0L:(0:Int)<((jR m).length:Int):=by omega
  clear HL0;generalize Gf:jR m=L at *;generalize hF:L.getD 0 0=F at *;have HFe:=dP hF;clear hF hL0 Gf
  -- the first of those left leads
  obtain⟨_,_,w4,_,⟨rfl,_⟩,_⟩:=DW.out.at (k:=i) (by simp only[uT.out];exact hil) (j:=4) (cl:=.v (aF (gW m).wed)) (by simp only[HSL.out];rfl)
  obtain⟨c0,c1,c4⟩:=DW.out.id';simp only at c0 c1
  rw[ok.hid] at c0;rw[ok.hn] at c1;obtain⟨b2,hb2⟩:∃ b:Bool,aG ((gW m).wed=b):=⟨_,rfl⟩;rw[hb2.out] at w4;go_upto_region 11 with fail
  go_cut [85] from 72 to 85 (fun v wx=>v=aF (b2&&decide ((n:Int)<2*(L.length:Int)))/\wx=X3)
  case first =>
   cases b2 with
   | true =>
    go_wp2_with fail
    go_meet
    case rel=>exact⟨by simp,rfl⟩
   | false =>
    go_wp2_with fail
    go_meet
    case rel=>exact⟨by simp,rfl⟩
  case rest =>
  obtain⟨rfl,hwx⟩:=hcut;obtain rfl:=hwx.symm;clear w4 hwx;generalize hd1:(b2&&decide ((n:Int)<2*(L.length:Int)))=d1 at *;have HD1:aG ((gW m).wed=aB/\n<2*L.length↔d1=aB):=by rw[aG,hb2.out,<- hd1,bI,decide_eq_true_eq];constructor<;>rintro⟨h1,h2⟩<;>exact⟨h1,by omega⟩
  clear hd1
  go_upto_if 85 with fail
  go_cut [5] from 86 to 96 (fun v wx=>v=aj (au ⟨lb,lo,ak⟩) L.length lc/\Mw X3 wx B o { m with rows:=m.rows.set i (iF m),dR:=iT m } DY g off c)
  case first =>
   cases d1 with
   | false =>
    have HE:aG (iF m=gW m):=by
     rw[aG,HH3.out,if_neg];rintro⟨h1,h2,_⟩;exact absurd (HD1.out.1 ⟨h1,h2⟩) (by simp)
    clear c0 c1 c4;go_wp2;go_meet
    case rel=>exact⟨rfl,by rw[HE.out];exact DW.out⟩
   | true =>
    obtain⟨hw,hn2⟩:=HD1.out.2 rfl;have l0:=yX.out X3 _ DW.out;have T:∀ {x v},X3.cell? x=au v->∀ q:Bk X3,q.w.cell? x=au v:=fun h q=>gy q.h h
    have p0:=T c0;have pl:=T l0;have HW:=dP hw;by_cases Ci:F=i
    ·have e1:((F:Int)==(i:Int))=aB:=by simp[Ci]
     have HE:aG (iF m=lead (m.rows.set i (gW m)) i (gW m) L):=by rw[aG,HH3.out,if_pos ⟨hw,hn2,Ci⟩]
     clear c0 c1 c4 l0 T hw hn2 Ci;go_wp2_with fail
     refine jg ?_;repeat (go_big_quiet_step ((first|rfl)))
     refine dh (iL fun wE eG=>?_)
     have M8:=DW.out.step eG;obtain⟨fq,hpq,SB,zX⟩:=M8.call
     have DZ := WE B o _ i n L (au ⟨lb,lo,ak⟩) lc fl fq wE hpq G.ok2 (by simp only [HSL.out];exact HW.out) (UK.out wE _ M8) (fun b hb => ⟨fun k => by
      rcases SB b k with k|k
      ·exact (DV.out b hb).1 k
      ·have:=ay6.out b hb;omega,(DV.out b hb).2⟩) ay7.out HLp.out hLn
     clear p0 pl eG M8 hpq SB;go_wp2_with fail
     refine DZ.mono ?_;rintro e X4 ⟨rfl,hk⟩
     have Jl:aG (Mw X3 X4 B o { m with rows:=m.rows.set i (iF m),dR:=iT m } DY g off c):=by
      have:=zX X4 _ (by simp only[uT.out,bQ]) hk
      simp only[HSL.out,List.set_set] at this;rw[<- HE.out] at this;exact this
     clear DZ hk zX;go_wp2;go_meet
     case rel=>exact⟨rfl,Jl.out⟩
    ·have e1:((F:Int)==(i:Int))=aC:=by simp;omega
     have HE:aG (iF m=gW m):=by rw[aG,HH3.out,if_neg (fun h=>Ci h.2.2)]
     clear c0 c1 c4 l0 T hw hn2 Ci;go_wp2_with fail
     refine jg ?_;repeat (go_big_quiet_step ((first|rfl)))
     refine dh (iL fun wE eG=>?_)
     have Jl:aG (Mw X3 wE B o { m with rows:=m.rows.set i (iF m),dR:=iT m } DY g off c):=by rw[aG,HE.out];exact DW.out.step eG
     clear p0 pl eG;go_wp2;go_meet
     case rel=>exact⟨rfl,Jl.out⟩
  case rest =>
  obtain⟨rfl,hcut⟩:=hcut;have WW:=dP hcut;clear hcut DW c0 c1 c4 HD1;generalize wc=X4 at *
  -- another one leads
  obtain⟨_,_,w4,_,⟨rfl,_⟩,_⟩:=WW.out.at (k:=i) (by simp only[uT.out];exact hil) (j:=4) (cl:=.v (aF (iF m).wed)) (by simp only[HSL.out];rfl)
  obtain⟨c0,c1,c4⟩:=WW.out.id';simp only at c0
  rw[ok.hid] at c0;have l0:=yX.out X4 _ WW.out;obtain⟨b3,hb3⟩:∃ b:Bool,aG ((iF m).wed=b):=⟨_,rfl⟩;rw[hb3.out] at w4;have T:∀ {x v},X4.cell? x=au v->∀ q:Bk X4,q.w.cell? x=au v:=fun h q=>gy q.h h
  have p0:=T c0;have pl:=T l0;have p4:=T w4;clear c0 c1 c4 l0 w4 T;go_upto_region 14 with fail
  go_cut [110] from 97 to 110 (fun v wx=>v=aF (b3&&((F:Int) != (i:Int)))/\Below X4.heap.size X4 wx)
  case first =>
   cases b3 with
   | true =>
    refine jg ?_;repeat (go_big_quiet_step ((first|rfl)))
    refine dh (iL fun wE eG=>?_)
    try go_wp2_with fail
    go_meet
    case rel=>exact⟨by simp,eG⟩
   | false =>
    refine jg ?_;repeat (go_big_quiet_step ((first|rfl)))
    refine dh (iL fun wE eG=>?_)
    try go_wp2_with fail
    go_meet
    case rel=>exact⟨by simp,eG⟩
  case rest =>
  obtain⟨rfl,hbc⟩:=hcut;have HMz:=dP (WW.out.step hbc);clear hbc WW p0 pl p4;generalize wc=X5 at *;generalize hd2:(b3&&((F:Int) != (i:Int)))=d2 at *;have HD2:aG ((iF m).wed=aB/\F≠i↔d2=aB):=by rw[aG,hb3.out,<- hd2,bI,bne_iff_ne];constructor<;>rintro⟨h1,h2⟩<;>exact⟨h1,by omega⟩
  clear hd2
  go_upto_if 110 with fail
  go_cut [5] from 111 to 115 (fun v wx=>v=aj (au ⟨lb,lo,ak⟩) L.length lc/\Mw X3 wx B o { m with rows:=m.rows.set i (fB m),dR:=iT m } DY g off c)
  case first =>
   cases d2 with
   | false =>
    have HE:aG (fB m=iF m):=by
     rw[aG,HH4.out,if_neg];intro h;exact absurd (HD2.out.1 h) (by simp)
    go_wp2;go_meet
    case rel=>exact⟨rfl,by rw[HE.out];exact HMz.out⟩
   | true =>
    obtain⟨hw,Ci⟩:=HD2.out.2 rfl;have HE:aG (fB m=adopt (m.rows.set i (iF m)) i (iF m) F):=by rw[aG,HH4.out,if_pos ⟨hw,Ci⟩]
    have l0:=yX.out X5 _ HMz.out;obtain⟨fq,hpq,SB,zX⟩:=HMz.out.call;have hAd:=Wu B o _ i n F fq X5 hpq G.F5 V8.out Ci;clear hpq SB hw Ci;go_wp2_with fail
    refine hAd.mono ?_;rintro e X6 ⟨rfl,hk⟩
    have Jl:aG (Mw X3 X6 B o { m with rows:=m.rows.set i (fB m),dR:=iT m } DY g off c):=by
     have:=zX X6 _ (by simp only[uT.out,bQ]) hk
     simp only[HSL.out,List.set_set] at this;rw[<- HE.out] at this;exact this
    clear hAd hk zX l0;go_wp2;go_meet
    case rel=>exact⟨rfl,Jl.out⟩
  case rest =>
  obtain⟨rfl,hcut⟩:=hcut;have SC:=dP hcut;clear hcut HMz HD2;generalize wc=X6 at *
  -- the end
  obtain⟨_,_,w5,_,⟨rfl,_⟩,_⟩:=SC.out.at (k:=i) (by simp only[uT.out];exact hil) (j:=5) (cl:=.v (aF (fB m).dV)) (by simp only[HSL.out];rfl)
  obtain⟨c0,c1,c4⟩:=SC.out.id';simp only at c1
  rw[ok.hn] at c1;obtain⟨b4,hb4⟩:∃ b:Bool,aG ((fB m).dV=b):=⟨_,rfl⟩;rw[hb4.out] at w5;clear c0 c4;go_upto_region 16 with fail
  go_cut [129] from 116 to 129 (fun v wx=>v=aF (b4&&decide ((n:Int)<2*(L.length:Int)))/\wx=X6)
  case first =>
   cases b4 with
   | true =>
    go_wp2_with fail
    go_meet
    case rel=>exact⟨by simp,rfl⟩
   | false =>
    go_wp2_with fail
    go_meet
    case rel=>exact⟨by simp,rfl⟩
  case rest =>
  obtain⟨rfl,hwx⟩:=hcut;obtain rfl:=hwx.symm;clear w5 hwx c1;generalize hd3:(b4&&decide ((n:Int)<2*(L.length:Int)))=d3 at *
  have HD3:aG (jK m=(d3&&ends (m.rows.set i (fB m)) i (fB m) L)):=by
   rw[aG,HeE.out,hb4.out,<- hd3];simp only[Bool.and_assoc]
   congr 2
   rw[decide_eq_decide];omega
  have HD4:aG (d3=aB->(fB m).dV=aB):=fun h=>by rw[<- hd3,bI] at h;rw[hb4.out];exact h.1
  clear hd3
  go_upto_if 129 with fail
  go_cut [5] from 130 to 132 (fun _ wx=>Mw X3 wx B o { m with rows:=m.rows.set i (fB m),dR:=if jK m=aB then jJ (iT m) (fB m).dU else iT m,done:=jK m } DY g off c)
  case first =>
   cases d3 with
   | false =>
    have HE:aG (Mw X3 X6 B o { m with rows:=m.rows.set i (fB m),dR:=if jK m=aB then jJ (iT m) (fB m).dU else iT m,done:=jK m } DY g off c):=by
     have hE:jK m=aC:=by rw[HD3.out];rfl
     have:=SC.out;rw[HDN.out] at this;rw[aG,hE,if_neg (by simp)]
     exact this
    go_wp2;go_meet
    case rel=>exact HE.out
   | true =>
    obtain⟨fq,hpq,SB,zX⟩:=SC.out.call;have hEd:=WL B o _ i n L (au ⟨lb,lo,ak⟩) lc fl fq X6 hpq G.qp (by simp only[HSL.out];exact HD4.out rfl) (UK.out X6 _ SC.out) ay7.out hLn
    clear hpq SB;go_wp2_with fail
    refine hEd.mono ?_;rintro e X7 ⟨rfl,hk⟩
    have HE:aG (Mw X3 X7 B o { m with rows:=m.rows.set i (fB m),dR:=if jK m=aB then jJ (iT m) (fB m).dU else iT m,done:=jK m } DY g off c):=by
     have hE:jK m=ends (m.rows.set i (fB m)) i (fB m) L:=by rw[HD3.out];rfl
     unfold Jj at hk;simp only[HSL.out] at hk;rw[<- hE] at hk
     cases he:jK m with
     | true =>
      rw[he,if_pos rfl] at hk;rw[aG,if_pos rfl];exact zX X7 _ rfl hk
     | false =>
      rw[he,if_neg (by simp)] at hk
      have:=zX X7 _ rfl hk;rw[HDN.out] at this;rw[aG,if_neg (by simp)]
      exact this
    clear hEd hk zX;go_wp2;go_meet
    case rel=>exact HE.out
  case rest =>
  have jL:=dP (ay5.out _ _ hcut);clear hcut SC HD3 HD4 ay5 ay6 DV UK yX HH3 HH4;generalize wc=X7 at *;obtain⟨hxo,hro⟩:=ay3.out X7 _ jL.out;have hfit:nG { m with rows:=m.rows.set i (fB m),dR:=if jK m=aB then jJ (iT m) (fB m).dU else iT m,done:=jK m }:=⟨G.qp.fit.1,by have:=(stepM ok).ok.fit.2;rw[HZ.out] at this;exact this⟩
  obtain⟨A9,⟨⟨d0,d1',d2',d3'⟩,d4,d5,d6,d7⟩,hrs⟩:=jL.out.row hfit (k:=i) (by simp only[uT.out];exact hil)
  simp only[HSL.out] at d0 d1' d2' d3' d4 d5 d6 d7 hrs;obtain⟨⟨x0,x1,x2,x3⟩,x4,x5,x6,x7⟩:=Bx.r8 hxo;obtain⟨sb,hsb⟩:∃ b:Bool,aG (lQ (dO m.rows i) (fB m)=b):=⟨_,rfl⟩
  have CS:∀ q:Bk X7,dF dA 122 #[iK Ao (dO m.rows i),iK A9 (fB m)] q.w fun e w'=>e=aK (aF sb)/\Below q.w.heap.size q.w w':=fun q=>by
   have:=Zy Ao A9 (dO m.rows i) (fB m) q.w (hro.below q.h) (hrs.below q.h);rw[hsb.out] at this;exact this
  unfold iK fQ at CS;have T:∀ {x v},X7.cell? x=au v->∀ q:Bk X7,q.w.cell? x=au v:=fun h q=>gy q.h h
  have y0:=T x0;have y1:=T x1;have y2:=T x2;have y3:=T x3;have y4:=T x4;have y5:=T x5;have y6:=T x6;have y7:=T x7;have z0:=T d0;have z1:=T d1';have z2:=T d2';have z3:=T d3';have z4:=T d4;have z5:=T d5;have z6:=T d6;have z7:=T d7;clear x0 x1 x2 x3 x4 x5 x6 x7 d0 d1' d2' d3' d4 d5 d6 d7 T hxo hro hrs hfit;go_wp2_with fail
  refine jg ?_;repeat (go_big_quiet_step ((first|(go_at_call 122;exact eY _ (CS _))|rfl)))
  refine dh (iL fun wE eG=>?_)
  have HMf:=dP (jL.out.step eG);clear y0 y1 y2 y3 y4 y5 y6 y7 z0 z1 z2 z3 z4 z5 z6 z7 CS eG jL ay3;have SE:=G.e5;rw[hsb.out] at SE
  cases sb with
  | true =>
   have HE:aG (fM m={ m with rows:=m.rows.set i (fB m),dR:=if jK m=aB then jJ (iT m) (fB m).dU else iT m,done:=jK m }):=by rw[aG,HZ.out,SE,if_pos rfl]
   clear SE;go_wp2;go_end0;rw[HE.out];exact⟨rfl,(ay2.out _ _ HMf.out).iw⟩
  | false =>
   rw[if_neg (by simp)] at SE
   obtain⟨v1,v2,qQ⟩:=HMf.out.put (k:=i) (by simp only[uT.out];exact hil) (j:=0) (x:=ah aA (fB m).ver) (y:=ah aA ((fB m).ver+1)) (r':={ fB m with ver:=(fB m).ver+1 }) (by simp only[HSL.out];rfl) (by simp only[HSL.out];rfl)
   simp only[Nat.add_zero,List.set_set] at v1 v2 qQ;have hwv:wrap64 ((fB m).ver+1)=(fB m).ver+1:=by rw[G.ver];have:=HVR.out;unfold wrap64;omega
   have HE:aG (fH w (wE.setCell ⟨g,off+i*8,ak⟩ (ah aA ((fB m).ver+1))) B o (jY (fM m)) fp):=by
    rw[aG,HZ.out,SE];exact (ay2.out _ _ qQ).iw
   clear qQ SE HMf;go_wp2;go_end0;exact⟨rfl,HE.out⟩
section
def rV (x:Ac):Array aJ:=#[ah aA x.kind,ah aA x.a,ah aA x.b,aN (sv x.txt)]
def o8 (x:Ac):aJ:=.agg (rV x)
theorem Bx.a4 {x0 x1 x2 x3: aJ} (h:Bx w B T #[x0,x1,x2,x3]):w.cell? ⟨B,0,ak⟩=au x0/\w.cell? ⟨B,1,ak⟩=au x1/\w.cell? ⟨B,2,ak⟩=au x2/\w.cell? ⟨B,3,ak⟩=au x3 :=
 ⟨h.at 0 rfl,h.at 1 rfl,h.at 2 rfl,h.at 3 rfl⟩
def Bd (x:Ac) (y:Ml):Bool:=decide (y.fr=x.a/\y.to=x.b)
theorem WX (hk:x.kind=3):gQ g x=if mV g x=aB then (match g.dS.findIdx? (Bd x) with|some i=>(ku g i,aB)|none=>(g,aC)) else (g,aC):=by
 unfold gQ;rw[if_pos hk]
 rfl
theorem Pn (hk:x.kind≠3) (h:inB x.a 0 ((g.mem.length:Int)-1)=aC\/ou g x.a.toNat=aC):gQ g x=(g,aC):=by
 unfold gQ;rw[if_neg hk,if_pos h]
theorem Po (hk:x.kind≠3) (h1:inB x.a 0 ((g.mem.length:Int)-1)=aB) (h2:ou g x.a.toNat=aB):gQ g x =
  if x.kind=1 then (g.set x.a.toNat (jD (eF g x.a.toNat) x.txt).1,(jD (eF g x.a.toNat) x.txt).2)
  else if x.kind=2 then (if mV g x=aB then (jT g x.a x.b,aB) else (g,aC))
  else if x.kind=4 then (g.set x.a.toNat (fM (eF g x.a.toNat)),aB)
  else if x.kind=5 then (if mV g x=aB then (g.set x.a.toNat (fJ (eF g x.a.toNat) x.b).1,(fJ (eF g x.a.toNat) x.b).2) else (g,aC))
  else if x.kind=6 then ({ g with up:=g.up.set x.a.toNat aC },aB)
  else if x.kind=7 then (oC g x.a,aB)
  else (g,aC):=by
 unfold gQ;rw[if_neg hk,if_neg];rintro (h|h)
 ·rw[h1] at h;cases h
 ·rw[h2] at h;cases h
theorem UM (hk:k<g.dS.length) (h:∀ j,j<k->Bd x (fF g j)=aC) (hy:Bd x (fF g k)=aB):g.dS.findIdx? (Bd x)=au k:=by
 rw[List.findIdx?_eq_some_iff_getElem];refine⟨hk, ?_,fun j hj=>?_⟩
 ·have:=hy
  simpa[fF,List.getD,hk] using this
 ·have:=h j hj
  have hj2:j<g.dS.length:=by omega
  simpa[fF,List.getD,hj2] using this
theorem WY (h:∀ j,j<g.dS.length->Bd x (fF g j)=aC):g.dS.findIdx? (Bd x)=ak:=by
 rw[List.findIdx?_eq_none_iff];intro y hy;obtain⟨j,hj,rfl⟩:=bg.1 hy;have:=h j hj;simpa[fF,List.getD,hj] using this
attribute [local irreducible] sv
theorem EY (B o:Nat) (g:Gr) (n:Nat) (x:Ac) (fp:Fp) (w:aI) (h:iP w B o (fZ g) fp) (ok:OkG g n) (ht:x.txt.length<=1000000000) :
  dF dA 55 #[aO (au ⟨B,o,ak⟩),o8 x] w fun e w'=>e=aK (aF (gQ g x).2)/\fH w w' B o (fZ (gQ g x).1) fp:=by
 have gq:=iD;have jq:=ok.n5;have EI:=ok.pJ;obtain⟨bb,off,c,G00⟩:=Gw.start h (by rw[ok.ml];omega)
 obtain⟨kd,xa,xb,tx⟩:=x;have hB0:=dX w (aH #[ah aA kd,ah aA xa,ah aA xb,aN (sv tx)] 38);have hx:=Bx.new w 38 #[ah aA kd,ah aA xa,ah aA xb,aN (sv tx)];have G0:=G00.step hB0;unfold o8 rV;simp only
 generalize hW:w.alloc (aH #[ah aA kd,ah aA xa,ah aA xb,aN (sv tx)] 38)=W at *;have HX:=dP hx;have HG:=dP G0;have iE:=dP ok;have c0:=G0.mem;rw[ok.ml] at c0;have wR:=dP ok.ml;have WZ:=dP ok.ul
 have HFG : aG (EG g) := ⟨fun m hm => by
  obtain⟨j,hj,rfl⟩:=bg.1 hm;have:=(ok.mem j (by rw[<- ok.ml];exact hj)).fit
  simpa[eF,List.getD,hj] using this,fun y hy=>by obtain⟨_,_,_,_,_,_,_,R⟩:=ok.kU y hy;exact R.fit⟩
 obtain⟨x0,x1,x2,x3⟩:=Bx.a4 hx;have wn:wrap64 ((n:Int)-1)=(n:Int)-1:=by unfold wrap64;omega
 have HTw:aG (mV g ⟨kd,xa,xb,tx⟩=(inB xa 0 ((n:Int)-1)&&(inB xb 0 ((n:Int)-1)&&decide (xa≠xb)))):=by rw[aG,mV,ok.ml]
 have Xa:=dP ht;clear h hx hB0 G00 G0 ok;go_enter Tryz.func55,Tryz.ntmps55
 go_upto_region 2 with fail
 generalize htw:mV g ⟨kd,xa,xb,tx⟩=tw at *
 go_cut [6] from 13 to 31 (fun v wx=>v=aF tw/\wx=W)
 case first =>
  cases e1:inB xa 0 ((n:Int)-1) with
  | false =>
   have HZ:aG (tw=aC):=by rw[aG,HTw.out,e1];rfl
   go_wp2_with (go_at_call 40;refine fV (gI _ _ _ _) ?_)
   go_meet
   case rel=>exact⟨by rw[HZ.out],rfl⟩
  | true =>
  cases e2:inB xb 0 ((n:Int)-1) with
  | false =>
   have HZ:aG (tw=aC):=by rw[aG,HTw.out,e2];simp
   go_wp2_with (go_at_call 40;refine fV (gI _ _ _ _) ?_)
   go_meet
   case rel=>exact⟨by rw[HZ.out],rfl⟩
  | true =>
   have HZ:aG (tw=(xa != xb)):=by
    rw[aG,HTw.out,e1,e2];by_cases h:xa=xb<;>simp[h]
   go_wp2_with (go_at_call 40;refine fV (gI _ _ _ _) ?_)
   go_meet
   case rel=>exact⟨by rw[HZ.out],rfl⟩
 case rest =>
 obtain⟨rfl,hwx⟩:=hcut;obtain rfl:=hwx.symm;clear hwx;by_cases hk3:kd=3
 ·have g3:(kd==3)=aB:=by simpa using hk3
  have HA:=WX (g:=g) (x:=⟨kd,xa,xb,tx⟩) hk3;rw[htw] at HA;have EZ:=dP HA;clear HA hk3 htw;obtain⟨ua,uc,la,lc,cu,cl,hgs⟩:=HG.out.rd HFG.out;have HGS:=dP hgs;clear hgs
  cases tw with
  | false =>
   have HZ:aG (gQ g ⟨kd,xa,xb,tx⟩=(g,aC)):=by rw[aG,EZ.out];rfl
   go_wp2_with fail
   go_loopw [7] (fun i wr=>i=ah aA 0/\wr=W) (fun _ _=>0)
   case atStart=>exact⟨rfl,rfl⟩
   case round =>
    obtain⟨rfl,hwr⟩:=hrel;obtain rfl:=hwr.symm;clear hwr;obtain⟨zz,hzz⟩:∃ z:Bool,aG (decide ((0:Int)<g.dS.length)=z):=⟨_,rfl⟩
    cases zz with
    | false =>
     have z1:¬ ((0:Int)<g.dS.length):=by have:=hzz.out;simpa using this
     go_wp2;go_ret
     exact⟨dZ (by rw[HZ.out]),by rw[HZ.out];exact HG.out.iw⟩
    | true =>
     have z1:(0:Int)<g.dS.length:=by have:=hzz.out;simpa using this
     go_wp2;go_ret
     exact⟨dZ (by rw[HZ.out]),by rw[HZ.out];exact HG.out.iw⟩
  | true =>
   have ai9:aG (gQ g ⟨kd,xa,xb,tx⟩=(match g.dS.findIdx? (Bd ⟨kd,xa,xb,tx⟩) with|some i=>(ku g i,aB)|none=>(g,aC))):=by rw[aG,EZ.out];rfl
   clear EZ;go_wp2_with fail
   go_loopw [7] (fun i wr=>∃ k q:Nat,k<=g.dS.length/\i=ah aA (k:Int)/\wr=W.drewN q/\∀ j,j<k->Bd ⟨kd,xa,xb,tx⟩ (fF g j)=aC) (fun i _=>g.dS.length-(dG i).toNat)
   case atStart=>exact⟨0,0,cZ _,rfl,rfl,fun j hj=>by omega⟩
   case round =>
    obtain⟨k,q,hk,rfl,rfl,hall⟩:=hrel;have HA:=dP hall;clear hall;by_cases hlt:k<g.dS.length
    ·have k1:(k:Int)<g.dS.length:=by omega
     have k0:(0:Int)<=k:=by omega
     obtain⟨lb,lo,Ak,hla,d0,d1,_,_⟩:=HGS.out.letter hlt;simp only at hla
     subst hla;have Gt:aG (Bd ⟨kd,xa,xb,tx⟩ (fF g k)=aB->g.dS.findIdx? (Bd ⟨kd,xa,xb,tx⟩)=au k):=fun h=>UM hlt HA.out h
     have yV:aG (Bd ⟨kd,xa,xb,tx⟩ (fF g k)=aC->∀ j,j<k+1->Bd ⟨kd,xa,xb,tx⟩ (fF g j)=aC):=fun h1 j hj=>by
      rcases aW.1 hj with h|h
      ·exact HA.out j h
      ·rw[h];exact h1
     have zJ:aG (Bd ⟨kd,xa,xb,tx⟩ (fF g k)=decide ((fF g k).fr=xa/\(fF g k).to=xb)):=rfl
     have DZ:∀ p,dF dA 79 #[aO (au ⟨B,o,ak⟩),ah aA (k:Int)] (W.drewN p) fun e w'=>e=aK (.tuple #[])/\fH w w' B o (fZ (ku g k)) fp:=fun p=>by
      obtain⟨gU,hp,_,hgo⟩:=(HG.out.step (fO (n:=p) (dw _ _))).iw.next;exact (Ll B o g n k gU _ hp iE.out hlt).mono (fun e w' ⟨e1,e2⟩=>⟨e1,hgo _ _ rfl e2⟩)
     generalize Bd ⟨kd,xa,xb,tx⟩ (fF g k)=mb at *;generalize (fF g k).fr=mf at *;generalize (fF g k).to=mt at *;by_cases h1:mf=xa
     ·have e1:(mf==xa)=aB:=by simpa using h1
      by_cases h2:mt=xb
      ·have e2:(mt==xb)=aB:=by simpa using h2
       have HZ:aG (gQ g ⟨kd,xa,xb,tx⟩=(ku g k,aB)):=by
        have:=Gt.out (by rw[zJ.out];simp[h1,h2])
        rw[aG,ai9.out,this]
       clear h1 h2 Gt yV zJ HA;go_wp2_with fail
       go_quiet (fail)
       go_wp2_with (go_at_call 79;refine (DZ _).mono ?_;rintro e w5 ⟨rfl,hb5⟩;have tJ:aG (fH w w5 B o (fZ (ku g k)) fp):=hb5;clear hb5)
       go_ret
       exact⟨dZ (by rw[HZ.out]),by rw[HZ.out];exact tJ.out⟩
      ·have e2:(mt==xb)=aC:=by simpa using h2
       have HN:=yV.out (by rw[zJ.out];simp[h2])
       have sF:=dP HN;clear h1 h2 Gt yV zJ HA DZ HN;go_wp2_with fail
       go_quiet (fail)
       go_wp2;go_roundw
       case rel=>exact⟨k+1,_,by omega,by go_num,rfl,sF.out⟩
       case measure=>simp[dG];omega
     ·have e1:(mf==xa)=aC:=by simpa using h1
      have HN:=yV.out (by rw[zJ.out];simp[h1])
      have sF:=dP HN;clear h1 Gt yV zJ HA DZ HN;go_wp2_with fail
      go_quiet (fail)
      go_wp2;go_roundw
      case rel=>exact⟨k+1,_,by omega,by go_num,rfl,sF.out⟩
      case measure=>simp[dG];omega
    ·have k1:¬ ((k:Int)<g.dS.length):=by omega
     have HZ:aG (gQ g ⟨kd,xa,xb,tx⟩=(g,aC)):=by
      have:=WY (g:=g) (x:=⟨kd,xa,xb,tx⟩) (fun j hj=>HA.out j (by omega))
      rw[aG,ai9.out,this]
     clear HA;go_wp2;go_ret
     exact⟨dZ (by rw[HZ.out]),by rw[HZ.out];exact (HG.out.step (fO (dw _ _))).iw⟩
 have gk3:(kd==3)=aC:=by simpa using hk3
 obtain⟨ua,uc,la,lc,cu,cl,hgs⟩:=HG.out.rd HFG.out;rw[WZ.out] at cu;have T:∀ {x v},W.cell? x=au v->∀ q:Bk W,q.w.cell? x=au v:=fun h q=>gy q.h h
 have C1:∀ q:Bk W,dF dA 40 #[ah aA xa,ah aA 0,ah aA ((n:Int)-1)] q.w fun e w'=>e=aK (aF (inB xa 0 ((n:Int)-1)))/\Below q.w.heap.size q.w w':=fun q=>(gI _ _ _ _).mono (fun e w' h=>⟨h.1,by rw[h.2];exact dw _ _⟩)
 have y1:=T x1;have yu:=T cu;go_upto_region 11 with fail
 cases e1:inB xa 0 ((n:Int)-1) with
 | false =>
  have HZ:aG (gQ g ⟨kd,xa,xb,tx⟩=(g,aC)):=Pn hk3 (.inl (by simp only;rw[wR.out];exact e1))
  rw[e1] at C1;clear x0 x1 x2 x3 c0 cu cl T hgs;refine jg ?_;repeat (go_big_quiet_step ((first|(go_at_call 40;exact eY _ (C1 _))|rfl)))
  refine dh (iL fun wE eG=>?_)
  have vX:=dP (HG.out.step eG);clear y1 yu C1 eG;go_wp2;go_ret
  exact⟨dZ (by rw[HZ.out]),by rw[HZ.out];exact vX.out.iw⟩
 | true =>
 have hxa:=iZ.1 e1;obtain⟨a,rfl⟩:∃ a:Nat,xa=(a:Int):=⟨xa.toNat,by omega⟩
 have han:a<n:=by omega
 have ham:a<g.mem.length:=by rw[wR.out];exact han
 have hau:a<g.up.length:=by rw[WZ.out];exact han
 have a0:(0:Int)<=a:=by omega
 have a1:(a:Int)<n:=by omega
 rw[e1] at C1;obtain⟨ub,uo,uc',cu',cb,_,_⟩:=HG.out.bit (k:=a) hau;rw[WZ.out] at cu';have eu:=bT (cu.symm.trans cu')
 cases eu
 have yb:=T cb
 cases hup:ou g a with
 | false =>
  have HZ:aG (gQ g ⟨kd,(a:Int),xb,tx⟩=(g,aC)):=Pn hk3 (.inr hup);rw[hup] at yb;clear x0 x1 x2 x3 c0 cu cl T hgs cb cu' hup;refine jg ?_;repeat (go_big_quiet_step ((first|(go_at_call 40;exact eY _ (C1 _))|rfl)))
  refine dh (iL fun wE eG=>?_)
  have vX:=dP (HG.out.step eG);clear y1 yu yb C1 eG;go_wp2;go_ret
  exact⟨dZ (by rw[HZ.out]),by rw[HZ.out];exact vX.out.iw⟩
 | true =>
 have EZ:=Po (g:=g) (x:=⟨kd,(a:Int),xb,tx⟩) hk3 (by simp only;rw[wR.out];exact e1) hup
 rw[htw] at EZ;simp only[Int.toNat_natCast] at EZ;have HA:=dP EZ;rw[hup] at yb;clear x0 x1 x2 x3 c0 cu cl T hgs cb cu' hup EZ;refine jg ?_;repeat (go_big_quiet_step ((first|(go_at_call 40;exact eY _ (C1 _))|rfl)))
 refine dh (iL fun wE eG=>?_)
 have vX:=dP (HG.out.step eG);have HXE:=dP (HX.out.below eG);clear y1 yu yb C1 eG HG HX e1 hxa wn;generalize wE=V at *;have c0:=vX.out.mem;rw[wR.out] at c0;obtain⟨x0,x1,x2,x3⟩:=Bx.a4 HXE.out;obtain⟨ub,uo,uc,cu,cb,_,_⟩:=vX.out.bit (k:=a) hau;rw[WZ.out] at cu;have T:∀ {x v},V.cell? x=au v->∀ q:Bk V,q.w.cell? x=au v:=fun h q=>gy q.h h
 have p0:=T c0;have z1:=T x1;have z2:=T x2;have z3:=T x3;have pu:=T cu;by_cases hk1:kd=1
 ·have gk1:(kd==1)=aB:=by simpa using hk1
  have HZ:aG (gQ g ⟨kd,(a:Int),xb,tx⟩=(g.set a (jD (eF g a) tx).1,(jD (eF g a) tx).2)):=by rw[aG,HA.out,if_pos hk1]
  clear hk1 hk3 HA T;go_upto_region 15 with fail
  refine gK (C:=fun w'=>∃ p:Bk V,w'=p.w) 9 gq (by kernel_rfl) ⟨⟨V.drewN 1,fO (dw _ _)⟩,rfl⟩ ?_
  simp only[List.take_succ_cons,List.take_zero]
  repeat (go_big_quiet_step ((first|rfl)))
  refine dh (iL fun wE eG=>?_)
  simp only[List.drop_succ_cons,List.drop_zero]
  have G5:=vX.out.step eG;obtain⟨f9,hpl,hbk⟩:=G5.mb (k:=a) ham;have hM:=EM bb (off+a*5) (eF g a) a n tx f9 wE hpl (iE.out.mem a han) Xa.out;have OC:=dP hbk;clear hpl hbk G5 eG p0 z1 z2 z3 pu;go_wp2_with (go_at_call 98;refine hM.mono ?_;rintro e w5 ⟨rfl,hb5⟩;have tJ:aG (fH w w5 B o (fZ (g.set a (jD (eF g a) tx).1)) fp):=(OC.out w5 _ hb5).iw;clear hM hb5)
  go_ret
  exact⟨dZ (by rw[HZ.out]),by rw[HZ.out];exact tJ.out⟩
 have gk1:(kd==1)=aC:=by simpa using hk1
 by_cases hk2:kd=2
 ·have gk2:(kd==2)=aB:=by simpa using hk2
  have HZ0:aG (gQ g ⟨kd,(a:Int),xb,tx⟩=if tw=aB then (jT g (a:Int) xb,aB) else (g,aC)):=by rw[aG,HA.out,if_neg hk1,if_pos hk2]
  clear hk2 hk3 HA T
  cases tw with
  | false =>
   have HZ:aG (gQ g ⟨kd,(a:Int),xb,tx⟩=(g,aC)):=by rw[aG,HZ0.out];rfl
   go_wp2;go_ret
   exact⟨dZ (by rw[HZ.out]),by rw[HZ.out];exact vX.out.iw⟩
  | true =>
   have hb:=HTw.out.symm;simp only[bI,decide_eq_true_eq] at hb;have hb2:=iZ.1 hb.2.1;obtain⟨b,rfl⟩:∃ b:Nat,xb=(b:Int):=⟨xb.toNat,by omega⟩
   have HZ:aG (gQ g ⟨kd,(a:Int),(b:Int),tx⟩=(jT g (a:Int) (b:Int),aB)):=by rw[aG,HZ0.out];rfl
   have hP:dF dA 99 #[aO (au ⟨B,o,ak⟩),ah aA (a:Int),ah aA (b:Int)] V fun e w'=>e=aK (.tuple #[])/\fH w w' B o (fZ (jT g (a:Int) (b:Int))) fp:=by
    obtain⟨gU,hp,_,hgo⟩:=vX.out.iw.next;exact (KY B o g n a b gU _ hp iE.out han).mono (fun e w' ⟨e1,e2⟩=>⟨e1,hgo _ _ rfl e2⟩)
   clear hb hb2 HZ0 p0 z1 z2 z3 pu;go_wp2_with (go_at_call 99;refine hP.mono ?_;rintro e w5 ⟨rfl,hb5⟩;have tJ:aG (fH w w5 B o (fZ (jT g (a:Int) (b:Int))) fp):=hb5;clear hb5)
   go_ret
   exact⟨dZ (by rw[HZ.out]),by rw[HZ.out];exact tJ.out⟩
 have gk2:(kd==2)=aC:=by simpa using hk2
 by_cases hk4:kd=4
 ·have gk4:(kd==4)=aB:=by simpa using hk4
  have HZ:aG (gQ g ⟨kd,(a:Int),xb,tx⟩=(g.set a (fM (eF g a)),aB)):=by rw[aG,HA.out,if_neg hk1,if_neg hk2,if_pos hk4]
  clear hk4 hk3 HA T;go_upto_region 21 with fail
  refine gK (C:=fun w'=>∃ p:Bk V,w'=p.w) 7 gq (by kernel_rfl) ⟨⟨V.drewN 1,fO (dw _ _)⟩,rfl⟩ ?_
  simp only[List.take_succ_cons,List.take_zero]
  repeat (go_big_quiet_step ((first|rfl)))
  refine dh (iL fun wE eG=>?_)
  simp only[List.drop_succ_cons,List.drop_zero]
  have G5:=vX.out.step eG;obtain⟨f9,hpl,hbk⟩:=G5.mb (k:=a) ham;have hM:=EX bb (off+a*5) (eF g a) a n f9 wE hpl (iE.out.mem a han);have OC:=dP hbk;clear hpl hbk G5 eG p0 z1 z2 z3 pu;go_wp2_with (go_at_call 77;refine hM.mono ?_;rintro e w5 ⟨rfl,hb5⟩;have tJ:aG (fH w w5 B o (fZ (g.set a (fM (eF g a)))) fp):=(OC.out w5 _ hb5).iw;clear hM hb5)
  go_ret
  exact⟨dZ (by rw[HZ.out]),by rw[HZ.out];exact tJ.out⟩
 have gk4:(kd==4)=aC:=by simpa using hk4
 by_cases hk5:kd=5
 ·have gk5:(kd==5)=aB:=by simpa using hk5
  have HZ0:aG (gQ g ⟨kd,(a:Int),xb,tx⟩=if tw=aB then (g.set a (fJ (eF g a) xb).1,(fJ (eF g a) xb).2) else (g,aC)):=by rw[aG,HA.out,if_neg hk1,if_neg hk2,if_neg hk4,if_pos hk5]
  clear hk5 hk3 HA T
  cases tw with
  | false =>
   have HZ:aG (gQ g ⟨kd,(a:Int),xb,tx⟩=(g,aC)):=by rw[aG,HZ0.out];rfl
   go_upto_region 24 with fail
   refine jg ?_;repeat (go_big_quiet_step ((first|rfl)))
   refine dh (iL fun wE eG=>?_)
   have tJ:aG (fH w wE B o (fZ g) fp):=(vX.out.step eG).iw;clear eG p0 z1 z2 z3 pu;go_wp2;go_ret
   exact⟨dZ (by rw[HZ.out]),by rw[HZ.out];exact tJ.out⟩
  | true =>
   have HZ:aG (gQ g ⟨kd,(a:Int),xb,tx⟩=(g.set a (fJ (eF g a) xb).1,(fJ (eF g a) xb).2)):=by rw[aG,HZ0.out];rfl
   go_upto_region 24 with fail
   refine gK (C:=fun w'=>∃ p:Bk V,w'=p.w) 11 gq (by kernel_rfl) ⟨⟨V.drewN 1,fO (dw _ _)⟩,rfl⟩ ?_
   simp only[List.take_succ_cons,List.take_zero]
   repeat (go_big_quiet_step ((first|rfl)))
   refine dh (iL fun wE eG=>?_)
   simp only[List.drop_succ_cons,List.drop_zero]
   have G5:=vX.out.step eG;obtain⟨f9,hpl,hbk⟩:=G5.mb (k:=a) ham;have hM:=Lh bb (off+a*5) (eF g a) a n xb f9 wE hpl (iE.out.mem a han);have OC:=dP hbk;clear hpl hbk G5 eG p0 z1 z2 z3 pu;go_wp2_with (go_at_call 100;refine hM.mono ?_;rintro e w5 ⟨rfl,hb5⟩;have tJ:aG (fH w w5 B o (fZ (g.set a (fJ (eF g a) xb).1)) fp):=(OC.out w5 _ hb5).iw;clear hM hb5)
   go_ret
   exact⟨dZ (by rw[HZ.out]),by rw[HZ.out];exact tJ.out⟩
 have gk5:(kd==5)=aC:=by simpa using hk5
 by_cases hk6:kd=6
 ·have gk6:(kd==6)=aB:=by simpa using hk6
  have HZ:aG (gQ g ⟨kd,(a:Int),xb,tx⟩=({ g with up:=g.up.set a aC },aB)):=by rw[aG,HA.out,if_neg hk1,if_neg hk2,if_neg hk4,if_neg hk5,if_pos hk6]
  clear hk6 hk3 HA T;go_upto_region 26 with fail
  refine gK (C:=fun w'=>∃ p:Bk V,w'=p.w) 7 gq (by kernel_rfl) ⟨⟨V.drewN 1,fO (dw _ _)⟩,rfl⟩ ?_
  simp only[List.take_succ_cons,List.take_zero]
  repeat (go_big_quiet_step ((first|rfl)))
  refine dh (iL fun wE eG=>?_)
  simp only[List.drop_succ_cons,List.drop_zero]
  have G5:=vX.out.step eG;obtain⟨ub5,uo5,uc5,cu5,cb5,cf5,hbk⟩:=G5.bit (k:=a) hau;rw[WZ.out] at cu5;have eu:=bT ((pu ⟨wE,eG⟩).symm.trans cu5)
  cases eu
  have tJ:aG (fH w (wE.setCell ⟨ub,uo+a,ak⟩ (aF aC)) B o (fZ { g with up:=g.up.set a aC }) fp):=(hbk aC).iw
  clear hbk G5 eG p0 z1 z2 z3 pu cu5;go_wp2;go_ret
  exact⟨dZ (by rw[HZ.out]),by rw[HZ.out];exact tJ.out⟩
 have gk6:(kd==6)=aC:=by simpa using hk6
 by_cases Pq:kd=7
 ·have gk7:(kd==7)=aB:=by simpa using Pq
  have HZ:aG (gQ g ⟨kd,(a:Int),xb,tx⟩=(oC g (a:Int),aB)):=by rw[aG,HA.out,if_neg hk1,if_neg hk2,if_neg hk4,if_neg hk5,if_neg hk6,if_pos Pq]
  clear Pq hk3 HA T
  have hP:dF dA 78 #[aO (au ⟨B,o,ak⟩),ah aA (a:Int)] V fun e w'=>e=aK (.tuple #[])/\fH w w' B o (fZ (oC g (a:Int))) fp:=by
   obtain⟨gU,hp,_,hgo⟩:=vX.out.iw.next;exact (Lc B o g n a gU _ hp iE.out han).mono (fun e w' ⟨e1,e2⟩=>⟨e1,hgo _ _ (by rfl) e2⟩)
  clear p0 z1 z2 z3 pu;go_wp2_with (go_at_call 78;refine hP.mono ?_;rintro e w5 ⟨rfl,hb5⟩;have tJ:aG (fH w w5 B o (fZ (oC g (a:Int))) fp):=hb5;clear hb5)
  go_ret
  exact⟨dZ (by rw[HZ.out]),by rw[HZ.out];exact tJ.out⟩
 have gk7:(kd==7)=aC:=by simpa using Pq
 have HZ:aG (gQ g ⟨kd,(a:Int),xb,tx⟩=(g,aC)):=by rw[aG,HA.out,if_neg hk1,if_neg hk2,if_neg hk4,if_neg hk5,if_neg hk6,if_neg Pq]
 clear hk1 hk2 hk3 hk4 hk5 hk6 Pq HA T p0 z1 z2 z3 pu;go_wp2;go_ret
 exact⟨dZ (by rw[HZ.out]),by rw[HZ.out];exact vX.out.iw⟩
end
theorem fH.grp {wr: aI} (h:fH w wr B o (fZ g) fp) (ok:OkG g n):∃ bb off c la lc,wr.cell? ⟨B,o,ak⟩=au (aj (au ⟨bb,off,ak⟩) n c)/\wr.cell? ⟨B,o+2,ak⟩=au (aj la g.dS.length lc) /\
  ∀ j,j<n->(∃ ub uo uc,wr.cell? ⟨B,o+1,ak⟩=au (aj (au ⟨ub,uo,ak⟩) n uc)/\wr.cell? ⟨ub,uo+j,ak⟩=au (aF (ou g j))) /\
   dF dA 77 #[aO (au ⟨bb,off+j*5,ak⟩)] wr fun e w'=>e=aK (.tuple #[])/\fH w w' B o (fZ (g.set j (fM (eF g j)))) fp:=by
 obtain⟨gU,hp,_,hgo⟩:=h.next;have n5:=ok.n5;obtain⟨bb,off,c,G⟩:=Gw.start hp (by rw[ok.ml];omega)
 obtain⟨u,f,f0,hu,hfz,how,_⟩:=G.full;obtain⟨la,lc,_,_,_,rfl,_⟩:=how;refine⟨bb,off,c,la,lc,by rw[<- ok.ml];exact G.mem,hu,fun j hj=>⟨?_, ?_⟩⟩
 ·obtain⟨ub,uo,uc,h1,h2,_⟩:=G.bit (k:=j) (by rw[ok.ul];exact hj)
  exact⟨ub,uo,uc,by rw[<- ok.ul];exact h1,h2⟩
 ·obtain⟨f9,hpl,hbk⟩:=G.mb (k:=j) (by rw[ok.ml];exact hj)
  refine (EX bb (off+j*5) (eF g j) j n f9 wr hpl (ok.mem j hj)).mono (fun e w' ⟨e1,e2⟩=>⟨e1,hgo _ _ rfl ?_⟩)
  exact (hbk w' _ e2).iw
def kD (g:Gr) (k:Nat):Gr:=(List.range k).foldl qx g
theorem zu (g:Gr) (k:Nat):kD g (k+1)=qx (kD g k) k:=by
 unfold kD;rw[List.range_succ,List.foldl_append]
 rfl
theorem ZJ {i: Nat} (h:iO m i n):iO (fM m) i n:=(stepM h).ok
theorem OkG.row (h:OkG g n) (hk:k<n):OkG (g.set k (fM (eF g k))) n/\OkG (oC (g.set k (fM (eF g k))) (k:Int)) n:=by
 have h1:=h.to hk (ZJ (h.mem k hk));refine⟨h1, ?_⟩;unfold oC;exact (OkG.all hk _ h1 (fun x hx=>by have:=List.mem_range.1 hx;rw[h1.ml] at this;exact this)).1
theorem vK {g:Gr} {n:Nat} (h:OkG g n):∀ k,k<=n->OkG (kD g k) n
 | 0,_=>h
 | k+1,hk=>by
  have ih:=vK h k (by omega)
  rw[zu,qx]
  split
  ·exact (ih.row (by omega)).2
  ·exact ih
def pY:Nat->Gr->Gr
 | 0,g=>g
 | k+1,g=>pW (pY k g)
theorem Xb (g:Gr):vC g=pY 8 g:=rfl
theorem DI (h:OkG g n):pW g=drain (kD g n).dS.length (kD g n):=by
 unfold pW kD;rw[h.ml]
theorem LV (f:Nat) (h:0<g.dS.length):drain (f+1) g=drain f (ku g 0):=by rw[drain,if_pos h]
theorem LW {n:Nat}:∀ (f:Nat) {g:Gr},OkG g n->OkG (drain f g) n
 | 0,g,h=>h
 | f+1,g,h=>by
  rw[drain]
  split
  ·rename_i hl
   exact LW f (h.land hl).1
  ·exact h
theorem zY {g:Gr} {n:Nat} (h:OkG g n):∀ k,OkG (pY k g) n
 | 0=>h
 | k+1=>by
  have ih:=zY h k;rw[pY,DI ih];exact LW _ (vK ih n (cO _))
theorem Xc (B o:Nat) (g:Gr) (n:Nat) (fp:Fp) (w:aI) (h:iP w B o (fZ g) fp) (ok:OkG g n) :
  dF dA 39 #[aO (au ⟨B,o,ak⟩)] w fun e w'=>e=aK (.tuple #[])/\fH w w' B o (fZ (vC g)) fp:=by
 have jq:=ok.n5;have H0:=dP (fH.refl h);have iE:=dP (zY ok)
 have BA:aG (∀ (q:Gr) (wr:aI) (j:Nat),j<n->OkG q n->fH w wr B o (fZ q) fp->dF dA 78 #[aO (au ⟨B,o,ak⟩),ah aA (j:Int)] wr fun e w'=>e=aK (.tuple #[])/\fH w w' B o (fZ (oC q (j:Int))) fp):=fun q wr j hj okq hb=>by
  obtain⟨gU,hp,_,hgo⟩:=hb.next;exact (Lc B o q n j gU wr hp okq hj).mono (fun e w' ⟨e1,e2⟩=>⟨e1,hgo _ _ rfl e2⟩)
 have aK3:aG (∀ (q:Gr) (wr:aI),0<q.dS.length->OkG q n->fH w wr B o (fZ q) fp->dF dA 79 #[aO (au ⟨B,o,ak⟩),ah aA 0] wr fun e w'=>e=aK (.tuple #[])/\fH w w' B o (fZ (ku q 0)) fp):=fun q wr hl okq hb=>by
  obtain⟨gU,hp,_,hgo⟩:=hb.next;exact (Ll B o q n 0 gU wr hp okq hl).mono (fun e w' ⟨e1,e2⟩=>⟨e1,hgo _ _ rfl e2⟩)
 clear h ok;go_enter Tryz.func39,Tryz.ntmps39
 go_wp2
 go_loopw [2] (fun i wr=>∃ k:Nat,k<=8/\i=ah aA (k:Int)/\fH w wr B o (fZ (pY k g)) fp) (fun i _=>8-(dG i).toNat)
 case atStart=>exact⟨0,cZ _,rfl,H0.out⟩
 case round =>
  obtain⟨k,hk,rfl,hb⟩:=hrel;have HB:=dP hb;clear hb;by_cases hlt:k<8
  ·have k1:(k:Int)<8:=by omega
   obtain⟨q,hq⟩:∃ q:Gr,aG (pY k g=q):=⟨_,rfl⟩;have HBq:aG (fH w wr B o (fZ q) fp):=by rw[aG,<- hq.out];exact HB.out
   have HOq:aG (OkG q n):=by rw[aG,<- hq.out];exact iE.out k
   have yV:aG (pY (k+1) g=drain (kD q n).dS.length (kD q n)):=by rw[aG,pY,hq.out];exact DI HOq.out
   generalize wr=V at *;go_wp2
   go_loopw [3] (fun i wr=>∃ j:Nat,j<=n/\i=ah aA (j:Int)/\fH w wr B o (fZ (kD q j)) fp) (fun i _=>n-(dG i).toNat)
   case atStart=>exact⟨0,cZ _,rfl,HBq.out⟩
   case round =>
    obtain⟨j,hj,rfl,hb⟩:=hrel;have SG:=vK HOq.out j hj;obtain⟨bb,off,c,la,lc,c0,c2,hgo⟩:=hb.grp SG;have Gv:=dP hb;have HOj:=dP SG;clear hb SG;by_cases hlj:j<n
    ·have j1:(j:Int)<n:=by omega
     have j0:(0:Int)<=j:=by omega
     obtain⟨⟨ub,uo,uc,cu,cb⟩,hSt⟩:=hgo j hlj;have HMo:=dP (zu q j);have HR:=HOj.out.row hlj;have HR1:=dP HR.1;have HCr:aG (qx (kD q j) j=if ou (kD q j) j=aB then oC ((kD q j).set j (fM (eF (kD q j) j))) (j:Int) else kD q j):=rfl
     clear hgo HR c2;obtain⟨rn,hrn⟩:∃ rn,aG (kD q (j+1)=rn):=⟨_,rfl⟩;rw[hrn.out] at HMo;generalize kD q j=rj at *
     cases hup:ou rj j with
     | false =>
      have HN:aG (fH w wr B o (fZ rn) fp):=by rw[aG,HMo.out,HCr.out,hup];exact Gv.out
      rw[hup] at cb;clear hup hSt;go_wp2;go_roundw
      case rel=>exact⟨j+1,by omega,by go_num,by rw[hrn.out];exact HN.out⟩
      case measure=>simp[dG];omega
     | true =>
      have HE:aG (oC (rj.set j (fM (eF rj j))) (j:Int)=rn):=by rw[aG,HMo.out,HCr.out,hup];rfl
      rw[hup] at cb;clear hup;go_wp2_with (first|(go_at_call 77;refine hSt.mono ?_;rintro e w5 ⟨rfl,hb5⟩;have hAl:=BA.out _ w5 j hlj HR1.out hb5;clear hb5 hSt)|(go_at_call 78;refine hAl.mono ?_;rintro e w6 ⟨rfl,hb6⟩;have HN:aG (fH w w6 B o (fZ rn) fp):=(by rw[aG,<- HE.out];exact hb6);clear hb6))
      go_roundw
      case rel=>exact⟨j+1,by omega,by go_num,by rw[hrn.out];exact HN.out⟩
      case measure=>simp[dG];omega
    ·have j1:¬ ((j:Int)<n):=by omega
     have e:j=n:=by omega
     obtain⟨q2,hq2⟩:∃ q2:Gr,aG (kD q n=q2):=⟨_,rfl⟩;have HB2:aG (fH w wr B o (fZ q2) fp):=by rw[aG,<- hq2.out,<- e];exact Gv.out
     have xg:aG (OkG q2 n):=by have h1:=HOj.out;rw[e] at h1;rw[aG,<- hq2.out];exact h1
     have yT:aG (pY (k+1) g=drain q2.dS.length q2):=by rw[aG,yV.out,hq2.out]
     clear e hgo c2 Gv HOj;generalize wr=U at *;go_wp2;clear c0
     go_loopg [40] (q2.dS.length+1) (fun gk v wr=>∃ p:Gr,p.dS.length<gk/\OkG p n/\aG (drain q2.dS.length q2=drain p.dS.length p)/\fH w wr B o (fZ p) fp)
     case atStart=>exact⟨q2,by omega,xg.out,rfl,HB2.out⟩
     case round =>
      obtain⟨p,hgk,okp,hdr,hb⟩:=hrel;obtain⟨bb,off,c,la,lc,c0,c2,_⟩:=hb.grp okp;have HBp:=dP hb;have HOp:=dP okp;have EI:=okp.pJ;clear hb okp;by_cases hl:0<p.dS.length
      ·have l1:(0:Int)<p.dS.length:=by omega
       have DZ:=aK3.out p wr hl HOp.out HBp.out;have hok:=HOp.out.land hl;have HOl:=dP hok.1
       have HLl:aG ((ku p 0).dS.length+1=p.dS.length):=by
        rw[aG,hok.2.2.1];simp only[List.take_zero,List.nil_append,List.length_drop]
        omega
       have wH:aG (drain q2.dS.length q2=drain (ku p 0).dS.length (ku p 0)):=by
        rw[aG,hdr.out,<- HLl.out,LV _ (by omega)]
       clear hok hdr;go_wp2_with (go_at_call 79;refine DZ.mono ?_;rintro e w5 ⟨rfl,hb5⟩;have oM:aG (fH w w5 B o (fZ (ku p 0)) fp):=hb5;clear hb5 DZ)
       go_roundg ((ku p 0).dS.length+1)
       case rel=>exact⟨ku p 0,by omega,HOl.out,wH,oM.out⟩
       case measure=>have:=HLl.out;omega
      ·have l1:¬ ((0:Int)<p.dS.length):=by omega
       have HF:aG (fH w wr B o (fZ (pY (k+1) g)) fp):=by
        have e:p.dS.length=0:=by omega
        have e2:drain p.dS.length p=p:=by rw[e];rfl
        rw[aG,yT.out,hdr.out,e2];exact HBp.out
       clear hdr HBp;go_wp2;go_roundw
       case rel=>exact⟨k+1,by omega,by go_num,HF.out⟩
       case measure=>simp[dG];omega
  ·have k1:¬ ((k:Int)<8):=by omega
   have e:k=8:=by omega
   have HF:aG (fH w wr B o (fZ (vC g)) fp):=by rw[aG,Xb,<- e];exact HB.out
   clear e;go_wp2;go_end0;exact⟨rfl,HF.out⟩
section
def J3 (m:Mb) (who:Int):Mb×Bool:=if iG m=aB then fJ m who else (kY,aC)
def J4 (m:Mb) (fr:Int) (r:Rw):Mb×Bool:=if iG m=aB then fK m fr r else (kY,aC)
theorem Bx.pc {cs: Array aJ} (h:Bx w B T cs):Pc w B 0 cs.toList :=
 ⟨fun j hj => by
  have hj':j<cs.size:=by simpa using hj
  rw[Nat.zero_add,h.at j (Array.getElem?_eq_getElem hj')];simp[hj'],fun j _=>by rw[Nat.zero_add];exact h.f j,h.lt⟩
theorem SH {A: Ma} (h:Bx w B T (iq A m)) (hl:gB w (jB m) (jC A m) fp) (hB:¬ fp B):iP w B 0 (jY m) fp:=⟨_,h.pc,II hl,hB⟩
attribute [local irreducible] sv
end
end Go.Proofs.YtafimeakbdmkjaaGreat