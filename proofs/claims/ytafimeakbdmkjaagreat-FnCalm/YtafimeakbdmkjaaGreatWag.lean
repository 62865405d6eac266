/-
  Texts in one.
-/
import Derived.Test.YtafimeakbdmkjaaGreatWaf
import Derived.Test.YtafimeakbdmkjaaGreatWae
import Derived.Test.YtafimeakbdmkjaaGreatWad
import Derived.Test.YtafimeakbdmkjaaGreatWac
import Derived.Test.YtafimeakbdmkjaaGreatWab
import Derived.Test.YtafimeakbdmkjaaGreatWaa
import Derived.Deep.CutRange
import Derived.Deep.LoopGhost
import Derived.BigQuiet
import Derived.Deep.RegionHeld3
import Derived.Deep.CutBlock
import Derived.Defers
import Derived.Recover
namespace Go.Proofs.YtafimeakbdmkjaaGreat
open Bool renaming and_eq_true->aU2,false->aC,true->aB,true_and->aX7
open Go renaming Addr->ba5,Calls->ba3,Value->aJ,World->aI,bodyPost_ret->aY1,maxLen->ba2,wpQuiet_nil->aZ2
open Go.Ending renaming returned->aK
open Go.Exit renaming inBlock->aY3
open Go.IntKind renaming i64->aA
open Go.Obj renaming cells->aH
open Go.Proofs.Tryz renaming prog->aZ8,results65->aX3
open Go.RowKit renaming Hid->aG,intOf->ba4
open Go.RowKit.Below renaming refl->aZ5
open Go.Value renaming bool->aF,int->aZ9,int->ah,pointer->aO,slice->aj,string->aN
open List renaming all_eq_true->aU3,drop_succ_cons->cZ,drop_zero->aX0,getD->ba0,getD_eq_getElem?_getD->aV,getElem?_eq_getElem->bC,getElem_mem->aU7,length_append->dB,length_cons->aU6,length_set->aV3,map_append->aV9,map_cons->aX8,mem_cons->aX5,mem_cons_of_mem->bV,mem_cons_self->dD,mem_iff_getElem->bU,not_mem_nil->aU9,set_set->aY4,take_length->aV2,take_succ_cons->dA,take_succ_eq_append_getElem->aS,take_zero->aX2
open Nat renaming add_zero->aY5,le_refl->aZ0,le_trans->aY2,lt_succ_iff_lt_or_eq->bD,zero_add->aY7,zero_le->aZ1
open Option renaming none->ak,some->au
open Option.some renaming inj->aV4
set_option linter.unusedVariables false
set_option linter.unusedSimpArgs false
open Go.RowKit Go.Sort
set_option maxRecDepth 100000
set_option maxHeartbeats 12800000
variable {X:aI} {B b i k len n o:Nat} {f fp:Fp} {r:Rw} {T:TypeId} {x:Ac} {cs:Array aJ}
theorem Mw.call {w: aI} {m: Mb} {g off c: Nat} (h:Mw w X B o m fp g off c):∃ gI,iO X B o (kC m) gI/\(∀ b,gI b->fp b\/w.heap.size<=b)/\∀ (Y:aI) (m':Mb),m'.rows.length=m.rows.length->Mk X Y B o m' gI->Mw w Y B o m' fp g off c:=by
 obtain⟨gI,hp,hf1,hgo⟩:=h.iw.next;exact⟨gI,hp,hf1,fun Y m' hl hk=>⟨hgo Y _ rfl hk.iw,by rw[hk.rws,h.rws,hl]⟩⟩
theorem iR.sz (h:iR r n):kK r<=1048576:=by
 have h5:=h.n5;have h1:=h.gl;have h2:=h.sl;have h3:=h.ml;have h4:=h.tl;have h6:BL r.txt r.txt.length<=r.txt.length*20:=CQ (fun i hi=>h.ts _ (by rw[aV,bC hi];exact aU7 hi)) _ (aZ0 _)
 unfold kK;omega
theorem Fg (B o:Nat) (m:Mb) (i n:Nat) (fp:Fp) (w:aI) (h:iO w B o (kC m) fp) (ok:iP m i n) :
  ba3 aZ8 77 #[aO (au ⟨B,o,ak⟩)] w fun e w'=>e=aK (.tuple #[])/\fH w w' B o (kC (fB m)) fp:=by
 have fU:=iq;have hil:i<m.rows.length:=by rw[ok.len];exact ok.lt
 obtain⟨g,off,c,M0⟩:=Mw.start h (by omega)
 obtain⟨c0,c1,c4⟩:=M0.id';have c2:=M0.rws;rw[ok.hid] at c0;have i0:(0:Int)<=i:=by omega
 have i1:(i:Int)<m.rows.length:=by omega
 have p0:∀ q:Bk w,q.w.cell? ⟨B,o,ak⟩=_:=fun q=>fM q.h c0
 have p2:∀ q:Bk w,q.w.cell? ⟨B,o+2,ak⟩=_:=fun q=>fM q.h c2
 have kU:=dP M0;clear c0 c1 c4 c2 M0 h;go_enter Tryz.func77,Tryz.ntmps77
 go_wp2_with fail
 refine jf ?_;repeat (go_big_quiet_step ((first|rfl)))
 refine aZ2 (iI fun wE eH=>?_)
 clear p0 p2;have fZ:=dP (kU.out.step eH);obtain⟨c0,c1,c4⟩:=fZ.out.id';obtain⟨Ak,⟨⟨d0,d1,d2,d3⟩,d4,d5,d6,d7⟩,hrs⟩:=fZ.out.row ok.fit hil;have hr:=ok.ok i ok.lt;have jY:aG (m.done=aB\/(dO m.rows i).ver=1000000->fB m=m):=fun h=>by rw[fB,if_pos (by rw[ok.own];exact h)]
 have yX:aG (¬ (m.done=aB\/(dO m.rows i).ver=1000000)->fB m={ m with rows:=m.rows.set i (kG m),dR:=if jJ m=aB then jO (iU m) (fD m).dU else iU m,done:=jJ m }):=fun h=>by rw[fB,if_neg (by rw[ok.own];exact h),ok.i]
 cases hdn:m.done with
 | true =>
  have HZ:=dP (jY.out (.inl hdn));rw[hdn] at c4;clear jY yX hrs d0 d1 d2 d3 d4 d5 d6 d7 c0 c1 hdn;go_wp2
  (try simp only[aY3,Exit.then])
  refine aY1 (results_none rfl _ _ _) rfl ?_;rw[HZ.out];exact⟨rfl,fZ.out.iw⟩
 | false =>
 rw[hdn] at c4;by_cases kD:(dO m.rows i).ver=1000000
 ·have HZ:aG (fB m=m):=jY.out (.inr kD)
  have ev:((dO m.rows i).ver==1000000)=aB:=by rw[kD];rfl
  clear jY yX hrs d1 d2 d3 d4 d5 d6 d7 c0 c1 hdn kD;go_wp2
  (try simp only[aY3,Exit.then])
  refine aY1 (results_none rfl _ _ _) rfl ?_;rw[HZ.out];exact⟨rfl,fZ.out.iw⟩
 have ev:((dO m.rows i).ver==1000000)=aC:=by simpa using kD
 have G:=DJ ok hdn;have HZ:aG (fB m=_):=yX.out (by rw[hdn];simp;exact kD)
 have HVB:=dP kD;have HDN:=dP hdn;have hC:=yL Ak (dO m.rows i) wE hrs hr.ln.1 hr.ln.2.1 hr.ln.2.2.1 hr.ln.2.2.2;unfold iK fP at hC;clear jY yX kD hdn;go_wp2_with fail
 refine hC.mono ?_;rintro e w1 ⟨Ao,rfl,hN⟩;have Ci:=dP hN;clear hN hC hrs d0 d1 d2 d3 d4 d5 d6 d7 c0 c1 c4;unfold iK fP;go_wp2_with fail
 have hb1:Below wE.heap.size wE w1:=by obtain⟨_,_,_,hb⟩:=Ci.out;exact hb
 have hb5:Below wE.heap.size wE (w1.alloc (aH #[ah aA (dO m.rows i).ver,aj Ao.ta (dO m.rows i).txt.length Ao.tc,aj Ao.ga (dO m.rows i).got.length Ao.gc,aj Ao.sa (dO m.rows i).dQ.length Ao.sc,aF (dO m.rows i).wed,aF (dO m.rows i).dV,ah aA (dO m.rows i).dW,aj Ao.ma (dO m.rows i).dU.length Ao.mc] 44)):=hb1.trans ((dX w1 _).mono hb1.size);have hx5:Bx (w1.alloc (aH #[ah aA (dO m.rows i).ver,aj Ao.ta (dO m.rows i).txt.length Ao.tc,aj Ao.ga (dO m.rows i).got.length Ao.gc,aj Ao.sa (dO m.rows i).dQ.length Ao.sc,aF (dO m.rows i).wed,aF (dO m.rows i).dV,ah aA (dO m.rows i).dW,aj Ao.ma (dO m.rows i).dU.length Ao.mc] 44)) w1.heap.size 44 #[ah aA (dO m.rows i).ver,aj Ao.ta (dO m.rows i).txt.length Ao.tc,aj Ao.ga (dO m.rows i).got.length Ao.gc,aj Ao.sa (dO m.rows i).dQ.length Ao.sc,aF (dO m.rows i).wed,aF (dO m.rows i).dV,ah aA (dO m.rows i).dW,aj Ao.ma (dO m.rows i).dU.length Ao.mc]:=Bx.new w1 _ _;have hi5:It (w1.alloc (aH #[ah aA (dO m.rows i).ver,aj Ao.ta (dO m.rows i).txt.length Ao.tc,aj Ao.ga (dO m.rows i).got.length Ao.gc,aj Ao.sa (dO m.rows i).dQ.length Ao.sc,aF (dO m.rows i).wed,aF (dO m.rows i).dV,ah aA (dO m.rows i).dW,aj Ao.ma (dO m.rows i).dU.length Ao.mc] 44)) (jL (dO m.rows i)) (jw Ao (dO m.rows i)) wE.heap.size w1.heap.size:=(It.az0 Ci.out).below (dX w1 _);generalize w1.alloc (aH #[ah aA (dO m.rows i).ver,aj Ao.ta (dO m.rows i).txt.length Ao.tc,aj Ao.ga (dO m.rows i).got.length Ao.gc,aj Ao.sa (dO m.rows i).dQ.length Ao.sc,aF (dO m.rows i).wed,aF (dO m.rows i).dV,ah aA (dO m.rows i).dW,aj Ao.ma (dO m.rows i).dU.length Ao.mc] 44)=W5 at *;obtain⟨jE,f1,f2,f3,M5,f5⟩:=fZ.out.sub hb5;have aD2:aG (∀ (Y:aI) (m':Mb),Mw W5 Y B o m' jE g off c->Mw w Y B o m' fp g off c):=f5;have aD3:aG (∀ (Y:aI) (m':Mb),Mw W5 Y B o m' jE g off c->Bx Y w1.heap.size 44 #[ah aA (dO m.rows i).ver,aj Ao.ta (dO m.rows i).txt.length Ao.tc,aj Ao.ga (dO m.rows i).got.length Ao.gc,aj Ao.sa (dO m.rows i).dQ.length Ao.sc,aF (dO m.rows i).wed,aF (dO m.rows i).dV,ah aA (dO m.rows i).dW,aj Ao.ma (dO m.rows i).dU.length Ao.mc]/\qJ Y Ao (dO m.rows i)):=fun Y m' hY=>⟨hY.bx hx5 (fun h=>by have:=f1 _ h;have:=hb1.size;omega) (by have:=hb1.size;omega),Ot (hi5.wrt hY.iw.wrt (fun b hb=>.inl (by rcases hb with hb|hb;exact f1 b hb;rw[hb];exact f2))) hr.fit hr.sz⟩
 obtain⟨fq,hpq,_,AO⟩:=M5.call;have hL:=Xe B o m i n fq W5 hpq ok;rw[<- G.e1] at hL;refine hL.mono ?_;rintro e X1 ⟨rfl,hk1⟩;have jX:=dP (AO X1 _ (ni _) hk1);have HVR:aG (0<=(dO m.rows i).ver/\(dO m.rows i).ver<1000000):=by have h1:=hr.ver;have h2:=HVB.out;rw[aG];omega
 have jy:=ok.n5;generalize w1.heap.size=ob at *;clear hL hk1 hpq AO M5 f5 f1 f2 f3 hb5 hx5 hi5 hb1 Ci fZ kU eH hr HVB ev;have hls:∀ r:Rw,(m.rows.set i r).length=m.rows.length:=fun r=>aV3
 have hs:∀ r:Rw,dO (m.rows.set i r) i=r:=fun r=>iW hil
 have wo:=dP hls;have HSL:=dP hs;clear hls hs;obtain⟨_,_,w4,_,⟨rfl,_⟩,_⟩:=jX.out.at (k:=i) (by simp only[wo.out];exact hil) (j:=4) (cl:=.v (aF (fF m).wed)) (by simp only[HSL.out];rfl)
 obtain⟨b1,hb1⟩:∃ b:Bool,aG ((fF m).wed=b):=⟨_,rfl⟩;rw[hb1.out] at w4
 go_upto_if 36 with fail
 clear w4
 go_cut [4] from 37 to 69 (fun _ wx=>Mw W5 wx B o { m with rows:=m.rows.set i (gV m),dR:=iU m } jE g off c)
 case first =>
  cases b1 with
  | true =>
   obtain⟨e2,eS⟩:=G.wd hb1.out;have HE:aG (Mw W5 X1 B o { m with rows:=m.rows.set i (gV m),dR:=iU m } jE g off c):=by rw[aG,e2,eS];exact jX.out
   clear e2 eS;go_wp2;go_meet
   case rel=>exact HE.out
  | false =>
   obtain⟨e2,aO6,eS⟩:=G.uw hb1.out;have HE2:=dP e2;have HES:=dP eS;have hgl:(fF m).got.length=n:=by have:=(G.ok1.ok i ok.lt).gl;simp only[HSL.out] at this;exact this
   have HTX:aG (∀ (j:Nat) (r:Rw),r.txt=(fF m).txt->(dO (m.rows.set i r) j).txt=(dO m.rows j).txt):=fun j r hr=>by
    rw[gB hil]
    split
    ·rename_i h;rw[h,hr,G.e1];exact (qY _ _ _ _).txt
    ·rfl
   have HGB:aG (∀ j,j<n->0<=el (fF m).got j/\el (fF m).got j<=12):=fun j hj=>by have:=(G.ok1.ok i ok.lt).g j hj;simp only[HSL.out] at this;exact this
   have HTB:aG (∀ j,j<n->(dO m.rows j).txt.length<=12):=fun j hj=>(ok.ok j hj).tl
   clear e2 eS;go_wp2_with fail
   go_loopw [4] (fun k wr=>∃ j:Nat,j<=n/\k=ah aA (j:Int)/\Mw W5 wr B o { m with rows:=m.rows.set i { fF m with got:=kE m.rows (fF m) n j } } jE g off c) (fun k _=>n-(ba4 k).toNat)
   case atStart=>exact⟨0,aZ1 _,rfl,by rw[MC hgl];exact jX.out⟩
   case round =>
    obtain⟨j,hj,rfl,M⟩:=hrel;have HM:=dP M;obtain⟨c0,c1,c4⟩:=M.id';simp only at c1
    rw[ok.hn] at c1;by_cases hlt:j<n
    ·have j1:(j:Int)<n:=by omega
     have j0:(0:Int)<=j:=by omega
     have j2:(j:Int)<m.rows.length:=by rw[ok.len];exact j1
     have hjl:j<m.rows.length:=by rw[ok.len];exact hlt
     have c2:=M.rws;simp only[wo.out] at c2;obtain⟨_,_,hu1,_,aD4,_⟩:=M.at (k:=j) (by simp only[wo.out];exact hjl) (j:=1) (cl:=ny (dO (m.rows.set i { fF m with got:=kE m.rows (fF m) n j }) j).txt) rfl
     obtain⟨ta,tc,_,rfl,_⟩:=qI.1 aD4;rw[HTX.out j { fF m with got:=kE m.rows (fF m) n j } rfl] at hu1
     have GX:j<(kE m.rows (fF m) n j).length:=by rw[rJ];exact hlt
     obtain⟨_,_,hu2,_,BQ,_⟩:=M.at (k:=i) (by simp only[wo.out];exact hil) (j:=2) (cl:=gQ (kE m.rows (fF m) n j)) (by simp only[HSL.out];rfl)
     obtain⟨gb,go,gc,rfl,_,hge,_,_⟩:=l9 BQ GX;rw[rJ] at hu2;rw[SV hlt,if_neg (Nat.lt_irrefl _)] at hge;have CM:∀ q:Bk wr,ba3 aZ8 30 #[ah aA (el (fF m).got j),ah aA ((dO m.rows j).txt.length:Int)] q.w fun e w'=>e=aK (ah aA (max (el (fF m).got j) ((dO m.rows j).txt.length:Int)))/\Below q.w.heap.size q.w w':=fun q=>(Ey _ _ q.w).mono (fun e w' h=>⟨h.1,by rw[h.2];exact aZ5 _ _⟩)
     have T:∀ {x v},wr.cell? x=au v->∀ q:Bk wr,q.w.cell? x=au v:=fun h q=>fM q.h h
     have p2:=T c2;have q1:=T hu1;have q2:=T hu2;have q3:=T hge;have HGP:aG ((kE m.rows (fF m) n j).set j (max (el (fF m).got j) ((dO m.rows j).txt.length:Int))=kE m.rows (fF m) n (j+1)):=MF hlt;have wj:wrap64 ((j:Int)+1)=(j:Int)+1:=by unfold wrap64;omega
     clear c0 c4 c2 hu1 aD4 hu2 BQ hge T M;generalize hmx:max (el (fF m).got j) ((dO m.rows j).txt.length:Int)=mx at *;generalize el (fF m).got j=x at *;go_wp2_with fail
     clear c1;refine gJ (C:=fun w'=>∃ p:Bk wr,w'=p.w) 23 fU (by kernel_rfl) ⟨⟨wr.drewN 1,fO (aZ5 _ _)⟩,rfl⟩ ?_
     simp only[dA,aX2]
     repeat (go_big_quiet_step ((first|(go_at_call 30;exact eY _ (CM _))|rfl)))
     refine aZ2 (iI fun wE eH=>?_)
     simp only[cZ,aX0]
     have hu3:=q2 ⟨wE,eH⟩;simp only at hu3
     have M3:=HM.out.step eH;obtain⟨u,f3,hu,hfz,how,hlt3,hset⟩:=M3.at (k:=i) (by simp only[wo.out];exact hil) (j:=2) (cl:=gQ (kE m.rows (fF m) n j)) (by simp only[HSL.out];rfl)
     obtain rfl:=aV4 (hu.symm.trans hu3);obtain⟨gb',go',gc',e4,UZ,hge,hgz,hgs⟩:=l9 how GX;rw[rJ] at e4
     cases e4
     obtain⟨k1,k2⟩:=hgs mx;obtain⟨_,_,_,xA⟩:=hset _ (gQ ((kE m.rows (fF m) n j).set j mx)) _ f3 { fF m with got:=(kE m.rows (fF m) n j).set j mx } (by simp only[HSL.out];rfl) k2 k1 (fun b hb=>.inl hb)
     have lU:aG (Mw W5 (wE.setCell ⟨gb,go+j,ak⟩ (ah aA mx)) B o { m with rows:=m.rows.set i { fF m with got:=kE m.rows (fF m) n (j+1) } } jE g off c):=by
      have:=xA rfl;simp only[aY4] at this;rw[HGP.out] at this;exact this
     clear xA hgs k1 k2 hset M3 how hu hu3 hfz p2 q1 q2 q3 hlt3 CM;go_wp2;go_roundw
     case rel=>exact⟨j+1,by omega,by go_num,lU.out⟩
     case measure=>simp[ba4];omega
    ·have j1:¬ ((j:Int)<n):=by omega
     obtain rfl:j=n:=by omega
     have M2:Mw W5 wr B o { m with rows:=m.rows.set i (gV m) } jE g off c:=by
      have:=HM.out;rw[PU,<- HE2.out] at this;exact this
     obtain⟨fq,hpq,_,AO⟩:=M2.call;have hS:=Xh B o _ i j fq wr hpq aO6;clear M c0 c4;go_wp2_with fail
     refine hS.mono ?_;rintro e X2 ⟨rfl,hk2⟩
     have HE:aG (Mw W5 X2 B o { m with rows:=m.rows.set i (gV m),dR:=iU m } jE g off c):=by
      have:=AO X2 _ rfl hk2;rw[<- HES.out] at this;exact this
     clear hS hk2 hpq AO M2;go_wp2;go_meet
     case rel=>exact HE.out
 case rest =>
  have qx:=dP hcut;clear hcut jX;generalize wc=X2 at *;have hLf:=LW W5 B o _ i n jE g off c X2 qx.out G.ok2;simp only[HSL.out] at hLf;rw[<- G.eL] at hLf;go_wp2_with fail
  refine hLf.mono ?_;rintro e X3 ⟨la,lc,rfl,fl,hl1,hl2,hbl⟩;obtain⟨Ee,g1,g2,g3,M7,g5⟩:=qx.out.sub hbl;have aD5:=dP g5;have aD6:=dP (eF.lg hl1);have Ea:aG (∀ b,fl b->¬ Ee b/\b≠B):=fun b hb=>⟨fun k=>by have:=g1 b k;have:=hl2 b hb;omega,fun k=>by have:=hl2 b hb;omega⟩
  rw[jq] at hl1 ⊢;have Va:aG (∀ (Y:aI) (m':Mb),Mw X3 Y B o m' Ee g off c->eF.ow Y (gQ (lN (jT m))) (aj la (jT m).length lc) fl):=fun Y m' hY=>hY.SA hl1 Ea.out
  obtain⟨hL0,hLh,Ef,hLm⟩:=MG G.mem;have Vd:∀ k∈jT m,k<n:=fun k hk=>by rw[G.eL] at hk;exact (jd.1 hk).1
  have hLn:(jT m).length<=n:=by rw[G.eL];exact tX _ _
  have HL0:aG (∀ (Y:aI) (m':Mb),Mw X3 Y B o m' Ee g off c->∃ lb lo,la=au ⟨lb,lo,ak⟩/\Y.cell? ⟨lb,lo,ak⟩=au (ah aA (((jT m).getD 0 0:Nat):Int))):=fun Y m' hY=>by
   have hv:=mV (by rw[jq];exact Va.out Y m' hY) (xP Vd (by omega))
   rcases hv.2.2 with hz|⟨lb,lo,rfl,hlc⟩
   ·rw[jq] at hz;omega
   have hlk:=hlc 0 (by rw[jq];exact hL0)
   rw[wR hL0] at hlk;exact⟨lb,lo,rfl,hlk⟩
  have Lu:=G.e3;have Jy:=G.e4;rw[Ef] at Jy;have HH3:aG (iG m=if (gV m).wed=aB/\n<2*(jT m).length/\(jT m).getD 0 0=i then lead (m.rows.set i (gV m)) i (gV m) (jT m) else gV m):=by rw[aG,Lu];simp only[hLh]
  have HH4:aG (fD m=if (iG m).wed=aB/\(jT m).getD 0 0≠i then adopt (m.rows.set i (iG m)) i (iG m) ((jT m).getD 0 0) else iG m):=by rw[aG,Jy];simp only[ne_eq,hLh]
  have Xa:=dP (Vd _ hLm);have HeE:=dP G.eE;have aD7:=dP Vd;have HLp:=dP hL0;have Eb:=dP M7;clear Lu Jy hLh Ef hLm Vd hl1 hl2 hbl M7 g5 g1 g2 g3 hLf qx;obtain⟨lb,lo,rfl,_⟩:=HL0.out X3 _ Eb.out
  have zl:aG (∀ (Y:aI) (m':Mb),Mw X3 Y B o m' Ee g off c->Y.cell? ⟨lb,lo,ak⟩=au (ah aA (((jT m).getD 0 0:Nat):Int))):=fun Y m' hY=>by
   obtain⟨lb',lo',e,hc⟩:=HL0.out Y m' hY
   cases e
   exact hc
  have hw2:wrap64 (2*((jT m).length:Int))=2*((jT m).length:Int):=by unfold wrap64;omega
  have i0L:(0:Int)<((jT m).length:Int):=by omega
  clear HL0;generalize GH:jT m=L at *;generalize hF:L.getD 0 0=F at *;have HFe:=dP hF;clear hF hL0 GH
  -- the first of those left leads
  obtain⟨_,_,w4,_,⟨rfl,_⟩,_⟩:=Eb.out.at (k:=i) (by simp only[wo.out];exact hil) (j:=4) (cl:=.v (aF (gV m).wed)) (by simp only[HSL.out];rfl)
  obtain⟨c0,c1,c4⟩:=Eb.out.id';simp only at c0 c1
  rw[ok.hid] at c0;rw[ok.hn] at c1;obtain⟨b2,hb2⟩:∃ b:Bool,aG ((gV m).wed=b):=⟨_,rfl⟩;rw[hb2.out] at w4;go_upto_region 11 with fail
  go_cut [85] from 72 to 85 (fun v wx=>v=aF (b2&&decide ((n:Int)<2*(L.length:Int)))/\wx=X3)
  case first =>
   cases b2 with
   | true =>
    go_wp2_with fail
    go_meet
    case rel=>exact⟨by simp,rfl⟩
   | false =>
    go_wp2_with fail
    go_meet
    case rel=>exact⟨by simp,rfl⟩
  case rest =>
  obtain⟨rfl,hwx⟩:=hcut;obtain rfl:=hwx.symm;clear w4 hwx;generalize hd1:(b2&&decide ((n:Int)<2*(L.length:Int)))=d1 at *;have HD1:aG ((gV m).wed=aB/\n<2*L.length↔d1=aB):=by rw[aG,hb2.out,<- hd1,aU2,decide_eq_true_eq];constructor<;>rintro⟨h1,h2⟩<;>exact⟨h1,by omega⟩
  clear hd1
  go_upto_if 85 with fail
  go_cut [5] from 86 to 96 (fun v wx=>v=aj (au ⟨lb,lo,ak⟩) L.length lc/\Mw X3 wx B o { m with rows:=m.rows.set i (iG m),dR:=iU m } Ee g off c)
  case first =>
   cases d1 with
   | false =>
    have HE:aG (iG m=gV m):=by
     rw[aG,HH3.out,if_neg];rintro⟨h1,h2,_⟩;exact absurd (HD1.out.1 ⟨h1,h2⟩) (by simp)
    clear c0 c1 c4;go_wp2;go_meet
    case rel=>exact⟨rfl,by rw[HE.out];exact Eb.out⟩
   | true =>
    obtain⟨hw,hn2⟩:=HD1.out.2 rfl;have l0:=zl.out X3 _ Eb.out;have T:∀ {x v},X3.cell? x=au v->∀ q:Bk X3,q.w.cell? x=au v:=fun h q=>fM q.h h
    have p0:=T c0;have pl:=T l0;have HW:=dP hw;by_cases CG:F=i
    ·have e1:((F:Int)==(i:Int))=aB:=by simp[CG]
     have HE:aG (iG m=lead (m.rows.set i (gV m)) i (gV m) L):=by rw[aG,HH3.out,if_pos ⟨hw,hn2,CG⟩]
     clear c0 c1 c4 l0 T hw hn2 CG;go_wp2_with fail
     refine jf ?_;repeat (go_big_quiet_step ((first|rfl)))
     refine aZ2 (iI fun wE eH=>?_)
     have M8:=Eb.out.step eH;obtain⟨fq,hpq,SX,AO⟩:=M8.call
     have Ef := Xo B o _ i n L (au ⟨lb,lo,ak⟩) lc fl fq wE hpq G.ok2 (by simp only [HSL.out];exact HW.out) (Va.out wE _ M8) (fun b hb => ⟨fun k => by
      rcases SX b k with k|k
      ·exact (Ea.out b hb).1 k
      ·have:=aD6.out b hb;omega,(Ea.out b hb).2⟩) aD7.out HLp.out hLn
     clear p0 pl eH M8 hpq SX;go_wp2_with fail
     refine Ef.mono ?_;rintro e X4 ⟨rfl,hk⟩
     have Jy:aG (Mw X3 X4 B o { m with rows:=m.rows.set i (iG m),dR:=iU m } Ee g off c):=by
      have:=AO X4 _ (by simp only[wo.out,aV3]) hk
      simp only[HSL.out,aY4] at this;rw[<- HE.out] at this;exact this
     clear Ef hk AO;go_wp2;go_meet
     case rel=>exact⟨rfl,Jy.out⟩
    ·have e1:((F:Int)==(i:Int))=aC:=by simp;omega
     have HE:aG (iG m=gV m):=by rw[aG,HH3.out,if_neg (fun h=>CG h.2.2)]
     clear c0 c1 c4 l0 T hw hn2 CG;go_wp2_with fail
     refine jf ?_;repeat (go_big_quiet_step ((first|rfl)))
     refine aZ2 (iI fun wE eH=>?_)
     have Jy:aG (Mw X3 wE B o { m with rows:=m.rows.set i (iG m),dR:=iU m } Ee g off c):=by rw[aG,HE.out];exact Eb.out.step eH
     clear p0 pl eH;go_wp2;go_meet
     case rel=>exact⟨rfl,Jy.out⟩
  case rest =>
  obtain⟨rfl,hcut⟩:=hcut;have XF:=dP hcut;clear hcut Eb c0 c1 c4 HD1;generalize wc=X4 at *
  -- another one leads
  obtain⟨_,_,w4,_,⟨rfl,_⟩,_⟩:=XF.out.at (k:=i) (by simp only[wo.out];exact hil) (j:=4) (cl:=.v (aF (iG m).wed)) (by simp only[HSL.out];rfl)
  obtain⟨c0,c1,c4⟩:=XF.out.id';simp only at c0
  rw[ok.hid] at c0;have l0:=zl.out X4 _ XF.out;obtain⟨b3,hb3⟩:∃ b:Bool,aG ((iG m).wed=b):=⟨_,rfl⟩;rw[hb3.out] at w4;have T:∀ {x v},X4.cell? x=au v->∀ q:Bk X4,q.w.cell? x=au v:=fun h q=>fM q.h h
  have p0:=T c0;have pl:=T l0;have p4:=T w4;clear c0 c1 c4 l0 w4 T;go_upto_region 14 with fail
  go_cut [110] from 97 to 110 (fun v wx=>v=aF (b3&&((F:Int) != (i:Int)))/\Below X4.heap.size X4 wx)
  case first =>
   cases b3 with
   | true =>
    refine jf ?_;repeat (go_big_quiet_step ((first|rfl)))
    refine aZ2 (iI fun wE eH=>?_)
    try go_wp2_with fail
    go_meet
    case rel=>exact⟨by simp,eH⟩
   | false =>
    refine jf ?_;repeat (go_big_quiet_step ((first|rfl)))
    refine aZ2 (iI fun wE eH=>?_)
    try go_wp2_with fail
    go_meet
    case rel=>exact⟨by simp,eH⟩
  case rest =>
  obtain⟨rfl,hbc⟩:=hcut;have HMz:=dP (XF.out.step hbc);clear hbc XF p0 pl p4;generalize wc=X5 at *;generalize hd2:(b3&&((F:Int) != (i:Int)))=d2 at *;have HD2:aG ((iG m).wed=aB/\F≠i↔d2=aB):=by rw[aG,hb3.out,<- hd2,aU2,bne_iff_ne];constructor<;>rintro⟨h1,h2⟩<;>exact⟨h1,by omega⟩
  clear hd2
  go_upto_if 110 with fail
  go_cut [5] from 111 to 115 (fun v wx=>v=aj (au ⟨lb,lo,ak⟩) L.length lc/\Mw X3 wx B o { m with rows:=m.rows.set i (fD m),dR:=iU m } Ee g off c)
  case first =>
   cases d2 with
   | false =>
    have HE:aG (fD m=iG m):=by
     rw[aG,HH4.out,if_neg];intro h;exact absurd (HD2.out.1 h) (by simp)
    go_wp2;go_meet
    case rel=>exact⟨rfl,by rw[HE.out];exact HMz.out⟩
   | true =>
    obtain⟨hw,CG⟩:=HD2.out.2 rfl;have HE:aG (fD m=adopt (m.rows.set i (iG m)) i (iG m) F):=by rw[aG,HH4.out,if_pos ⟨hw,CG⟩]
    have l0:=zl.out X5 _ HMz.out;obtain⟨fq,hpq,SX,AO⟩:=HMz.out.call;have hAd:=Xi B o _ i n F fq X5 hpq G.Gs Xa.out CG;clear hpq SX hw CG;go_wp2_with fail
    refine hAd.mono ?_;rintro e X6 ⟨rfl,hk⟩
    have Jy:aG (Mw X3 X6 B o { m with rows:=m.rows.set i (fD m),dR:=iU m } Ee g off c):=by
     have:=AO X6 _ (by simp only[wo.out,aV3]) hk
     simp only[HSL.out,aY4] at this;rw[<- HE.out] at this;exact this
    clear hAd hk AO l0;go_wp2;go_meet
    case rel=>exact⟨rfl,Jy.out⟩
  case rest =>
  obtain⟨rfl,hcut⟩:=hcut;have SY:=dP hcut;clear hcut HMz HD2;generalize wc=X6 at *
  -- the end
  obtain⟨_,_,w5,_,⟨rfl,_⟩,_⟩:=SY.out.at (k:=i) (by simp only[wo.out];exact hil) (j:=5) (cl:=.v (aF (fD m).dV)) (by simp only[HSL.out];rfl)
  obtain⟨c0,c1,c4⟩:=SY.out.id';simp only at c1
  rw[ok.hn] at c1;obtain⟨b4,hb4⟩:∃ b:Bool,aG ((fD m).dV=b):=⟨_,rfl⟩;rw[hb4.out] at w5;clear c0 c4;go_upto_region 16 with fail
  go_cut [129] from 116 to 129 (fun v wx=>v=aF (b4&&decide ((n:Int)<2*(L.length:Int)))/\wx=X6)
  case first =>
   cases b4 with
   | true =>
    go_wp2_with fail
    go_meet
    case rel=>exact⟨by simp,rfl⟩
   | false =>
    go_wp2_with fail
    go_meet
    case rel=>exact⟨by simp,rfl⟩
  case rest =>
  obtain⟨rfl,hwx⟩:=hcut;obtain rfl:=hwx.symm;clear w5 hwx c1;generalize hd3:(b4&&decide ((n:Int)<2*(L.length:Int)))=d3 at *
  have HD3:aG (jJ m=(d3&&ends (m.rows.set i (fD m)) i (fD m) L)):=by
   rw[aG,HeE.out,hb4.out,<- hd3];simp only[Bool.and_assoc]
   congr 2
   rw[decide_eq_decide];omega
  have HD4:aG (d3=aB->(fD m).dV=aB):=fun h=>by rw[<- hd3,aU2] at h;rw[hb4.out];exact h.1
  clear hd3
  go_upto_if 129 with fail
  go_cut [5] from 130 to 132 (fun _ wx=>Mw X3 wx B o { m with rows:=m.rows.set i (fD m),dR:=if jJ m=aB then jO (iU m) (fD m).dU else iU m,done:=jJ m } Ee g off c)
  case first =>
   cases d3 with
   | false =>
    have HE:aG (Mw X3 X6 B o { m with rows:=m.rows.set i (fD m),dR:=if jJ m=aB then jO (iU m) (fD m).dU else iU m,done:=jJ m } Ee g off c):=by
     have hE:jJ m=aC:=by rw[HD3.out];rfl
     have:=SY.out;rw[HDN.out] at this;rw[aG,hE,if_neg (by simp)]
     exact this
    go_wp2;go_meet
    case rel=>exact HE.out
   | true =>
    obtain⟨fq,hpq,SX,AO⟩:=SY.out.call;have hEd:=Xu B o _ i n L (au ⟨lb,lo,ak⟩) lc fl fq X6 hpq G.qL (by simp only[HSL.out];exact HD4.out rfl) (Va.out X6 _ SY.out) aD7.out hLn
    clear hpq SX;go_wp2_with fail
    refine hEd.mono ?_;rintro e X7 ⟨rfl,hk⟩
    have HE:aG (Mw X3 X7 B o { m with rows:=m.rows.set i (fD m),dR:=if jJ m=aB then jO (iU m) (fD m).dU else iU m,done:=jJ m } Ee g off c):=by
     have hE:jJ m=ends (m.rows.set i (fD m)) i (fD m) L:=by rw[HD3.out];rfl
     unfold Ju at hk;simp only[HSL.out] at hk;rw[<- hE] at hk
     cases he:jJ m with
     | true =>
      rw[he,if_pos rfl] at hk;rw[aG,if_pos rfl];exact AO X7 _ rfl hk
     | false =>
      rw[he,if_neg (by simp)] at hk
      have:=AO X7 _ rfl hk;rw[HDN.out] at this;rw[aG,if_neg (by simp)]
      exact this
    clear hEd hk AO;go_wp2;go_meet
    case rel=>exact HE.out
  case rest =>
  have jK:=dP (aD5.out _ _ hcut);clear hcut SY HD3 HD4 aD5 aD6 Ea Va zl HH3 HH4;generalize wc=X7 at *;obtain⟨hxo,hro⟩:=aD3.out X7 _ jK.out;have hfit:nY { m with rows:=m.rows.set i (fD m),dR:=if jJ m=aB then jO (iU m) (fD m).dU else iU m,done:=jJ m }:=⟨G.qL.fit.1,by have:=(stepM ok).ok.fit.2;rw[HZ.out] at this;exact this⟩
  obtain⟨A9,⟨⟨d0,d1',d2',d3'⟩,d4,d5,d6,d7⟩,hrs⟩:=jK.out.row hfit (k:=i) (by simp only[wo.out];exact hil)
  simp only[HSL.out] at d0 d1' d2' d3' d4 d5 d6 d7 hrs;obtain⟨⟨x0,x1,x2,x3⟩,x4,x5,x6,x7⟩:=Bx.r8 hxo;obtain⟨sb,hsb⟩:∃ b:Bool,aG (lD (dO m.rows i) (fD m)=b):=⟨_,rfl⟩
  have CS:∀ q:Bk X7,ba3 aZ8 122 #[iK Ao (dO m.rows i),iK A9 (fD m)] q.w fun e w'=>e=aK (aF sb)/\Below q.w.heap.size q.w w':=fun q=>by
   have:=Z5 Ao A9 (dO m.rows i) (fD m) q.w (hro.below q.h) (hrs.below q.h);rw[hsb.out] at this;exact this
  unfold iK fP at CS;have T:∀ {x v},X7.cell? x=au v->∀ q:Bk X7,q.w.cell? x=au v:=fun h q=>fM q.h h
  have y0:=T x0;have y1:=T x1;have y2:=T x2;have y3:=T x3;have y4:=T x4;have y5:=T x5;have y6:=T x6;have y7:=T x7;have z0:=T d0;have z1:=T d1';have z2:=T d2';have z3:=T d3';have z4:=T d4;have z5:=T d5;have z6:=T d6;have z7:=T d7;clear x0 x1 x2 x3 x4 x5 x6 x7 d0 d1' d2' d3' d4 d5 d6 d7 T hxo hro hrs hfit;go_wp2_with fail
  refine jf ?_;repeat (go_big_quiet_step ((first|(go_at_call 122;exact eY _ (CS _))|rfl)))
  refine aZ2 (iI fun wE eH=>?_)
  have HMf:=dP (jK.out.step eH);clear y0 y1 y2 y3 y4 y5 y6 y7 z0 z1 z2 z3 z4 z5 z6 z7 CS eH jK aD3;have S9:=G.e5;rw[hsb.out] at S9
  cases sb with
  | true =>
   have HE:aG (fB m={ m with rows:=m.rows.set i (fD m),dR:=if jJ m=aB then jO (iU m) (fD m).dU else iU m,done:=jJ m }):=by rw[aG,HZ.out,S9,if_pos rfl]
   clear S9;go_wp2;go_end0;rw[HE.out];exact⟨rfl,(aD2.out _ _ HMf.out).iw⟩
  | false =>
   rw[if_neg (by simp)] at S9
   obtain⟨v1,v2,pR⟩:=HMf.out.put (k:=i) (by simp only[wo.out];exact hil) (j:=0) (x:=ah aA (fD m).ver) (y:=ah aA ((fD m).ver+1)) (r':={ fD m with ver:=(fD m).ver+1 }) (by simp only[HSL.out];rfl) (by simp only[HSL.out];rfl)
   simp only[aY5,aY4] at v1 v2 pR;have hwv:wrap64 ((fD m).ver+1)=(fD m).ver+1:=by rw[G.ver];have:=HVR.out;unfold wrap64;omega
   have HE:aG (fH w (wE.setCell ⟨g,off+i*8,ak⟩ (ah aA ((fD m).ver+1))) B o (kC (fB m)) fp):=by
    rw[aG,HZ.out,S9];exact (aD2.out _ _ pR).iw
   clear pR S9 HMf;go_wp2;go_end0;exact⟨rfl,HE.out⟩
section
def uM (x:Ac):Array aJ:=#[ah aA x.kind,ah aA x.a,ah aA x.b,aN (sv x.txt)]
def su (x:Ac):aJ:=.agg (uM x)
theorem Bx.a4 {w: aI} {x0 x1 x2 x3: aJ} (h:Bx w B T #[x0,x1,x2,x3]):w.cell? ⟨B,0,ak⟩=au x0/\w.cell? ⟨B,1,ak⟩=au x1/\w.cell? ⟨B,2,ak⟩=au x2/\w.cell? ⟨B,3,ak⟩=au x3 :=
 ⟨h.at 0 rfl,h.at 1 rfl,h.at 2 rfl,h.at 3 rfl⟩
def rC (x:Ac) (y:Ml):Bool:=decide (y.fr=x.a/\y.to=x.b)
theorem PV {g: Gr} (hk:x.kind=3):iY g x=if nN g x=aB then (match g.dS.findIdx? (rC x) with|some i=>(jl g i,aB)|none=>(g,aC)) else (g,aC):=by
 unfold iY;rw[if_pos hk]
 rfl
theorem PW {g: Gr} (hk:x.kind≠3) (h:inB x.a 0 ((g.mem.length:Int)-1)=aC\/nM g x.a.toNat=aC):iY g x=(g,aC):=by
 unfold iY;rw[if_neg hk,if_pos h]
theorem CU {g: Gr} (hk:x.kind≠3) (h1:inB x.a 0 ((g.mem.length:Int)-1)=aB) (h2:nM g x.a.toNat=aB):iY g x =
  if x.kind=1 then (g.set x.a.toNat (gX (dY g x.a.toNat) x.txt).1,(gX (dY g x.a.toNat) x.txt).2)
  else if x.kind=2 then (if nN g x=aB then (iT g x.a x.b,aB) else (g,aC))
  else if x.kind=4 then (g.set x.a.toNat (fB (dY g x.a.toNat)),aB)
  else if x.kind=5 then (if nN g x=aB then (g.set x.a.toNat (iJ (dY g x.a.toNat) x.b).1,(iJ (dY g x.a.toNat) x.b).2) else (g,aC))
  else if x.kind=6 then ({ g with up:=g.up.set x.a.toNat aC },aB)
  else if x.kind=7 then (kS g x.a,aB)
  else (g,aC):=by
 unfold iY;rw[if_neg hk,if_neg];rintro (h|h)
 ·rw[h1] at h;cases h
 ·rw[h2] at h;cases h
theorem Jz {g: Gr} (hk:k<g.dS.length) (h:∀ j,j<k->rC x (eX g j)=aC) (hy:rC x (eX g k)=aB):g.dS.findIdx? (rC x)=au k:=by
 rw[List.findIdx?_eq_some_iff_getElem];refine⟨hk, ?_,fun j hj=>?_⟩
 ·have:=hy
  simpa[eX,ba0,hk] using this
 ·have:=h j hj
  have hj2:j<g.dS.length:=by omega
  simpa[eX,ba0,hj2] using this
theorem MH {g: Gr} (h:∀ j,j<g.dS.length->rC x (eX g j)=aC):g.dS.findIdx? (rC x)=ak:=by
 rw[List.findIdx?_eq_none_iff];intro y hy;obtain⟨j,hj,rfl⟩:=bU.1 hy;have:=h j hj;simpa[eX,ba0,hj] using this
attribute [local irreducible] sv
theorem XG (B o:Nat) (g:Gr) (n:Nat) (x:Ac) (fp:Fp) (w:aI) (h:iO w B o (fK g) fp) (ok:OkG g n) (ht:x.txt.length<=1000000000) :
  ba3 aZ8 55 #[aO (au ⟨B,o,ak⟩),su x] w fun e w'=>e=aK (aF (iY g x).2)/\fH w w' B o (fK (iY g x).1) fp:=by
 have fU:=iq;have jy:=ok.n5;have Dx:=ok.pF;obtain⟨bb,off,c,G00⟩:=Gw.start h (by rw[ok.ml];omega)
 obtain⟨kd,xa,xb,tx⟩:=x;have hB0:=dX w (aH #[ah aA kd,ah aA xa,ah aA xb,aN (sv tx)] 38);have hx:=Bx.new w 38 #[ah aA kd,ah aA xa,ah aA xb,aN (sv tx)];have G0:=G00.step hB0;unfold su uM;simp only
 generalize hW:w.alloc (aH #[ah aA kd,ah aA xa,ah aA xb,aN (sv tx)] 38)=W at *;have HX:=dP hx;have HG:=dP G0;have iE:=dP ok;have c0:=G0.mem;rw[ok.ml] at c0;have vY:=dP ok.ml;have XH:=dP ok.ul
 have HFG : aG (Dw g) := ⟨fun m hm => by
  obtain⟨j,hj,rfl⟩:=bU.1 hm;have:=(ok.mem j (by rw[<- ok.ml];exact hj)).fit
  simpa[dY,ba0,hj] using this,fun y hy=>by obtain⟨_,_,_,_,_,_,_,R⟩:=ok.jZ y hy;exact R.fit⟩
 obtain⟨x0,x1,x2,x3⟩:=Bx.a4 hx;have wn:wrap64 ((n:Int)-1)=(n:Int)-1:=by unfold wrap64;omega
 have HTw:aG (nN g ⟨kd,xa,xb,tx⟩=(inB xa 0 ((n:Int)-1)&&(inB xb 0 ((n:Int)-1)&&decide (xa≠xb)))):=by rw[aG,nN,ok.ml]
 have Tc:=dP ht;clear h hx hB0 G00 G0 ok;go_enter Tryz.func55,Tryz.ntmps55
 go_upto_region 2 with fail
 generalize htw:nN g ⟨kd,xa,xb,tx⟩=tw at *
 go_cut [6] from 13 to 31 (fun v wx=>v=aF tw/\wx=W)
 case first =>
  cases e1:inB xa 0 ((n:Int)-1) with
  | false =>
   have HZ:aG (tw=aC):=by rw[aG,HTw.out,e1];rfl
   go_wp2_with (go_at_call 40;refine fV (gG _ _ _ _) ?_)
   go_meet
   case rel=>exact⟨by rw[HZ.out],rfl⟩
  | true =>
  cases e2:inB xb 0 ((n:Int)-1) with
  | false =>
   have HZ:aG (tw=aC):=by rw[aG,HTw.out,e2];simp
   go_wp2_with (go_at_call 40;refine fV (gG _ _ _ _) ?_)
   go_meet
   case rel=>exact⟨by rw[HZ.out],rfl⟩
  | true =>
   have HZ:aG (tw=(xa != xb)):=by
    rw[aG,HTw.out,e1,e2];by_cases h:xa=xb<;>simp[h]
   go_wp2_with (go_at_call 40;refine fV (gG _ _ _ _) ?_)
   go_meet
   case rel=>exact⟨by rw[HZ.out],rfl⟩
 case rest =>
 obtain⟨rfl,hwx⟩:=hcut;obtain rfl:=hwx.symm;clear hwx;by_cases hk3:kd=3
 ·have g3:(kd==3)=aB:=by simpa using hk3
  have HA:=PV (g:=g) (x:=⟨kd,xa,xb,tx⟩) hk3;rw[htw] at HA;have Fh:=dP HA;clear HA hk3 htw;obtain⟨ua,uc,la,lc,cu,cl,hgs⟩:=HG.out.rd HFG.out;have HGS:=dP hgs;clear hgs
  cases tw with
  | false =>
   have HZ:aG (iY g ⟨kd,xa,xb,tx⟩=(g,aC)):=by rw[aG,Fh.out];rfl
   go_wp2_with fail
   go_loopw [7] (fun i wr=>i=ah aA 0/\wr=W) (fun _ _=>0)
   case atStart=>exact⟨rfl,rfl⟩
   case round =>
    obtain⟨rfl,hwr⟩:=hrel;obtain rfl:=hwr.symm;clear hwr;obtain⟨zz,hzz⟩:∃ z:Bool,aG (decide ((0:Int)<g.dS.length)=z):=⟨_,rfl⟩
    cases zz with
    | false =>
     have z1:¬ ((0:Int)<g.dS.length):=by have:=hzz.out;simpa using this
     go_wp2;go_ret
     exact⟨dZ (by rw[HZ.out]),by rw[HZ.out];exact HG.out.iw⟩
    | true =>
     have z1:(0:Int)<g.dS.length:=by have:=hzz.out;simpa using this
     go_wp2;go_ret
     exact⟨dZ (by rw[HZ.out]),by rw[HZ.out];exact HG.out.iw⟩
  | true =>
   have am3:aG (iY g ⟨kd,xa,xb,tx⟩=(match g.dS.findIdx? (rC ⟨kd,xa,xb,tx⟩) with|some i=>(jl g i,aB)|none=>(g,aC))):=by rw[aG,Fh.out];rfl
   clear Fh;go_wp2_with fail
   go_loopw [7] (fun i wr=>∃ k q:Nat,k<=g.dS.length/\i=ah aA (k:Int)/\wr=W.drewN q/\∀ j,j<k->rC ⟨kd,xa,xb,tx⟩ (eX g j)=aC) (fun i _=>g.dS.length-(ba4 i).toNat)
   case atStart=>exact⟨0,0,aZ1 _,rfl,rfl,fun j hj=>by omega⟩
   case round =>
    obtain⟨k,q,hk,rfl,rfl,hall⟩:=hrel;have HA:=dP hall;clear hall;by_cases hlt:k<g.dS.length
    ·have k1:(k:Int)<g.dS.length:=by omega
     have k0:(0:Int)<=k:=by omega
     obtain⟨lb,lo,Ak,hla,d0,d1,_,_⟩:=HGS.out.letter hlt;simp only at hla
     subst hla;have G7:aG (rC ⟨kd,xa,xb,tx⟩ (eX g k)=aB->g.dS.findIdx? (rC ⟨kd,xa,xb,tx⟩)=au k):=fun h=>Jz hlt HA.out h
     have zi:aG (rC ⟨kd,xa,xb,tx⟩ (eX g k)=aC->∀ j,j<k+1->rC ⟨kd,xa,xb,tx⟩ (eX g j)=aC):=fun h1 j hj=>by
      rcases bD.1 hj with h|h
      ·exact HA.out j h
      ·rw[h];exact h1
     have Ad:aG (rC ⟨kd,xa,xb,tx⟩ (eX g k)=decide ((eX g k).fr=xa/\(eX g k).to=xb)):=rfl
     have Ef:∀ p,ba3 aZ8 79 #[aO (au ⟨B,o,ak⟩),ah aA (k:Int)] (W.drewN p) fun e w'=>e=aK (.tuple #[])/\fH w w' B o (fK (jl g k)) fp:=fun p=>by
      obtain⟨gI,hp,_,hgo⟩:=(HG.out.step (fO (n:=p) (aZ5 _ _))).iw.next;exact (LU B o g n k gI _ hp iE.out hlt).mono (fun e w' ⟨e1,e2⟩=>⟨e1,hgo _ _ rfl e2⟩)
     generalize rC ⟨kd,xa,xb,tx⟩ (eX g k)=mb at *;generalize (eX g k).fr=mf at *;generalize (eX g k).to=mt at *;by_cases h1:mf=xa
     ·have e1:(mf==xa)=aB:=by simpa using h1
      by_cases h2:mt=xb
      ·have e2:(mt==xb)=aB:=by simpa using h2
       have HZ:aG (iY g ⟨kd,xa,xb,tx⟩=(jl g k,aB)):=by
        have:=G7.out (by rw[Ad.out];simp[h1,h2])
        rw[aG,am3.out,this]
       clear h1 h2 G7 zi Ad HA;go_wp2_with fail
       go_quiet (fail)
       go_wp2_with (go_at_call 79;refine (Ef _).mono ?_;rintro e w5 ⟨rfl,hb5⟩;have rW:aG (fH w w5 B o (fK (jl g k)) fp):=hb5;clear hb5)
       go_ret
       exact⟨dZ (by rw[HZ.out]),by rw[HZ.out];exact rW.out⟩
      ·have e2:(mt==xb)=aC:=by simpa using h2
       have HN:=zi.out (by rw[Ad.out];simp[h2])
       have zZ:=dP HN;clear h1 h2 G7 zi Ad HA Ef HN;go_wp2_with fail
       go_quiet (fail)
       go_wp2;go_roundw
       case rel=>exact⟨k+1,_,by omega,by go_num,rfl,zZ.out⟩
       case measure=>simp[ba4];omega
     ·have e1:(mf==xa)=aC:=by simpa using h1
      have HN:=zi.out (by rw[Ad.out];simp[h1])
      have zZ:=dP HN;clear h1 G7 zi Ad HA Ef HN;go_wp2_with fail
      go_quiet (fail)
      go_wp2;go_roundw
      case rel=>exact⟨k+1,_,by omega,by go_num,rfl,zZ.out⟩
      case measure=>simp[ba4];omega
    ·have k1:¬ ((k:Int)<g.dS.length):=by omega
     have HZ:aG (iY g ⟨kd,xa,xb,tx⟩=(g,aC)):=by
      have:=MH (g:=g) (x:=⟨kd,xa,xb,tx⟩) (fun j hj=>HA.out j (by omega))
      rw[aG,am3.out,this]
     clear HA;go_wp2;go_ret
     exact⟨dZ (by rw[HZ.out]),by rw[HZ.out];exact (HG.out.step (fO (aZ5 _ _))).iw⟩
 have gk3:(kd==3)=aC:=by simpa using hk3
 obtain⟨ua,uc,la,lc,cu,cl,hgs⟩:=HG.out.rd HFG.out;rw[XH.out] at cu;have T:∀ {x v},W.cell? x=au v->∀ q:Bk W,q.w.cell? x=au v:=fun h q=>fM q.h h
 have C1:∀ q:Bk W,ba3 aZ8 40 #[ah aA xa,ah aA 0,ah aA ((n:Int)-1)] q.w fun e w'=>e=aK (aF (inB xa 0 ((n:Int)-1)))/\Below q.w.heap.size q.w w':=fun q=>(gG _ _ _ _).mono (fun e w' h=>⟨h.1,by rw[h.2];exact aZ5 _ _⟩)
 have y1:=T x1;have yu:=T cu;go_upto_region 11 with fail
 cases e1:inB xa 0 ((n:Int)-1) with
 | false =>
  have HZ:aG (iY g ⟨kd,xa,xb,tx⟩=(g,aC)):=PW hk3 (.inl (by simp only;rw[vY.out];exact e1))
  rw[e1] at C1;clear x0 x1 x2 x3 c0 cu cl T hgs;refine jf ?_;repeat (go_big_quiet_step ((first|(go_at_call 40;exact eY _ (C1 _))|rfl)))
  refine aZ2 (iI fun wE eH=>?_)
  have vV:=dP (HG.out.step eH);clear y1 yu C1 eH;go_wp2;go_ret
  exact⟨dZ (by rw[HZ.out]),by rw[HZ.out];exact vV.out.iw⟩
 | true =>
 have hxa:=iQ.1 e1;obtain⟨a,rfl⟩:∃ a:Nat,xa=(a:Int):=⟨xa.toNat,by omega⟩
 have han:a<n:=by omega
 have ham:a<g.mem.length:=by rw[vY.out];exact han
 have hau:a<g.up.length:=by rw[XH.out];exact han
 have a0:(0:Int)<=a:=by omega
 have a1:(a:Int)<n:=by omega
 rw[e1] at C1;obtain⟨ub,uo,uc',cu',cb,_,_⟩:=HG.out.bit (k:=a) hau;rw[XH.out] at cu';have eu:=aV4 (cu.symm.trans cu')
 cases eu
 have yb:=T cb
 cases hup:nM g a with
 | false =>
  have HZ:aG (iY g ⟨kd,(a:Int),xb,tx⟩=(g,aC)):=PW hk3 (.inr hup);rw[hup] at yb;clear x0 x1 x2 x3 c0 cu cl T hgs cb cu' hup;refine jf ?_;repeat (go_big_quiet_step ((first|(go_at_call 40;exact eY _ (C1 _))|rfl)))
  refine aZ2 (iI fun wE eH=>?_)
  have vV:=dP (HG.out.step eH);clear y1 yu yb C1 eH;go_wp2;go_ret
  exact⟨dZ (by rw[HZ.out]),by rw[HZ.out];exact vV.out.iw⟩
 | true =>
 have Fh:=CU (g:=g) (x:=⟨kd,(a:Int),xb,tx⟩) hk3 (by simp only;rw[vY.out];exact e1) hup
 rw[htw] at Fh;simp only[Int.toNat_natCast] at Fh;have HA:=dP Fh;rw[hup] at yb;clear x0 x1 x2 x3 c0 cu cl T hgs cb cu' hup Fh;refine jf ?_;repeat (go_big_quiet_step ((first|(go_at_call 40;exact eY _ (C1 _))|rfl)))
 refine aZ2 (iI fun wE eH=>?_)
 have vV:=dP (HG.out.step eH);have HXE:=dP (HX.out.below eH);clear y1 yu yb C1 eH HG HX e1 hxa wn;generalize wE=V at *;have c0:=vV.out.mem;rw[vY.out] at c0;obtain⟨x0,x1,x2,x3⟩:=Bx.a4 HXE.out;obtain⟨ub,uo,uc,cu,cb,_,_⟩:=vV.out.bit (k:=a) hau;rw[XH.out] at cu;have T:∀ {x v},V.cell? x=au v->∀ q:Bk V,q.w.cell? x=au v:=fun h q=>fM q.h h
 have p0:=T c0;have z1:=T x1;have z2:=T x2;have z3:=T x3;have pu:=T cu;by_cases hk1:kd=1
 ·have gk1:(kd==1)=aB:=by simpa using hk1
  have HZ:aG (iY g ⟨kd,(a:Int),xb,tx⟩=(g.set a (gX (dY g a) tx).1,(gX (dY g a) tx).2)):=by rw[aG,HA.out,if_pos hk1]
  clear hk1 hk3 HA T;go_upto_region 15 with fail
  refine gJ (C:=fun w'=>∃ p:Bk V,w'=p.w) 9 fU (by kernel_rfl) ⟨⟨V.drewN 1,fO (aZ5 _ _)⟩,rfl⟩ ?_
  simp only[dA,aX2]
  repeat (go_big_quiet_step ((first|rfl)))
  refine aZ2 (iI fun wE eH=>?_)
  simp only[cZ,aX0]
  have G5:=vV.out.step eH;obtain⟨f9,hpl,hbk⟩:=G5.mb (k:=a) ham;have hM:=EY bb (off+a*5) (dY g a) a n tx f9 wE hpl (iE.out.mem a han) Tc.out;have OY:=dP hbk;clear hpl hbk G5 eH p0 z1 z2 z3 pu;go_wp2_with (go_at_call 98;refine hM.mono ?_;rintro e w5 ⟨rfl,hb5⟩;have rW:aG (fH w w5 B o (fK (g.set a (gX (dY g a) tx).1)) fp):=(OY.out w5 _ hb5).iw;clear hM hb5)
  go_ret
  exact⟨dZ (by rw[HZ.out]),by rw[HZ.out];exact rW.out⟩
 have gk1:(kd==1)=aC:=by simpa using hk1
 by_cases hk2:kd=2
 ·have gk2:(kd==2)=aB:=by simpa using hk2
  have HZ0:aG (iY g ⟨kd,(a:Int),xb,tx⟩=if tw=aB then (iT g (a:Int) xb,aB) else (g,aC)):=by rw[aG,HA.out,if_neg hk1,if_pos hk2]
  clear hk2 hk3 HA T
  cases tw with
  | false =>
   have HZ:aG (iY g ⟨kd,(a:Int),xb,tx⟩=(g,aC)):=by rw[aG,HZ0.out];rfl
   go_wp2;go_ret
   exact⟨dZ (by rw[HZ.out]),by rw[HZ.out];exact vV.out.iw⟩
  | true =>
   have hb:=HTw.out.symm;simp only[aU2,decide_eq_true_eq] at hb;have hb2:=iQ.1 hb.2.1;obtain⟨b,rfl⟩:∃ b:Nat,xb=(b:Int):=⟨xb.toNat,by omega⟩
   have HZ:aG (iY g ⟨kd,(a:Int),(b:Int),tx⟩=(iT g (a:Int) (b:Int),aB)):=by rw[aG,HZ0.out];rfl
   have hP:ba3 aZ8 99 #[aO (au ⟨B,o,ak⟩),ah aA (a:Int),ah aA (b:Int)] V fun e w'=>e=aK (.tuple #[])/\fH w w' B o (fK (iT g (a:Int) (b:Int))) fp:=by
    obtain⟨gI,hp,_,hgo⟩:=vV.out.iw.next;exact (LH B o g n a b gI _ hp iE.out han).mono (fun e w' ⟨e1,e2⟩=>⟨e1,hgo _ _ rfl e2⟩)
   clear hb hb2 HZ0 p0 z1 z2 z3 pu;go_wp2_with (go_at_call 99;refine hP.mono ?_;rintro e w5 ⟨rfl,hb5⟩;have rW:aG (fH w w5 B o (fK (iT g (a:Int) (b:Int))) fp):=hb5;clear hb5)
   go_ret
   exact⟨dZ (by rw[HZ.out]),by rw[HZ.out];exact rW.out⟩
 have gk2:(kd==2)=aC:=by simpa using hk2
 by_cases hk4:kd=4
 ·have gk4:(kd==4)=aB:=by simpa using hk4
  have HZ:aG (iY g ⟨kd,(a:Int),xb,tx⟩=(g.set a (fB (dY g a)),aB)):=by rw[aG,HA.out,if_neg hk1,if_neg hk2,if_pos hk4]
  clear hk4 hk3 HA T;go_upto_region 21 with fail
  refine gJ (C:=fun w'=>∃ p:Bk V,w'=p.w) 7 fU (by kernel_rfl) ⟨⟨V.drewN 1,fO (aZ5 _ _)⟩,rfl⟩ ?_
  simp only[dA,aX2]
  repeat (go_big_quiet_step ((first|rfl)))
  refine aZ2 (iI fun wE eH=>?_)
  simp only[cZ,aX0]
  have G5:=vV.out.step eH;obtain⟨f9,hpl,hbk⟩:=G5.mb (k:=a) ham;have hM:=Fg bb (off+a*5) (dY g a) a n f9 wE hpl (iE.out.mem a han);have OY:=dP hbk;clear hpl hbk G5 eH p0 z1 z2 z3 pu;go_wp2_with (go_at_call 77;refine hM.mono ?_;rintro e w5 ⟨rfl,hb5⟩;have rW:aG (fH w w5 B o (fK (g.set a (fB (dY g a)))) fp):=(OY.out w5 _ hb5).iw;clear hM hb5)
  go_ret
  exact⟨dZ (by rw[HZ.out]),by rw[HZ.out];exact rW.out⟩
 have gk4:(kd==4)=aC:=by simpa using hk4
 by_cases hk5:kd=5
 ·have gk5:(kd==5)=aB:=by simpa using hk5
  have HZ0:aG (iY g ⟨kd,(a:Int),xb,tx⟩=if tw=aB then (g.set a (iJ (dY g a) xb).1,(iJ (dY g a) xb).2) else (g,aC)):=by rw[aG,HA.out,if_neg hk1,if_neg hk2,if_neg hk4,if_pos hk5]
  clear hk5 hk3 HA T
  cases tw with
  | false =>
   have HZ:aG (iY g ⟨kd,(a:Int),xb,tx⟩=(g,aC)):=by rw[aG,HZ0.out];rfl
   go_upto_region 24 with fail
   refine jf ?_;repeat (go_big_quiet_step ((first|rfl)))
   refine aZ2 (iI fun wE eH=>?_)
   have rW:aG (fH w wE B o (fK g) fp):=(vV.out.step eH).iw;clear eH p0 z1 z2 z3 pu;go_wp2;go_ret
   exact⟨dZ (by rw[HZ.out]),by rw[HZ.out];exact rW.out⟩
  | true =>
   have HZ:aG (iY g ⟨kd,(a:Int),xb,tx⟩=(g.set a (iJ (dY g a) xb).1,(iJ (dY g a) xb).2)):=by rw[aG,HZ0.out];rfl
   go_upto_region 24 with fail
   refine gJ (C:=fun w'=>∃ p:Bk V,w'=p.w) 11 fU (by kernel_rfl) ⟨⟨V.drewN 1,fO (aZ5 _ _)⟩,rfl⟩ ?_
   simp only[dA,aX2]
   repeat (go_big_quiet_step ((first|rfl)))
   refine aZ2 (iI fun wE eH=>?_)
   simp only[cZ,aX0]
   have G5:=vV.out.step eH;obtain⟨f9,hpl,hbk⟩:=G5.mb (k:=a) ham;have hM:=LP bb (off+a*5) (dY g a) a n xb f9 wE hpl (iE.out.mem a han);have OY:=dP hbk;clear hpl hbk G5 eH p0 z1 z2 z3 pu;go_wp2_with (go_at_call 100;refine hM.mono ?_;rintro e w5 ⟨rfl,hb5⟩;have rW:aG (fH w w5 B o (fK (g.set a (iJ (dY g a) xb).1)) fp):=(OY.out w5 _ hb5).iw;clear hM hb5)
   go_ret
   exact⟨dZ (by rw[HZ.out]),by rw[HZ.out];exact rW.out⟩
 have gk5:(kd==5)=aC:=by simpa using hk5
 by_cases hk6:kd=6
 ·have gk6:(kd==6)=aB:=by simpa using hk6
  have HZ:aG (iY g ⟨kd,(a:Int),xb,tx⟩=({ g with up:=g.up.set a aC },aB)):=by rw[aG,HA.out,if_neg hk1,if_neg hk2,if_neg hk4,if_neg hk5,if_pos hk6]
  clear hk6 hk3 HA T;go_upto_region 26 with fail
  refine gJ (C:=fun w'=>∃ p:Bk V,w'=p.w) 7 fU (by kernel_rfl) ⟨⟨V.drewN 1,fO (aZ5 _ _)⟩,rfl⟩ ?_
  simp only[dA,aX2]
  repeat (go_big_quiet_step ((first|rfl)))
  refine aZ2 (iI fun wE eH=>?_)
  simp only[cZ,aX0]
  have G5:=vV.out.step eH;obtain⟨ub5,uo5,uc5,cu5,cb5,cf5,hbk⟩:=G5.bit (k:=a) hau;rw[XH.out] at cu5;have eu:=aV4 ((pu ⟨wE,eH⟩).symm.trans cu5)
  cases eu
  have rW:aG (fH w (wE.setCell ⟨ub,uo+a,ak⟩ (aF aC)) B o (fK { g with up:=g.up.set a aC }) fp):=(hbk aC).iw
  clear hbk G5 eH p0 z1 z2 z3 pu cu5;go_wp2;go_ret
  exact⟨dZ (by rw[HZ.out]),by rw[HZ.out];exact rW.out⟩
 have gk6:(kd==6)=aC:=by simpa using hk6
 by_cases PX:kd=7
 ·have gk7:(kd==7)=aB:=by simpa using PX
  have HZ:aG (iY g ⟨kd,(a:Int),xb,tx⟩=(kS g (a:Int),aB)):=by rw[aG,HA.out,if_neg hk1,if_neg hk2,if_neg hk4,if_neg hk5,if_neg hk6,if_pos PX]
  clear PX hk3 HA T
  have hP:ba3 aZ8 78 #[aO (au ⟨B,o,ak⟩),ah aA (a:Int)] V fun e w'=>e=aK (.tuple #[])/\fH w w' B o (fK (kS g (a:Int))) fp:=by
   obtain⟨gI,hp,_,hgo⟩:=vV.out.iw.next;exact (LK B o g n a gI _ hp iE.out han).mono (fun e w' ⟨e1,e2⟩=>⟨e1,hgo _ _ (by rfl) e2⟩)
  clear p0 z1 z2 z3 pu;go_wp2_with (go_at_call 78;refine hP.mono ?_;rintro e w5 ⟨rfl,hb5⟩;have rW:aG (fH w w5 B o (fK (kS g (a:Int))) fp):=hb5;clear hb5)
  go_ret
  exact⟨dZ (by rw[HZ.out]),by rw[HZ.out];exact rW.out⟩
 have gk7:(kd==7)=aC:=by simpa using PX
 have HZ:aG (iY g ⟨kd,(a:Int),xb,tx⟩=(g,aC)):=by rw[aG,HA.out,if_neg hk1,if_neg hk2,if_neg hk4,if_neg hk5,if_neg hk6,if_neg PX]
 clear hk1 hk2 hk3 hk4 hk5 hk6 PX HA T p0 z1 z2 z3 pu;go_wp2;go_ret
 exact⟨dZ (by rw[HZ.out]),by rw[HZ.out];exact vV.out.iw⟩
end
theorem fH.grp {w wr: aI} {g: Gr} (h:fH w wr B o (fK g) fp) (ok:OkG g n):∃ bb off c la lc,wr.cell? ⟨B,o,ak⟩=au (aj (au ⟨bb,off,ak⟩) n c)/\wr.cell? ⟨B,o+2,ak⟩=au (aj la g.dS.length lc) /\
  ∀ j,j<n->(∃ ub uo uc,wr.cell? ⟨B,o+1,ak⟩=au (aj (au ⟨ub,uo,ak⟩) n uc)/\wr.cell? ⟨ub,uo+j,ak⟩=au (aF (nM g j))) /\
   ba3 aZ8 77 #[aO (au ⟨bb,off+j*5,ak⟩)] wr fun e w'=>e=aK (.tuple #[])/\fH w w' B o (fK (g.set j (fB (dY g j)))) fp:=by
 obtain⟨gI,hp,_,hgo⟩:=h.next;have n5:=ok.n5;obtain⟨bb,off,c,G⟩:=Gw.start hp (by rw[ok.ml];omega)
 obtain⟨u,f,f0,hu,hfz,how,_⟩:=G.full;obtain⟨la,lc,_,_,_,rfl,_⟩:=how;refine⟨bb,off,c,la,lc,by rw[<- ok.ml];exact G.mem,hu,fun j hj=>⟨?_, ?_⟩⟩
 ·obtain⟨ub,uo,uc,h1,h2,_⟩:=G.bit (k:=j) (by rw[ok.ul];exact hj)
  exact⟨ub,uo,uc,by rw[<- ok.ul];exact h1,h2⟩
 ·obtain⟨f9,hpl,hbk⟩:=G.mb (k:=j) (by rw[ok.ml];exact hj)
  refine (Fg bb (off+j*5) (dY g j) j n f9 wr hpl (ok.mem j hj)).mono (fun e w' ⟨e1,e2⟩=>⟨e1,hgo _ _ rfl ?_⟩)
  exact (hbk w' _ e2).iw
def kF (g:Gr) (k:Nat):Gr:=(List.range k).foldl jP g
theorem zK (g:Gr) (k:Nat):kF g (k+1)=jP (kF g k) k:=by
 unfold kF;rw[List.range_succ,List.foldl_append]
 rfl
theorem aa7 {m: Mb} (h:iP m i n):iP (fB m) i n:=(stepM h).ok
theorem OkG.row {g: Gr} (h:OkG g n) (hk:k<n):OkG (g.set k (fB (dY g k))) n/\OkG (kS (g.set k (fB (dY g k))) (k:Int)) n:=by
 have h1:=h.to hk (aa7 (h.mem k hk));refine⟨h1, ?_⟩;unfold kS;exact (OkG.all hk _ h1 (fun x hx=>by have:=List.mem_range.1 hx;rw[h1.ml] at this;exact this)).1
theorem vI {g:Gr} {n:Nat} (h:OkG g n):∀ k,k<=n->OkG (kF g k) n
 | 0,_=>h
 | k+1,hk=>by
  have ih:=vI h k (by omega)
  rw[zK,jP]
  split
  ·exact (ih.row (by omega)).2
  ·exact ih
def qG:Nat->Gr->Gr
 | 0,g=>g
 | k+1,g=>lV (qG k g)
theorem PY (g:Gr):oV g=qG 8 g:=rfl
theorem DK {g: Gr} (h:OkG g n):lV g=drain (kF g n).dS.length (kF g n):=by
 unfold lV kF;rw[h.ml]
theorem MI {g: Gr} (f:Nat) (h:0<g.dS.length):drain (f+1) g=drain f (jl g 0):=by rw[drain,if_pos h]
theorem MJ {n:Nat}:∀ (f:Nat) {g:Gr},OkG g n->OkG (drain f g) n
 | 0,g,h=>h
 | f+1,g,h=>by
  rw[drain]
  split
  ·rename_i hl
   exact MJ f (h.land hl).1
  ·exact h
theorem xU {g:Gr} {n:Nat} (h:OkG g n):∀ k,OkG (qG k g) n
 | 0=>h
 | k+1=>by
  have ih:=xU h k;rw[qG,DK ih];exact MJ _ (vI ih n (aZ0 _))
theorem XI (B o:Nat) (g:Gr) (n:Nat) (fp:Fp) (w:aI) (h:iO w B o (fK g) fp) (ok:OkG g n) :
  ba3 aZ8 39 #[aO (au ⟨B,o,ak⟩)] w fun e w'=>e=aK (.tuple #[])/\fH w w' B o (fK (oV g)) fp:=by
 have jy:=ok.n5;have H0:=dP (fH.refl h);have iE:=dP (xU ok)
 have yS:aG (∀ (q:Gr) (wr:aI) (j:Nat),j<n->OkG q n->fH w wr B o (fK q) fp->ba3 aZ8 78 #[aO (au ⟨B,o,ak⟩),ah aA (j:Int)] wr fun e w'=>e=aK (.tuple #[])/\fH w w' B o (fK (kS q (j:Int))) fp):=fun q wr j hj okq hb=>by
  obtain⟨gI,hp,_,hgo⟩:=hb.next;exact (LK B o q n j gI wr hp okq hj).mono (fun e w' ⟨e1,e2⟩=>⟨e1,hgo _ _ rfl e2⟩)
 have aO7:aG (∀ (q:Gr) (wr:aI),0<q.dS.length->OkG q n->fH w wr B o (fK q) fp->ba3 aZ8 79 #[aO (au ⟨B,o,ak⟩),ah aA 0] wr fun e w'=>e=aK (.tuple #[])/\fH w w' B o (fK (jl q 0)) fp):=fun q wr hl okq hb=>by
  obtain⟨gI,hp,_,hgo⟩:=hb.next;exact (LU B o q n 0 gI wr hp okq hl).mono (fun e w' ⟨e1,e2⟩=>⟨e1,hgo _ _ rfl e2⟩)
 clear h ok;go_enter Tryz.func39,Tryz.ntmps39
 go_wp2
 go_loopw [2] (fun i wr=>∃ k:Nat,k<=8/\i=ah aA (k:Int)/\fH w wr B o (fK (qG k g)) fp) (fun i _=>8-(ba4 i).toNat)
 case atStart=>exact⟨0,aZ1 _,rfl,H0.out⟩
 case round =>
  obtain⟨k,hk,rfl,hb⟩:=hrel;have HB:=dP hb;clear hb;by_cases hlt:k<8
  ·have k1:(k:Int)<8:=by omega
   obtain⟨q,hq⟩:∃ q:Gr,aG (qG k g=q):=⟨_,rfl⟩;have HBq:aG (fH w wr B o (fK q) fp):=by rw[aG,<- hq.out];exact HB.out
   have HOq:aG (OkG q n):=by rw[aG,<- hq.out];exact iE.out k
   have zi:aG (qG (k+1) g=drain (kF q n).dS.length (kF q n)):=by rw[aG,qG,hq.out];exact DK HOq.out
   generalize wr=V at *;go_wp2
   go_loopw [3] (fun i wr=>∃ j:Nat,j<=n/\i=ah aA (j:Int)/\fH w wr B o (fK (kF q j)) fp) (fun i _=>n-(ba4 i).toNat)
   case atStart=>exact⟨0,aZ1 _,rfl,HBq.out⟩
   case round =>
    obtain⟨j,hj,rfl,hb⟩:=hrel;have okj:=vI HOq.out j hj;obtain⟨bb,off,c,la,lc,c0,c2,hgo⟩:=hb.grp okj;have G8:=dP hb;have HOj:=dP okj;clear hb okj;by_cases hlj:j<n
    ·have j1:(j:Int)<n:=by omega
     have j0:(0:Int)<=j:=by omega
     obtain⟨⟨ub,uo,uc,cu,cb⟩,hSt⟩:=hgo j hlj;have HMo:=dP (zK q j);have HR:=HOj.out.row hlj;have HR1:=dP HR.1;have HCr:aG (jP (kF q j) j=if nM (kF q j) j=aB then kS ((kF q j).set j (fB (dY (kF q j) j))) (j:Int) else kF q j):=rfl
     clear hgo HR c2;obtain⟨rn,hrn⟩:∃ rn,aG (kF q (j+1)=rn):=⟨_,rfl⟩;rw[hrn.out] at HMo;generalize kF q j=rj at *
     cases hup:nM rj j with
     | false =>
      have HN:aG (fH w wr B o (fK rn) fp):=by rw[aG,HMo.out,HCr.out,hup];exact G8.out
      rw[hup] at cb;clear hup hSt;go_wp2;go_roundw
      case rel=>exact⟨j+1,by omega,by go_num,by rw[hrn.out];exact HN.out⟩
      case measure=>simp[ba4];omega
     | true =>
      have HE:aG (kS (rj.set j (fB (dY rj j))) (j:Int)=rn):=by rw[aG,HMo.out,HCr.out,hup];rfl
      rw[hup] at cb;clear hup;go_wp2_with (first|(go_at_call 77;refine hSt.mono ?_;rintro e w5 ⟨rfl,hb5⟩;have hAl:=yS.out _ w5 j hlj HR1.out hb5;clear hb5 hSt)|(go_at_call 78;refine hAl.mono ?_;rintro e w6 ⟨rfl,hb6⟩;have HN:aG (fH w w6 B o (fK rn) fp):=(by rw[aG,<- HE.out];exact hb6);clear hb6))
      go_roundw
      case rel=>exact⟨j+1,by omega,by go_num,by rw[hrn.out];exact HN.out⟩
      case measure=>simp[ba4];omega
    ·have j1:¬ ((j:Int)<n):=by omega
     have e:j=n:=by omega
     obtain⟨q2,hq2⟩:∃ q2:Gr,aG (kF q n=q2):=⟨_,rfl⟩;have HB2:aG (fH w wr B o (fK q2) fp):=by rw[aG,<- hq2.out,<- e];exact G8.out
     have xw:aG (OkG q2 n):=by have h1:=HOj.out;rw[e] at h1;rw[aG,<- hq2.out];exact h1
     have xq:aG (qG (k+1) g=drain q2.dS.length q2):=by rw[aG,zi.out,hq2.out]
     clear e hgo c2 G8 HOj;generalize wr=U at *;go_wp2;clear c0
     go_loopg [40] (q2.dS.length+1) (fun gk v wr=>∃ p:Gr,p.dS.length<gk/\OkG p n/\aG (drain q2.dS.length q2=drain p.dS.length p)/\fH w wr B o (fK p) fp)
     case atStart=>exact⟨q2,by omega,xw.out,rfl,HB2.out⟩
     case round =>
      obtain⟨p,hgk,okp,hdr,hb⟩:=hrel;obtain⟨bb,off,c,la,lc,c0,c2,_⟩:=hb.grp okp;have HBp:=dP hb;have HOp:=dP okp;have Dx:=okp.pF;clear hb okp;by_cases hl:0<p.dS.length
      ·have l1:(0:Int)<p.dS.length:=by omega
       have Ef:=aO7.out p wr hl HOp.out HBp.out;have hok:=HOp.out.land hl;have HOl:=dP hok.1
       have HLl:aG ((jl p 0).dS.length+1=p.dS.length):=by
        rw[aG,hok.2.2.1];simp only[aX2,List.nil_append,List.length_drop]
        omega
       have wI:aG (drain q2.dS.length q2=drain (jl p 0).dS.length (jl p 0)):=by
        rw[aG,hdr.out,<- HLl.out,MI _ (by omega)]
       clear hok hdr;go_wp2_with (go_at_call 79;refine Ef.mono ?_;rintro e w5 ⟨rfl,hb5⟩;have qZ:aG (fH w w5 B o (fK (jl p 0)) fp):=hb5;clear hb5 Ef)
       go_roundg ((jl p 0).dS.length+1)
       case rel=>exact⟨jl p 0,by omega,HOl.out,wI,qZ.out⟩
       case measure=>have:=HLl.out;omega
      ·have l1:¬ ((0:Int)<p.dS.length):=by omega
       have HF:aG (fH w wr B o (fK (qG (k+1) g)) fp):=by
        have e:p.dS.length=0:=by omega
        have e2:drain p.dS.length p=p:=by rw[e];rfl
        rw[aG,xq.out,hdr.out,e2];exact HBp.out
       clear hdr HBp;go_wp2;go_roundw
       case rel=>exact⟨k+1,by omega,by go_num,HF.out⟩
       case measure=>simp[ba4];omega
  ·have k1:¬ ((k:Int)<8):=by omega
   have e:k=8:=by omega
   have HF:aG (fH w wr B o (fK (oV g)) fp):=by rw[aG,PY,<- e];exact HB.out
   clear e;go_wp2;go_end0;exact⟨rfl,HF.out⟩
section
def Kz (m:Mb) (t:List UInt8):Mb×Bool:=if gZ m=aB then gX m t else (kY,aC)
def KA (m:Mb) (fr:Int) (r:Rw):Mb×Bool:=if gZ m=aB then fG m fr r else (kY,aC)
theorem Bx.pc {w: aI} (h:Bx w B T cs):Pc w B 0 cs.toList :=
 ⟨fun j hj => by
  have hj':j<cs.size:=by simpa using hj
  rw[aY7,h.at j (Array.getElem?_eq_getElem hj')];simp[hj'],fun j _=>by rw[aY7];exact h.f j,h.lt⟩
theorem Td {w: aI} {A: Ma} {m: Mb} (h:Bx w B T (ig A m)) (hl:gq w (jA m) (jB A m) fp) (hB:¬ fp B):iO w B 0 (kC m) fp:=⟨_,h.pc,I4 hl,hB⟩
attribute [local irreducible] sv
end
section
theorem XJ {w: aI} {g: Gr} {us: List aJ} (h:gq w (fK g) us f):∃ A:Ga,us=jC A g:=by
 obtain⟨u1,vU,f1,g1,rfl,o1,h2,_⟩:=h;obtain⟨u2,xu,f2,g2,rfl,o2,h3,_⟩:=h2;obtain⟨u3,EJ,f3,g3,rfl,o3,⟨rfl,_⟩,_⟩:=h3;obtain⟨ma,mc,_,_,_,rfl,_⟩:=o1;obtain⟨ua,uc,_,rfl,_⟩:=Je.1 o2;obtain⟨la,lc,_,_,_,rfl,_⟩:=o3;exact⟨⟨ma,mc,ua,uc,la,lc⟩,rfl⟩
theorem AP {w: aI} {A: Ga} {g: Gr} (h:Bx w B T (jH A g)) (hl:gq w (fK g) (jC A g) fp) (hB:¬ fp B):iO w B 0 (fK g) fp:=⟨_,h.pc,hl,hB⟩
theorem BF {w Y: aI} {r: Nat} {g: Gr} (h:fH X Y B 0 (fK g) fp) (hf:∀ b,fp b->w.heap.size<=b/\b≠r) (hB:w.heap.size<=B) (hrB:r≠B) (hr:w.heap.size<=r) (hrX:r<X.heap.size) (hw:Below w.heap.size w X) {Z: Array aJ} (hz:Bx X r T Z):∃ A:Ga,(Y.cell? ⟨B,0,ak⟩=au (aj A.ma g.mem.length A.mc)/\Y.cell? ⟨B,1,ak⟩=au (aj A.ua g.up.length A.uc)/\Y.cell? ⟨B,2,ak⟩=au (aj A.la g.dS.length A.lc))/\Bx Y r T Z /\
  ∀ (Y2:aI),Below Y.heap.size Y Y2->∀ {a b c:aJ},kW w (((Y2.setCell ⟨r,0,ak⟩ a).setCell ⟨r,1,ak⟩ b).setCell ⟨r,2,ak⟩ c) (fK g) (jC A g):=by
 obtain⟨gI,hp,hs,_⟩:=h.next;obtain⟨vs,hpc,hov,hnB⟩:=hp;obtain⟨A,rfl⟩:=XJ hov;have hl3:(jC A g).length=3:=rfl;have c:=hpc.cell;have I7:=hw.size
 have hfp:∀ b,gI b->w.heap.size<=b/\b≠r:=fun b hb=>by
  rcases hs b hb with k|k
  ·exact hf b k
  ·exact⟨by omega,by omega⟩
 have lQ : Below w.heap.size w Y := h.wrt.below hw I7 (fun b hb => by
  rcases hb with hb|hb
  ·exact (hf b hb).1
  ·omega)
 refine ⟨A,⟨c 0 (by rw [hl3];omega),c 1 (by rw [hl3];omega),c 2 (by rw [hl3];omega)⟩,hz.wrt h.wrt (fun k => by
  rcases k with k|k
  ·exact (hf r k).2 rfl
  ·exact hrB k),fun Y2 hb2 {a b c}=>⟨gI,gU (gy hov hb2) (qF Y2 r) (fun b hb e=>(hfp b hb).2 e),fun b hb=>(hfp b hb).1,(qF Y2 r).below (eP lQ hb2) (aY2 lQ.size hb2.size) (fun b e=>by omega)⟩⟩
def qH (g:Gr):Gr:=if jQ g=aB then oV g else kQ
def Ve (w w':aI) (e:Ending) (g:Gr) (k:Int):Prop:=∃ A:Ga,e=aK (.tuple #[jc A g,ah aA k])/\kW w w' (fK g) (jC A g)
attribute [local irreducible] sv
theorem aa8 (A:Ga) (g:Gr) (w:aI) (hv:zh w A g) :
  ba3 aZ8 11 #[jc A g] w fun e w'=>zH w w' e (qH g):=by
 have fU:=iq;have hb0:Below w.heap.size w ((w.alloc (aH #[aj A.ma g.mem.length A.mc,aj A.ua g.up.length A.uc,aj A.la g.dS.length A.lc] 28)).alloc (aH #[aj ak 0 0,aj ak 0 0,aj ak 0 0] 28)):=((aZ5 _ _).alloc (aZ0 _) _).alloc (by simp) _
 have hx0:Bx ((w.alloc (aH #[aj A.ma g.mem.length A.mc,aj A.ua g.up.length A.uc,aj A.la g.dS.length A.lc] 28)).alloc (aH #[aj ak 0 0,aj ak 0 0,aj ak 0 0] 28)) w.heap.size 28 #[aj A.ma g.mem.length A.mc,aj A.ua g.up.length A.uc,aj A.la g.dS.length A.lc]:=(Bx.new w _ _).alloc _
 have hz0:Bx ((w.alloc (aH #[aj A.ma g.mem.length A.mc,aj A.ua g.up.length A.uc,aj A.la g.dS.length A.lc] 28)).alloc (aH #[aj ak 0 0,aj ak 0 0,aj ak 0 0] 28)) (w.heap.size+1) 28 #[aj ak 0 0,aj ak 0 0,aj ak 0 0]:=by
  have:=Bx.new ((w.alloc (aH #[aj A.ma g.mem.length A.mc,aj A.ua g.up.length A.uc,aj A.la g.dS.length A.lc] 28))) 28 #[aj ak 0 0,aj ak 0 0,aj ak 0 0];simp only[World.size_alloc] at this;exact this
 have hv0:=hv.below hb0;unfold jc jH;generalize rV:(w.alloc (aH #[aj A.ma g.mem.length A.mc,aj A.ua g.up.length A.uc,aj A.la g.dS.length A.lc] 28)).alloc (aH #[aj ak 0 0,aj ak 0 0,aj ak 0 0] 28)=W0 at *;have hK:=ZP A g W0 hv0;unfold jc jH at hK;have HX0:=dP hx0;have HZ0:=dP hz0;have PZ:=dP hv0;have HB0:=dP hb0;obtain⟨c0,c1,c2⟩:=Bx.g3 hx0;clear hv hb0 hx0 hz0 hv0
 cases hok:jQ g with
 | false =>
  have HZ:aG (qH g=kQ):=by rw[aG,qH,if_neg (by rw[hok];exact Bool.false_ne_true)]
  rw[hok] at hK;clear hok;go_enter Tryz.func11,Tryz.ntmps11
  go_wp2_with fail
  refine hK.mono ?_;rintro e w1 ⟨rfl,hb1⟩;have hz1:=HZ0.out.below hb1;have HB1:=dP (eP HB0.out hb1);obtain⟨z0,z1,z2⟩:=Bx.g3 hz1;obtain⟨f0,f1,f2⟩:=hz1.f3;clear hz1 hb1 c0 c1 c2 hK;go_wp2;refine aY1 (v:=jc ⟨ak,0,ak,0,ak,0⟩ kQ) (by simp[results,Tryz.results11,go_sem,jc,jH,kQ, *]) rfl ?_
  rw[HZ.out];exact⟨_,rfl,EW ((qF w1 (w.heap.size+1)).below HB1.out HB1.out.size (fun b h=>by omega))⟩
 | true =>
  have HZ:aG (qH g=oV g):=by rw[aG,qH,if_pos hok]
  obtain⟨n,ok⟩:=xM.1 hok;rw[hok] at hK;clear hok;go_enter Tryz.func11,Tryz.ntmps11
  go_wp2_with fail
  refine hK.mono ?_;rintro e w1 ⟨rfl,hb1⟩;have HB1:=dP (eP HB0.out hb1);have HZ1:=dP (HZ0.out.below hb1);have hC:=WZ A g w1 (PZ.out.below hb1) ok.ln;unfold jc jH at hC;clear c0 c1 c2 hK;obtain⟨c0,c1,c2⟩:=Bx.g3 (HX0.out.below hb1);clear hb1;go_wp2_with fail
  refine hC.mono ?_;rintro e w2 ⟨A2,rfl,fp,hl2,hf2,hb2⟩;have hlt2:=jh hl2;have HB2:=dP (eP HB1.out hb2);have hba:=dX w2 (aH #[aj A2.ma g.mem.length A2.mc,aj A2.ua g.up.length A2.uc,aj A2.la g.dS.length A2.lc] 28);have hxb:=Bx.new w2 28 #[aj A2.ma g.mem.length A2.mc,aj A2.ua g.up.length A2.uc,aj A2.la g.dS.length A2.lc];have hP:iO (w2.alloc (aH #[aj A2.ma g.mem.length A2.mc,aj A2.ua g.up.length A2.uc,aj A2.la g.dS.length A2.lc] 28)) w2.heap.size 0 (fK g) fp:=AP (A:=A2) hxb (gy hl2 hba) (fun k=>by have:=hlt2 _ k;omega)
  have HZ3:aG (Bx (w2.alloc (aH #[aj A2.ma g.mem.length A2.mc,aj A2.ua g.up.length A2.uc,aj A2.la g.dS.length A2.lc] 28)) (w.heap.size+1) 28 #[aj ak 0 0,aj ak 0 0,aj ak 0 0]):=(HZ1.out.below hb2).below hba;have HB3:=dP (eP HB2.out hba);have hr1:=HZ1.out.lt;have hs2:=hb2.size;have hS:=XI w2.heap.size 0 g n fp _ hP ok;unfold jc jH;generalize Xp:w2.alloc (aH #[aj A2.ma g.mem.length A2.mc,aj A2.ua g.up.length A2.uc,aj A2.la g.dS.length A2.lc] 28)=V3 at *;have HF2:=dP hf2;have hB3:=hxb.lt;clear hxb hP hl2 hf2 hlt2 hb2 hba c0 c1 c2 hC;go_wp2_with fail
  refine hS.mono ?_;rintro e Y ⟨rfl,hBc⟩;have hsw:=HB1.out.size;obtain⟨A3,⟨y0,y1,y2⟩,hz3,HN⟩:=BF (w:=w) (r:=(w.heap.size+1)) hBc (fun b hb=>by have:=HF2.out b hb;exact⟨by omega,by omega⟩) (by omega) (by omega) (by omega) (by have:=HZ3.out.lt;omega) HB3.out HZ3.out
  obtain⟨z0,z1,z2⟩:=Bx.g3 hz3;obtain⟨f0,f1,f2⟩:=hz3.f3;have zZ:aG (∀ {a b c:aJ},kW w (((Y.setCell ⟨(w.heap.size+1),0,ak⟩ a).setCell ⟨(w.heap.size+1),1,ak⟩ b).setCell ⟨(w.heap.size+1),2,ak⟩ c) (fK (oV g)) (jC A3 (oV g))):=HN Y (aZ5 _ _);generalize hpm:oV g=pm at *;clear hS hBc HN hz3 hpm;go_wp2;refine aY1 (v:=jc A3 pm) (by simp[results,Tryz.results11,go_sem,jc,jH, *]) rfl ?_
  rw[HZ.out];exact⟨_,rfl,zZ.out⟩
end
section
def CV (x:Ac):List eF:=[.v (ah aA x.kind),.v (ah aA x.a),.v (ah aA x.b),.v (aN (sv x.txt))]
theorem ap9 (x:Ac):(CV x).length=4:=rfl
def yQ:Ac:=⟨0,0,0,[]⟩
def sQ (L:List Ac) (k:Nat):Ac:=L.getD k yQ
theorem P6 {L: List Ac} (hk:k<L.length):L[k]?=au (sQ L k):=by simp[sQ,ba0,hk]
theorem XK {w: aI} {a: Option ba5} {c: Nat} {L: List Ac} (h:eF.vw w (iF 4 CV L) (aj a L.length c)) (hk:k<L.length):∃ b off,a=au ⟨b,off,ak⟩/\w.cell? ⟨b,off+k*4,ak⟩=au (ah aA (sQ L k).kind)/\w.cell? ⟨b,off+k*4+1,ak⟩=au (ah aA (sQ L k).a)/\w.cell? ⟨b,off+k*4+2,ak⟩=au (ah aA (sQ L k).b)/\w.cell? ⟨b,off+k*4+3,ak⟩=au (aN (sv (sQ L k).txt)):=by
 obtain⟨b,off,h1,h2⟩:=IY ap9 h (P6 hk);obtain⟨u0,c0,rfl⟩:=h2.at (j:=0) rfl;obtain⟨u1,c1,rfl⟩:=h2.at (j:=1) rfl;obtain⟨u2,c2,rfl⟩:=h2.at (j:=2) rfl;obtain⟨u3,c3,rfl⟩:=h2.at (j:=3) rfl;exact⟨b,off,h1,c0,c1,c2,c3⟩
attribute [local irreducible] sv
end
def G9 (R:List Rw) (k:Nat):Nat:=((R.take k).map kK).sum
def Il (R:List Rw):Nat:=R.length+G9 R R.length
def sN (m:Mb):Nat:=Il m.rows+m.dR.length
section
def XL (R:List Mb) (k:Nat):Mb:=R.getD k kY
def aD8:Ml:=⟨0,0,nJ⟩
def XM (R:List Ml) (k:Nat):Ml:=R.getD k aD8
def Fj (x:Ml):Nat:=kK x.row
attribute [local irreducible] sv
def Eh (R:List Mb) (k:Nat):Nat:=((R.take k).map sN).sum
theorem aa9 {R: List Mb} (hk:k<R.length):Eh R (k+1)=Eh R k+sN (XL R k):=by
 have e:XL R k=R[k]:=by simp[XL,ba0,hk]
 unfold Eh;rw[aS hk,aV9,List.sum_append,e];simp
theorem ab1 (R:List Mb) {a: Nat} (h:a<=b):Eh R a<=Eh R b:=by
 unfold Eh;obtain⟨c,rfl⟩:=Nat.exists_eq_add_of_le h;rw[List.take_add,aV9,List.sum_append];omega
def P7 (R:List Mb):Nat:=R.length+Eh R R.length
def Ei (R:List Ml) (k:Nat):Nat:=((R.take k).map Fj).sum
theorem ab2 {R: List Ml} (hk:k<R.length):Ei R (k+1)=Ei R k+Fj (XM R k):=by
 have e:XM R k=R[k]:=by simp[XM,ba0,hk]
 unfold Ei;rw[aS hk,aV9,List.sum_append,e];simp
theorem ab3 (R:List Ml) {a: Nat} (h:a<=b):Ei R a<=Ei R b:=by
 unfold Ei;obtain⟨c,rfl⟩:=Nat.exists_eq_add_of_le h;rw[List.take_add,aV9,List.sum_append];omega
def P8 (R:List Ml):Nat:=R.length+Ei R R.length
def AQ (g:Gr):Nat:=P7 g.mem+g.up.length+P8 g.dS
end
theorem ab4:(Tryz.prog.info? 41).map (fun i=>(i.zero,i.size,i.bytes))=au (au (aj ak 0 0),1,24):=by kernel_rfl
theorem P9 {w: aI} {a: Option ba5} {c: Nat} {H: List (List Int)} (h:VV w a n c H) (hn:0<n):∃ b off,a=au ⟨b,off,ak⟩/\∀ i,i<n->∃ x cx,w.cell? ⟨b,off+i,ak⟩=au (aj x (row H i).length cx)/\Vec w x (row H i).length (row H i)/\(row H i).length<=cx/\cx<=ba2:=by
 obtain⟨b,off,_,_,ha,_⟩:=h.row 0 hn;refine⟨b,off,ha,fun i hi=>?_⟩
 obtain⟨b',off',x,cx,ha',h1,h2,h3,h4⟩:=h.row i hi;rw[ha] at ha'
 cases ha'
 exact⟨x,cx,h1,h2,h3,h4⟩
section
attribute [local irreducible] sv
end
section
attribute [local irreducible] sv
end
theorem fH.at {w X:aI} {B o:Nat} {cs:List eF} {fp:Fp} (h:fH w X B o cs fp) {j:Nat} {c:eF} (hj:cs[j]?=au c):∃ u f,X.cell? ⟨B,o+j,ak⟩=au u/\X.frozen? ⟨B,o+j,ak⟩=aC/\eF.ow X c u f /\
  ∀ (X1:aI) (c':eF) (u':aJ) (f':Fp),eU f X X1->eF.ow X1 c' u' f'->(∀ b,f' b->f b\/X.heap.size<=b)->X1.cell? ⟨B,o+j,ak⟩=au u/\X1.frozen? ⟨B,o+j,ak⟩=aC/\fH w (X1.setCell ⟨B,o+j,ak⟩ u') B o (cs.set j c') fp/\(u'=u->fH w X1 B o (cs.set j c') fp):=by
 obtain⟨gI,hp,_,hgo⟩:=h.next;obtain⟨u,f,h1,h2,h3,h4,h5,h6⟩:=hp.at hj;refine⟨u,f,h1,h2,h3,fun X1 c' u' f' hw hc hf=>?_⟩
 obtain⟨k1,k2,k3,k4⟩:=h6 X1 c' u' f' hw hc hf;exact⟨k1,k2,hgo _ _ (by simp) k3,fun e=>hgo _ _ (by simp) (k4 e)⟩
theorem fH.put {w: aI} {cs: List eF} (h:fH w X B o cs fp) {j: Nat} {x: aJ} (hj:cs[j]?=au (.v x)) (y:aJ):X.cell? ⟨B,o+j,ak⟩=au x/\X.frozen? ⟨B,o+j,ak⟩=aC/\fH w (X.setCell ⟨B,o+j,ak⟩ y) B o (cs.set j (.v y)) fp:=by
 obtain⟨u,f,h1,h2,⟨rfl,_⟩,h4⟩:=h.at hj;exact⟨h1,h2,(h4 X (.v y) y (fun _=>False) (eU.refl _ _) ⟨rfl,fun _ h=>h⟩ (fun b hb=>hb.elim)).2.2.1⟩
def m3 (k:Int):Bool:=k%3==0
def Qa (r:Rw):Nat:=1+r.txt.length+r.got.length+r.dQ.length+1+1+1+r.dU.length
def cP (R:List Rw) (k:Nat):Nat:=((R.take k).map Qa).sum
theorem aq0 {w: aI} {c1 c2: eF} {v1 v2: aJ} (h:gq w [c1,c2] [v1,v2] f):∃ f1 f2,eF.ow w c1 v1 f1/\eF.ow w c2 v2 f2/\(∀ b,f1 b->¬ f2 b)/\∀ b,f b↔f1 b\/f2 b:=by
 obtain⟨u1,vU,f1,g1,e1,o1,h2,d1,i1⟩:=h
 cases e1
 obtain⟨u2,xu,f2,g2,e2,o2,h3,d2,i2⟩:=h2
 cases e2
 have hg:=h3.2;refine⟨f1,f2,o1,o2,fun b h1 h2=>d1 b h1 ((i2 b).2 (.inl h2)),fun b=>?_⟩
 rw[i1,i2];exact⟨fun h=>h.imp id (fun h=>h.elim id (fun h=>absurd h (hg b))),fun h=>h.imp id .inl⟩
def NQ (m:Mb):Nat:=cP m.rows m.rows.length+m.dR.length
def Vf (m:Mb):Nat:=2+cP m.rows m.rows.length+m.dR.length+1
def Vg (x:Ml):Nat:=2+Qa x.row
def cPm (R:List Mb) (k:Nat):Nat:=((R.take k).map Vf).sum
def cPl (R:List Ml) (k:Nat):Nat:=((R.take k).map Vg).sum
def NR (g:Gr):Nat:=cPm g.mem g.mem.length+g.up.length+cPl g.dS g.dS.length
def Io (m:Mb):Mb:=if gZ m=aB then fB m else kY
section
def hadB (R:List Rw) (n:Nat) (q:Int):Bool:=decide (q.toNat/n<(dO R (q.toNat%n)).txt.length)
def nH (R:List Rw) (n:Nat) (q:Int):List UInt8:=(dO R (q.toNat%n)).txt.getD (q.toNat/n) []
def Vh (m:Mb):List (List UInt8)×Bool:=if m.dR.all (hadB m.rows m.k)=aB then (m.dR.map (nH m.rows m.k),aB) else ([],aC)
def Ip (m:Mb):List (List UInt8):=if gZ m=aB then (Vh m).1 else []
theorem ab5 {α β: Type} {f: α->β} {l: List α} {x: α} (h:l[k]?=au x):(l.take (k+1)).map f=(l.take k).map f++[f x]:=by
 have hk:k<l.length:=by
  rcases Nat.lt_or_ge k l.length with h'|h'
  ·exact h'
  ·rw[List.getElem?_eq_none h'] at h;cases h
 rw[bC hk] at h
 cases h
 rw[aS hk,aV9]
 rfl
attribute [local irreducible] sv
end
def am4 (w w':aI) (e:Ending) (T:List (List UInt8)):Prop:=∃ a c,e=aK (aj a T.length c)/\sJ w w' (ny T) (aj a T.length c)
section
def Fq (m:Mb):Prop:=jo m.id/\jo m.n/\∀ r∈m.rows,tC r
structure ug (w:aI) (A:Ma) (m:Mb):Prop where
 own:∃ f,gq w (jA m) (jB A m) f
 fit:nY m
 i64:Fq m
 sz:sN m<=1048576
def aq1:Prop:=∀ (A:Ma) (m:Mb) (t:List UInt8) (w:aI),ug w A m->t.length<=1048576->ba3 aZ8 124 #[iL A m,aN (sv t)] w fun e w'=>I8 w w' e (Kz m t).1 (Kz m t).2
def XO:Prop:=∀ (A:Ma) (m:Mb) (fr:Int) (Ar:Ra) (r:Rw) (w:aI),ug w A m->jo fr->qo w Ar r->ba3 aZ8 111 #[iL A m,ah aA fr,iK Ar r] w fun e w'=>I8 w w' e (KA m fr r).1 (KA m fr r).2
def XP:Prop:=∀ (A:Ma) (m:Mb) (w:aI),ug w A m->(gZ m=aB->m.own.ver<1000000)->ba3 aZ8 70 #[iL A m] w fun e w'=>UW w w' e (Io m)
def MK:Prop:=∀ (A:Ma) (m:Mb) (w:aI),ug w A m->ba3 aZ8 15 #[iL A m] w fun e w'=>am4 w w' e (Ip m)
def SmM (m:Mb):Prop:=nY m/\NQ m<=1000/\m.rows.length<=5/\sN m<=100000
theorem CW (F:Rw->Nat) (c:Nat):∀ (R:List Rw),(∀ r∈R,F r<=c)->(R.map F).sum<=c*R.length
 | [],_=>by simp
 | r::R,h=>by
  have ih:=CW F c R (fun x hx=>h x (bV _ hx))
  have h1:=h r dD;rw[aX8,List.sum_cons,aU6,Nat.mul_succ];omega
theorem iR.c8 (h:iR r n):Qa r<=31/\kK r<=300:=by
 have h5:=h.n5;have h1:=h.gl;have h2:=h.sl;have h3:=h.ml;have h4:=h.tl;have h6:BL r.txt r.txt.length<=r.txt.length*20:=CQ (fun i hi=>h.ts _ (by rw[aV,bC hi];exact aU7 hi)) _ (aZ0 _)
 unfold Qa kK;omega
theorem iP.small {m: Mb} (h:iP m i n):SmM m:=by
 have h5:=h.n5;have hl:=h.len;have hs:=h.sl
 have e1:cP m.rows m.rows.length<=31*m.rows.length:=by
  unfold cP;rw[aV2];exact CW Qa 31 m.rows (fun r hr=>(h.rowOk r hr).c8.1)
 have e2:G9 m.rows m.rows.length<=300*m.rows.length:=by
  unfold G9;rw[aV2];exact CW kK 300 m.rows (fun r hr=>(h.rowOk r hr).c8.2)
 refine⟨h.fit, ?_,by omega, ?_⟩
 ·unfold NQ;omega
 ·unfold sN Il;omega
attribute [local irreducible] sv
end
def Vj (g:Gr):Prop:=(∀ m∈g.mem,Fq m)/\∀ x∈g.dS,jo x.fr/\jo x.to/\tC x.row
structure wu (w:aI) (A:Ga) (g:Gr):Prop where
 own:∃ f,gq w (fK g) (jC A g) f
 fit:Dw g
 i64:Vj g
 sz:AQ g<=1048576
def aO8 (x:Ac):Prop:=jo x.kind/\jo x.a/\jo x.b
def Rj:Prop:=∀ (A:Ga) (g:Gr) (w:aI),wu w A g->ba3 aZ8 18 #[jc A g] w fun e w'=>e=aK (aF (jQ g))/\Below w.heap.size w w'
def SmG (g:Gr):Prop:=Dw g/\NR g<=100000/\g.mem.length<=5/\g.dS.length<=200/\AQ g<=1000000
theorem xW {α:Type} (F:α->Nat) (c:Nat):∀ (R:List α),(∀ r∈R,F r<=c)->(R.map F).sum<=c*R.length
 | [],_=>by simp
 | r::R,h=>by
  have ih:=xW F c R (fun x hx=>h x (bV _ hx))
  have h1:=h r dD;rw[aX8,List.sum_cons,aU6,Nat.mul_succ];omega
theorem OkG.ab6 {g: Gr} (h:OkG g n) {m: Mb} (hm:m∈g.mem):∃ i,iP m i n:=by
 obtain⟨i,hi,rfl⟩:=bU.1 hm;refine⟨i, ?_⟩;have:=h.mem i (by rw[<- h.ml];exact hi)
 unfold dY at this
 rwa [aV,bC hi,Option.getD_some] at this
theorem OkG.small {g:Gr} {n:Nat} (h:OkG g n):SmG g:=by
 have h5:=h.n5;have hl:=h.ml;have hu:=h.ul;have h2:=h.pF
 have e1:cPm g.mem g.mem.length<=1003*g.mem.length:=by
  unfold cPm;rw[aV2];refine xW Vf 1003 g.mem (fun m hm=>?_)
  obtain⟨i,ok⟩:=h.ab6 hm;have:=ok.small.2.1;have h2:Vf m=3+NQ m:=by unfold Vf NQ;omega
  omega
 have e2:Eh g.mem g.mem.length<=100000*g.mem.length:=by
  unfold Eh;rw[aV2];refine xW sN 100000 g.mem (fun m hm=>?_)
  obtain⟨i,ok⟩:=h.ab6 hm;exact ok.small.2.2.2
 have e3:cPl g.dS g.dS.length<=33*g.dS.length:=by
  unfold cPl;rw[aV2];refine xW Vg 33 g.dS (fun x hx=>?_)
  obtain⟨a,b,_,_,_,_,_,ok⟩:=h.jZ x hx;have:=ok.c8.1;unfold Vg;omega
 have e4:Ei g.dS g.dS.length<=300*g.dS.length:=by
  unfold Ei;rw[aV2];refine xW Fj 300 g.dS (fun x hx=>?_)
  obtain⟨a,b,_,_,_,_,_,ok⟩:=h.jZ x hx;exact ok.c8.2
 refine⟨h.fit, ?_,by omega,h2, ?_⟩
 ·unfold NR;omega
 ·unfold AQ P7 P8;omega
theorem Qb:SmG kQ:=⟨⟨fun r hr=>absurd hr aU9,fun x hx=>absurd hx aU9⟩,by simp[NR,cPm,cPl,kQ],by simp[kQ],by simp[kQ],by simp[AQ,P7,P8,Eh,Ei,kQ]⟩
theorem Rk (g:Gr):SmG (qH g):=by
 unfold qH
 split
 ·rename_i h;obtain⟨n,ok⟩:=xM.1 h;rw[PY];exact (xU ok 8).small
 ·exact Qb
section
def zx (x:Ac):Prop:=aO8 x/\x.txt.length<=1000
theorem BG {k a b: Int} {t: List UInt8} (h1:jo k) (h2:jo a) (h3:jo b) (h4:t.length<=1000):zx ⟨k,a,b,t⟩:=⟨⟨h1,h2,h3⟩,h4⟩
def aK5 (w X X':aI) (p:Nat) (a:Option ba5) (len cap:Nat) (bs:Nat->Int) (e:Ending):Prop:=∃ x,e=aK (su x)/\zx x/\Cc w X' p a len cap bs/\X.grownBy X' (au p)
theorem aK6 (w:aI) (g:Nat) {a b c d: aJ}:eU (fun x=>x=g) w ((((w.setCell ⟨g,0,ak⟩ a).setCell ⟨g,1,ak⟩ b).setCell ⟨g,2,ak⟩ c).setCell ⟨g,3,ak⟩ d) :=
 (((eU.set w g 0 a).trans (eU.set _ g 1 b) (fun _ _ h=>h)).trans (eU.set _ g 2 c) (fun _ _ h=>h)).trans (eU.set _ g 3 d) (fun _ _ h=>h)
theorem Bx.fa4 {w: aI} (h:Bx w B T cs):w.frozen? ⟨B,0,ak⟩=aC/\w.frozen? ⟨B,1,ak⟩=aC/\w.frozen? ⟨B,2,ak⟩=aC/\w.frozen? ⟨B,3,ak⟩=aC:=⟨h.f 0,h.f 1,h.f 2,h.f 3⟩
def DA (w X Y:aI) (p:Nat) (a:Option ba5) (len cap:Nat) (bs:Nat->Int) (o:Nat) (x:Ac):Prop:=SD w X Y p a len cap bs 38 o #[ah aA 0,ah aA 0,ah aA 0,.string ⟨#[]⟩] (uM x) [] [] (fun _=>False)
section
variable {w X Y Y':aI} {p:Nat} {a:Option ba5} {len cap:Nat} {bs:Nat->Int} {o:Nat} {x:Ac}
theorem DA.uQ (h:DA w X Y p a len cap bs o x) (k:Int):DA w X (Y.setCell ⟨o,0,ak⟩ (ah aA k)) p a len cap bs o { x with kind:=k }:=by
 have:=SD.set h 0 (ah aA k);simpa[DA,uM] using this
theorem DA.ab7 (h:DA w X Y p a len cap bs o x) (k:Int):DA w X (Y.setCell ⟨o,1,ak⟩ (ah aA k)) p a len cap bs o { x with a:=k }:=by
 have:=SD.set h 1 (ah aA k);simpa[DA,uM] using this
theorem DA.ab8 (h:DA w X Y p a len cap bs o x) (t:List UInt8):DA w X (Y.setCell ⟨o,3,ak⟩ (aN (sv t))) p a len cap bs o { x with txt:=t }:=by
 have:=SD.set h 3 (aN (sv t));simpa[DA,uM] using this
theorem DA.drawn (h:DA w X Y p a len cap bs o x) (hg:Y.grownBy Y' (au p)) (hc:Cc w Y' p a len cap bs):DA w X Y' p a len cap bs o x:=SD.drawn h hg hc
theorem DA.step (h:DA w X Y p a len cap bs o x) (hb:Below Y.heap.size Y Y'):DA w X Y' p a len cap bs o x:=SD.step h hb
theorem DA.cells (h:DA w X Y p a len cap bs o x):Y.cell? ⟨o,0,ak⟩=au (ah aA x.kind)/\Y.cell? ⟨o,1,ak⟩=au (ah aA x.a)/\Y.cell? ⟨o,2,ak⟩=au (ah aA x.b)/\Y.cell? ⟨o,3,ak⟩=au (aN (sv x.txt)):=Bx.a4 (SD.own h)
theorem DA.fr (h:DA w X Y p a len cap bs o x):Y.frozen? ⟨o,0,ak⟩=aC/\Y.frozen? ⟨o,1,ak⟩=aC/\Y.frozen? ⟨o,2,ak⟩=aC/\Y.frozen? ⟨o,3,ak⟩=aC:=Bx.fa4 (SD.own h)
theorem DA.cc (h:DA w X Y p a len cap bs o x):Cc w Y p a len cap bs:=SD.cc h
end
def FinA (w X Y:aI) (p:Nat) (a:Option ba5) (len cap:Nat) (bs:Nat->Int):Prop:=∀ (x0 x1 x2 x3:aJ),Cc w ((((Y.setCell ⟨X.heap.size,0,ak⟩ x0).setCell ⟨X.heap.size,1,ak⟩ x1).setCell ⟨X.heap.size,2,ak⟩ x2).setCell ⟨X.heap.size,3,ak⟩ x3) p a len cap bs/\X.grownBy ((((Y.setCell ⟨X.heap.size,0,ak⟩ x0).setCell ⟨X.heap.size,1,ak⟩ x1).setCell ⟨X.heap.size,2,ak⟩ x2).setCell ⟨X.heap.size,3,ak⟩ x3) (au p)
theorem DA.fin {w Y: aI} {p: Nat} {a: Option ba5} {cap: Nat} {bs: Nat->Int} (h:DA w X Y p a len cap bs o x):FinA w X Y p a len cap bs:=fun x0 x1 x2 x3=>by
 obtain⟨_,_,h1,h2⟩:=SD.ans h (aK6 Y X.heap.size (a:=x0) (b:=x1) (c:=x2) (d:=x3));exact⟨h1,h2⟩
attribute [local irreducible] sv
theorem Vk (N:Nat) (n:Int) (hN:n=(N:Int)) (hN1:1<=N) (G6:N<=5) {w: aI} {p: Nat} {a: Option ba5} {cap: Nat} {bs: Nat->Int} (h:Cc w X p a len cap bs) :
  ba3 aZ8 65 #[aO (au ⟨p,0,ak⟩),ah aA n] X fun e X'=>aK5 w X X' p a len cap bs e:=by
 subst hN;have Fv:=h.lt;have hwp:=h.hp;have KC:aG ((⟨#[]⟩:ByteArray)=sv []):=by rw[aG];unfold sv;rfl
 have b0:=dX X (aH #[ah aA 0,ah aA 0,ah aA 0,.string ⟨#[]⟩] 38);have HR0:aG (Bx (X.alloc (aH #[ah aA 0,ah aA 0,ah aA 0,.string ⟨#[]⟩] 38)) X.heap.size 38 #[ah aA 0,ah aA 0,ah aA 0,.string ⟨#[]⟩]):=Bx.new X _ _;have wW:aG (Cc w (X.alloc (aH #[ah aA 0,ah aA 0,ah aA 0,.string ⟨#[]⟩] 38)) p a len cap bs):=h.step b0;have oN:aG (X.grownBy (X.alloc (aH #[ah aA 0,ah aA 0,ah aA 0,.string ⟨#[]⟩] 38)) (au p)):=⟨b0.os,b0.tape,b0.output,b0.size,fun x hx _=>b0.block x hx⟩
 clear h b0;generalize rV:X.alloc (aH #[ah aA 0,ah aA 0,ah aA 0,.string ⟨#[]⟩] 38)=W0 at *;go_enter Tryz.func65,Tryz.ntmps65
 go_wp2_with fail
 refine (jR N (N:Int) rfl wW.out hN1 (by omega)).mono ?_
 rintro e W1 ⟨xa,rfl,hxa,c1,g1⟩;have wS:=dP c1;have mP:=dP (fQ oN.out g1);have HR1:aG (Bx W1 X.heap.size 38 #[ah aA 0,ah aA 0,ah aA 0,.string ⟨#[]⟩]):=HR0.out.grown g1 (by simp;omega)
 clear c1 g1 HR0 wW oN;go_wp2_with fail
 refine (jR N (N:Int) rfl wS.out hN1 (by omega)).mono ?_
 rintro e W2 ⟨xb,rfl,hxb,c2,g2⟩;have HC2:=dP c2;have HG2:=dP (fQ mP.out g2);have HR2:aG (Bx W2 X.heap.size 38 #[ah aA 0,ah aA 0,ah aA 0,.string ⟨#[]⟩]):=HR1.out.grown g2 (by simp;omega)
 clear c2 g2 HR1 wS mP;have hba:=dX W2 (aH #[ah aA 3,ah aA (xa:Int),ah aA (xb:Int),.string ⟨#[]⟩] 38);have hbx:=Bx.new W2 38 #[ah aA 3,ah aA (xa:Int),ah aA (xb:Int),.string ⟨#[]⟩];have hrl:=HR2.out.lt
 have HM:aG (DA w X (W2.alloc (aH #[ah aA 3,ah aA (xa:Int),ah aA (xb:Int),.string ⟨#[]⟩] 38)) p a len cap bs W2.heap.size ⟨3,(xa:Int),(xb:Int),[]⟩):=by
  refine⟨HC2.out.step hba,HR2.out.below hba,by rw[KC.out] at hbx ⊢;exact hbx,⟨rfl,fun _ h=>h⟩,fun b h=>h.elim,Fv,by omega, ?_⟩
  exact fQ HG2.out ⟨hba.os,hba.tape,hba.output,hba.size,fun x hx _=>hba.block x hx⟩
 clear hba hbx HR2 HC2 HG2 hrl;go_upto_region 2 with fail
 generalize W2.alloc (aH #[ah aA 3,ah aA (xa:Int),ah aA (xb:Int),.string ⟨#[]⟩] 38)=W4 at *;generalize W2.heap.size=o at *;go_wp2_with fail
 refine (jR 16 16 rfl HM.out.cc (by omega) (by omega)).mono ?_
 rintro e W5 ⟨y,rfl,hy,c5,g5⟩;have iM:=dP (HM.out.drawn g5 c5);clear c5 g5 HM
 go_upto_block 0 with fail
 go_cut [14] from 15 to 45 (fun _ wx=>∃ (k:Int) (t:List UInt8),1<=k/\k<=7/\t.length<=1000/\DA w X wx p a len cap bs o ⟨k,(xa:Int),(xb:Int),t⟩)
 case first =>
  have hys:y=0\/y=1\/y=2\/y=3\/y=4\/y=5\/y=6\/y=7\/y=8\/y=9\/y=10\/y=11\/y=12\/y=13\/y=14\/y=15:=by omega
  clear hy;rcases hys with rfl|rfl|rfl|rfl|rfl|rfl|rfl|rfl|rfl|rfl|rfl|rfl|rfl|rfl|rfl|rfl
  ·obtain⟨d0,d1,d2,d3⟩:=DA.cells iM.out
   obtain⟨f0,f1,f2,f3⟩:=DA.fr iM.out;simp only at d0 d1 d2 d3
   have jX:=dP (iM.out.uQ 1);have hT:=DF 2 2 rfl (by omega) jX.out.cc
   go_wp2_with fail
   refine hT.mono ?_;rintro e Y2 ⟨t,rfl,ht,c7,g7⟩;have M2:=jX.out.drawn g7 c7;clear d0 d1 d2 d3 f0 f1 f2 f3 jX c7 g7 hT;obtain⟨d0,d1,d2,d3⟩:=DA.cells M2;obtain⟨f0,f1,f2,f3⟩:=DA.fr M2;simp only at d0 d1 d2 d3
   have qx:=dP (M2.ab8 t);clear M2;go_wp2;go_meet
   case rel=>exact⟨1,t,by omega,by omega,by omega,qx.out⟩
  ·obtain⟨d0,d1,d2,d3⟩:=DA.cells iM.out
   obtain⟨f0,f1,f2,f3⟩:=DA.fr iM.out;simp only at d0 d1 d2 d3
   have jX:=dP (iM.out.uQ 1);have hT:=DF 2 2 rfl (by omega) jX.out.cc
   go_wp2_with fail
   refine hT.mono ?_;rintro e Y2 ⟨t,rfl,ht,c7,g7⟩;have M2:=jX.out.drawn g7 c7;clear d0 d1 d2 d3 f0 f1 f2 f3 jX c7 g7 hT;obtain⟨d0,d1,d2,d3⟩:=DA.cells M2;obtain⟨f0,f1,f2,f3⟩:=DA.fr M2;simp only at d0 d1 d2 d3
   have qx:=dP (M2.ab8 t);clear M2;go_wp2;go_meet
   case rel=>exact⟨1,t,by omega,by omega,by omega,qx.out⟩
  ·obtain⟨d0,d1,d2,d3⟩:=DA.cells iM.out
   obtain⟨f0,f1,f2,f3⟩:=DA.fr iM.out;simp only at d0 d1 d2 d3
   have jX:=dP (iM.out.uQ 1);have hT:=DF 2 2 rfl (by omega) jX.out.cc
   go_wp2_with fail
   refine hT.mono ?_;rintro e Y2 ⟨t,rfl,ht,c7,g7⟩;have M2:=jX.out.drawn g7 c7;clear d0 d1 d2 d3 f0 f1 f2 f3 jX c7 g7 hT;obtain⟨d0,d1,d2,d3⟩:=DA.cells M2;obtain⟨f0,f1,f2,f3⟩:=DA.fr M2;simp only at d0 d1 d2 d3
   have qx:=dP (M2.ab8 t);clear M2;go_wp2;go_meet
   case rel=>exact⟨1,t,by omega,by omega,by omega,qx.out⟩
  ·obtain⟨d0,d1,d2,d3⟩:=DA.cells iM.out
   obtain⟨f0,f1,f2,f3⟩:=DA.fr iM.out;simp only at d0 d1 d2 d3
   have jX:=dP (iM.out.uQ 7);go_wp2;go_meet
   case rel=>exact⟨7,[],by omega,by omega,by simp,jX.out⟩
  ·obtain⟨d0,d1,d2,d3⟩:=DA.cells iM.out
   obtain⟨f0,f1,f2,f3⟩:=DA.fr iM.out;simp only at d0 d1 d2 d3
   have jX:=dP (iM.out.uQ 7);go_wp2;go_meet
   case rel=>exact⟨7,[],by omega,by omega,by simp,jX.out⟩
  ·obtain⟨d0,d1,d2,d3⟩:=DA.cells iM.out
   obtain⟨f0,f1,f2,f3⟩:=DA.fr iM.out;simp only at d0 d1 d2 d3
   have jX:=dP (iM.out.uQ 7);go_wp2;go_meet
   case rel=>exact⟨7,[],by omega,by omega,by simp,jX.out⟩
  ·obtain⟨d0,d1,d2,d3⟩:=DA.cells iM.out
   obtain⟨f0,f1,f2,f3⟩:=DA.fr iM.out;simp only at d0 d1 d2 d3
   have jX:=dP (iM.out.uQ 4);go_wp2;go_meet
   case rel=>exact⟨4,[],by omega,by omega,by simp,jX.out⟩
  ·obtain⟨d0,d1,d2,d3⟩:=DA.cells iM.out
   obtain⟨f0,f1,f2,f3⟩:=DA.fr iM.out;simp only at d0 d1 d2 d3
   have jX:=dP (iM.out.uQ 4);go_wp2;go_meet
   case rel=>exact⟨4,[],by omega,by omega,by simp,jX.out⟩
  ·obtain⟨d0,d1,d2,d3⟩:=DA.cells iM.out
   obtain⟨f0,f1,f2,f3⟩:=DA.fr iM.out;simp only at d0 d1 d2 d3
   have jX:=dP (iM.out.uQ 4);go_wp2;go_meet
   case rel=>exact⟨4,[],by omega,by omega,by simp,jX.out⟩
  ·obtain⟨d0,d1,d2,d3⟩:=DA.cells iM.out
   obtain⟨f0,f1,f2,f3⟩:=DA.fr iM.out;simp only at d0 d1 d2 d3
   have jX:=dP (iM.out.uQ 2);go_wp2;go_meet
   case rel=>exact⟨2,[],by omega,by omega,by simp,jX.out⟩
  ·have hO:=uz 3 iM.out.cc (by omega)
   go_wp2_with fail
   refine hO.mono ?_;rintro e Y1 ⟨b,rfl,c7,g7⟩;have jX:=dP (iM.out.drawn g7 c7);clear c7 g7 hO
   cases b with
   | false =>
    go_wp2;go_meet
    case rel=>exact⟨3,[],by omega,by omega,by simp,jX.out⟩
   | true =>
    obtain⟨d0,d1,d2,d3⟩:=DA.cells jX.out;obtain⟨f0,f1,f2,f3⟩:=DA.fr jX.out;simp only at d0 d1 d2 d3
    have qx:=dP (jX.out.uQ 5);go_wp2;go_meet
    case rel=>exact⟨5,[],by omega,by omega,by simp,qx.out⟩
  ·have hO:=uz 8 iM.out.cc (by omega)
   go_wp2_with fail
   refine hO.mono ?_;rintro e Y1 ⟨b,rfl,c7,g7⟩;have jX:=dP (iM.out.drawn g7 c7);clear c7 g7 hO
   cases b with
   | false =>
    go_wp2;go_meet
    case rel=>exact⟨3,[],by omega,by omega,by simp,jX.out⟩
   | true =>
    obtain⟨d0,d1,d2,d3⟩:=DA.cells jX.out;obtain⟨f0,f1,f2,f3⟩:=DA.fr jX.out;simp only at d0 d1 d2 d3
    have qx:=dP (jX.out.uQ 6);go_wp2;go_meet
    case rel=>exact⟨6,[],by omega,by omega,by simp,qx.out⟩
  ·go_wp2
   go_meet
   case rel=>exact⟨3,[],by omega,by omega,by simp,iM.out⟩
  ·go_wp2
   go_meet
   case rel=>exact⟨3,[],by omega,by omega,by simp,iM.out⟩
  ·go_wp2
   go_meet
   case rel=>exact⟨3,[],by omega,by omega,by simp,iM.out⟩
  ·go_wp2
   go_meet
   case rel=>exact⟨3,[],by omega,by omega,by simp,iM.out⟩
 case rest =>
  obtain⟨k,t,hk1,PX,ht,hM⟩:=hcut;generalize wc=Y9 at *;have jX:=dP hM;have HS:aG (zx ⟨k,(xa:Int),(xb:Int),t⟩):=BG ⟨by omega,by omega⟩ ⟨by omega,by omega⟩ ⟨by omega,by omega⟩ ht
  have hO:=uz 50 jX.out.cc (by omega)
  clear hM iM;go_wp2_with fail
  refine hO.mono ?_;rintro e Y1 ⟨b,rfl,c7,g7⟩;have qx:=dP (jX.out.drawn g7 c7);clear c7 g7 hO jX
  cases b with
  | false =>
   obtain⟨d0,d1,d2,d3⟩:=DA.cells qx.out;simp only at d0 d1 d2 d3
   obtain⟨r0,r1,r2,r3⟩:=Bx.a4 (SD.res qx.out);obtain⟨f0,f1,f2,f3⟩:=Bx.fa4 (SD.res qx.out);have HA:=dP (DA.fin qx.out);have yR:=dP HS.out;go_wp2;refine aY1 (v:=su ⟨k,(xa:Int),(xb:Int),t⟩) (by simp[results,aX3,go_sem,su,uM, *]) rfl ?_
   exact⟨⟨k,(xa:Int),(xb:Int),t⟩,rfl,yR.out,HA.out _ _ _ _⟩
  | true =>
   have hB:=jR 2 2 rfl qx.out.cc (by omega) (by omega)
   go_wp2_with fail
   refine hB.mono ?_;rintro e Y2 ⟨z,rfl,hz,c7,g7⟩;have pV:=dP (qx.out.drawn g7 c7);clear c7 g7 hB qx;have hzs:z=0\/z=1:=by omega
   clear hz;rcases hzs with rfl|rfl
   ·have hba:=dX Y2 (aH #[ah aA 0,ah aA 8,ah aA (-1),ah aA 4611686018427387904] 2)
    have hbx:=Bx.new Y2 2 #[ah aA 0,ah aA 8,ah aA (-1),ah aA 4611686018427387904];have M0:=pV.out.step hba;have Tf:=dP M0;have qU:=dP hbx;have hB:=jR 4 4 rfl M0.cc (by omega) (by omega)
    have hb2:=hbx.lt;have hpl:=SD.hpo pV.out;have hso:=(SD.gr pV.out).size;clear hba hbx M0 pV;go_wp2_with fail
    generalize Y2.alloc (aH #[ah aA 0,ah aA 8,ah aA (-1),ah aA 4611686018427387904] 2)=Y3 at *;refine hB.mono ?_;rintro e Y4 ⟨j,rfl,hj,c7,g7⟩;have M4:=Tf.out.drawn g7 c7;have vJ:=qU.out.grown g7 (by simp;omega)
    obtain⟨d0,d1,d2,d3⟩:=DA.cells M4;obtain⟨f0,f1,f2,f3⟩:=DA.fr M4;simp only at d0 d1 d2 d3
    generalize Y2.heap.size=lb at *;have lU:=dP M4;have hjs:j=0\/j=1\/j=2\/j=3:=by omega
    clear c7 g7 hB Tf qU hj M4;rcases hjs with rfl|rfl|rfl|rfl
    ·have l0:Y4.cell? ⟨lb,0,ak⟩=au (ah aA 0):=vJ.at 0 rfl
     have jK:=dP (lU.out.uQ 0);have CX:aG (zx ⟨0,(xa:Int),(xb:Int),t⟩):=BG ⟨by decide,by decide⟩ ⟨by omega,by omega⟩ ⟨by omega,by omega⟩ ht
     clear vJ;go_upto_region 30 with fail
     generalize Y4.setCell ⟨o,0,ak⟩ (ah aA 0)=Y9 at *;clear d0 d1 d2 d3 f0 f1 f2 f3 l0 lU;obtain⟨d0,d1,d2,d3⟩:=DA.cells jK.out;simp only at d0 d1 d2 d3
     obtain⟨r0,r1,r2,r3⟩:=Bx.a4 (SD.res jK.out);obtain⟨f0,f1,f2,f3⟩:=Bx.fa4 (SD.res jK.out);have HA:=dP (DA.fin jK.out);have yR:=dP CX.out;go_wp2;refine aY1 (v:=su ⟨0,(xa:Int),(xb:Int),t⟩) (by simp[results,aX3,go_sem,su,uM, *]) rfl ?_
     exact⟨⟨0,(xa:Int),(xb:Int),t⟩,rfl,yR.out,HA.out _ _ _ _⟩
    ·have l1:Y4.cell? ⟨lb,1,ak⟩=au (ah aA 8):=vJ.at 1 rfl
     have jK:=dP (lU.out.uQ 8);have CX:aG (zx ⟨8,(xa:Int),(xb:Int),t⟩):=BG ⟨by decide,by decide⟩ ⟨by omega,by omega⟩ ⟨by omega,by omega⟩ ht
     clear vJ;go_upto_region 30 with fail
     generalize Y4.setCell ⟨o,0,ak⟩ (ah aA 8)=Y9 at *;clear d0 d1 d2 d3 f0 f1 f2 f3 l1 lU;obtain⟨d0,d1,d2,d3⟩:=DA.cells jK.out;simp only at d0 d1 d2 d3
     obtain⟨r0,r1,r2,r3⟩:=Bx.a4 (SD.res jK.out);obtain⟨f0,f1,f2,f3⟩:=Bx.fa4 (SD.res jK.out);have HA:=dP (DA.fin jK.out);have yR:=dP CX.out;go_wp2;refine aY1 (v:=su ⟨8,(xa:Int),(xb:Int),t⟩) (by simp[results,aX3,go_sem,su,uM, *]) rfl ?_
     exact⟨⟨8,(xa:Int),(xb:Int),t⟩,rfl,yR.out,HA.out _ _ _ _⟩
    ·have l2:Y4.cell? ⟨lb,2,ak⟩=au (ah aA (-1)):=vJ.at 2 rfl
     have jK:=dP (lU.out.uQ (-1));have CX:aG (zx ⟨(-1),(xa:Int),(xb:Int),t⟩):=BG ⟨by decide,by decide⟩ ⟨by omega,by omega⟩ ⟨by omega,by omega⟩ ht
     clear vJ;go_upto_region 30 with fail
     generalize Y4.setCell ⟨o,0,ak⟩ (ah aA (-1))=Y9 at *;clear d0 d1 d2 d3 f0 f1 f2 f3 l2 lU;obtain⟨d0,d1,d2,d3⟩:=DA.cells jK.out;simp only at d0 d1 d2 d3
     obtain⟨r0,r1,r2,r3⟩:=Bx.a4 (SD.res jK.out);obtain⟨f0,f1,f2,f3⟩:=Bx.fa4 (SD.res jK.out);have HA:=dP (DA.fin jK.out);have yR:=dP CX.out;go_wp2;refine aY1 (v:=su ⟨(-1),(xa:Int),(xb:Int),t⟩) (by simp[results,aX3,go_sem,su,uM, *]) rfl ?_
     exact⟨⟨(-1),(xa:Int),(xb:Int),t⟩,rfl,yR.out,HA.out _ _ _ _⟩
    ·have l3:Y4.cell? ⟨lb,3,ak⟩=au (ah aA 4611686018427387904):=vJ.at 3 rfl
     have jK:=dP (lU.out.uQ 4611686018427387904);have CX:aG (zx ⟨4611686018427387904,(xa:Int),(xb:Int),t⟩):=BG ⟨by decide,by decide⟩ ⟨by omega,by omega⟩ ⟨by omega,by omega⟩ ht
     clear vJ;go_upto_region 30 with fail
     generalize Y4.setCell ⟨o,0,ak⟩ (ah aA 4611686018427387904)=Y9 at *;clear d0 d1 d2 d3 f0 f1 f2 f3 l3 lU;obtain⟨d0,d1,d2,d3⟩:=DA.cells jK.out;simp only at d0 d1 d2 d3
     obtain⟨r0,r1,r2,r3⟩:=Bx.a4 (SD.res jK.out);obtain⟨f0,f1,f2,f3⟩:=Bx.fa4 (SD.res jK.out);have HA:=dP (DA.fin jK.out);have yR:=dP CX.out;go_wp2;refine aY1 (v:=su ⟨4611686018427387904,(xa:Int),(xb:Int),t⟩) (by simp[results,aX3,go_sem,su,uM, *]) rfl ?_
     exact⟨⟨4611686018427387904,(xa:Int),(xb:Int),t⟩,rfl,yR.out,HA.out _ _ _ _⟩
   ·have hba:=dX Y2 (aH #[ah aA (-1),ah aA 5,ah aA 4611686018427387904] 2)
    have hbx:=Bx.new Y2 2 #[ah aA (-1),ah aA 5,ah aA 4611686018427387904];have M0:=pV.out.step hba;have Tf:=dP M0;have qU:=dP hbx;have hB:=jR 3 3 rfl M0.cc (by omega) (by omega)
    have hb2:=hbx.lt;have hpl:=SD.hpo pV.out;have hso:=(SD.gr pV.out).size;clear hba hbx M0 pV;go_wp2_with fail
    generalize Y2.alloc (aH #[ah aA (-1),ah aA 5,ah aA 4611686018427387904] 2)=Y3 at *;refine hB.mono ?_;rintro e Y4 ⟨j,rfl,hj,c7,g7⟩;have M4:=Tf.out.drawn g7 c7;have vJ:=qU.out.grown g7 (by simp;omega)
    obtain⟨d0,d1,d2,d3⟩:=DA.cells M4;obtain⟨f0,f1,f2,f3⟩:=DA.fr M4;simp only at d0 d1 d2 d3
    generalize Y2.heap.size=lb at *;have lU:=dP M4;have hjs:j=0\/j=1\/j=2:=by omega
    clear c7 g7 hB Tf qU hj M4;rcases hjs with rfl|rfl|rfl
    ·have l0:Y4.cell? ⟨lb,0,ak⟩=au (ah aA (-1)):=vJ.at 0 rfl
     have jK:=dP (lU.out.ab7 (-1));have CX:aG (zx ⟨k,(-1),(xb:Int),t⟩):=BG ⟨by omega,by omega⟩ ⟨by decide,by decide⟩ ⟨by omega,by omega⟩ ht
     clear vJ;go_upto_region 30 with fail
     generalize Y4.setCell ⟨o,1,ak⟩ (ah aA (-1))=Y9 at *;clear d0 d1 d2 d3 f0 f1 f2 f3 l0 lU;obtain⟨d0,d1,d2,d3⟩:=DA.cells jK.out;simp only at d0 d1 d2 d3
     obtain⟨r0,r1,r2,r3⟩:=Bx.a4 (SD.res jK.out);obtain⟨f0,f1,f2,f3⟩:=Bx.fa4 (SD.res jK.out);have HA:=dP (DA.fin jK.out);have yR:=dP CX.out;go_wp2;refine aY1 (v:=su ⟨k,(-1),(xb:Int),t⟩) (by simp[results,aX3,go_sem,su,uM, *]) rfl ?_
     exact⟨⟨k,(-1),(xb:Int),t⟩,rfl,yR.out,HA.out _ _ _ _⟩
    ·have l1:Y4.cell? ⟨lb,1,ak⟩=au (ah aA 5):=vJ.at 1 rfl
     have jK:=dP (lU.out.ab7 5);have CX:aG (zx ⟨k,5,(xb:Int),t⟩):=BG ⟨by omega,by omega⟩ ⟨by decide,by decide⟩ ⟨by omega,by omega⟩ ht
     clear vJ;go_upto_region 30 with fail
     generalize Y4.setCell ⟨o,1,ak⟩ (ah aA 5)=Y9 at *;clear d0 d1 d2 d3 f0 f1 f2 f3 l1 lU;obtain⟨d0,d1,d2,d3⟩:=DA.cells jK.out;simp only at d0 d1 d2 d3
     obtain⟨r0,r1,r2,r3⟩:=Bx.a4 (SD.res jK.out);obtain⟨f0,f1,f2,f3⟩:=Bx.fa4 (SD.res jK.out);have HA:=dP (DA.fin jK.out);have yR:=dP CX.out;go_wp2;refine aY1 (v:=su ⟨k,5,(xb:Int),t⟩) (by simp[results,aX3,go_sem,su,uM, *]) rfl ?_
     exact⟨⟨k,5,(xb:Int),t⟩,rfl,yR.out,HA.out _ _ _ _⟩
    ·have l2:Y4.cell? ⟨lb,2,ak⟩=au (ah aA 4611686018427387904):=vJ.at 2 rfl
     have jK:=dP (lU.out.ab7 4611686018427387904);have CX:aG (zx ⟨k,4611686018427387904,(xb:Int),t⟩):=BG ⟨by omega,by omega⟩ ⟨by decide,by decide⟩ ⟨by omega,by omega⟩ ht
     clear vJ;go_upto_region 30 with fail
     generalize Y4.setCell ⟨o,1,ak⟩ (ah aA 4611686018427387904)=Y9 at *;clear d0 d1 d2 d3 f0 f1 f2 f3 l2 lU;obtain⟨d0,d1,d2,d3⟩:=DA.cells jK.out;simp only at d0 d1 d2 d3
     obtain⟨r0,r1,r2,r3⟩:=Bx.a4 (SD.res jK.out);obtain⟨f0,f1,f2,f3⟩:=Bx.fa4 (SD.res jK.out);have HA:=dP (DA.fin jK.out);have yR:=dP CX.out;go_wp2;refine aY1 (v:=su ⟨k,4611686018427387904,(xb:Int),t⟩) (by simp[results,aX3,go_sem,su,uM, *]) rfl ?_
     exact⟨⟨k,4611686018427387904,(xb:Int),t⟩,rfl,yR.out,HA.out _ _ _ _⟩
end
section
def sS (L:List Ac):List aJ:=L.flatMap (fun x=>(uM x).toList)
theorem aq2 (L:List Ac):(sS L).length=L.length*4:=by
 induction L with
 | nil=>rfl
 | cons x L ih =>
  show ((uM x).toList++sS L).length=_
  rw[dB,ih,aU6]
  show 4+_=_
  omega
theorem aq3 (L M:List Ac):sS (L++M)=sS L++sS M:=by simp[sS]
theorem aq4 (L:List Ac):∀ u∈sS L,u.oneCell'=aB:=by
 intro u hu;unfold sS at hu;obtain⟨x,_,hx⟩:=List.mem_flatMap.1 hu;simp only[uM,aX5,aU9,or_false] at hx;rcases hx with rfl|rfl|rfl|rfl<;>rfl
theorem Tryz.infoAc:(Tryz.prog.info? 38).map (fun i=>(i.zero,i.size,i.bytes))=au (au (.agg #[ah aA 0,ah aA 0,ah aA 0,.string ⟨#[]⟩]),4,40):=by kernel_rfl
structure AL (w X Y:aI) (p:Nat) (a:Option ba5) (len cap:Nat) (bs:Nat->Int) (oa:Option ba5) (c:Nat) (G:Option Nat) (L:List Ac):Prop where
 cc:Cc w Y p a len cap bs
 own:iV Y 4 oa L.length c (sS L) G
 lo:∀ g,G=au g->X.heap.size<=g
 hpo:p<X.heap.size
 gr:X.grownBy Y (au p)
 ok:∀ x∈L,zx x
section
variable {w X Y Y':aI} {p:Nat} {a:Option ba5} {len cap:Nat} {bs:Nat->Int} {oa:Option ba5} {c:Nat} {G:Option Nat} {L:List Ac}
theorem AL.drawn (h:AL w X Y p a len cap bs oa c G L) (hg:Y.grownBy Y' (au p)) (hc:Cc w Y' p a len cap bs):AL w X Y' p a len cap bs oa c G L:=by
 have h1:=h.hpo;exact⟨hc,h.own.wrt (eU.l7 hg) (fun b hb e=>by cases e;have:=h.lo _ hb;omega),h.lo,h1,fQ h.gr hg,h.ok⟩
theorem AL.step (h:AL w X Y p a len cap bs oa c G L) (hb:Below Y.heap.size Y Y'):AL w X Y' p a len cap bs oa c G L :=
 ⟨h.cc.step hb,h.own.frame hb.size (fun g hg=>hb.block g (h.own.lt hg)),h.lo,h.hpo,fQ h.gr ⟨hb.os,hb.tape,hb.output,hb.size,fun x hx _=>hb.block x hx⟩,h.ok⟩
theorem AL.app (h:AL w X Y p a len cap bs oa c G L) (M:List Ac) (hok:∀ x∈M,zx x) (hl:L.length<=10000) (hm:M.length<=10) :
  ∀ Z,Same Z (Y.alloc (aH (sS M).toArray 38))->∃ v' w4,(Builtin.append_ #[29,29] 29 #[aj oa L.length c,aj (au ⟨Y.heap.size,0,ak⟩) M.length M.length]).run aZ8 Z=.ok v' w4 /\
   ∃ Ej c' G',v'=aj Ej (L.length+M.length) c'/\AL w X w4 p a len cap bs Ej c' G' (L++M):=by
 intro Z hZ;have h1:=h.hpo;have hw:=h.cc.hp;have nO:=(dX Y _).trans (hZ.below.mono (dX Y _).size);have hS:=h.step nO;obtain⟨i0,hi0,hz0,hz1,hz2⟩:=sF Tryz.infoAc;obtain⟨a',c',G',w4,k1,k2,k3,k4⟩:=nU (P:=aZ8) Z 29 29 38 i0 _ 4 40 Tryz.underlying29 hi0 hz0 hz1 hz2 rfl (by omega) oa L.length c (sS L) G hS.own (au ⟨Y.heap.size,0,ak⟩) M.length M.length (sS M) (aq2 M) (.inr ⟨_,rfl,World.news_of_block (cs:=(sS M).toArray) (t:=38) (fr:=(0,0)) (by rw[hZ.heap];exact heap_alloc_new Y _)⟩) (aq4 M) (by unfold ba2;omega) (by omega)
 have hW:=eU.l7 k3;refine⟨_,w4,k1,a',c',G',rfl,hS.cc.wrt hW (fun e=>by have:=h.lo _ e;omega) (fun b e=>by have:=h.lo _ e;omega), ?_,fun g hg=>?_,h1,oI hS.gr hW (fun b e=>h.lo b e),fun x hx=>?_⟩
 ·rw[dB,aq3]
  exact k2
 ·rcases k4 with e|e
  ·exact h.lo g (e ▸ hg)
  ·rw[e] at hg
   have:=aV4 hg;have:=hS.gr.size;omega
 ·rcases List.mem_append.1 hx with h2|h2
  ·exact h.ok x h2
  ·exact hok x h2
end
def aK7 (w X X':aI) (p:Nat) (a:Option ba5) (len cap:Nat) (bs:Nat->Int) (e:Ending) (q:Nat):Prop:=∃ (oa:Option ba5) (c:Nat) (G:Option Nat) (L:List Ac),e=aK (aj oa L.length c)/\AL w X X' p a len cap bs oa c G L/\L.length<=q
attribute [local irreducible] sv
theorem JA (N:Nat) (n:Int) (hN:n=(N:Int)) (hN1:1<=N) (G6:N<=5) {w: aI} {p: Nat} {a: Option ba5} {cap: Nat} {bs: Nat->Int} (h:Cc w X p a len cap bs) :
  ba3 aZ8 31 #[aO (au ⟨p,0,ak⟩),ah aA n] X fun e X'=>aK7 w X X' p a len cap bs e 325:=by
 subst hN;have Fv:=h.lt;have KC:aG ((⟨#[]⟩:ByteArray)=sv []):=by rw[aG];unfold sv;rfl
 have b0:=dX X (aH #[] 38);have HA0:aG (AL w X (X.alloc (aH #[] 38)) p a len cap bs (au ⟨X.heap.size,0,ak⟩) 0 ak []):=⟨h.step b0,iV.nil _ _ (kV _ _),fun g hg=>(by cases hg),Fv,⟨b0.os,b0.tape,b0.output,b0.size,fun x hx _=>b0.block x hx⟩,fun x hx=>absurd hx aU9⟩
 clear h b0;go_enter Tryz.func31,Tryz.ntmps31
 go_upto_region 2 with fail
 generalize X.alloc (aH #[] 38)=W0 at *;go_wp2_with fail
 refine (jR 26 26 rfl HA0.out.cc (by omega) (by omega)).mono ?_
 rintro e W1 ⟨K,rfl,hK,c1,g1⟩;have HA1:=dP (HA0.out.drawn g1 c1);clear c1 g1 HA0;go_wp2_with fail
 go_loopw [5,6] (fun v i wr=>∃ (k:Nat) (oa:Option ba5) (c:Nat) (G:Option Nat) (L:List Ac),k<=25/\i=ah aA (k:Int)/\v=aj oa L.length c/\L.length<=13*(25-k)/\AL w X wr p a len cap bs oa c G L) (fun _ i _=>(ba4 i).toNat)
 case atStart=>exact⟨K,_,0,none,[],by omega,rfl,rfl,by simp,HA1.out⟩
 case round =>
  obtain⟨k,oa,c,G,L,hk,rfl,rfl,hll,hA⟩:=hrel;have HA:=dP hA;clear hA HA1;by_cases hk0:0<k
  ·have k1:(0:Int)<k:=by omega
   have wk:wrap64 ((k:Int)-1)=((k-1:Nat):Int):=by unfold wrap64;omega
   have HF:aG (∀ (Y:aI) (Ej:Option ba5) (c':Nat) (G':Option Nat) (L':List Ac) (z:aJ),z=aj Ej L'.length c'->L'.length<=L.length+13->AL w X Y p a len cap bs Ej c' G' L'->∃ (k':Nat) (oa:Option ba5) (c:Nat) (G:Option Nat) (L:List Ac),k'<=25/\(aZ9 aA ((k:Int)-1))=ah aA (k':Int)/\z=aj oa L.length c/\L.length<=13*(25-k')/\AL w X Y p a len cap bs oa c G L):=fun Y Ej c' G' L' z e h1 h2=>⟨k-1,Ej,c',G',L',by omega,by congr 1;omega,e,by omega,h2⟩
   clear wk;have hO:=uz 3 HA.out.cc (by omega)
   go_wp2_with fail
   refine hO.mono ?_;rintro e Y1 ⟨b,rfl,c7,g7⟩;have HA1:=dP (HA.out.drawn g7 c7);clear c7 g7 hO HA
   cases b with
   | false =>
    have hD:=Vk N (N:Int) rfl hN1 G6 HA1.out.cc;go_wp2_with fail
    refine hD.mono ?_;rintro e Y2 ⟨x,rfl,hx,c8,g8⟩;have HA2:=dP (HA1.out.drawn g8 c8);have Fz:=HA2.out.app [x] (fun y hy=>by rw[List.mem_singleton.1 hy];exact hx) (by omega) (by simp)
    unfold su uM;have e1:sS [x]=[ah aA x.kind,ah aA x.a,ah aA x.b,aN (sv x.txt)]:=rfl;rw[e1] at Fz;clear c8 g8 hD HA1 e1;go_wp2_with (at_builtin;refine fJ (by rfl) _ _ _ _ (by rfl) _ _ (by rfl) (by rfl) Fz ⟨rfl,rfl,rfl,rfl⟩ ?_;rintro v1 w2 ⟨FB,c1,G1,rfl,q1⟩;have HQ:aG (AL w X w2 p a len cap bs FB c1 G1 (L++[x])):=q1;clear q1 Fz)
    have HE:aG _:=HF.out w2 FB c1 G1 (L++[x]) (aj FB (L.length+1) c1) (by simp) (by simp) HQ.out
    clear HF HQ;go_roundw
    case rel=>exact HE.out
    case measure=>simp[ba4];omega
   | true =>
    have hB:=jR N (N:Int) rfl HA1.out.cc hN1 (by omega)
    go_wp2_with fail
    refine hB.mono ?_;rintro e Y2 ⟨xa,rfl,hxa,c8,g8⟩;have HA2:=dP (HA1.out.drawn g8 c8);clear c8 g8 hB HA1;have hT:=DF 2 2 rfl (by omega) HA2.out.cc
    go_wp2_with fail
    refine hT.mono ?_;rintro e Y3 ⟨t,rfl,ht,c8,g8⟩;have HA3:=dP (HA2.out.drawn g8 c8)
    obtain⟨M,Gy,FC,XQ⟩:∃ M:List Ac,M.length=3/\sS M=[ah aA 1,ah aA (xa:Int),ah aA 0,aN (sv t),ah aA 4,ah aA (xa:Int),ah aA 0,.string ⟨#[]⟩,ah aA 7,ah aA (xa:Int),ah aA 0,.string ⟨#[]⟩]/\∀ y∈M,zx y:=by
     have hxb:jo (xa:Int):=⟨by omega,by omega⟩
     have hk:∀ k:Int,0<=k->k<=7->jo k:=fun k h1 h2=>⟨by omega,by omega⟩
     refine⟨[⟨1,(xa:Int),0,t⟩,⟨4,(xa:Int),0,[]⟩,⟨7,(xa:Int),0,[]⟩],rfl,by rw[KC.out];rfl,fun y hy=>?_⟩
     simp only[aX5,aU9,or_false] at hy;rcases hy with rfl|rfl|rfl
     ·exact BG (hk _ (by omega) (by omega)) hxb (hk _ (by omega) (by omega)) (by omega)
     ·exact BG (hk _ (by omega) (by omega)) hxb (hk _ (by omega) (by omega)) (by simp)
     ·exact BG (hk _ (by omega) (by omega)) hxb (hk _ (by omega) (by omega)) (by simp)
    have Fz:=HA3.out.app M XQ (by omega) (by omega)
    rw[Gy,FC] at Fz;have lT:=dP Gy;clear c8 g8 hT HA2 Gy FC XQ;go_upto_region 8 with (at_builtin;refine fJ (by rfl) _ _ _ _ (by rfl) _ _ (by rfl) (by rfl) Fz ⟨rfl,rfl,rfl,rfl⟩ ?_;rintro v1 w2 ⟨FB,c1,G1,rfl,q1⟩;have HQ:aG (AL w X w2 p a len cap bs FB c1 G1 (L++M)):=q1;clear q1 Fz)
    obtain⟨L1,hL1⟩:∃ L1,aG (L++M=L1):=⟨_,rfl⟩;have tY:aG (AL w X w2 p a len cap bs FB c1 G1 L1):=by have:=HQ.out;rw[hL1.out] at this;exact this
    have wG:aG (L1.length=L.length+3):=by rw[aG,<- hL1.out,dB,lT.out]
    clear HQ hL1 HA3 lT;rw[<- wG.out];go_wp2_with fail
    go_loopw [5,8] (fun v i wq=>∃ (b:Nat) (oa:Option ba5) (c:Nat) (G:Option Nat) (L2:List Ac),b<=N/\i=ah aA (b:Int)/\v=aj oa L2.length c/\L2.length<=L.length+3+2*b/\AL w X wq p a len cap bs oa c G L2) (fun _ i _=>N-(ba4 i).toNat)
    case atStart=>exact⟨0,FB,c1,G1,L1,aZ1 _,rfl,rfl,by rw[wG.out];omega,tY.out⟩
    case round =>
     obtain⟨b,ob,cb,Gb,L2,hbN,rfl,rfl,hl2,hA2⟩:=hrel;have HB:=dP hA2;clear hA2;by_cases hb:b<N
     ·have b1:(b:Int)<N:=by omega
      have b0:(0:Int)<=b:=by omega
      have HG:aG (∀ (Y:aI) (Ej:Option ba5) (c':Nat) (G':Option Nat) (L':List Ac) (z:aJ),z=aj Ej L'.length c'->L'.length<=L2.length+2->AL w X Y p a len cap bs Ej c' G' L'->∃ (b':Nat) (oa:Option ba5) (c:Nat) (G:Option Nat) (L2:List Ac),b'<=N/\(aZ9 aA ((b:Int)+1))=ah aA (b':Int)/\z=aj oa L2.length c/\L2.length<=L.length+3+2*b'/\AL w X Y p a len cap bs oa c G L2):=fun Y Ej c' G' L' z e h1 h2=>⟨b+1,Ej,c',G',L',by omega,by push_cast;rfl,e,by omega,h2⟩
      clear HF tY;by_cases hx:b=xa
      ·have n1:((b:Int) != (xa:Int))=aC:=by rw[hx];exact bne_self_eq_false _
       have HE:aG _:=HG.out _ ob cb Gb L2 (aj ob L2.length cb) rfl (by omega) HB.out
       clear HG HB hx;go_wp2;go_roundw
       case rel=>exact HE.out
       case measure=>simp[ba4];omega
      ·have n1:((b:Int) != (xa:Int))=aB:=bne_iff_ne.2 (by omega)
       have hO:=uz 6 HB.out.cc (by omega)
       clear hx;go_wp2_with fail
       refine hO.mono ?_;rintro e Y6 ⟨u,rfl,c9,g9⟩;have uJ:=dP (HB.out.drawn g9 c9);clear hO c9 g9 HB n1
       cases u with
       | true =>
        have HE:aG _:=HG.out _ ob cb Gb L2 (aj ob L2.length cb) rfl (by omega) uJ.out
        clear HG uJ;go_wp2;go_roundw
        case rel=>exact HE.out
        case measure=>simp[ba4];omega
       | false =>
        obtain⟨M,hM2,FC,XQ⟩:∃ M:List Ac,M.length=2/\sS M=[ah aA 3,ah aA (xa:Int),ah aA (b:Int),.string ⟨#[]⟩,ah aA 4,ah aA (b:Int),ah aA 0,.string ⟨#[]⟩]/\∀ y∈M,zx y:=by
         have hk:∀ k:Int,0<=k->k<=7->jo k:=fun k h1 h2=>⟨by omega,by omega⟩
         refine⟨[⟨3,(xa:Int),(b:Int),[]⟩,⟨4,(b:Int),0,[]⟩],rfl,by rw[KC.out];rfl,fun y hy=>?_⟩
         simp only[aX5,aU9,or_false] at hy;rcases hy with rfl|rfl
         ·exact BG (hk _ (by omega) (by omega)) (hk _ (by omega) (by omega)) (hk _ (by omega) (by omega)) (by simp)
         ·exact BG (hk _ (by omega) (by omega)) (hk _ (by omega) (by omega)) (hk _ (by omega) (by omega)) (by simp)
        have Fz:=uJ.out.app M XQ (by omega) (by omega)
        rw[hM2,FC] at Fz;have ji:=dP hM2;clear hM2 FC XQ;go_wp2_with (at_builtin;refine fJ (by rfl) _ _ _ _ (by rfl) _ _ (by rfl) (by rfl) Fz ⟨rfl,rfl,rfl,rfl⟩ ?_;rintro v1 w2 ⟨FB,c1,G1,rfl,q1⟩;have HQ:aG (AL w X w2 p a len cap bs FB c1 G1 (L2++M)):=q1;clear q1 Fz)
        have HE:aG _:=HG.out w2 FB c1 G1 (L2++M) (aj FB (L2.length+2) c1) (by rw[dB,ji.out]) (by rw[dB,ji.out];exact aZ0 _) HQ.out
        clear HG uJ HQ;go_roundw
        case rel=>exact HE.out
        case measure=>simp[ba4];omega
     ·have b1:¬ ((b:Int)<N):=by omega
      have HE:aG _:=HF.out _ ob cb Gb L2 (aj ob L2.length cb) rfl (by omega) HB.out
      clear HF HB tY;go_wp2;go_roundw
      case rel=>exact HE.out
      case measure=>simp[ba4];omega
  ·have k1:¬ ((0:Int)<k):=by omega
   go_wp2;go_ret
   exact⟨oa,c,G,L,rfl,HA.out,by omega⟩
end
def Gu (e:Ending):Prop:=∃ T v,e=.panicked [{ v:=.iface T v,recovered:=aC }]
theorem vF (w:aI):ba3 aZ8 86 #[aF aB] w fun e w'=>e=aK (.tuple #[])/\w'=w:=by
 have hnot:∀ (x:Bool) (w:aI),(Op.unary .not (aF x)).run aZ8 w=.ok (aF (!x)) w:=fun _ _=>rfl
 go_enter Tryz.func86,Tryz.ntmps86
 go_wp2
 first|go_end0|go_ret
 exact⟨rfl,rfl⟩
theorem oZ (w:aI):ba3 aZ8 86 #[aF aC] w fun e w'=>Gu e/\w'=w:=by
 go_enter Tryz.func86,Tryz.ntmps86
 go_wp2;exact⟨rfl,⟨_,_,rfl⟩,rfl⟩
theorem aK8 (p:ba5) (x:aJ) (u:TypeId) (pv:aJ) (older:List PanicEntry) (w:aI) (hc:w.cell? p=au x) (hz:w.frozen? p=aC) :
  CallsD aZ8 85 #[aO (au p)] (.panicking ({ v:=.iface u pv,recovered:=aC }::older)) w fun e u' w' =>
   e=aK (.tuple #[])/\u'=.panicking ({ v:=.iface u pv,recovered:=aB }::older)/\w'=w.setCell p (aF aC):=by
 refine callsD_of_wpS Tryz.func85 rfl fun c₀ cs hu=>?_
 apply wpS_region
 simp[wpOpsS,go_sem,recoverD,hu,Tryz.ntmps85,hc,hz,bodyPostS,results,Tryz.results85]
theorem aK9 (p:ba5) (x:aJ) (w:aI) (hc:w.cell? p=au x) (hz:w.frozen? p=aC) :
  CallsD aZ8 85 #[aO (au p)] .returning w fun e u' w'=>e=aK (.tuple #[])/\u'=.returning/\w'=w.setCell p (aF aB):=by
 refine callsD_of_wpS Tryz.func85 rfl fun c₀ cs hu=>?_
 apply wpS_region
 simp[wpOpsS,go_sem,recoverD,hu,Tryz.ntmps85,hc,hz,bodyPostS,results,Tryz.results85]
 cases c₀
 simp_all
theorem Iq (F:Nat) (C D:Array aJ) (w:aI) (Q:Bool->aI->Prop) (hE:∀ (args:Array aJ) (w:aI),(callFunc F args).run aZ8 w=.ok (.enter F args) w)
  (h:ba3 aZ8 F (C++D) (w.alloc (aH #[aF aC] 4)) fun e w'=>(e=aK (.tuple #[])/\Q aB w')\/(Gu e/\Q aC w')) (hq:∀ b w',Q b w'->Bx w' w.heap.size 4 #[aF aC]) :
  ba3 aZ8 46 #[.func (.func F) C D] w fun e w'=>∃ b X,e=aK (aF b)/\Q b X/\eU (fun x=>x=w.heap.size) X w':=by
 have hmf:∀ (fn:Fn) (first cap:Array aJ) (w:aI),(Instr.makeFunc fn first cap).run aZ8 w=.ok (.func fn first cap) w:=fun _ _ _ _=>rfl
 have HQ:=dP hq;clear hq
 go_enter_defers Tryz.func46,Tryz.ntmps46
 go_wp2_with fail
 refine h.mono ?_;rintro e w1 (⟨rfl,hQ⟩|⟨⟨T,v,rfl⟩,hQ⟩)
 ·have hx:=HQ.out _ _ hQ
  have c0:=hx.at 0 (v:=aF aC) rfl;have f0:=hx.f 0;have tY:=dP hQ;clear hQ h hx;go_wp2;refine leaves_cons (f:=85) (args:=#[aO (au ⟨w.heap.size,0,ak⟩)]) (by simp) (by simp[go_sem]) ?_
  refine (aK9 ⟨w.heap.size,0,ak⟩ (aF aB) _ (World.cell?_setCell_same _ _ _ c0) (by rw[World.frozen?_setCell];exact f0)).mono ?_
  rintro e u' w'' ⟨rfl,rfl,rfl⟩;have hc:((w1.setCell ⟨w.heap.size,0,ak⟩ (aF aB)).setCell ⟨w.heap.size,0,ak⟩ (aF aB)).cell? ⟨w.heap.size,0,ak⟩=au (aF aB):=World.cell?_setCell_same _ _ _ (World.cell?_setCell_same _ _ _ c0);have hW:=(eU.set w1 w.heap.size 0 (aF aB)).trans (eU.set (w1.setCell ⟨w.heap.size,0,ak⟩ (aF aB)) w.heap.size 0 (aF aB)) (fun _ _ h=>h)
  generalize (w1.setCell ⟨w.heap.size,0,ak⟩ (aF aB)).setCell ⟨w.heap.size,0,ak⟩ (aF aB)=W2 at *;refine⟨aF aB,by simp[results,Tryz.results46,go_sem,hc],aB,w1,rfl,tY.out,hW⟩
 ·have hx:=HQ.out _ _ hQ
  have c0:=hx.at 0 (v:=aF aC) rfl;have f0:=hx.f 0;have tY:=dP hQ;clear hQ h hx;simp only
  refine leaves_cons (f:=85) (args:=#[aO (au ⟨w.heap.size,0,ak⟩)]) (by simp) (by simp[go_sem]) ?_
  refine (aK8 ⟨w.heap.size,0,ak⟩ (aF aC) T v [] _ c0 f0).mono ?_;rintro e u' w'' ⟨rfl,rfl,rfl⟩;have hc:(w1.setCell ⟨w.heap.size,0,ak⟩ (aF aC)).cell? ⟨w.heap.size,0,ak⟩=au (aF aC):=World.cell?_setCell_same _ _ _ c0;have hW:=eU.set w1 w.heap.size 0 (aF aC);generalize w1.setCell ⟨w.heap.size,0,ak⟩ (aF aC)=W2 at *;refine⟨aF aC,by simp[results,Tryz.results46,go_sem,hc],aC,w1,rfl,tY.out,hW⟩
theorem lq (n last:Int) (w:aI):ba3 aZ8 87 #[ah aA n,ah aA last] w fun e w'=>e=aK (aF (inB n 0 last))/\w'=w:=by
 by_cases h0:(0:Int)<=n
 ·have H:aG (inB n 0 last=decide (n<=last)):=by rw[aG,inB];simp[h0]
  go_enter Tryz.func87,Tryz.ntmps87
  go_wp2;go_ret
  exact⟨dZ (by rw[H.out]),rfl⟩
 ·have H:aG (inB n 0 last=aC):=by rw[aG,inB];simp[h0]
  go_enter Tryz.func87,Tryz.ntmps87
  go_wp2;go_ret
  exact⟨dZ (by rw[H.out]),rfl⟩
theorem Qc (a:Option ba5) (len cap:Nat) (B:Int) (xs:List Int) (w:aI) (hv:Vec w a len xs) (hm:len<=ba2) :
  ba3 aZ8 89 #[aj a len cap,ah aA (B-1)] w fun e w'=>e=aK (aF (decide (zB B xs)))/\w'=w:=by
 unfold ba2 at hm;have HL:=dP hv.1;have hc:=hv.2.2;clear hv;go_enter Tryz.func89,Tryz.ntmps89
 go_wp2
 go_loop [9] (fun i=>∃ k:Nat,k<=len/\i=ah aA k/\(∀ j,j<k->0<=el xs j/\el xs j<=B-1)/\∀ j,j+1<k->el xs j<el xs (j+1)) (fun i=>len-(ba4 i).toNat)
 case atStart=>exact⟨0,aZ1 _,rfl,fun j hj=>by omega,fun j hj=>by omega⟩
 case round =>
  obtain⟨k,hk,rfl,hin,zf⟩:=hrel;have HI:=dP hin;have HR:=dP zf;clear hin zf;by_cases hlt:k<len
  ·rcases hc with h0|⟨b,off,rfl,hc⟩
   ·omega
   have hck:=hc k hlt;have k0:(0:Int)<=k:=by omega
   have k1:(k:Int)<len:=by omega
   cases e4:inB (el xs k) 0 (B-1) with
   | false =>
    have HF : aG (decide (zB B xs) = aC) := decide_eq_false (fun h => by
     have:=h.1 k (by rw[HL.out];exact hlt)
     rw[iQ.2 this] at e4
     cases e4)
    go_wp2_with (go_at_call 87;refine fV (lq _ _ _) ?_)
    go_ret
    exact⟨dZ (by rw[HF.out]),rfl⟩
   | true =>
    have HX:=dP (iQ.1 e4);by_cases hk0:0<k
    ·obtain⟨q,rfl⟩:∃ q,k=q+1:=⟨k-1,by omega⟩
     have hcq:=hc q (by omega)
     have hg:decide (((q+1:Nat):Int)>0)=aB:=decide_eq_true (by omega)
     have g0:(0:Int)<((q+1:Nat):Int):=by omega
     have hq:wrap64 (((q+1:Nat):Int)-1)=(q:Int):=by unfold wrap64;omega
     have q0:(0:Int)<=q:=by omega
     have q1:(q:Int)<len:=by omega
     by_cases hx:el xs q<el xs (q+1)
     ·have hd:decide (el xs (q+1)<=el xs q)=aC:=by simp;omega
      have HY:=dP hx;clear hx;go_wp2_with (go_at_call 87;refine fV (lq _ _ _) ?_)
      go_round
      case rel => exact ⟨q + 1 + 1,by omega,by go_num,fun j hj => by
       rcases bD.1 hj with h|h
       ·exact HI.out j h
       ·rw[h];exact HX.out,fun j hj=>by
       rcases bD.1 hj with h|h
       ·exact HR.out j h
       ·have:j=q:=by omega
        rw[this];exact HY.out⟩
      case measure=>simp[ba4];omega
     ·have hd:decide (el xs (q+1)<=el xs q)=aB:=by simp;omega
      have HF:aG (decide (zB B xs)=aC):=decide_eq_false (fun h=>hx (h.2 q (by rw[HL.out];omega)))
      clear hx;go_wp2_with (go_at_call 87;refine fV (lq _ _ _) ?_)
      go_ret
      exact⟨dZ (by rw[HF.out]),rfl⟩
    ·obtain rfl:k=0:=by omega
     rw[aY5] at hck;go_wp2_with (go_at_call 87;refine fV (lq _ _ _) ?_)
     go_round
     case rel => exact ⟨1,by omega,by go_num,fun j hj => by
      obtain rfl:j=0:=by omega
      exact HX.out,fun j hj=>by omega⟩
     case measure=>simp[ba4];omega
  ·have hkl:k=len:=by omega
   have HF:aG (decide (zB B xs)=aB):=decide_eq_true ⟨fun j hj=>HI.out j (by rw[HL.out] at hj;omega),fun j hj=>HR.out j (by rw[HL.out] at hj;omega)⟩
   subst hkl;clear hc;go_wp2;go_ret
   exact⟨dZ (by rw[HF.out]),rfl⟩
def JB (xs:List Int) (x z:Int):Prop:=(∃ k:Nat,k<xs.length/\z=(k:Int)/\el xs k=x/\∀ j,j<k->el xs j≠x)\/(z=-1/\∀ j,j<xs.length->el xs j≠x)
theorem JB.mem {xs: List Int} {x z: Int} (h:JB xs x z):decide (0<=z)=decide (x∈xs):=by
 rcases h with ⟨k,hk,rfl,rfl,_⟩|⟨rfl,h⟩
 ·rw[decide_eq_true (aJ0 hk),decide_eq_true (by omega)]
 ·rw[decide_eq_false (by omega),decide_eq_false (fun hx=>by obtain⟨i,hi,e⟩:=aJ1 hx;exact h i hi e)]
theorem XR (a:Option ba5) (cap:Nat) (xs:List Int) (x:Int) (w:aI) (hv:Vec w a xs.length xs) (hm:xs.length<=ba2) :
  ba3 aZ8 127 #[aj a xs.length cap,ah aA x] w fun e w'=>(∃ z:Int,e=aK (ah aA z)/\JB xs x z)/\w'=w:=by
 unfold ba2 at hm;have hc:=hv.2.2;clear hv;go_enter Tryz.func127,Tryz.ntmps127
 go_wp2
 go_loop [8] (fun i=>∃ k:Nat,k<=xs.length/\i=ah aA k/\∀ j,j<k->el xs j≠x) (fun i=>xs.length-(ba4 i).toNat)
 case atStart=>exact⟨0,aZ1 _,rfl,fun j hj=>by omega⟩
 case round =>
  obtain⟨k,hk,rfl,hall⟩:=hrel;have HA:=dP hall;clear hall;by_cases hlt:k<xs.length
  ·rcases hc with h0|⟨b,off,rfl,hc⟩
   ·omega
   have hck:=hc k hlt;clear hc;have k0:(0:Int)<=k:=by omega
   have k1:(k:Int)<xs.length:=by omega
   by_cases hx:el xs k=x
   ·have HX:aG (JB xs x (k:Int)):=.inl ⟨k,hlt,rfl,hx,HA.out⟩
    have hq:(x==el xs k)=aB:=by simp[hx]
    clear hx;generalize el xs k=E at *;go_wp2;go_ret
    exact⟨⟨_,rfl,HX.out⟩,rfl⟩
   ·have HX:aG (∀ j,j<k+1->el xs j≠x):=fun j hj=>by
     by_cases e:j=k
     ·rw[e];exact hx
     ·exact HA.out j (by omega)
    have hq:(x==el xs k)=aC:=by simp[Ne.symm hx]
    clear hx;generalize el xs k=E at *;go_wp2
    go_round
    case rel=>exact⟨k+1,by omega,by go_num,HX.out⟩
    case measure=>simp[ba4];omega
  ·have k1:¬ ((k:Int)<xs.length):=by omega
   obtain rfl:k=xs.length:=by omega
   clear hc;go_wp2;go_ret
   exact⟨⟨_,rfl,.inr ⟨rfl,HA.out⟩⟩,rfl⟩
theorem uh (a:Option ba5) (cap:Nat) (xs:List Int) (x:Int) (w:aI) (hv:Vec w a xs.length xs) (hm:xs.length<=ba2) :
  ba3 aZ8 88 #[aj a xs.length cap,ah aA x] w fun e w'=>e=aK (aF (decide (x∈xs)))/\w'=w:=by
 have hI:=XR a cap xs x w hv hm;clear hv;go_enter Tryz.func88,Tryz.ntmps88
 go_wp2_with (go_at_call 127;refine hI.mono ?_;rintro e w' ⟨⟨z,rfl,hz⟩,hw'⟩;rw[hw'];clear hw';have HZ:aG (JB xs x z):=hz;clear hz)
 go_ret
 exact⟨dZ (by rw[<- HZ.out.mem]),rfl⟩
section
theorem vK (n:Int) (w:aI):ba3 aZ8 52 #[ah aA n] w fun e w'=>e=aK (aF (inB n 1 5))/\w'=w:=by
 by_cases h0:(1:Int)<=n
 ·have H:aG (inB n 1 5=decide (n<=5)):=by rw[aG,inB];simp[h0]
  go_enter Tryz.func52,Tryz.ntmps52
  go_wp2;go_ret
  exact⟨dZ (by rw[H.out]),rfl⟩
 ·have H:aG (inB n 1 5=aC):=by rw[aG,inB];simp[h0]
  go_enter Tryz.func52,Tryz.ntmps52
  go_wp2;go_ret
  exact⟨dZ (by rw[H.out]),rfl⟩
def AU (T:List (List UInt8)):Bool:=decide (T.length<=12)&&T.all (fun t=>decide (t.length<=20))
theorem ab9 {T: List (List UInt8)} (hk:k<T.length) (h:¬ (T.getD k []).length<=20):AU T=aC:=by
 have:T.all (fun t=>decide (t.length<=20))=aC:=by
  rw[List.all_eq_false];refine⟨T[k],aU7 hk, ?_⟩;rw[aV,bC hk] at h;simpa using h
 rw[AU,this];simp
theorem aq5 {T: List (List UInt8)} (h0:T.length<=12) (h:∀ k,k<T.length->(T.getD k []).length<=20):AU T=aB:=by
 have:T.all (fun t=>decide (t.length<=20))=aB:=by
  rw[aU3];intro t ht;obtain⟨j,hj,rfl⟩:=bU.1 ht;have:=h j hj;rw[aV,bC hj] at this;simpa using this
 rw[AU,decide_eq_true h0,this]
 rfl
attribute [local irreducible] sv
theorem XT (a:Option ba5) (cap:Nat) (T:List (List UInt8)) (w:aI) (hv:xg w a T) (hm:T.length<=ba2) :
  ba3 aZ8 94 #[aj a T.length cap] w fun e w'=>e=aK (aF (AU T))/\w'=w:=by
 unfold ba2 at hm;by_cases h12:T.length<=12
 ·have g12:¬ ((12:Int)<T.length):=by omega
  have H12:=dP h12;have HV:=dP hv;clear hv h12;go_enter Tryz.func94,Tryz.ntmps94
  go_wp2
  go_loop [10] (fun i=>∃ k:Nat,k<=T.length/\i=ah aA k/\∀ j,j<k->(T.getD j []).length<=20) (fun i=>T.length-(ba4 i).toNat)
  case atStart=>exact⟨0,aZ1 _,rfl,fun j hj=>by omega⟩
  case round =>
   obtain⟨k,hk,rfl,hall⟩:=hrel;have HA:=dP hall;clear hall;by_cases hlt:k<T.length
   ·rcases HV.out with h0|⟨b,off,rfl,hc⟩
    ·omega
    have hck:=hc k hlt;have k1:(k:Int)<T.length:=by omega
    have k0:(0:Int)<=k:=by omega
    clear hc;by_cases h20:(T.getD k []).length<=20
    ·have g20:¬ ((20:Int)<((T.getD k []).length:Int)):=by omega
     have HN:aG (∀ j,j<k+1->(T.getD j []).length<=20):=fun j hj=>by
      rcases bD.1 hj with h1|h1
      ·exact HA.out j h1
      ·rw[h1];exact h20
     generalize T.getD k []=t at *;have hz:=zL t;clear h20;go_wp2
     go_round
     case rel=>exact⟨k+1,by omega,by go_num,HN.out⟩
     case measure=>simp[ba4];omega
    ·have g20:(20:Int)<((T.getD k []).length:Int):=by omega
     have HZ:=dP (ab9 (k:=k) hlt h20);generalize T.getD k []=t at *;have hz:=zL t;clear h20;go_wp2;go_ret
     exact⟨dZ (by rw[HZ.out]),rfl⟩
   ·have k1:¬ ((k:Int)<T.length):=by omega
    have HZ:aG (AU T=aB):=aq5 H12.out (fun j hj=>HA.out j (by omega))
    go_wp2;go_ret
    exact⟨dZ (by rw[HZ.out]),rfl⟩
 ·have g12:(12:Int)<T.length:=by omega
  have HZ:aG (AU T=aC):=by rw[aG,AU,decide_eq_false h12];rfl
  clear hv h12;go_enter Tryz.func94,Tryz.ntmps94
  go_wp2;go_ret
  exact⟨dZ (by rw[HZ.out]),rfl⟩
theorem aO9 {x m: Int}:∀ {xs:List Int},hiL x xs<=m↔x<=m/\∀ y∈xs,y<=m:=by
 intro xs
 induction xs generalizing x with
 | nil=>simp[hiL]
 | cons y ys ih =>
  show hiL (max x y) ys<=m↔_
  rw[ih];simp only[aX5]
  constructor
  ·rintro⟨h1,h2⟩
   exact⟨by omega,fun z hz=>by rcases hz with rfl|hz;omega;exact h2 z hz⟩
  ·rintro⟨h1,h2⟩
   exact⟨by have:=h2 y (.inl rfl);omega,fun z hz=>h2 z (.inr hz)⟩
theorem aL0 {v: List Int} {n: Int} (h1:(v.length:Int)=n) (h2:okB v=aB):lZ v n=decide (hiL (el v 0) v.tail<=12):=by
 have hl:=(mJ h2).1;rw[lZ,h2,decide_eq_true h1,aX7,aX7,Bool.eq_iff_iff,decide_eq_true_eq,aO9,aU3]
 cases v with
 | nil=>simp at hl
 | cons x xs =>
  simp only[decide_eq_true_eq,aX5,List.tail_cons]
  constructor
  ·intro h
   exact⟨h _ (.inl rfl),fun y hy=>h y (.inr hy)⟩
  ·rintro⟨h,h'⟩ y hy
   rcases hy with rfl|hy
   ·exact h
   ·exact h' y hy
theorem ML (a:Option ba5) (cap:Nat) (v:List Int) (n:Int) (w:aI) (hv:Vec w a v.length v) (hcap:v.length<=cap) (hm:cap<=ba2) :
  ba3 aZ8 95 #[aj a v.length cap,ah aA n] w fun e w'=>e=aK (aF (lZ v n))/\∃ m,w'=w.drewN m:=by
 have hV:=xE a v.length cap v w hv hcap hm;have hml:=aY2 hcap hm;unfold ba2 at hml;by_cases hl:(v.length:Int)=n
 ·have e1:((v.length:Int)==n)=aB:=by simpa using hl
  cases hb:okB v with
  | false =>
   rw[hb] at hV;have HZ:aG (lZ v n=aC):=by rw[aG,lZ,hb];rfl
   clear hb hl hv;go_enter Tryz.func95,Tryz.ntmps95
   go_wp2_with (go_at_call 130;refine hV.mono ?_;rintro e w' ⟨rfl,n1,rfl⟩)
   go_ret
   exact⟨dZ (by rw[HZ.out]),_,rfl⟩
  | true =>
   rw[hb] at hV;have HZ:=dP (aL0 hl hb);have h18:=mJ hb;clear hb hl;obtain⟨_,hf,hcs⟩:=hv
   have hG:aG (∀ n,ba3 aZ8 131 #[aj a v.length cap] (w.drewN n) fun e w'=>e=aK (ah aA (hiL (el v 0) v.tail))/\∃ m,w'=(w.drewN n).drewN m):=by
    intro n;rcases hcs with h0|⟨b,off,rfl,hc⟩
    ·omega
    ·exact rO b off v.length cap v _ rfl hf (fun k hk=>by rw[World.cell?_drewN];exact hc k hk) (by omega) hcap hm
   clear hcs hf h18;generalize hiL (el v 0) v.tail=G at *;go_enter Tryz.func95,Tryz.ntmps95
   go_wp2_with (first|(go_at_call 130;refine hV.mono ?_;rintro e w' ⟨rfl,n1,rfl⟩)|(go_at_call 131;refine (hG.out _).mono ?_;rintro e w' ⟨rfl,n2,rfl⟩))
   go_ret
   exact⟨dZ (by rw[HZ.out]),_,rfl⟩
 ·have e1:((v.length:Int)==n)=aC:=by simpa using hl
  have HZ:aG (lZ v n=aC):=by rw[aG,lZ,decide_eq_false hl];simp
  clear hl hv hV;go_enter Tryz.func95,Tryz.ntmps95
  go_wp2;go_ret
  exact⟨dZ (by rw[HZ.out]),0,rfl⟩
theorem Ti (n:Int) (l:List Int):decide (zB n l)=mX l n:=by
 rw[Bool.eq_iff_iff,decide_eq_true_eq,mX,aU2,aU3,zB,sZ,decide_eq_true_eq]
 constructor
 ·rintro⟨h1,h2⟩
  refine⟨fun x hx=>?_,h2⟩
  obtain⟨j,hj,rfl⟩:=bU.1 hx;have:=h1 j hj;rw[uq hj] at this;exact iQ.2 this
 ·rintro⟨h1,h2⟩
  exact⟨fun i hi=>iQ.1 (h1 _ (kM hi)),h2⟩
theorem ac0 (a a':Option ba5) (cap cap':Nat) (S T:List (List UInt8)) (w:aI) (hv:xg w a S) (hv':xg w a' T) (hm:S.length<=ba2) (hl:S.length=T.length) :
  ba3 aZ8 175 #[aj a S.length cap,aj a' T.length cap'] w fun e w'=>e=aK (aF (decide (S=T)))/\∃ n,w'=w.drewN n:=by
 unfold ba2 at hm;have hne:((S.length:Int) != (T.length:Int))=aC:=by simp[hl]
 have HL:=dP hl;have HV:=dP hv;have HV':=dP hv';clear hl hv hv';go_enter Tryz.func175,Tryz.ntmps175
 go_wp2
 go_loopw [13] (fun i wr=>∃ k:Nat,k<=S.length/\i=ah aA k/\(∀ j,j<k->S.getD j []=T.getD j [])/\∃ n,wr=w.drewN n) (fun i _=>S.length-(ba4 i).toNat)
 case atStart=>exact⟨0,aZ1 _,rfl,fun j hj=>by omega,0,rfl⟩
 case round =>
  obtain⟨k,hk,rfl,hall,n,rfl⟩:=hrel;have HA:=dP hall;clear hall;by_cases hlt:k<S.length
  ·have hlq:k<T.length:=by rw[<- HL.out];exact hlt
   rcases HV.out with h0|⟨b,off,rfl,hc⟩
   ·omega
   rcases HV'.out with h0|⟨b2,off2,rfl,hc2⟩
   ·omega
   have hck:=hc k hlt;have aP0:=hc2 k hlq;have k1:(k:Int)<S.length:=by omega
   have k2:(k:Int)<T.length:=by omega
   have k0:(0:Int)<=k:=by omega
   clear hc hc2;by_cases he:S.getD k []=T.getD k []
   ·have HN:aG (∀ j,j<k+1->S.getD j []=T.getD j []):=fun j hj=>by
     rcases bD.1 hj with h1|h1
     ·exact HA.out j h1
     ·rw[h1];exact he
    rw[<- he] at aP0;generalize S.getD k []=t at *;have ns:((sv t).toList==(sv t).toList)=aB:=by simp
    clear he;go_wp2_with fail
    go_quiet (fail)
    go_wp2;go_roundw
    case rel=>exact⟨k+1,by omega,by go_num,HN.out,_,rfl⟩
    case measure=>simp[ba4];omega
   ·have HZ:aG (decide (S=T)=aC):=decide_eq_false (fun h=>he (by rw[h]))
    have ns:((sv (S.getD k [])).toList==(sv (T.getD k [])).toList)=aC:=by rw[RH,RH];simpa using he
    generalize S.getD k []=t at *;generalize T.getD k []=t2 at *;clear he;go_wp2_with fail
    go_quiet (fail)
    go_wp2;go_ret
    exact⟨dZ (by rw[HZ.out]),_,World.drewN_drewN _ _ _⟩
  ·have k1:¬ ((k:Int)<S.length):=by omega
   have HZ : aG (decide (S = T) = aB) := decide_eq_true (List.ext_getElem HL.out (fun i h1 h2 => by
    have:=HA.out i (by omega)
    rwa [aV,bC h1,aV,bC h2] at this))
   go_wp2;go_ret
   exact⟨dZ (by rw[HZ.out]),_,rfl⟩
theorem ac1 (a b:Option ba5) (c d:Nat) (l o:List Int) (w:aI) (hv:Vec w a l.length l) (hu:Vec w b o.length o) (hm:l.length<=ba2) (hm2:o.length<=ba2) :
  ba3 aZ8 192 #[aj b o.length d,aj a l.length c] w fun e w'=>e=aK (aF (o.all (fun x=>decide (x∈l))))/\w'=w:=by
 have hH:=fun x=>uh a c l x w hv hm
 have HU:=dP hu;unfold ba2 at hm hm2;clear hu hv;go_enter Tryz.func192,Tryz.ntmps192
 go_wp2
 go_loop [9] (fun i=>∃ k:Nat,k<=o.length/\i=ah aA k/\∀ j,j<k->el o j∈l) (fun i=>o.length-(ba4 i).toNat)
 case atStart=>exact⟨0,aZ1 _,rfl,fun j hj=>by omega⟩
 case round =>
  obtain⟨k,hk,rfl,hall⟩:=hrel;have HA:=dP hall;clear hall;by_cases hlt:k<o.length
  ·rcases HU.out.2.2 with h0|⟨b',off,rfl,hc⟩
   ·omega
   have hck:=hc k hlt;have k1:(k:Int)<o.length:=by omega
   have k0:(0:Int)<=k:=by omega
   have hI:=hH (el o k);clear hc hH;by_cases hb:el o k∈l
   ·rw[decide_eq_true hb] at hI
    have HN:aG (∀ j,j<k+1->el o j∈l):=fun j hj=>by
     rcases bD.1 hj with h1|h1
     ·exact HA.out j h1
     ·rw[h1];exact hb
    generalize el o k=x at *;clear hb;go_wp2_with (go_at_call 88;refine fV hI ?_)
    go_round
    case rel=>exact⟨k+1,by omega,by go_num,HN.out⟩
    case measure=>simp[ba4];omega
   ·rw[decide_eq_false hb] at hI
    have HZ:=dP (IU hlt hb);generalize el o k=x at *;clear hb;go_wp2_with (go_at_call 88;refine fV hI ?_)
    go_ret
    exact⟨dZ (by rw[HZ.out]),rfl⟩
  ·have k1:¬ ((k:Int)<o.length):=by omega
   have HZ:aG (o.all (fun x=>decide (x∈l))=aB):=Le (fun j hj=>HA.out j (by omega))
   go_wp2;go_ret
   exact⟨dZ (by rw[HZ.out]),rfl⟩
end
end Go.Proofs.YtafimeakbdmkjaaGreat