/-
  Texts in one.
-/
import Derived.Test.YtafimeakbdmkjaaGreatXaz
import Derived.Test.YtafimeakbdmkjaaGreatXae
import Derived.Test.YtafimeakbdmkjaaGreatXam
import Derived.Test.YtafimeakbdmkjaaGreatXac
import Derived.Test.YtafimeakbdmkjaaGreatXao
import Derived.Test.YtafimeakbdmkjaaGreatXaa
import Derived.Test.YtafimeakbdmkjaaGreatXay
import Derived.Test.YtafimeakbdmkjaaGreatXau
import Derived.Test.YtafimeakbdmkjaaGreatXad
import Derived.Test.YtafimeakbdmkjaaGreatXaw
import Derived.Test.YtafimeakbdmkjaaGreatXaj
import Derived.Test.YtafimeakbdmkjaaGreatXag
import Derived.Test.YtafimeakbdmkjaaGreatXai
import Derived.Test.YtafimeakbdmkjaaGreatXah
import Derived.Test.YtafimeakbdmkjaaGreatXaq
import Derived.Test.YtafimeakbdmkjaaGreatXaf
import Derived.Deep.CutRange
import Derived.Deep.RegionHeld3
import Derived.BigQuiet
namespace Go.Proofs.YtafimeakbdmkjaaGreat
open Bool renaming and_eq_true->bI,false->aC,true->aB
open Go renaming Addr->dH,Calls->dF,Value->aJ,World->aI,bodyPost_ret->bY,maxLen->dD,wpQuiet_nil->dh
open Go.Ending renaming returned->aK
open Go.IntKind renaming i64->aA
open Go.Obj renaming cells->aH
open Go.Proofs.Tryz renaming prog->dA
open Go.RowKit renaming Hid->aG,intOf->dG
open Go.RowKit.Below renaming refl->dw
open Go.Value renaming agg->aP,bool->aF,int->ah,int->dB,pointer->aO,slice->aj
open Go.World renaming size_alloc->bH
open List renaming length_append->bD,replicate->bV
open Nat renaming le_refl->cO,zero_le->cZ
open Option renaming none->ak,some->au
open Option.some renaming inj->bT
set_option linter.unusedVariables false
set_option linter.unusedSimpArgs false
open Go.RowKit Go.Sort
set_option maxRecDepth 100000
set_option maxHeartbeats 12800000
variable {Z:List Int}
section
structure PG (w Y:aI) (p:Nat) (a:Option dH) (len cap:Nat) (bs:Nat->Int) (o:Nat) (A:Ga) (g:Gr):Prop where
 cc:Cc w Y p a len cap bs
 res:Bx Y w.heap.size 28 #[aj ak 0 0,aj ak 0 0,aj ak 0 0]
 own:Bx Y o 28 #[aj A.ma g.mem.length A.mc,aj A.ua g.up.length A.uc,aj A.la g.dS.length A.lc]
 hp:w.heap.size<p
 ho:p<o
section
variable {w Y Y':aI} {p:Nat} {a:Option dH} {len cap:Nat} {bs:Nat->Int} {o:Nat} {A:Ga} {g:Gr}
theorem PG.drawn (h:PG w Y p a len cap bs o A g) (hg:Y.grownBy Y' (au p)) (hc:Cc w Y' p a len cap bs):PG w Y' p a len cap bs o A g:=by
 have h1:=h.hp;have h2:=h.ho;exact⟨hc,h.res.grown hg (by simp;omega),h.own.grown hg (by simp;omega),h1,h2⟩
theorem PG.step (h:PG w Y p a len cap bs o A g) (hb:Below Y.heap.size Y Y'):PG w Y' p a len cap bs o A g:=⟨h.cc.step hb,h.res.below hb,h.own.below hb,h.hp,h.ho⟩
theorem PG.put (h:PG w Y p a len cap bs o A g) (A':Ga) (g':Gr):PG w (((Y.setCell ⟨o,0,ak⟩ (aj A'.ma g'.mem.length A'.mc)).setCell ⟨o,1,ak⟩ (aj A'.ua g'.up.length A'.uc)).setCell ⟨o,2,ak⟩ (aj A'.la g'.dS.length A'.lc)) p a len cap bs o A' g':=by
 have h1:=h.hp;have h2:=h.ho;have h3:=h.cc.hp;have hw:=oK Y o (a:=aj A'.ma g'.mem.length A'.mc) (b:=aj A'.ua g'.up.length A'.uc) (c:=aj A'.la g'.dS.length A'.lc);refine⟨h.cc.wrt hw (by omega) (fun b e=>by omega),h.res.wrt hw (by omega), ?_,h1,h2⟩
 have:=((h.own.lK 0 (aj A'.ma g'.mem.length A'.mc)).lK 1 (aj A'.ua g'.up.length A'.uc)).lK 2 (aj A'.la g'.dS.length A'.lc);simpa using this
end
theorem PG.ans {w Y: aI} {p: Nat} {a: Option dH} {len cap: Nat} {bs: Nat->Int} {o: Nat} {A: Ga} {g: Gr} (h:PG w Y p a len cap bs o A g) {L: List Ac} {v: aJ} {f: Fp} (hl:dY.ow Y (iH 4 D5 L) v f) (hf:∀ b,f b->w.heap.size<b) (x0 x1 x2:aJ) :
  It (((Y.setCell ⟨w.heap.size,0,ak⟩ x0).setCell ⟨w.heap.size,1,ak⟩ x1).setCell ⟨w.heap.size,2,ak⟩ x2) [iH 4 D5 L] [v] w.heap.size (((Y.setCell ⟨w.heap.size,0,ak⟩ x0).setCell ⟨w.heap.size,1,ak⟩ x1).setCell ⟨w.heap.size,2,ak⟩ x2).heap.size/\Below w.heap.size w (((Y.setCell ⟨w.heap.size,0,ak⟩ x0).setCell ⟨w.heap.size,1,ak⟩ x1).setCell ⟨w.heap.size,2,ak⟩ x2):=by
 have hw:=oK Y w.heap.size (a:=x0) (b:=x1) (c:=x2);exact⟨zW (BO.2 (dY.lJ hl hw (fun b hb e=>by have:=hf b hb;omega))) (fun b hb=>by have:=hf b hb;omega),hw.below h.cc.below h.cc.below.size (fun b e=>by rw[e];exact cO _)⟩
theorem ag9 (n:Nat) (hn:n<=1048576) (w:aI) :
  (Instr.makeSlice 29 (ah aA (n:Int)) (ah aA (n:Int))).run dA w=.ok (aj (au ⟨w.heap.size,0,ak⟩) n n) (w.alloc (aH (madeCells #[ah aA 0,ah aA 0,ah aA 0,.string ⟨#[]⟩] (n*4)) 38)):=by
 obtain⟨i,hi,hz,hs,hb⟩:=uP Tryz.infoAc;have hr:=run_make (P:=dA) w 29 38 i _ Tryz.underlying29 hi hz aA aA n n (by omega) (Int.le_refl _) (by rw[hb];omega) (by omega)
 simp only[Int.toNat_natCast,hs] at hr;exact hr
theorem ah0 (n:Nat):sG (bV n yM)=(bV n (#[dB aA 0,ah aA 0,ah aA 0,.string ⟨#[]⟩]:Array aJ).toList).flatten:=by
 have J5:(⟨#[]⟩:ByteArray)=sv []:=by unfold sv;rfl
 induction n with
 | zero=>rfl
 | succ n ih =>
  rw[List.replicate_succ,List.replicate_succ,List.flatten_cons,<- ih,J5]
  rfl
theorem at7 (w:aI) (n:Nat) (hn:n<=1048576):iQ (w.alloc (aH (madeCells #[ah aA 0,ah aA 0,ah aA 0,.string ⟨#[]⟩] (n*4)) 38)) 4 (au ⟨w.heap.size,0,ak⟩) (bV n yM).length n (sG (bV n yM)) (au w.heap.size):=by
 rw[ah0,List.length_replicate];exact iQ.of (Dp w #[ah aA 0,ah aA 0,ah aA 0,.string ⟨#[]⟩] 4 n 38 rfl (by omega) (by unfold dD;omega))
def aG8 (w w':aI) (e:Ending):Prop:=∃ (A:Ga) (g:Gr) (oa:Option dH) (c:Nat) (L:List Ac),e=aK (.tuple #[gX A g,aj oa L.length c])/\It w' [iH 4 D5 L] [aj oa L.length c] w.heap.size w'.heap.size/\(1<=g.mem.length/\g.mem.length<=5)/\(∀ x∈L,zf x)/\L.length<=401/\Below w.heap.size w w'
attribute [local irreducible] sv
theorem Ve (a:Option dH) (len cap:Nat) (bs:Nat->Int) (w:aI) (hv:nZ w a len bs) (hl:len<=4096) :
  dF dA 7 #[aj a len cap] w fun e w'=>aG8 w w' e:=by
 have hb0:=dX w (aH #[aj ak 0 0,aj ak 0 0,aj ak 0 0] 28);have HR:aG (Bx (w.alloc (aH #[aj ak 0 0,aj ak 0 0,aj ak 0 0] 28)) w.heap.size 28 #[aj ak 0 0,aj ak 0 0,aj ak 0 0]):=Bx.new w _ _;have hN:=newC a len cap bs w _ hb0 hv hl;generalize hX0:w.alloc (aH #[aj ak 0 0,aj ak 0 0,aj ak 0 0] 28)=X0 at *;clear hb0;go_enter Tryz.func7,Tryz.ntmps7
 go_wp2_with fail
 refine hN.mono ?_;rintro e X1 ⟨p,rfl,hp,c1,hb1⟩;have HR1:=dP (HR.out.below hb1);have hwp:w.heap.size<p:=by have:=HR.out.lt;omega
 have yK:=dP c1;clear hN c1 hb1 HR hX0 hv;go_wp2_with fail
 refine (jP 5 5 rfl yK.out (by omega) (by omega)).mono ?_
 rintro e X2 ⟨y,rfl,hy,c2,g2⟩;obtain⟨n,hn⟩:∃ n:Nat,aG (n=1+y):=⟨_,rfl⟩;have jq:1<=n/\n<=5:=by have:=hn.out;omega
 have en:(1:Int)+(y:Int)=n:=by have:=hn.out;omega
 have HC2:=dP c2;have HR2:aG (Bx X2 w.heap.size 28 #[aj ak 0 0,aj ak 0 0,aj ak 0 0]):=HR1.out.grown g2 (by simp;omega)
 have hN:=Hq (n:Int) X2;clear c2 g2 HR1 yK;go_wp2_with fail
 rw[en] at *;clear en hy;refine hN.mono ?_;rintro e X3 ⟨A,rfl,yZ,hlo,hf,hb3⟩;have hgl:=(Du jq).pR.ml
 have HM:aG (PG w (X3.alloc (aH #[aj A.ma (jf (n:Int)).1.mem.length A.mc,aj A.ua (jf (n:Int)).1.up.length A.uc,aj A.la (jf (n:Int)).1.dS.length A.lc] 28)) p a len cap bs X3.heap.size A (jf (n:Int)).1):=by
  have hba:=dX X3 (aH #[aj A.ma (jf (n:Int)).1.mem.length A.mc,aj A.ua (jf (n:Int)).1.up.length A.uc,aj A.la (jf (n:Int)).1.dS.length A.lc] 28);exact⟨(HC2.out.step hb3).step hba,(HR2.out.below hb3).below hba,Bx.new X3 _ _,hwp,by have:=HC2.out.lt;have:=hb3.size;omega⟩
 have HG:aG (∃ A g,PG w (X3.alloc (aH #[aj A.ma (jf (n:Int)).1.mem.length A.mc,aj A.ua (jf (n:Int)).1.up.length A.uc,aj A.la (jf (n:Int)).1.dS.length A.lc] 28)) p a len cap bs X3.heap.size A g/\g.mem.length=n):=⟨A,_,HM.out,hgl⟩;generalize (jf (n:Int)).2=bb at *;generalize (jf (n:Int)).1=g0 at *;unfold gX iW;have DX:=dP hgl;clear hlo hf hb3 hN HC2 HR2 hgl HG;go_upto_region 4 with fail
 generalize X3.alloc (aH #[aj A.ma g0.mem.length A.mc,aj A.ua g0.up.length A.uc,aj A.la g0.dS.length A.lc] 28)=X4 at *;generalize X3.heap.size=o at *;have hO:=uq 4 HM.out.cc (by omega)
 go_wp2_with fail
 refine hO.mono ?_;rintro e X5 ⟨t,rfl,c5,g5⟩;have iM:=dP (HM.out.drawn g5 c5);clear hO c5 g5 HM
 go_upto_if 20 with fail
 go_cut [5] from 19 to 26 (fun v wx=>∃ (N:Nat) (A:Ga) (g:Gr),1<=N/\N<=5/\v=ah aA (N:Int)/\g.mem.length=N/\PG w wx p a len cap bs o A g)
 case first =>
  cases t with
  | false =>
   go_wp2;go_meet
   case rel=>exact⟨n,A,g0,jq.1,jq.2,rfl,DX.out,iM.out⟩
  | true =>
   have hD:=Va iM.out.cc;go_wp2_with fail
   refine hD.mono ?_;rintro e X6 ⟨g,⟨m,hS⟩,A2,fp,rfl,hlo,hf,c6,g6⟩;have M6:=iM.out.drawn g6 c6;have pV:=dP (M6.put A2 g);have wR:aG (1<=g.mem.length/\g.mem.length<=5):=by have:=hS.ml;have:=hS.n4;exact⟨by omega,by omega⟩
   obtain⟨z0,z1,z2⟩:=Bx.g3 M6.own;obtain⟨f0,f1,f2⟩:=M6.own.f3;unfold gX iW;clear hD hS hlo hf c6 g6 M6 iM;go_upto_region 6 with fail
   generalize ((X6.setCell ⟨o,0,ak⟩ (aj A2.ma g.mem.length A2.mc)).setCell ⟨o,1,ak⟩ (aj A2.ua g.up.length A2.uc)).setCell ⟨o,2,ak⟩ (aj A2.la g.dS.length A2.lc)=X7 at *;clear z0 z1 z2 f0 f1 f2;obtain⟨z0,z1,z2⟩:=Bx.g3 pV.out.own;have hmx:=Ef 1 (g.mem.length:Int) X7;have emx:max (1:Int) (g.mem.length:Int)=g.mem.length:=by have:=wR.out.1;omega
   rw[emx] at hmx;clear emx;go_wp2_with (go_at_call 30;refine fV hmx ?_)
   go_meet
   case rel=>exact⟨g.mem.length,A2,g,wR.out.1,wR.out.2,rfl,rfl,pV.out⟩
 case rest =>
 obtain⟨N,A2,g,hN1,Gs,rfl,hgl,hM⟩:=hcut;generalize wc=X8 at *;have oZ:=dP hM;have tC:aG (1<=g.mem.length/\g.mem.length<=5):=by rw[aG,hgl];exact⟨hN1,Gs⟩
 clear hM iM hgl DX;have hD:=Jp N (N:Int) rfl hN1 Gs oZ.out.cc;go_wp2_with fail
 refine hD.mono ?_;rintro e X9 ⟨oa,c,G,L,rfl,hA,hLl⟩;have jL:=dP (oZ.out.drawn hA.gr hA.cc);have HA9:=dP hA;have hbig:w.heap.size<X8.heap.size:=by have:=oZ.out.own.lt;have:=oZ.out.hp;have:=oZ.out.ho;omega
 have hO:=uq 60 jL.out.cc (by omega)
 clear hA hD oZ;go_wp2_with fail
 refine hO.mono ?_;rintro e Y1 ⟨t2,rfl,c7,g7⟩;have wU:=dP (jL.out.drawn g7 c7);have QA:=dP (HA9.out.drawn g7 c7);clear hO c7 g7 jL HA9
 cases t2 with
 | false =>
  obtain⟨d0,d1,d2⟩:=Bx.g3 wU.out.own;obtain⟨z0,z1,z2⟩:=Bx.g3 wU.out.res;obtain⟨f0,f1,f2⟩:=wU.out.res.f3;have HF:=wU.out.ans (aj3 QA.out) (fun b hb=>by have:=QA.out.lo b hb;omega)
  have Gt:=dP HF;have uT:=dP QA.out.ok;clear HF wU QA;go_wp2;refine bY (v:=.tuple #[gX A2 g,aj oa L.length c]) (by simp[results,Tryz.results7,go_sem,gX,iW, *]) rfl ?_
  exact⟨A2,g,oa,c,L,rfl,(Gt.out _ _ _).1,tC.out,uT.out,by omega,(Gt.out _ _ _).2⟩
 | true =>
  have hB:=jP 2 2 rfl wU.out.cc (by omega) (by omega)
  clear QA;go_wp2_with fail
  refine hB.mono ?_;rintro e Y2 ⟨z,rfl,hz,c7,g7⟩;obtain⟨q,hq⟩:∃ q:Nat,aG (q=400+z):=⟨_,rfl⟩;have hq4:q<=401:=by have:=hq.out;omega
  have eq:(400:Int)+(z:Int)=q:=by have:=hq.out;omega
  have M11:=wU.out.drawn g7 c7;have hba:=dX Y2 (aH (madeCells #[ah aA 0,ah aA 0,ah aA 0,.string ⟨#[]⟩] (q*4)) 38);have QB:=dP (M11.step hba);have hmk:=ag9 q (by omega) Y2
  have hY2:w.heap.size<Y2.heap.size:=by have:=M11.res.lt;omega
  have HO:aG (iQ (Y2.alloc (aH (madeCells #[ah aA 0,ah aA 0,ah aA 0,.string ⟨#[]⟩] (q*4)) 38)) 4 (au ⟨Y2.heap.size,0,ak⟩) (bV q yM).length q (sG (bV q yM)) (au Y2.heap.size)):=at7 Y2 q (by omega)
  clear hB c7 g7 wU M11 hba;go_upto_region 10 with fail
  generalize Y2.alloc (aH (madeCells #[ah aA 0,ah aA 0,ah aA 0,.string ⟨#[]⟩] (q*4)) 38)=Y3 at *;clear hmk eq;obtain⟨d0,d1,d2⟩:=Bx.g3 QB.out.own;obtain⟨z0,z1,z2⟩:=Bx.g3 QB.out.res;obtain⟨f0,f1,f2⟩:=QB.out.res.f3;have HF:=QB.out.ans (Qu HO.out) (fun b hb=>by have:=bT hb;omega)
  have Gt:=dP HF
  have uT:aG (∀ x∈bV q yM,zf x):=fun x hx=>by
   rw[(List.mem_replicate.1 hx).2];exact Bf ⟨by omega,by omega⟩ ⟨by omega,by omega⟩ ⟨by omega,by omega⟩ (by simp)
  clear HF QB HO;go_wp2;refine bY (v:=.tuple #[gX A2 g,aj (au ⟨Y2.heap.size,0,ak⟩) q q]) (by simp[results,Tryz.results7,go_sem,gX,iW, *]) rfl ?_
  exact⟨A2,g,au ⟨Y2.heap.size,0,ak⟩,q,bV q yM,by rw[List.length_replicate],(Gt.out _ _ _).1,tC.out,uT.out,by rw[List.length_replicate];exact hq4,(Gt.out _ _ _).2⟩
end
section
section
variable {w Y Y':aI} {p:Nat} {a:Option dH} {len cap:Nat} {bs:Nat->Int} {o:Nat} {A:Ma} {m:Mb} {fp:Fp}
end
attribute [local irreducible] sv
end
section
attribute [local irreducible] sv
theorem JE (A B:Ra) (r:Rw) (w:aI) (hv:qj w A r) (hu:qj w B r) :
  dF dA 34 #[iK A r,iK B r] w fun e w'=>e=aK (aF aB)/\Grew w w':=by
 have hB0:Grew w ((w.alloc (aH (fQ A r) 44)).alloc (aH (fQ B r) 44)):=((Grew.refl _).alloc _).alloc _;have hx:Bx ((w.alloc (aH (fQ A r) 44)).alloc (aH (fQ B r) 44)) w.heap.size 44 (fQ A r):=(Bx.new w _ _).alloc _
 have hy:Bx ((w.alloc (aH (fQ A r) 44)).alloc (aH (fQ B r) 44)) (w.heap.size+1) 44 (fQ B r):=by
  have:=Bx.new (w.alloc (aH (fQ A r) 44)) 44 (fQ B r);simpa using this
 have h0:=hv.below hB0.1;have g0:=hu.below hB0.1;have hT:=Ui A.ta B.ta A.tc B.tc r.txt _ h0.txt g0.txt h0.mt;have hE:∀ X,Below w.heap.size w X->∀ (x y:Option dH) (c d:Nat) (l:List Int),Vec w x l.length l->Vec w y l.length l->l.length<=dD->dF dA 24 #[aj x l.length c,aj y l.length d] X fun e w'=>e=aK (aF aB)/\Grew X w':=fun X h x y c d l h1 h2 h3=>(Di x y l.length c l.length d l l X (h1.below h (cO _)) (h2.below h (cO _)) h3).mono (fun e w' ⟨h4,q,h5⟩=>⟨by rw[h4,Dh],by rw[h5];exact (Grew.refl _).drewN q⟩)
 obtain⟨ver,txt,got,dQ,wed,dV,dW,dU⟩:=r;obtain⟨ta,tc,ga,gc,sa,sc,ma,mc⟩:=A;obtain⟨ub,uc,vb,vc,xb,xc,yb,yc⟩:=B;have HV:=dP hv;have HU:=dP hu;have hG:=fun X h=>hE X h ga vb gc vc got HV.out.got HU.out.got HV.out.mg
 have hS:=fun X h=>hE X h sa xb sc xc dQ HV.out.dQ HU.out.dQ HV.out.ms
 have hM:=fun X h=>hE X h ma yb mc yc dU HV.out.dU HU.out.dU HV.out.mm
 have HX:aG (∀ X,Grew ((w.alloc (aH (fQ ⟨ta,tc,ga,gc,sa,sc,ma,mc⟩ ⟨ver,txt,got,dQ,wed,dV,dW,dU⟩) 44)).alloc (aH (fQ ⟨ub,uc,vb,vc,xb,xc,yb,yc⟩ ⟨ver,txt,got,dQ,wed,dV,dW,dU⟩) 44)) X->Bx X w.heap.size 44 #[ah aA ver,aj ta txt.length tc,aj ga got.length gc,aj sa dQ.length sc,aF wed,aF dV,ah aA dW,aj ma dU.length mc]/\Bx X (w.heap.size+1) 44 #[ah aA ver,aj ub txt.length uc,aj vb got.length vc,aj xb dQ.length xc,aF wed,aF dV,ah aA dW,aj yb dU.length yc]):=fun X h=>⟨hx.below h.1,hy.below h.1⟩
 have n1:(ver==ver)=aB:=by simp
 have n2:(dW==dW)=aB:=by simp
 have n3:(wed==wed)=aB:=by simp
 have n4:(dV==dV)=aB:=by simp
 unfold iK;unfold fQ at *;simp only at hT ⊢
 generalize qP:(w.alloc (aH #[ah aA ver,aj ta txt.length tc,aj ga got.length gc,aj sa dQ.length sc,aF wed,aF dV,ah aA dW,aj ma dU.length mc] 44)).alloc (aH #[ah aA ver,aj ub txt.length uc,aj vb got.length vc,aj xb dQ.length xc,aF wed,aF dV,ah aA dW,aj yb dU.length yc] 44)=W at *;have nT:=dP hB0;obtain⟨⟨c0,c1,_,_⟩,_⟩:=Bx.r8 (HX.out W (Grew.refl _)).1;obtain⟨⟨d0,d1,_,_⟩,_⟩:=Bx.r8 (HX.out W (Grew.refl _)).2;clear hv hu hx hy h0 g0 hE hB0;go_enter Tryz.func34,Tryz.ntmps34
 go_wp2_with fail
 refine hT.mono ?_;rintro e w1 ⟨rfl,hg1⟩;obtain⟨⟨_,_,c2,_⟩,_⟩:=Bx.r8 (HX.out w1 hg1).1;obtain⟨⟨_,_,d2,_⟩,_⟩:=Bx.r8 (HX.out w1 hg1).2;have mD:=dP hg1;clear hT hg1 c0 c1 d0 d1;go_wp2_with fail
 refine (hG w1 (nT.out.trans mD.out).1).mono ?_;rintro e w2 ⟨rfl,hg2⟩;have HG2:=dP (mD.out.trans hg2);obtain⟨⟨_,_,_,c3⟩,_⟩:=Bx.r8 (HX.out w2 HG2.out).1;obtain⟨⟨_,_,_,d3⟩,_⟩:=Bx.r8 (HX.out w2 HG2.out).2;clear hg2 c2 d2 hG;go_wp2_with fail
 refine (hS w2 (nT.out.trans HG2.out).1).mono ?_;rintro e w3 ⟨rfl,hg3⟩;have Gp:=dP (HG2.out.trans hg3);obtain⟨_,c4,c5,c6,c7⟩:=Bx.r8 (HX.out w3 Gp.out).1;obtain⟨_,d4,d5,d6,d7⟩:=Bx.r8 (HX.out w3 Gp.out).2;clear hg3 c3 d3 hS;go_wp2_with fail
 refine (hM w3 (nT.out.trans Gp.out).1).mono ?_;rintro e w4 ⟨rfl,hg4⟩;have Cb:=dP (nT.out.trans (Gp.out.trans hg4));clear hg4 c4 c5 c6 c7 d4 d5 d6 d7 hM;go_wp2;go_ret
 exact⟨rfl,Cb.out⟩
end
theorem Vf (A D:Ma) (m:Mb) (w:aI) (hv:yF w A m) (hu:yF w D m) :
  dF dA 33 #[iU A m,iU D m] w fun e w'=>e=aK (aF aB)/\Below w.heap.size w w':=by
 have gq:=iD;have hB0:Below w.heap.size w ((w.alloc (aH #[ah aA m.id,ah aA m.n,aj A.ra m.rows.length A.rc,aj A.sa m.dR.length A.sc,aF m.done] 47)).alloc (aH #[ah aA m.id,ah aA m.n,aj D.ra m.rows.length D.rc,aj D.sa m.dR.length D.sc,aF m.done] 47)):=(dX w _).trans ((dX _ _).mono (dX w _).size);have hx:Bx ((w.alloc (aH #[ah aA m.id,ah aA m.n,aj A.ra m.rows.length A.rc,aj A.sa m.dR.length A.sc,aF m.done] 47)).alloc (aH #[ah aA m.id,ah aA m.n,aj D.ra m.rows.length D.rc,aj D.sa m.dR.length D.sc,aF m.done] 47)) w.heap.size 47 #[ah aA m.id,ah aA m.n,aj A.ra m.rows.length A.rc,aj A.sa m.dR.length A.sc,aF m.done]:=(Bx.new w _ _).alloc _
 have hy:Bx ((w.alloc (aH #[ah aA m.id,ah aA m.n,aj A.ra m.rows.length A.rc,aj A.sa m.dR.length A.sc,aF m.done] 47)).alloc (aH #[ah aA m.id,ah aA m.n,aj D.ra m.rows.length D.rc,aj D.sa m.dR.length D.sc,aF m.done] 47)) (w.heap.size+1) 47 #[ah aA m.id,ah aA m.n,aj D.ra m.rows.length D.rc,aj D.sa m.dR.length D.sc,aF m.done]:=by
  have:=Bx.new (w.alloc (aH #[ah aA m.id,ah aA m.n,aj A.ra m.rows.length A.rc,aj A.sa m.dR.length A.sc,aF m.done] 47)) 47 #[ah aA m.id,ah aA m.n,aj D.ra m.rows.length D.rc,aj D.sa m.dR.length D.sc,aF m.done];simpa using this
 have hm:=hv.mr;unfold dD at hm;have hE:∀ X,Below w.heap.size w X->dF dA 24 #[aj A.sa m.dR.length A.sc,aj D.sa m.dR.length D.sc] X fun e w'=>e=aK (aF aB)/\Below X.heap.size X w':=fun X h=>(Di A.sa D.sa m.dR.length A.sc m.dR.length D.sc m.dR m.dR X (hv.dR.below h (cO _)) (hu.dR.below h (cO _)) hv.ms).mono (fun e w' ⟨h1,q,h2⟩=>⟨by rw[h1];simp[Ik],by rw[h2];exact fO (dw _ _)⟩)
 have HV:aG (∀ X,Below w.heap.size w X->yF X A m):=fun X h=>hv.below h
 have HU:aG (∀ X,Below w.heap.size w X->yF X D m):=fun X h=>hu.below h
 unfold iU iq;generalize qP:(w.alloc (aH #[ah aA m.id,ah aA m.n,aj A.ra m.rows.length A.rc,aj A.sa m.dR.length A.sc,aF m.done] 47)).alloc (aH #[ah aA m.id,ah aA m.n,aj D.ra m.rows.length D.rc,aj D.sa m.dR.length D.sc,aF m.done] 47)=W at *;have n1:(m.id != m.id)=aC:=by simp
 have n2:(m.n != m.n)=aC:=by simp
 have n3:(m.done != m.done)=aC:=by simp
 have n4:((m.rows.length:Int) != (m.rows.length:Int))=aC:=by simp
 have HX:=dP hx;have HY:=dP hy;have HB:=dP hB0;obtain⟨c0,c1,c2,c3,c4⟩:=Bx.r5 hx;obtain⟨d0,d1,d2,d3,d4⟩:=Bx.r5 hy;clear hv hu hB0 hx hy;go_enter Tryz.func33,Tryz.ntmps33
 go_wp2_with fail
 refine (hE _ HB.out).mono ?_;rintro e w1 ⟨rfl,hb1⟩;have HB1:=dP (eU HB.out hb1);have qH:=dP (HX.out.below hb1);have Cm:=dP (HY.out.below hb1);clear c0 c1 c2 c3 c4 d0 d1 d2 d3 d4 hE hb1 HX HY;obtain⟨c0,c1,c2,c3,c4⟩:=Bx.r5 qH.out;obtain⟨d0,d1,d2,d3,d4⟩:=Bx.r5 Cm.out;go_wp2_with fail
 clear c0 c1 c2 c3 c4 d0 d1 d2 d3 d4 n1 n2 n3 n4
 go_loopw [5] (fun v wr=>∃ k:Nat,k<=m.rows.length/\v=ah aA (k:Int)/\Below w1.heap.size w1 wr) (fun v _=>m.rows.length-(dG v).toNat)
 case atStart=>exact⟨0,cZ _,rfl,dw _ _⟩
 case round =>
  obtain⟨k,hk,rfl,hb⟩:=hrel;have CU:=dP hb;have pU:=dP (eU HB1.out hb);obtain⟨c0,c1,c2,c3,c4⟩:=Bx.r5 (qH.out.below hb);obtain⟨d0,d1,d2,d3,d4⟩:=Bx.r5 (Cm.out.below hb);by_cases hlt:k<m.rows.length
  ·have k1:(k:Int)<m.rows.length:=by omega
   have k0:(0:Int)<=k:=by omega
   have hva:=HV.out wr pU.out;have hvd:=HU.out wr pU.out;obtain⟨g,off,Ak,ea,⟨⟨x0,x1,x2,x3⟩,x4,x5,x6,x7⟩,hr1⟩:=hva.row hlt;obtain⟨g',off',Dk,ed,⟨⟨y0,y1,y2,y3⟩,y4,y5,y6,y7⟩,hr2⟩:=hvd.row hlt;rw[ea] at c2;rw[ed] at d2;have CL:∀ q:Bk wr,dF dA 34 #[iK Ak (dO m.rows k),iK Dk (dO m.rows k)] q.w fun e w'=>e=aK (aF aB)/\Below q.w.heap.size q.w w':=fun q=>(JE Ak Dk (dO m.rows k) q.w (hr1.below q.h) (hr2.below q.h)).mono (fun e w' h=>⟨h.1,h.2.1⟩)
   unfold iK fQ at CL;have T:∀ {x v},wr.cell? x=au v->∀ q:Bk wr,q.w.cell? x=au v:=fun h q=>gy q.h h
   have pc2:=T c2;have pd2:=T d2;have MR:=T x0;have TS:=T x1;have TU:=T x2;have yI:=T x3;have xk:=T x4;have Cj:=T x5;have Jf:=T x6;have O5:=T x7;have MS:=T y0;have TV:=T y1;have TW:=T y2;have QC:=T y3;have QD:=T y4;have Yw:=T y5;have O6:=T y6;have O7:=T y7;have wk:wrap64 ((k:Int)+1)=(k:Int)+1:=by unfold wrap64;omega
   generalize dO m.rows k=r at *;clear hva hvd hr1 hr2 T x0 x1 x2 x3 x4 x5 x6 x7 y0 y1 y2 y3 y4 y5 y6 y7 d2 c0 c1 c3 c4 d0 d1 d3 d4 hb;go_wp2_with fail
   refine jg ?_;repeat (go_big_quiet_step ((first|(go_at_call 34;exact eY _ (CL _))|rfl)))
   refine dh (iL fun wE eG=>?_)
   have HB2:=dP (eU CU.out eG);clear CL pc2 pd2 MR TS TU yI xk Cj Jf O5 MS TV TW QC QD Yw O6 O7 c2 eG;go_wp2;go_roundw
   case rel=>exact⟨k+1,by omega,by go_num,HB2.out⟩
   case measure=>simp[dG];omega
  ·have k1:¬ ((k:Int)<m.rows.length):=by omega
   clear hb;go_wp2;go_ret
   exact⟨rfl,pU.out⟩
theorem Yx (h:Z.Pairwise (·<·)):∀ j,j+1<Z.length->el Z j<el Z (j+1):=fun j hj=>by
 rw[qX (by omega),qX hj]
 exact List.pairwise_iff_getElem.1 h j (j+1) (by omega) hj (by omega)
theorem Vg (b off len cap:Nat) (xs:List Int) (w:aI) (hlen:xs.length=len) (hc:∀ i,i<len->w.cell? ⟨b,off+i,ak⟩=au (ah aA (el xs i))) (hm:len<=1000000) (hr:∀ j,j+1<len->el xs j<el xs (j+1)) :
  dF dA 25 #[aj (au ⟨b,off,ak⟩) len cap] w fun e w'=>e=aK (aF aB)/\∃ n,w'=w.drewN n:=by
 have HR:=dP hr;clear hr hlen;go_enter Tryz.func25,Tryz.ntmps25
 go_wp2
 go_loopw [3] (fun i wr=>∃ k n:Nat,k<=len/\i=ah aA ((k:Int)+1)/\wr=w.drewN n) (fun i _=>(len+1)-(dG i).toNat)
 case atStart=>exact⟨0,0,cZ _,rfl,rfl⟩
 case round =>
  obtain⟨k,n,hk,rfl,rfl⟩:=hrel;by_cases hlt:k+1<len
  ·have c1:=hc (k+1) hlt
   have c0:=hc k (by omega)
   have hd:decide (el xs (k+1)<=el xs k)=aC:=by have:=HR.out k hlt;simp;omega
   have h1:(k:Int)+1<(len:Int):=by omega
   have h2:(k:Int)<len:=by omega
   have h0:(0:Int)<=(k:Int)+1:=by omega
   have h3:(0:Int)<=k:=by omega
   have e1:((k:Int)+1).toNat=k+1:=by omega
   go_wp2_with fail
   go_quiet (fail)
   go_wp2;go_roundw
   case rel=>exact⟨k+1,_,by omega,by go_num,rfl⟩
   case measure=>simp[dG];omega
  ·have hd:decide ((k:Int)+1<(len:Int))=aC:=by simp;omega
   go_wp2;go_ret
   exact⟨rfl,_,rfl⟩
theorem Q5 (a:Option dH) (cap:Nat) (xs:List Int) (w:aI) (hv:Vec w a xs.length xs) (hm:xs.length<=1000000) (hr:xs.Pairwise (·<·)) :
  dF dA 25 #[aj a xs.length cap] w fun e w'=>e=aK (aF aB)/\Below w.heap.size w w':=by
 rcases hv.2.2 with h|⟨b,off,rfl,hc⟩
 ·obtain rfl:xs=[]:=List.eq_nil_of_length_eq_zero h
  clear hv h hm hr;go_enter Tryz.func25,Tryz.ntmps25
  go_wp2
  go_loop [3] (fun i=>i=ah aA 1) (fun i=>0)
  case atStart=>rfl
  case round =>
   obtain rfl:=hrel;go_wp2;go_ret
   exact⟨rfl,dw _ _⟩
 ·exact (Vg b off xs.length cap xs w rfl hc hm (Yx hr)).mono (fun e w' ⟨h1,q,h2⟩=>⟨h1,by rw[h2];exact fO (dw _ _)⟩)
section
variable {w w':aI} {o:Nat} {A:Ma} {m:Mb}
end
structure Gx (w:aI) (o q:Nat) (A:Ga) (g:Gr):Prop where
 box:Bx w o 28 #[aj A.ma g.mem.length A.mc,aj A.ua g.up.length A.uc,aj A.la g.dS.length A.lc]
 own:∃ f,gB w (fZ g) (jm A g) f/\∀ b,f b->b≠q
section
variable {w w':aI} {o q:Nat} {A:Ga} {g:Gr}
theorem Gx.below (h:Gx w o q A g) (hb:Below w.heap.size w w'):Gx w' o q A g:=⟨h.box.below hb,h.own.imp (fun f h=>⟨gG h.1 hb,h.2⟩)⟩
theorem Gx.grp (h:Gx w o q A g) (hf:EG g) (h6:ZV g) (hs:E8 g<=1048576):uU w A g:=⟨h.own.imp (fun _ h=>h.1),hf,h6,hs⟩
theorem Gx.ok (h:Gx w o q A g) {n:Nat} (ok:OkG g n):uU w A g:=h.grp ok.fit (XC ok) (by have:=ok.small.2.2.2.2;omega)
theorem Gx.new' {X:aI} (h:kE X w (fZ g) (jm A g)):Gx (w.alloc (aH #[aj A.ma g.mem.length A.mc,aj A.ua g.up.length A.uc,aj A.la g.dS.length A.lc] 28)) w.heap.size w.heap.size A g:=by
 obtain⟨f,h1,h2,_⟩:=h;have:=jd h1;exact⟨Bx.new _ _ _,f,gG h1 (dX w _),fun b hb=>by have:=this b hb;omega⟩
end
theorem tY.sc {w: aI} {A: Ma} {m: Mb} (h:tY w A m):m.dR.length<=A.sc/\A.sc<=dD:=by
 obtain⟨f,hf⟩:=h.own;obtain⟨f1,f2,o1,o2,_,_⟩:=SI hf;obtain⟨a,c,e,_,h1,h2⟩:=l7 (dY.wF o2) h.fit.2
 cases e
 exact⟨h1,h2⟩
theorem ah1 (a b:Option dH) (ca cb:Nat) (xs ys:List Int) (w:aI) (hx:Vec w a xs.length xs) (hy:Vec w b ys.length ys) (hyc:ys.length<=cb/\cb<=dD) (hl:xs.length<=ys.length) (he:∀ q,q<xs.length->el xs q=el ys q) :
  dF dA 16 #[aj a xs.length ca,aj b ys.length cb] w fun e w'=>e=aK (aF aB)/\Below w.heap.size w w':=by
 obtain⟨hc1,hc2⟩:=hyc;unfold dD at hc2;have hle:((xs.length:Int)<=ys.length):=by omega
 have hle2:((xs.length:Int)<=cb):=by omega
 have hx0:(0:Int)<=xs.length:=by omega
 have hT:∀ (c:Nat),Vec w b xs.length xs->dF dA 24 #[aj a xs.length ca,aj b xs.length c] w fun e w'=>e=aK (aF aB)/\∃ n,w'=w.drewN n:=fun c h=>by
  have:=Di a b xs.length ca xs.length c xs xs w hx h (by unfold dD;omega)
  rw[Dh] at this;exact this
 rcases hy.2.2 with h0|⟨bb,bo,rfl,hc⟩
 ·have hy0:ys.length=0:=h0
  have aM8:xs=[]:=List.eq_nil_of_length_eq_zero (by omega)
  subst aM8;have hL:=hT cb ⟨rfl,fun x hx=>absurd hx List.not_mem_nil,.inl rfl⟩
  have hL0:∀ c,dF dA 24 #[aj a 0 ca,aj b 0 c] w fun e w'=>e=aK (aF aB)/\∃ n,w'=w.drewN n:=fun c=>hT c ⟨rfl,fun x hx=>absurd hx List.not_mem_nil,.inl rfl⟩
  have hl0:(([]:List Int).length:Int)<=(ys.length:Int):=by simp
  clear hT hL hy hx he
  cases b with
  | none =>
   go_enter Tryz.func16,Tryz.ntmps16
   go_wp2_with (go_at_call 24;refine (hL0 _).mono ?_;rintro e w' ⟨rfl,n,rfl⟩)
   go_ret
   exact⟨rfl,fO (dw _ _)⟩
  | some ad =>
   go_enter Tryz.func16,Tryz.ntmps16
   go_wp2_with (go_at_call 24;refine (hL0 _).mono ?_;rintro e w' ⟨rfl,n,rfl⟩)
   go_ret
   exact⟨rfl,fO (dw _ _)⟩
 ·have hL := fun c => hT c ⟨rfl,hx.2.1,by
   by_cases h:xs.length=0
   ·exact .inl h
   ·exact .inr ⟨bb,bo,rfl,fun i hi=>by rw[hc i (by omega),he i hi]⟩⟩
  clear hT hy hx he hc;go_enter Tryz.func16,Tryz.ntmps16
  go_wp2_with (go_at_call 24;refine (hL _).mono ?_;rintro e w' ⟨rfl,n,rfl⟩)
  go_ret
  exact⟨rfl,fO (dw _ _)⟩
def MV:Prop:=∀ (A:Ga) (g:Gr) (w:aI),uU w A g->(∀ n,OkG g n->U6 g n)->dF dA 10 #[gX A g] w fun e w'=>AX w w' e (vG g)
theorem Yy:MV:=by
 intro A g w hv kC
 cases hok:jA g with
 | true =>
  obtain⟨n,ok⟩:=oD.1 hok;rw[vG,if_pos hok];exact Yq A g n w hv ok (kC n ok)
 | false =>
  have HZ:aG (vG g=jG):=by rw[aG,vG,if_neg (by rw[hok];exact Bool.false_ne_true)]
  have hb0:Below w.heap.size w ((w.alloc (aH #[aj A.ma g.mem.length A.mc,aj A.ua g.up.length A.uc,aj A.la g.dS.length A.lc] 28)).alloc (aH #[aj ak 0 0,aj ak 0 0,aj ak 0 0] 28)):=((dw _ _).alloc (cO _) _).alloc (by simp) _
  have hx0:Bx ((w.alloc (aH #[aj A.ma g.mem.length A.mc,aj A.ua g.up.length A.uc,aj A.la g.dS.length A.lc] 28)).alloc (aH #[aj ak 0 0,aj ak 0 0,aj ak 0 0] 28)) w.heap.size 28 #[aj A.ma g.mem.length A.mc,aj A.ua g.up.length A.uc,aj A.la g.dS.length A.lc]:=(Bx.new w _ _).alloc _
  have hx2:Bx ((w.alloc (aH #[aj A.ma g.mem.length A.mc,aj A.ua g.up.length A.uc,aj A.la g.dS.length A.lc] 28)).alloc (aH #[aj ak 0 0,aj ak 0 0,aj ak 0 0] 28)) (w.heap.size+1) 28 #[aj ak 0 0,aj ak 0 0,aj ak 0 0]:=by
   have:=Bx.new (w.alloc (aH #[aj A.ma g.mem.length A.mc,aj A.ua g.up.length A.uc,aj A.la g.dS.length A.lc] 28)) 28 #[aj ak 0 0,aj ak 0 0,aj ak 0 0];simp only[bH] at this;exact this
  have hv0:=hv.below hb0;unfold gX iW;generalize qP:(w.alloc (aH #[aj A.ma g.mem.length A.mc,aj A.ua g.up.length A.uc,aj A.la g.dS.length A.lc] 28)).alloc (aH #[aj ak 0 0,aj ak 0 0,aj ak 0 0] 28)=W0 at *;have hK:=BK A g W0 hv0;rw[hok] at hK;unfold gX iW at hK;have HZ0:=dP hx2;have HB0:=dP hb0;obtain⟨c0,c1,c2⟩:=Bx.g3 hx0;clear hv hb0 hx0 hx2 hv0 kC hok;go_enter Tryz.func10,Tryz.ntmps10
  go_wp2_with fail
  refine hK.mono ?_;rintro e w1 ⟨rfl,hb1⟩;have hz1:=HZ0.out.below hb1;have HB1:=dP (eU HB0.out hb1);obtain⟨z0,z1,z2⟩:=Bx.g3 hz1;obtain⟨f0,f1,f2⟩:=hz1.f3;clear hz1 hb1 c0 c1 c2 hK;go_wp2;refine bY (v:=gX ⟨ak,0,ak,0,ak,0⟩ jG) (by simp[results,Tryz.results10,go_sem,gX,iW,jG, *]) rfl ?_
  rw[HZ.out];exact⟨_,rfl,AY ((oK w1 (w.heap.size+1)).below HB1.out HB1.out.size (fun b h=>by omega))⟩
theorem JF (A D:Ga) (g:Gr) (w:aI) (hv:wZ w A g) (hu:wZ w D g) (hm:g.mem.length<=1000000/\g.up.length<=1000000/\g.dS.length<=1000000) :
  dF dA 9 #[gX A g,gX D g] w fun e w'=>e=aK (aF aB)/\Below w.heap.size w w':=by
 have gq:=iD;have hB0:Below w.heap.size w ((w.alloc (aH #[aj A.ma g.mem.length A.mc,aj A.ua g.up.length A.uc,aj A.la g.dS.length A.lc] 28)).alloc (aH #[aj D.ma g.mem.length D.mc,aj D.ua g.up.length D.uc,aj D.la g.dS.length D.lc] 28)):=(dX w _).trans ((dX _ _).mono (dX w _).size);have hx:Bx ((w.alloc (aH #[aj A.ma g.mem.length A.mc,aj A.ua g.up.length A.uc,aj A.la g.dS.length A.lc] 28)).alloc (aH #[aj D.ma g.mem.length D.mc,aj D.ua g.up.length D.uc,aj D.la g.dS.length D.lc] 28)) w.heap.size 28 #[aj A.ma g.mem.length A.mc,aj A.ua g.up.length A.uc,aj A.la g.dS.length A.lc]:=(Bx.new w _ _).alloc _
 have hy:Bx ((w.alloc (aH #[aj A.ma g.mem.length A.mc,aj A.ua g.up.length A.uc,aj A.la g.dS.length A.lc] 28)).alloc (aH #[aj D.ma g.mem.length D.mc,aj D.ua g.up.length D.uc,aj D.la g.dS.length D.lc] 28)) (w.heap.size+1) 28 #[aj D.ma g.mem.length D.mc,aj D.ua g.up.length D.uc,aj D.la g.dS.length D.lc]:=by
  have:=Bx.new (w.alloc (aH #[aj A.ma g.mem.length A.mc,aj A.ua g.up.length A.uc,aj A.la g.dS.length A.lc] 28)) 28 #[aj D.ma g.mem.length D.mc,aj D.ua g.up.length D.uc,aj D.la g.dS.length D.lc];simp only[bH] at this;exact this
 have HV:=dP (hv.below hB0);have HU:=dP (hu.below hB0);unfold gX iW;generalize qP:((w.alloc (aH #[aj A.ma g.mem.length A.mc,aj A.ua g.up.length A.uc,aj A.la g.dS.length A.lc] 28)).alloc (aH #[aj D.ma g.mem.length D.mc,aj D.ua g.up.length D.uc,aj D.la g.dS.length D.lc] 28))=W at *;have n1:((g.mem.length:Int) != (g.mem.length:Int))=aC:=by simp
 have n2:((g.up.length:Int) != (g.up.length:Int))=aC:=by simp
 have n3:((g.dS.length:Int) != (g.dS.length:Int))=aC:=by simp
 have HX:=dP hx;have HY:=dP hy;have HB:=dP hB0;obtain⟨hm1,hm2,hm3⟩:=hm;obtain⟨c0,c1,c2⟩:=Bx.g3 hx;obtain⟨d0,d1,d2⟩:=Bx.g3 hy;clear hv hu hB0 hx hy;go_enter Tryz.func9,Tryz.ntmps9
 go_wp2_with fail
 clear c0 c1 c2 d0 d1 d2 n1 n2 n3
 go_loopw [5] (fun v wr=>∃ k:Nat,k<=g.mem.length/\v=ah aA (k:Int)/\Below W.heap.size W wr) (fun v _=>g.mem.length-(dG v).toNat)
 case atStart=>exact⟨0,cZ _,rfl,dw _ _⟩
 case round =>
  obtain⟨k,hk,rfl,hb⟩:=hrel;have pU:=dP hb;obtain⟨c0,c1,c2⟩:=Bx.g3 (HX.out.below hb);obtain⟨d0,d1,d2⟩:=Bx.g3 (HY.out.below hb);have T:∀ {x v},wr.cell? x=au v->∀ q:Bk wr,q.w.cell? x=au v:=fun h q=>gy q.h h
  by_cases hlt:k<g.mem.length
  ·have k1:(k:Int)<g.mem.length:=by omega
   have k0:(0:Int)<=k:=by omega
   obtain⟨b1,o1,Ak,ea,⟨x0,x1,x2,x3,x4⟩,hr1⟩:=(HV.out.below hb).member hlt;obtain⟨b2,o2,Dk,ed,⟨y0,y1,y2,y3,y4⟩,hr2⟩:=(HU.out.below hb).member hlt;rw[ea] at c0;rw[ed] at d0;have CL:∀ q:Bk wr,dF dA 33 #[iU Ak (eF g k),iU Dk (eF g k)] q.w fun e w'=>e=aK (aF aB)/\Below q.w.heap.size q.w w':=fun q=>Vf Ak Dk (eF g k) q.w (hr1.below q.h) (hr2.below q.h)
   unfold iU iq at CL;have pc0:=T c0;have pd0:=T d0;have MR:=T x0;have TS:=T x1;have TU:=T x2;have yI:=T x3;have xk:=T x4;have MS:=T y0;have TV:=T y1;have TW:=T y2;have QC:=T y3;have QD:=T y4;generalize eF g k=m at *;clear hr1 hr2 T x0 x1 x2 x3 x4 y0 y1 y2 y3 y4 c1 c2 d0 d1 d2 hb;go_wp2_with fail
   refine jg ?_;repeat (go_big_quiet_step ((first|(go_at_call 33;exact eY _ (CL _))|rfl)))
   refine dh (iL fun wE eG=>?_)
   have HB2:=dP (eU pU.out eG);clear CL pc0 pd0 MR TS TU yI xk MS TV TW QC QD c0 eG;go_wp2;go_roundw
   case rel=>exact⟨k+1,by omega,by go_num,HB2.out⟩
   case measure=>simp[dG];omega
  ·have k1:¬ ((k:Int)<g.mem.length):=by omega
   clear hb T;go_wp2
   go_loopw [6] (fun v wr=>∃ k:Nat,k<=g.up.length/\v=ah aA (k:Int)/\Below W.heap.size W wr) (fun v _=>g.up.length-(dG v).toNat)
   case atStart=>exact⟨0,cZ _,rfl,pU.out⟩
   case round =>
    obtain⟨k,hk,rfl,hb⟩:=hrel;have pU:=dP hb;obtain⟨c0,c1,c2⟩:=Bx.g3 (HX.out.below hb);obtain⟨d0,d1,d2⟩:=Bx.g3 (HY.out.below hb);have T:∀ {x v},wr.cell? x=au v->∀ q:Bk wr,q.w.cell? x=au v:=fun h q=>gy q.h h
    by_cases hlt:k<g.up.length
    ·have k1:(k:Int)<g.up.length:=by omega
     have k0:(0:Int)<=k:=by omega
     have nb:∀ b:Bool,(b != b)=aC:=fun b=>by cases b<;>rfl
     rcases (HV.out.below hb).up with h0|⟨b1,o1,ea,hc1⟩
     ·omega
     rcases (HU.out.below hb).up with h0|⟨b2,o2,ed,hc2⟩
     ·omega
     rw[ea] at c1;rw[ed] at d1;have x0:=hc1 k hlt;have y0:=hc2 k hlt;have pc1:=T c1;have pd1:=T d1;have MR:=T x0;have MS:=T y0;generalize g.up.getD k aC=u at *;have nu:=nb u;clear nb T x0 y0 hc1 hc2 c0 c2 d0 d1 d2 hb;go_wp2_with fail
     refine jg ?_;repeat (go_big_quiet_step ((first|rfl)))
     refine dh (iL fun wE eG=>?_)
     have HB2:=dP (eU pU.out eG);clear pc1 pd1 MR MS c1 nu eG;go_wp2;go_roundw
     case rel=>exact⟨k+1,by omega,by go_num,HB2.out⟩
     case measure=>simp[dG];omega
    ·have k1:¬ ((k:Int)<g.up.length):=by omega
     clear hb T;go_wp2
     go_loopw [7] (fun v wr=>∃ k:Nat,k<=g.dS.length/\v=ah aA (k:Int)/\Below W.heap.size W wr) (fun v _=>g.dS.length-(dG v).toNat)
     case atStart=>exact⟨0,cZ _,rfl,pU.out⟩
     case round =>
      obtain⟨k,hk,rfl,hb⟩:=hrel;have pU:=dP hb;obtain⟨c0,c1,c2⟩:=Bx.g3 (HX.out.below hb);obtain⟨d0,d1,d2⟩:=Bx.g3 (HY.out.below hb);have T:∀ {x v},wr.cell? x=au v->∀ q:Bk wr,q.w.cell? x=au v:=fun h q=>gy q.h h
      by_cases hlt:k<g.dS.length
      ·have k1:(k:Int)<g.dS.length:=by omega
       have k0:(0:Int)<=k:=by omega
       obtain⟨b1,o1,Ak,ea,x0,x1,⟨⟨x2,x3,x4,x5⟩,x6,x7,x8,x9⟩,hr1⟩:=(HV.out.below hb).letter hlt;obtain⟨b2,o2,Dk,ed,y0,y1,⟨⟨y2,y3,y4,y5⟩,y6,y7,y8,y9⟩,hr2⟩:=(HU.out.below hb).letter hlt;rw[ea] at c2;rw[ed] at d2;have CL:∀ q:Bk wr,dF dA 34 #[iK Ak (fF g k).row,iK Dk (fF g k).row] q.w fun e w'=>e=aK (aF aB)/\Below q.w.heap.size q.w w':=fun q=>(JE Ak Dk (fF g k).row q.w (hr1.below q.h) (hr2.below q.h)).mono (fun e w' h=>⟨h.1,h.2.1⟩)
       unfold iK fQ at CL;have pc2:=T c2;have pd2:=T d2;have MR:=T x0;have TS:=T x1;have TU:=T x2;have yI:=T x3;have xk:=T x4;have Cj:=T x5;have Jf:=T x6;have O5:=T x7;have px8:=T x8;have px9:=T x9;have MS:=T y0;have TV:=T y1;have TW:=T y2;have QC:=T y3;have QD:=T y4;have Yw:=T y5;have O6:=T y6;have O7:=T y7;have py8:=T y8;have py9:=T y9;generalize fF g k=y at *;obtain⟨fr,tt,r⟩:=y;simp only at MR TS TU yI xk Cj Jf O5 px8 px9 MS TV TW QC QD Yw O6 O7 py8 py9 CL
       simp only[Nat.add_assoc (o1+k*10) 2,Nat.reduceAdd] at yI xk Cj Jf O5 px8 px9;simp only[Nat.add_assoc (o2+k*10) 2,Nat.reduceAdd] at QC QD Yw O6 O7 py8 py9;have nf:(fr != fr)=aC:=by simp
       have nt:(tt != tt)=aC:=by simp
       clear hr1 hr2 T x0 x1 x2 x3 x4 x5 x6 x7 x8 x9 y0 y1 y2 y3 y4 y5 y6 y7 y8 y9 c0 c1 d0 d1 d2 hb;go_wp2_with fail
       refine jg ?_;repeat (go_big_quiet_step ((first|(go_at_call 34;exact eY _ (CL _))|rfl)))
       refine dh (iL fun wE eG=>?_)
       have HB2:=dP (eU pU.out eG);clear CL pc2 pd2 MR TS TU yI xk Cj Jf O5 px8 px9 MS TV TW QC QD Yw O6 O7 py8 py9 c2 nf nt eG;go_wp2;go_roundw
       case rel=>exact⟨k+1,by omega,by go_num,HB2.out⟩
       case measure=>simp[dG];omega
      ·have k1:¬ ((k:Int)<g.dS.length):=by omega
       have HE:=dP (eU HB.out hb);clear hb T;go_wp2;go_ret
       exact⟨rfl,HE.out⟩
theorem aG9 (B:Nat) (g:Gr) (n:Nat) (x:Ac) (fp:Fp) (w:aI) (h:iP w B 0 (fZ g) fp) (ok:OkG g n) (hk:xu x=aB) (hm:rH g x=aB) (ha:ji x.a) (hb:ji x.b) (e:x.kind=5) :
  dF dA 83 #[aO (au ⟨B,0,ak⟩),qU x] w fun e w'=>e=aK (aF (gQ g x).2)/\fH w w' B 0 (fZ (gQ g x).1) fp:=by
 rw[rH,bI] at hm;obtain⟨hbl,hup⟩:=hm;have hf:=Jy hbl (Kt x).1;rw[FC,ok.ml] at hf;obtain⟨a,ea⟩:∃ a:Nat,x.a=(a:Int):=⟨x.a.toNat,by omega⟩
 have han:a<n:=by omega
 have hin:inB x.a 0 ((g.mem.length:Int)-1)=aB:=iZ.2 ⟨by omega,by rw[ok.ml];omega⟩
 have hta:x.a.toNat=a:=by omega
 rw[xu,decide_eq_true_eq] at hk;have hS:qU x=.iface 159 (aP #[ah aA x.a,ah aA x.b]):=by rw[qU,if_neg (by omega),if_neg (by omega),if_neg (by omega),if_neg (by omega),if_pos e]
 rw[hS];rw[decide_eq_false (by omega:¬ x.kind=3),Bool.false_or] at hup
 rw[Kv (by omega),Ic] at hbl
 rw[Po (by omega) hin hup,if_neg (by omega),if_neg (by omega),if_neg (by omega),if_pos e,if_pos hbl]
 rw[hta,ea];exact as4 B g n a x.b fp w h ok han hb
def GU:Prop:=∀ (A:Ga) (g:Gr) (n:Nat) (x:Ac) (w:aI),uU w A g->OkG g n->ji x.a->ji x.b->x.txt.length<=1048576->x.kind=5->dF dA 13 #[gX A g,o8 x] w fun e w'=>Nh w w' e (gQ g x).1 (DN (gQ g x).2)
theorem Q7:GU:=fun A g n x w h ok ha hb ht h5=>QZ A g n x w h ok ha hb ht (fun B fp w h hk hm=>aG9 B g n x fp w h ok hk hm ha hb h5)
theorem Q8 {cs: List Int} (h:nX cs Z):Z.length<=200/\Fits Z:=by
 rcases h with ⟨h1,h2,h3⟩|⟨_,rfl⟩
 ·obtain⟨hok,hall⟩:=xK h1
  have h18:=mM hok;have hM:∀ i,i<cs.length->el cs i<=((100000:Nat):Int):=fun i hi=>(hall i hi).2
  have e:=h3.unique (JQ h18.1 hM);rw[e];have hc:=Iu (M:=100000) (fun i hi=>⟨(hall i hi).1,hM i hi⟩)
  exact⟨by omega,ES h18.2 (cO _)⟩
 ·exact⟨by simp,fun x hx=>by simp at hx⟩
def QE:Prop:=∀ (a:Option dH) (len cap:Nat) (cs:List Int) (w:aI),Vec w a len cs->len<=cap->cap<=dD->dF dA 23 #[aj a len cap] w fun e w'=>∃ Z,nX cs Z/\Dj w w' e Z
theorem ah2:QE:=by
 intro a len cap cs w hv hl hm;have hW:=MG a len cap cs w hv hl hm;clear hv;go_enter Tryz.func23,Tryz.ntmps23
 go_wp2_with fail
 refine hW.mono ?_;rintro e w1 ⟨Z,hZ,hA⟩;have HA:aG (∃ Z,nX cs Z/\Dj w w1 e Z):=⟨Z,hZ,hA⟩;obtain⟨g,o,c,rfl,_⟩:=hA;clear hZ hW;generalize Z.length=m at *;go_wp2;go_ret
 exact HA.out
def qW (g:Gr) (k:Nat):List Int:=lN ((List.range k).filter (fun i=>(eF g i).done))
def QF (g:Gr):List Int:=if jA g=aB then qW g g.mem.length else []
theorem TY (g:Gr) (k:Nat):(qW g k).length<=k:=by
 unfold qW;rw[jl];have:=List.length_filter_le (fun i=>(eF g i).done) (List.range k)
 simpa using this
theorem ah3 (g:Gr) (k:Nat):qW g (k+1)=if (eF g k).done=aB then qW g k++[(k:Int)] else qW g k:=by
 unfold qW;rw[List.range_succ,List.filter_append]
 cases h:(eF g k).done<;>simp[h,lN]
def voN (g:Gr) (i:Nat):List (List UInt8):=(aK4 (eF g i)).1
def q4 (g:Gr) (i k j h:Nat):Bool:=!(decide (el (eF g i).dR k=el (eF g j).dR h)&&!decide ((voN g i).getD k []=(voN g j).getD h []))
section
attribute [local irreducible] sv
end
def MW:Prop:=∀ (A:Ga) (g:Gr) (w:aI),uU w A g->dF dA 22 #[gX A g] w fun e w'=>EO w w' e (QF g)
theorem ah4 (A:Ga) (g:Gr) (w:aI) (hv:wZ w A g) (h5:g.mem.length<=5) :
  dF dA 57 #[gX A g] w fun e w'=>EO w w' e (qW g g.mem.length):=by
 have hB0:=dX w (aH (iW A g) 28);have hx:=Bx.new w 28 (iW A g);have h0:=hv.below hB0;unfold gX at *;unfold iW at *;generalize hW:w.alloc (aH #[aj A.ma g.mem.length A.mc,aj A.ua g.up.length A.uc,aj A.la g.dS.length A.lc] 28)=W at *;have hb0:=dX W (aH #[] 2);have jv:aG (dY.ow (W.alloc (aH #[] 2)) (gJ []) (aj (au ⟨W.heap.size,0,ak⟩) 0 0) (fun _=>False)):=je.2 ⟨_,0,ak,rfl,iQ.nil _ _ (kL _ _),fun b=>by simp⟩
 have HX:=dP hx;have HV:=dP h0;have HB0:aG (∀ X,Below W.heap.size W X->Below w.heap.size w X):=fun X h=>eU hB0 h
 have hws:=hB0.size;have HBz:=dP hb0;obtain⟨c0,c1,c2⟩:=Bx.g3 (hx.below hb0);clear hv hx h0 hB0 hb0;go_enter Tryz.func57,Tryz.ntmps57
 go_upto_region 2 with fail
 go_wp2_with fail
 clear c0 c1 c2
 go_loopw [3,10] (fun v i wr=>∃ (k:Nat) (a:Option dH) (cc:Nat) (Z:List Int) (fz:Fp),k<=g.mem.length/\i=ah aA (k:Int)/\v=aj a Z.length cc/\aG (Z=qW g k)/\dY.ow wr (gJ Z) (aj a Z.length cc) fz/\(∀ b,fz b->W.heap.size<=b)/\Below W.heap.size W wr) (fun _ i _=>g.mem.length-(dG i).toNat)
 case atStart=>exact⟨0,some ⟨W.heap.size,0,none⟩,0,[],_,cZ _,rfl,rfl,rfl,jv.out,fun b h=>h.elim,HBz.out⟩
 case round =>
  obtain⟨k,a,cc,Z,fz,hk,rfl,rfl,hZ,hO,hfz,hgr⟩:=hrel;have hzl:Z.length<=1000000:=by rw[hZ.out];have:=TY g k;omega
  have hgs:=hgr.size;by_cases hlt:k<g.mem.length
  ·have k1:(k:Int)<g.mem.length:=by omega
   have k0:(0:Int)<=k:=by omega
   obtain⟨b,off,Ak,hma,⟨d0,d1,d2,d3,d4⟩,hms⟩:=(HV.out.below hgr).member (k:=k) hlt;rw[hma];have hbm:=dX wr (aH #[ah aA (eF g k).id,ah aA (eF g k).n,aj Ak.ra (eF g k).rows.length Ak.rc,aj Ak.sa (eF g k).dR.length Ak.sc,aF (eF g k).done] 47);have hbx:=Bx.new wr 47 #[ah aA (eF g k).id,ah aA (eF g k).n,aj Ak.ra (eF g k).rows.length Ak.rc,aj Ak.sa (eF g k).dR.length Ak.sc,aF (eF g k).done];have HN:aG (qW g (k+1)=if (eF g k).done=aB then Z++[(k:Int)] else Z):=by rw[aG,ah3,hZ.out]
   have HO:=dP (dY.ig hO hbm);have HG:=dP (hgr.trans (hbm.mono hgs));clear hma hms hgr hO hZ hbm;go_upto_region 5 with fail
   generalize wr.alloc (aH #[ah aA (eF g k).id,ah aA (eF g k).n,aj Ak.ra (eF g k).rows.length Ak.rc,aj Ak.sa (eF g k).dR.length Ak.sc,aF (eF g k).done] 47)=wm at *;have hsz:=HG.out.size;clear d0 d1 d2 d3 d4;obtain⟨m0,m1,m2,m3,m4⟩:=Bx.r5 hbx;clear hbx m0 m1 m2 m3
   cases hd:(eF g k).done with
   | false =>
    have HE:aG (Z=qW g (k+1)):=by rw[aG,HN.out,hd];rfl
    rw[hd] at m4;clear hd HN;go_wp2;go_roundw
    case rel=>exact⟨k+1,a,cc,Z,fz,by omega,by go_num,rfl,HE,HO.out,hfz,HG.out⟩
    case measure=>simp[dG];omega
   | true =>
    have HE:aG (Z++[(k:Int)]=qW g (k+1)):=by rw[aG,HN.out,hd];rfl
    rw[hd] at m4;clear hd HN;obtain⟨a',c',ea,hA⟩:=nP (k:Int) HO.out hzl
    cases ea
    go_wp2_with (at_builtin;refine fG (by rfl) _ _ _ _ (by rfl) _ _ (by rfl) (by rfl) hA ⟨rfl,rfl,rfl,rfl⟩ ?_;rintro v1 w2 ⟨a1,e1,f1,rfl,q1,q2,q3⟩;have tN:aG (dY.ow w2 (gJ (Z++[(k:Int)])) (aj a1 (Z.length+1) e1) f1):=q1;have zO:aG (∀ b,f1 b->fz b\/wm.heap.size<=b):=q2;have zQ:aG (eX fz wm w2):=q3;clear q1 q2 q3 hA)
    have HL:aG ((Z++[(k:Int)]).length=Z.length+1):=by rw[aG,bD];rfl
    go_roundw
    case rel=>exact⟨k+1,a1,e1,Z++[(k:Int)],f1,by omega,by go_num,by rw[HL.out],HE,by rw[HL.out];exact tN.out,fun b hb=>(zO.out b hb).elim (hfz b) (fun h=>by omega),zQ.out.below HG.out (by omega) (fun b hb=>hfz b hb)⟩
    case measure=>simp[dG];omega
  ·have k1:¬ ((k:Int)<g.mem.length):=by omega
   have HE:aG (qW g g.mem.length=Z):=by rw[aG,hZ.out,show k=g.mem.length by omega]
   have HF:aG (oN w wr (gJ Z) (aj a Z.length cc)):=⟨fz,hO,fun b hb=>by have:=hfz b hb;omega,HB0.out _ hgr⟩
   clear hO hgr hZ;go_wp2;go_ret
   rw[HE.out];exact⟨a,cc,rfl,HF.out⟩
theorem Yz:MW:=by
 intro A g w hv;have hb0:=dX w (aH #[aj A.ma g.mem.length A.mc,aj A.ua g.up.length A.uc,aj A.la g.dS.length A.lc] 28);have hx0:=Bx.new w 28 #[aj A.ma g.mem.length A.mc,aj A.ua g.up.length A.uc,aj A.la g.dS.length A.lc];have hG:=P6 A g (w.alloc (aH #[aj A.ma g.mem.length A.mc,aj A.ua g.up.length A.uc,aj A.la g.dS.length A.lc] 28)) (hv.below hb0);have HV:=dP (hv.below hb0);unfold gX iW at hG ⊢;generalize qP:w.alloc (aH #[aj A.ma g.mem.length A.mc,aj A.ua g.up.length A.uc,aj A.la g.dS.length A.lc] 28)=W at *;have HX:=dP hx0;have HB0:=dP hb0;obtain⟨c0,c1,c2⟩:=Bx.g3 hx0;clear hv hb0 hx0;go_enter Tryz.func22,Tryz.ntmps22
 go_wp2_with fail
 refine hG.mono ?_;rintro e w1 ⟨rfl,hb1⟩;have HB1:=dP (eU HB0.out hb1);have HV1:=dP (HV.out.below hb1);clear c0 c1 c2;obtain⟨c0,c1,c2⟩:=Bx.g3 (HX.out.below hb1);clear hG hb1 qP
 cases hok:jA g with
 | false =>
  have HZ:aG (QF g=[]):=by rw[aG,QF,hok];rfl
  have HE:aG (oN w (w1.alloc (aH #[] 2)) (gJ []) (aj (au ⟨w1.heap.size,0,ak⟩) 0 0)):=⟨_,je.2 ⟨_,0,ak,rfl,iQ.nil _ _ (kL _ _),fun b=>Iff.rfl⟩,fun b h=>(by cases h),HB1.out.trans ((dX w1 _).mono HB1.out.size)⟩
  clear hok;go_wp2;go_ret
  rw[HZ.out];exact⟨_,_,rfl,HE.out⟩
 | true =>
  have HZ:aG (QF g=qW g g.mem.length):=by rw[aG,QF,if_pos hok]
  obtain⟨n,ok⟩:=oD.1 hok;have hE:=ah4 A g w1 HV1.out.Mc (by rw[ok.ml];exact ok.n5.2)
  unfold gX iW at hE;clear hok ok;go_wp2_with fail
  refine hE.mono ?_;rintro e w2 ⟨a,c,rfl,hN⟩;have HF:=dP (hN.before HB1.out);clear hN hE c0 c1 c2;go_wp2;go_ret
  rw[HZ.out];exact⟨a,c,rfl,HF.out⟩
theorem aD3 {g: Gr} {k j: Nat} (h:j<(qW g k).length):∃ i:Nat,el (qW g k) j=(i:Int)/\i<k/\(eF g i).done=aB:=by
 have hm:=kK (xs:=qW g k) h;unfold qW lN at hm;obtain⟨i,hi,e⟩:=List.mem_map.1 hm;obtain⟨h1,h2⟩:=List.mem_filter.1 hi;exact⟨i,e.symm,List.mem_range.1 h1,h2⟩
section
attribute [local irreducible] sv
end
section
theorem Gx.aD4 {X w3: aI} {o: Nat} {x0 x1 x2: aJ} {A': Ga} {g': Gr} (hbx:Bx w3 o 28 #[x0,x1,x2]) (h:kE X w3 (fZ g') (jm A' g')) (ho:o<X.heap.size) :
  Gx (((w3.setCell ⟨o,0,ak⟩ (aj A'.ma g'.mem.length A'.mc)).setCell ⟨o,1,ak⟩ (aj A'.ua g'.up.length A'.uc)).setCell ⟨o,2,ak⟩ (aj A'.la g'.dS.length A'.lc)) o o A' g':=by
 have hw:=oK w3 o (a:=aj A'.ma g'.mem.length A'.mc) (b:=aj A'.ua g'.up.length A'.uc) (c:=aj A'.la g'.dS.length A'.lc);obtain⟨f,h1,h2,_⟩:=h;refine⟨?_,f,iy h1 hw (fun b hb e=>by have:=h2 b hb;omega),fun b hb=>by have:=h2 b hb;omega⟩
 have:=((hbx.lK 0 (aj A'.ma g'.mem.length A'.mc)).lK 1 (aj A'.ua g'.up.length A'.uc)).lK 2 (aj A'.la g'.dS.length A'.lc);simpa using this
attribute [local irreducible] sv
end
end Go.Proofs.YtafimeakbdmkjaaGreat