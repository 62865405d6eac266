/-
  Texts in one.
-/
import Derived.Test.YtafimeakbdmkjaaGreatXaa
import Derived.Test.YtafimeakbdmkjaaGreatXas
import Derived.Test.YtafimeakbdmkjaaGreatXah
import Derived.Test.YtafimeakbdmkjaaGreatXao
import Derived.Test.YtafimeakbdmkjaaGreatXai
import Derived.Test.YtafimeakbdmkjaaGreatXan
import Derived.Deep.LoopGhost
import Derived.Deep.RegionLaw
import Derived.Lib.SlicesDelete
namespace Go.Proofs.YtafimeakbdmkjaaGreat
open Bool renaming and_eq_true->bI,false->aC,true->aB
open Go renaming Calls->dF,Value->aJ,World->aI,bodyPost_ret->bY,wpQuiet_nil->dh
open Go.Ending renaming returned->aK
open Go.IntKind renaming i64->aA
open Go.Obj renaming cells->aH
open Go.Proofs.Tryz renaming prog->dA
open Go.RowKit renaming Hid->aG
open Go.RowKit.Below renaming refl->dw
open Go.Value renaming agg->aP,bool->aF,int->ah,pointer->aO,slice->aj
open Go.World renaming block_lt_of_cell?->aX,cell?_of_block->bf,size_alloc->bH
open List renaming length_cons->bP
open Nat renaming le_refl->cO,le_trans->bZ
open Option renaming none->ak,some->au
set_option linter.unusedVariables false
set_option linter.unusedSimpArgs false
open Go.RowKit Go.Sort
set_option maxRecDepth 100000
set_option maxHeartbeats 12800000
variable {B b c i k n o off:Nat} {X w:aI} {g:Gr} {fp:Fp}
def uf (m m':Mb) (flag:Bool):Mb×Bool:=if iG m=aB then (if m.done=aB then (m,aC) else if flag=aB then (m',aB) else (m,aC)) else (kY,aC)
def P9 (X:aI) (B:Nat) (fp:Fp) (m':Mb) (b:Bool) (w':aI):Prop:=if b=aB then fH X w' B 0 (lH m') fp else ∃ m1,fH X w' B 0 (lH m1) fp
theorem P9.wrt {X w':aI} {B:Nat} {fp:Fp} {m':Mb} {b:Bool} (h:P9 X B fp m' b w'):eX (fun x=>fp x\/x=B) X w':=by
 unfold P9 at h
 split at h
 ·exact h.wrt
 ·obtain⟨m1,h⟩:=h
  exact h.wrt
theorem Kq (F:Nat) (C:Array aJ) (A:Ma) (m m':Mb) (flag:Bool) (w:aI) (hv:tY w A m) (hE:∀ (args:Array aJ) (w:aI),(callFunc F args).run dA w=.ok (.enter F args) w)
  (hm':iG m=aB->flag=aB->m'.n=(m'.rows.length:Int))
  (hF:∀ X B fp i n,Below w.heap.size w X->iP X B 0 (lH m) fp->iO m i n->m.done=aC->dF dA F (#[aO (au ⟨B,0,ak⟩)]++C) X fun e w'=>(flag=aB/\e=aK (.tuple #[])/\fH X w' B 0 (lH m') fp)\/(flag=aC/\Gu e/\∃ m1,fH X w' B 0 (lH m1) fp)) :
  dF dA 108 #[iU A m,.func (.func F) #[] C] w fun e w'=>IK w w' e (uf m m' flag).1 (uf m m' flag).2:=by
 have hmf:∀ (fn:Fn) (first cap:Array aJ) (w:aI),(Instr.makeFunc fn first cap).run dA w=.ok (.func fn first cap) w:=fun _ _ _ _=>rfl
 have hb1:=dX w (aH #[ah aA m.id,ah aA m.n,aj A.ra m.rows.length A.rc,aj A.sa m.dR.length A.sc,aF m.done] 47);have hb2:=dX (w.alloc (aH #[ah aA m.id,ah aA m.n,aj A.ra m.rows.length A.rc,aj A.sa m.dR.length A.sc,aF m.done] 47)) (aH #[.func (.func F) #[] C] 140);have hb3:=dX ((w.alloc (aH #[ah aA m.id,ah aA m.n,aj A.ra m.rows.length A.rc,aj A.sa m.dR.length A.sc,aF m.done] 47)).alloc (aH #[.func (.func F) #[] C] 140)) (aH #[ah aA 0,ah aA 0,aj ak 0 0,aj ak 0 0,aF aC] 47);have hx1:Bx (((w.alloc (aH #[ah aA m.id,ah aA m.n,aj A.ra m.rows.length A.rc,aj A.sa m.dR.length A.sc,aF m.done] 47)).alloc (aH #[.func (.func F) #[] C] 140)).alloc (aH #[ah aA 0,ah aA 0,aj ak 0 0,aj ak 0 0,aF aC] 47)) w.heap.size 47 #[ah aA m.id,ah aA m.n,aj A.ra m.rows.length A.rc,aj A.sa m.dR.length A.sc,aF m.done]:=((Bx.new w _ _).alloc _).alloc _
 have hx2:Bx (((w.alloc (aH #[ah aA m.id,ah aA m.n,aj A.ra m.rows.length A.rc,aj A.sa m.dR.length A.sc,aF m.done] 47)).alloc (aH #[.func (.func F) #[] C] 140)).alloc (aH #[ah aA 0,ah aA 0,aj ak 0 0,aj ak 0 0,aF aC] 47)) (w.heap.size+1) 140 #[.func (.func F) #[] C]:=by
  have:=(Bx.new (w.alloc (aH #[ah aA m.id,ah aA m.n,aj A.ra m.rows.length A.rc,aj A.sa m.dR.length A.sc,aF m.done] 47)) 140 #[.func (.func F) #[] C]).alloc (aH #[ah aA 0,ah aA 0,aj ak 0 0,aj ak 0 0,aF aC] 47);simp only[bH] at this;exact this
 have hx3:Bx (((w.alloc (aH #[ah aA m.id,ah aA m.n,aj A.ra m.rows.length A.rc,aj A.sa m.dR.length A.sc,aF m.done] 47)).alloc (aH #[.func (.func F) #[] C] 140)).alloc (aH #[ah aA 0,ah aA 0,aj ak 0 0,aj ak 0 0,aF aC] 47)) (w.heap.size+1+1) 47 #[ah aA 0,ah aA 0,aj ak 0 0,aj ak 0 0,aF aC]:=by
  have:=Bx.new ((w.alloc (aH #[ah aA m.id,ah aA m.n,aj A.ra m.rows.length A.rc,aj A.sa m.dR.length A.sc,aF m.done] 47)).alloc (aH #[.func (.func F) #[] C] 140)) 47 #[ah aA 0,ah aA 0,aj ak 0 0,aj ak 0 0,aF aC];simp only[bH] at this;exact this
 have pK:=eU hb1 hb2;have J8:=eU pK hb3;have hM0:=PX A m (((w.alloc (aH #[ah aA m.id,ah aA m.n,aj A.ra m.rows.length A.rc,aj A.sa m.dR.length A.sc,aF m.done] 47)).alloc (aH #[.func (.func F) #[] C] 140)).alloc (aH #[ah aA 0,ah aA 0,aj ak 0 0,aj ak 0 0,aF aC] 47)) (hv.below J8);unfold iU iq at *;have qH:=dP hx1;have l9:=dP hx2;have BZ:=dP hx3;have HB0:=dP J8;have HV:=dP hv;obtain⟨c0,c1,c2,c3,c4⟩:=Bx.r5 hx1;clear hb1 hb2 hb3 hx1 hx2 hx3 pK J8 hv
 cases hok:iG m with
 | false =>
  have HZ:aG (uf m m' flag=(kY,aC)):=by rw[aG,uf,if_neg (by rw[hok];decide)]
  rw[hok] at hM0;clear hok hm' hF;go_enter Tryz.func108,Tryz.ntmps108
  go_wp2_with fail
  generalize (((w.alloc (aH #[ah aA m.id,ah aA m.n,aj A.ra m.rows.length A.rc,aj A.sa m.dR.length A.sc,aF m.done] 47)).alloc (aH #[.func (.func F) #[] C] 140)).alloc (aH #[ah aA 0,ah aA 0,aj ak 0 0,aj ak 0 0,aF aC] 47))=W0 at *;refine hM0.mono ?_;rintro e w1 ⟨rfl,hb1⟩;have hR:=BZ.out.below hb1;have HB1:=dP (eU HB0.out hb1);obtain⟨z0,z1,z2,z3,z4⟩:=Bx.r5 hR;obtain⟨f0,f1,f2,f3,f4⟩:=hR.f5;clear hR hb1 c0 c1 c2 c3 c4 hM0;go_wp2;refine bY (v:=.tuple #[iU ⟨ak,0,ak,0⟩ kY,aF aC]) (by simp[results,Tryz.results108,go_sem,iU,iq,kY, *]) rfl ?_
  rw[HZ.out];exact⟨_,rfl,EC ((qG w1 (w.heap.size+1+1)).below HB1.out HB1.out.size (fun b h=>by omega))⟩
 | true =>
 obtain⟨i,n,ok⟩:=nD.1 hok;have HZ:aG (uf m m' flag=if m.done=aB then (m,aC) else if flag=aB then (m',aB) else (m,aC)):=by rw[aG,uf,if_pos hok]
 have HM':=dP (hm' hok);have RJ:aG (m.n=(m.rows.length:Int)):=by rw[aG,ok.hn,ok.len]
 rw[hok] at hM0;have HF:=dP hF;clear hok hm' hF;go_enter Tryz.func108,Tryz.ntmps108
 go_wp2_with fail
 generalize (((w.alloc (aH #[ah aA m.id,ah aA m.n,aj A.ra m.rows.length A.rc,aj A.sa m.dR.length A.sc,aF m.done] 47)).alloc (aH #[.func (.func F) #[] C] 140)).alloc (aH #[ah aA 0,ah aA 0,aj ak 0 0,aj ak 0 0,aF aC] 47))=W0 at *;refine hM0.mono ?_;rintro e w1 ⟨rfl,hb1⟩;have HB1:=dP (eU HB0.out hb1);have Cm:=dP (qH.out.below hb1);have SV:=dP (l9.out.below hb1);have HY3:=dP (BZ.out.below hb1);clear hb1 c0 c1 c2 c3 c4 hM0 qH l9 BZ HB0;have Qa:=Tc A m i n w1 (HV.out.below HB1.out) ok;unfold iU iq at Qa;obtain⟨c0,c1,c2,c3,c4⟩:=Bx.r5 Cm.out;go_wp2_with fail
 refine Qa.mono ?_;rintro e w2 ⟨A2,rfl,fp,hl2,hf2,hb2⟩;unfold Ju Fq;have HB2:=dP (eU HB1.out hb2);have HZ1:=dP (Cm.out.below hb2);have HZ2:=dP (SV.out.below hb2);have HZ3:=dP (HY3.out.below hb2);have hlt2:=jd hl2;have hw1:=HY3.out.lt;have hs2:=hb2.size;clear c0 c1 c2 c3 c4 Qa
 -- the copy lies in a box of its own
 have hba:=dX w2 (aH #[ah aA m.id,aj A2.ra m.rows.length A2.rc,aj A2.sa m.dR.length A2.sc,aF m.done] 183);have hxb:=Bx.new w2 183 #[ah aA m.id,aj A2.ra m.rows.length A2.rc,aj A2.sa m.dR.length A2.sc,aF m.done];have hP3:iP (w2.alloc (aH #[ah aA m.id,aj A2.ra m.rows.length A2.rc,aj A2.sa m.dR.length A2.sc,aF m.done] 183)) w2.heap.size 0 (lH m) fp:=ab1 hxb (gG hl2 hba) (fun k=>by have:=hlt2 _ k;omega)
 have HB3:=dP (eU HB2.out hba);have Xz:=dP (HZ1.out.below hba);have HU2:=dP (HZ2.out.below hba);have HU3:=dP (HZ3.out.below hba);have hB3:=hxb.lt;have hfl:∀ b,fp b->w.heap.size+1+1<b/\b<w2.heap.size:=fun b hb=>⟨by have:=hf2 b hb;omega,hlt2 b hb⟩
 clear hxb hl2 hf2 hlt2 hb2 hba Cm SV HY3 HZ1 HZ2 HZ3;go_upto_region 4 with fail
 generalize w2.alloc (aH #[ah aA m.id,aj A2.ra m.rows.length A2.rc,aj A2.sa m.dR.length A2.sc,aF m.done] 183)=V3 at *;generalize w2.heap.size=B at *;have hbt:=dX V3 (aH #[aF aC] 4);have hP4:=hP3.below hbt;have hB4:=eU HB3.out hbt;have hw4:=(HU2.out.below hbt).at 0 (v:=.func (.func F) #[] C) rfl;have aO2:=(Bx.new V3 4 #[aF aC]).lt
 have hT:=PN 138 #[] #[aO (au ⟨B,0,ak⟩),aO (au ⟨w.heap.size+1,0,ak⟩)] V3 (fun b X=>b=(!m.done&&flag)/\P9 (V3.alloc (aH #[aF aC] 4)) B fp m' b X) (fun _ _=>enters_of Tryz.func138 (by kernel_rfl) rfl _ _)
  ((ap3 F C m B (w.heap.size + 1) fp _ (fun e w' => (m.done = aC /\ flag = aB /\ e = aK (.tuple #[]) /\ fH (V3.alloc (aH #[aF aC] 4)) w' B 0 (lH m') fp) \/ ((m.done = aB \/ flag = aC) /\ Gu e /\ ∃ m1,fH (V3.alloc (aH #[aF aC] 4)) w' B 0 (lH m1) fp)) hE hP4 hw4 (fun hd => (HF.out _ B fp i n hB4 hP4 ok hd).mono (fun e w' h => by
   rcases h with ⟨h1,h2,h3⟩|⟨h1,h2,h3⟩
   ·exact .inl ⟨hd,h1,h2,h3⟩
   ·exact .inr ⟨.inr h1,h2,h3⟩)) (fun hd e hg=>.inr ⟨.inl hd,hg,m,fH.refl hP4⟩) (fun e w' h=>by
   rcases h with ⟨_,_,h,_⟩|⟨_,h,_⟩
   ·exact .inl h
   ·exact .inr h)).mono (fun e w' h=>by
   rcases h with ⟨h1,h2,h3,h4⟩|⟨h1,h2,h3⟩
   ·exact .inl ⟨h3,by rw[h1,h2];rfl,by unfold P9;rw[if_pos rfl];exact h4⟩
   ·refine .inr ⟨h2, ?_,by unfold P9;rw[if_neg (by decide)];exact h3⟩
    rcases h1 with h1|h1<;>rw[h1]<;>simp)) (fun b X h=>(Bx.new V3 4 #[aF aC]).wrt h.2.wrt (fun k=>by rcases k with k|k;have:=hfl _ k;omega;omega))
 clear hP3 hbt hP4 hB4 hw4;have aL2:=Xz;go_wp2_with fail
 refine hT.mono ?_;rintro e Y ⟨b,X,rfl,⟨hbv,uJ⟩,hWt⟩;have hWX:=uJ.wrt;have hX0:Below w.heap.size w (V3.alloc (aH #[aF aC] 4)):=HB3.out.trans ((dX V3 _).mono HB3.out.size);have IW:Below w.heap.size w X:=hWX.below hX0 hX0.size (fun x hx=>by rcases hx with hx|hx;have:=hfl x hx;omega;omega)
 have hBY:Below w.heap.size w Y:=hWt.below IW IW.size (fun x hx=>by have:=HB3.out.size;omega)
 have keep:∀ {k:Nat} {T:TypeId} {cs:Array aJ},k<w.heap.size+1+1+1->Bx V3 k T cs->Bx Y k T cs:=fun {k T cs} hk hx=>((hx.alloc (aH #[aF aC] 4)).wrt hWX (fun kk=>by rcases kk with kk|kk;have:=hfl _ kk;omega;omega)).wrt hWt (fun kk=>by omega)
 have HT1:aG (Bx Y w.heap.size 47 #[ah aA m.id,ah aA m.n,aj A.ra m.rows.length A.rc,aj A.sa m.dR.length A.sc,aF m.done]):=keep (by omega) Xz.out
 have HT3:aG (Bx Y (w.heap.size+1+1) 47 #[ah aA 0,ah aA 0,aj ak 0 0,aj ak 0 0,aF aC]):=keep (by omega) HU3.out
 have hsz:(V3.alloc (aH #[aF aC] 4)).heap.size=V3.heap.size+1:=bH _ _
 have hpl:∃ (mm:Mb) (gU:Fp),iP Y B 0 (lH mm) gU/\(∀ x,gU x->w.heap.size+1+1<x)/\(b=aB->mm=m'):=by
  have key:∀ mm,fH (V3.alloc (aH #[aF aC] 4)) X B 0 (lH mm) fp->∃ gU,iP Y B 0 (lH mm) gU/\∀ x,gU x->w.heap.size+1+1<x:=fun mm hb=>by
   obtain⟨gU,h1,h2⟩:=hb.kT
   have h3:∀ x,gU x->w.heap.size+1+1<x/\x≠V3.heap.size:=fun x hx=>by
    rcases h2 x hx with k|k
    ·have:=hfl x k;omega
    ·have:=HB3.out.size;omega
   exact⟨gU,h1.wrt hWt (fun x hx e=>by rcases hx with hx|hx;exact (h3 x hx).2 e;omega),fun x hx=>(h3 x hx).1⟩
  unfold P9 at uJ
  cases b with
  | true =>
   rw[if_pos rfl] at uJ;obtain⟨gU,h1,h2⟩:=key m' uJ;exact⟨m',gU,h1,h2,fun _=>rfl⟩
  | false =>
   rw[if_neg (by decide)] at uJ
   obtain⟨m1,uJ⟩:=uJ;obtain⟨gU,h1,h2⟩:=key m1 uJ;exact⟨m1,gU,h1,h2,fun h=>by cases h⟩
 obtain⟨mm,gU,hPY,hf1,hmm⟩:=hpl;have HBY:=dP hBY;have hBl:=hPY.lt;obtain⟨A3,⟨y0,y1,y2,y3⟩,⟨q0,q1,q2,q3⟩,hl3⟩:=hPY.c4;clear hT uJ hWX hX0 IW hBY keep hWt Xz aL2 HU2 HU3 hPY hsz
 cases b with
 | true =>
  have hmm':=hmm rfl;subst hmm'
  have hdf:m.done=aC/\flag=aB:=by
   cases hd:m.done<;>cases hf:flag<;>rw[hd,hf] at hbv<;>simp at hbv ⊢
  have HZf:aG (uf m mm flag=(mm,aB)):=by rw[aG,HZ.out,if_neg (by rw[hdf.1];decide),if_pos hdf.2]
  have Qb:=Ti A3 mm Y (HM'.out hdf.2);unfold Ju Fq at Qb;clear hmm hbv hdf q0 q1 q2 q3;go_wp2_with fail
  refine Qb.mono ?_;rintro e Y2 ⟨rfl,hb2⟩;have hR:=HT3.out.below hb2
  have HN:aG (∀ {z0 z1 z2 z3 z4:aJ},kE w (((((Y2.setCell ⟨w.heap.size+1+1,0,ak⟩ z0).setCell ⟨w.heap.size+1+1,1,ak⟩ z1).setCell ⟨w.heap.size+1+1,2,ak⟩ z2).setCell ⟨w.heap.size+1+1,3,ak⟩ z3).setCell ⟨w.heap.size+1+1,4,ak⟩ z4) (jB mm) (jC A3 mm)):=fun {z0 z1 z2 z3 z4}=>by
   have hB2:=eU HBY.out hb2;exact⟨gU,iy (gG hl3 hb2) (qG Y2 (w.heap.size+1+1)) (fun x hx e=>by have:=hf1 x hx;omega),fun x hx=>by have:=hf1 x hx;omega,(qG Y2 (w.heap.size+1+1)).below hB2 hB2.size (fun x e=>by omega)⟩
  unfold iU iq;obtain⟨z0,z1,z2,z3,z4⟩:=Bx.r5 hR;obtain⟨r0,r1,r2,r3,r4⟩:=hR.f5;clear Qb hR hb2 hl3 y0 y1 y2 y3;go_wp2;refine bY (v:=.tuple #[iU A3 mm,aF aB]) (by simp[results,Tryz.results108,go_sem,iU,iq, *]) rfl ?_
  rw[HZf.out];exact⟨_,rfl,HN.out⟩
 | false =>
  have HZf:aG (uf m m' flag=(m,aC)):=by
   rw[aG,HZ.out]
   cases hd:m.done<;>cases hf:flag<;>rw[hd,hf] at hbv<;>simp at hbv ⊢
  have Qa:=Tc A m i n Y (HV.out.below HBY.out) ok;unfold iU iq at Qa;obtain⟨c0,c1,c2,c3,c4⟩:=Bx.r5 HT1.out
  have HQ:aG (∀ Z,Below Y.heap.size Y Z->(∃ v0 v1 v2 v3,Z.cell? ⟨B,0,ak⟩=au v0/\Z.cell? ⟨B,1,ak⟩=au v1/\Z.cell? ⟨B,2,ak⟩=au v2/\Z.cell? ⟨B,3,ak⟩=au v3)/\Z.frozen? ⟨B,0,ak⟩=aC/\Z.frozen? ⟨B,1,ak⟩=aC/\Z.frozen? ⟨B,2,ak⟩=aC/\Z.frozen? ⟨B,3,ak⟩=aC):=fun Z hZ=>by
   have e:=hZ.block B hBl;have t:∀ {j v},Y.cell? ⟨B,j,ak⟩=au v->Z.cell? ⟨B,j,ak⟩=au v:=fun h=>(bf e).trans h
   have u:∀ {j},Y.frozen? ⟨B,j,ak⟩=aC->Z.frozen? ⟨B,j,ak⟩=aC:=fun h=>by simp only[World.frozen?,e] at h ⊢;exact h
   exact⟨⟨_,_,_,_,t y0,t y1,t y2,t y3⟩,u q0,u q1,u q2,u q3⟩
  clear hmm hbv q0 q1 q2 q3 y0 y1 y2 y3 hl3;go_wp2_with fail
  refine Qa.mono ?_;rintro e Y1 ⟨A4,rfl,ED,hl4,hf4,hb4⟩;unfold Ju Fq;obtain⟨⟨v0,v1,v2,v3,g0,g1,g2,g3⟩,p0,p1,p2,p3⟩:=HQ.out Y1 hb4;have hsY:=hb4.size;have hW4:eX (fun x=>x=B) Y1 ((((Y1.setCell ⟨B,0,ak⟩ (ah aA m.id)).setCell ⟨B,1,ak⟩ (aj A4.ra m.rows.length A4.rc)).setCell ⟨B,2,ak⟩ (aj A4.sa m.dR.length A4.sc)).setCell ⟨B,3,ak⟩ (aF m.done)):=UY Y1 B
  have hl5:gB ((((Y1.setCell ⟨B,0,ak⟩ (ah aA m.id)).setCell ⟨B,1,ak⟩ (aj A4.ra m.rows.length A4.rc)).setCell ⟨B,2,ak⟩ (aj A4.sa m.dR.length A4.sc)).setCell ⟨B,3,ak⟩ (aF m.done)) (jB m) (jC A4 m) ED:=iy hl4 hW4 (fun x hx e=>by have:=hf4 x hx;omega)
  have oM:aG (Below w.heap.size w ((((Y1.setCell ⟨B,0,ak⟩ (ah aA m.id)).setCell ⟨B,1,ak⟩ (aj A4.ra m.rows.length A4.rc)).setCell ⟨B,2,ak⟩ (aj A4.sa m.dR.length A4.sc)).setCell ⟨B,3,ak⟩ (aF m.done))):=hW4.below (eU HBY.out hb4) (eU HBY.out hb4).size (fun x e=>by omega)
  have hT5:Bx ((((Y1.setCell ⟨B,0,ak⟩ (ah aA m.id)).setCell ⟨B,1,ak⟩ (aj A4.ra m.rows.length A4.rc)).setCell ⟨B,2,ak⟩ (aj A4.sa m.dR.length A4.sc)).setCell ⟨B,3,ak⟩ (aF m.done)) (w.heap.size+1+1) 47 #[ah aA 0,ah aA 0,aj ak 0 0,aj ak 0 0,aF aC]:=(HT3.out.below hb4).wrt hW4 (fun e=>by omega)
  have HT5:=dP hT5;have P8:=dP hl5;have x0:((((Y1.setCell ⟨B,0,ak⟩ (ah aA m.id)).setCell ⟨B,1,ak⟩ (aj A4.ra m.rows.length A4.rc)).setCell ⟨B,2,ak⟩ (aj A4.sa m.dR.length A4.sc)).setCell ⟨B,3,ak⟩ (aF m.done)).cell? ⟨B,0,ak⟩=au (ah aA m.id):=by simp[go_sem,g0,g1,g2,g3]
  have x1:((((Y1.setCell ⟨B,0,ak⟩ (ah aA m.id)).setCell ⟨B,1,ak⟩ (aj A4.ra m.rows.length A4.rc)).setCell ⟨B,2,ak⟩ (aj A4.sa m.dR.length A4.sc)).setCell ⟨B,3,ak⟩ (aF m.done)).cell? ⟨B,1,ak⟩=au (aj A4.ra m.rows.length A4.rc):=by simp[go_sem,g0,g1,g2,g3]
  have x2:((((Y1.setCell ⟨B,0,ak⟩ (ah aA m.id)).setCell ⟨B,1,ak⟩ (aj A4.ra m.rows.length A4.rc)).setCell ⟨B,2,ak⟩ (aj A4.sa m.dR.length A4.sc)).setCell ⟨B,3,ak⟩ (aF m.done)).cell? ⟨B,2,ak⟩=au (aj A4.sa m.dR.length A4.sc):=by simp[go_sem,g0,g1,g2,g3]
  have x3:((((Y1.setCell ⟨B,0,ak⟩ (ah aA m.id)).setCell ⟨B,1,ak⟩ (aj A4.ra m.rows.length A4.rc)).setCell ⟨B,2,ak⟩ (aj A4.sa m.dR.length A4.sc)).setCell ⟨B,3,ak⟩ (aF m.done)).cell? ⟨B,3,ak⟩=au (aF m.done):=by simp[go_sem,g0,g1,g2,g3]
  have Qb:=Ti A4 m ((((Y1.setCell ⟨B,0,ak⟩ (ah aA m.id)).setCell ⟨B,1,ak⟩ (aj A4.ra m.rows.length A4.rc)).setCell ⟨B,2,ak⟩ (aj A4.sa m.dR.length A4.sc)).setCell ⟨B,3,ak⟩ (aF m.done)) RJ.out;unfold Ju Fq at Qb;have yJ:aG (∀ x,ED x->w.heap.size+1+1<x):=fun x hx=>by have:=hf4 x hx;have:=HT3.out.lt;omega
  clear hl4 hf4 hl5 hT5 hW4 Qa c0 c1 c2 c3 c4 HQ;go_upto_region 7 with fail
  generalize ((((Y1.setCell ⟨B,0,ak⟩ (ah aA m.id)).setCell ⟨B,1,ak⟩ (aj A4.ra m.rows.length A4.rc)).setCell ⟨B,2,ak⟩ (aj A4.sa m.dR.length A4.sc)).setCell ⟨B,3,ak⟩ (aF m.done))=Y5 at *;clear g0 g1 g2 g3 p0 p1 p2 p3;go_wp2_with fail
  refine Qb.mono ?_;rintro e Y2 ⟨rfl,hb2⟩;have hR:=HT5.out.below hb2
  have HN:aG (∀ {z0 z1 z2 z3 z4:aJ},kE w (((((Y2.setCell ⟨w.heap.size+1+1,0,ak⟩ z0).setCell ⟨w.heap.size+1+1,1,ak⟩ z1).setCell ⟨w.heap.size+1+1,2,ak⟩ z2).setCell ⟨w.heap.size+1+1,3,ak⟩ z3).setCell ⟨w.heap.size+1+1,4,ak⟩ z4) (jB m) (jC A4 m)):=fun {z0 z1 z2 z3 z4}=>by
   have hB2:=eU oM.out hb2;exact⟨ED,iy (gG P8.out hb2) (qG Y2 (w.heap.size+1+1)) (fun x hx e=>by have:=yJ.out x hx;omega),fun x hx=>by have:=yJ.out x hx;omega,(qG Y2 (w.heap.size+1+1)).below hB2 hB2.size (fun x e=>by omega)⟩
  unfold iU iq;obtain⟨z0,z1,z2,z3,z4⟩:=Bx.r5 hR;obtain⟨r0,r1,r2,r3,r4⟩:=hR.f5;clear Qb hR hb2 x0 x1 x2 x3;go_wp2;refine bY (v:=.tuple #[iU A4 m,aF aC]) (by simp[results,Tryz.results108,go_sem,iU,iq, *]) rfl ?_
  rw[HZf.out];exact⟨_,rfl,HN.out⟩
section
theorem Kr (g q:Nat) (ver:Int) (X:aI) (hc:X.cell? ⟨g,q,ak⟩=au (ah aA ver)) (hf:X.frozen? ⟨g,q,ak⟩=aC) (h0:0<=ver) (hv:ver<1000000) :
  dF dA 148 #[aO (au ⟨g,q,ak⟩)] X fun e w'=>e=aK (.tuple #[])/\w'=X.setCell ⟨g,q,ak⟩ (ah aA (ver+1)):=by
 have hw:wrap64 (ver+1)=ver+1:=by unfold wrap64;omega
 go_enter Tryz.func148,Tryz.ntmps148
 go_wp2_with (go_at_call 86;refine fV (wW _) ?_)
 first|go_end0|go_ret
 exact⟨rfl,rfl⟩
theorem ap4 (g q:Nat) (ver:Int) (X:aI) (hc:X.cell? ⟨g,q,ak⟩=au (ah aA ver)) (hv:¬ ver<1000000) :
  dF dA 148 #[aO (au ⟨g,q,ak⟩)] X fun e w'=>Gu e/\w'=X:=by
 go_enter Tryz.func148,Tryz.ntmps148
 go_wp2_with (go_at_call 86;refine (rG _).mono ?_;rintro e w' ⟨⟨T,v,rfl⟩,hw'⟩;rw[hw'];clear hw')
 exact⟨rfl,⟨_,_,rfl⟩,rfl⟩
attribute [local irreducible] sv
end
section
attribute [local irreducible] sv
end
section
attribute [local irreducible] sv
theorem XD {m: Mb} (ok:iO m i n) (fr:Int) (r:Rw) (hd:m.done=aC):(fK m fr r).2=(ng i n (dO m.rows i).dQ fr&&(gu r m.n&&decide ((dO m.rows fr.toNat).ver<r.ver)))/\((fK m fr r).2=aB->(fK m fr r).1={ m with rows:=m.rows.set fr.toNat r }):=by
 have e:m.i=i:=by unfold Mb.i;rw[ok.hid];rfl
 unfold fK ng;rw[Mb.own,e,hd,ok.hid,ok.hn]
 split
 ·rename_i h
  refine⟨?_,fun h=>by cases h⟩
  rcases h with h|h|h|h|h|h
  ·rw[h];simp
  ·rw[h];simp
  ·rw[decide_eq_false (p:=fr∉_) (by simpa using h)];simp
  ·cases h
  ·rw[h];simp
  ·rw[decide_eq_false (p:=_<r.ver) (by omega)];simp
 ·rename_i h
  refine⟨?_,fun _=>rfl⟩
  simp only[not_or,Bool.not_eq_false,Int.not_le] at h;obtain⟨h1,h2,h3,_,h5,h6⟩:=h;rw[h1,h5,decide_eq_true h2,decide_eq_true h3,decide_eq_true h6]
  rfl
theorem ab2 (B:Nat) (m:Mb) (i n:Nat) (fr:Int) (Ar:Ra) (r:Rw) (fp:Fp) (w:aI) (h:iP w B 0 (lH m) fp) (ok:iO m i n) (hd:m.done=aC) (nM:ql w Ar r) :
  dF dA 150 #[aO (au ⟨B,0,ak⟩),ah aA fr,iK Ar r] w fun e w'=>((fK m fr r).2=aB/\e=aK (.tuple #[])/\fH w w' B 0 (lH (fK m fr r).1) fp)\/((fK m fr r).2=aC/\Gu e/\∃ m1,fH w w' B 0 (lH m1) fp):=by
 have gq:=iD;have hil:i<m.rows.length:=by rw[ok.len];exact ok.lt
 have jq:=ok.n5;obtain⟨g,off,c,M0⟩:=Iw.start h (by omega)
 have hba:=dX w (aH #[ah aA r.ver,aj Ar.ta r.txt.length Ar.tc,aj Ar.ga r.got.length Ar.gc,aj Ar.sa r.dQ.length Ar.sc,aF r.wed,aF r.dV,ah aA r.dW,aj Ar.ma r.dU.length Ar.mc] 44);have hxr:=Bx.new w 44 #[ah aA r.ver,aj Ar.ta r.txt.length Ar.tc,aj Ar.ga r.got.length Ar.gc,aj Ar.sa r.dQ.length Ar.sc,aF r.wed,aF r.dV,ah aA r.dW,aj Ar.ma r.dU.length Ar.mc];have M1:=M0.step hba;have ab3:=nM.below hba;obtain⟨HP1,HP2⟩:=XD ok fr r hd;have HH1:=dP HP1;have HH2:=dP HP2;clear HP1 HP2 h M0;unfold iK fQ;generalize qP:w.alloc (aH #[ah aA r.ver,aj Ar.ta r.txt.length Ar.tc,aj Ar.ga r.got.length Ar.gc,aj Ar.sa r.dQ.length Ar.sc,aF r.wed,aF r.dV,ah aA r.dW,aj Ar.ma r.dU.length Ar.mc] 44)=W1 at *;have HW:=dP hxr.lt;have fU:=dP M1;have qK:=dP hxr;have Xt:=dP ab3;obtain⟨c0,c3⟩:=M1.id';have c1:=M1.rws;rw[ok.hid] at c0;obtain⟨Ak,⟨⟨d0,d1,d2,d3⟩,d4,d5,d6,d7⟩,hrs⟩:=M1.row ok.fit hil;have T:∀ {x v},W1.cell? x=au v->∀ q:Bk W1,q.w.cell? x=au v:=fun h q=>gy q.h h
 have hO:∀ q:Bk W1,dF dA 177 #[aO (au ⟨B,0,ak⟩),ah aA fr] q.w fun e w'=>e=aK (aF (ng i n (dO m.rows i).dQ fr))/\Below q.w.heap.size q.w w':=fun q=>J7 B i n g off c Ak.sa Ak.sc (dO m.rows i).dQ fr q.w (T c0 q) (by rw[<- ok.len];exact T c1 q) ok.lt jq.2 (T d3 q) (hrs.dQ.below q.h (cO _)) hrs.ms
 have hC:∀ q:Bk W1,dF dA 166 #[aO (au ⟨B,0,ak⟩)] q.w fun e w'=>e=aK (ah aA m.n)/\Below q.w.heap.size q.w w':=fun q=>(zA B (au ⟨g,off,ak⟩) m.rows.length c q.w (T c1 q)).mono (fun e w' h=>⟨by rw[h.1,ok.hn,ok.len],by rw[h.2];exact dw _ _⟩)
 have hR:∀ q:Bk W1,dF dA 51 #[aP #[ah aA r.ver,aj Ar.ta r.txt.length Ar.tc,aj Ar.ga r.got.length Ar.gc,aj Ar.sa r.dQ.length Ar.sc,aF r.wed,aF r.dV,ah aA r.dW,aj Ar.ma r.dU.length Ar.mc],ah aA m.n] q.w fun e w'=>e=aK (aF (gu r m.n))/\Below q.w.heap.size q.w w':=fun q=>H8 Ar r m.n q.w (ab3.below q.h)
 have y1:=T c1;obtain⟨⟨x0,x1,x2,x3⟩,x4,x5,x6,x7⟩:=Bx.r8 hxr;have u0:=T x0;have u1:=T x1;have u2:=T x2;have u3:=T x3;have u4:=T x4;have u5:=T x5;have u6:=T x6;have u7:=T x7;have HGi:aG (∀ wE,Below W1.heap.size W1 wE->∃ m1,fH w wE B 0 (lH m1) fp):=fun wE hb=>⟨m,(fU.out.step hb).iw⟩
 have XE:aG (ng i n (dO m.rows i).dQ fr=aB->∃ F:Nat,fr=(F:Int)/\F<m.rows.length):=fun h=>by
  unfold ng at h;simp only[bI] at h;have:=iZ.1 h.2.1;exact⟨fr.toNat,by omega,by rw[ok.len];omega⟩
 have HT:aG (∀ {x v},W1.cell? x=au v->∀ q:Bk W1,q.w.cell? x=au v):=@T;clear nM hba hxr M1 ab3 x0 x1 x2 x3 x4 x5 x6 x7 c0 c1 c3 d0 d1 d2 d3 d4 d5 d6 d7 hrs T;have hw0:w.alloc (aH #[ah aA r.ver,aj Ar.ta r.txt.length Ar.tc,aj Ar.ga r.got.length Ar.gc,aj Ar.sa r.dQ.length Ar.sc,aF r.wed,aF r.dV,ah aA r.dW,aj Ar.ma r.dU.length Ar.mc] 44)=W1:=qP;clear qP
 cases e1:ng i n (dO m.rows i).dQ fr with
 | false =>
  have HZ:aG ((fK m fr r).2=aC):=by rw[aG,HH1.out,e1];rfl
  rw[e1] at hO;clear e1;go_enter Tryz.func150,Tryz.ntmps150
  go_wp2_with fail
  clear hw0;refine gK (C:=fun w'=>∃ p:Bk W1,w'=p.w) 25 gq (by kernel_rfl) ⟨⟨W1.drewN 1,fO (dw _ _)⟩,rfl⟩ ?_
  simp only[List.take_succ_cons,List.take_zero]
  repeat (go_big_quiet_step ((first|(go_at_call 177;exact eY _ (hO _))|rfl)))
  refine dh (iL fun wE eG=>?_)
  simp only[List.drop_succ_cons,List.drop_zero]
  have HG:=HGi.out wE eG;have HG2:=dP HG;clear hO hC hR y1 u0 u1 u2 u3 u4 u5 u6 u7 eG HG;go_wp2_with (go_at_call 86;refine (rG _).mono ?_;rintro e w' ⟨⟨T,v,rfl⟩,hw'⟩;rw[hw'];clear hw')
  exact⟨rfl,.inr ⟨HZ.out,⟨_,_,rfl⟩,HG2.out⟩⟩
 | true =>
 obtain⟨F,rfl,uF⟩:=XE.out e1;rw[e1] at hO
 cases e2:gu r m.n with
 | false =>
  have HZ:aG ((fK m (F:Int) r).2=aC):=by rw[aG,HH1.out,e1,e2];rfl
  rw[e2] at hR;clear e1 e2;go_enter Tryz.func150,Tryz.ntmps150
  go_wp2_with fail
  clear hw0;refine gK (C:=fun w'=>∃ p:Bk W1,w'=p.w) 25 gq (by kernel_rfl) ⟨⟨W1.drewN 1,fO (dw _ _)⟩,rfl⟩ ?_
  simp only[List.take_succ_cons,List.take_zero]
  repeat (go_big_quiet_step ((first|(go_at_call 177;exact eY _ (hO _))|(go_at_call 166;exact eY _ (hC _))|(go_at_call 51;exact eY _ (hR _))|rfl)))
  refine dh (iL fun wE eG=>?_)
  simp only[List.drop_succ_cons,List.drop_zero]
  have HG:=HGi.out wE eG;have HG2:=dP HG;clear hO hC hR y1 u0 u1 u2 u3 u4 u5 u6 u7 eG HG;go_wp2_with (go_at_call 86;refine (rG _).mono ?_;rintro e w' ⟨⟨T,v,rfl⟩,hw'⟩;rw[hw'];clear hw')
  exact⟨rfl,.inr ⟨HZ.out,⟨_,_,rfl⟩,HG2.out⟩⟩
 | true =>
 rw[e2] at hR;obtain⟨Af,⟨⟨d0,d1,d2,d3⟩,d4,d5,d6,d7⟩,_⟩:=fU.out.row ok.fit uF;have Gh:aG ((fK m (F:Int) r).2=decide ((dO m.rows F).ver<r.ver)):=by rw[aG,HH1.out,e1,e2];simp
 have v0:=HT.out d0;have v1:=HT.out d1;have v2:=HT.out d2;have v3:=HT.out d3;have v4:=HT.out d4;have v5:=HT.out d5;have v6:=HT.out d6;have v7:=HT.out d7;have hL:∀ q:Bk W1,dF dA 178 #[aP #[ah aA r.ver,aj Ar.ta r.txt.length Ar.tc,aj Ar.ga r.got.length Ar.gc,aj Ar.sa r.dQ.length Ar.sc,aF r.wed,aF r.dV,ah aA r.dW,aj Ar.ma r.dU.length Ar.mc],iK Af (dO m.rows F)] q.w fun e w'=>e=aK (aF (decide ((dO m.rows F).ver<r.ver)))/\Below q.w.heap.size q.w w':=fun q=>aa2 Ar Af r (dO m.rows F) q.w
 unfold iK fQ at hL;have F0:(0:Int)<=F:=by omega
 have F1:(F:Int)<m.rows.length:=by omega
 have hokr:iR r n:=rC.1 (by rw[<- ok.hn];exact e2)
 clear e1 e2 d0 d1 d2 d3 d4 d5 d6 d7
 cases e3:decide ((dO m.rows F).ver<r.ver) with
 | false =>
  have HZ:aG ((fK m (F:Int) r).2=aC):=by rw[aG,Gh.out,e3]
  rw[e3] at hL;clear e3;go_enter Tryz.func150,Tryz.ntmps150
  go_wp2_with fail
  clear hw0;refine gK (C:=fun w'=>∃ p:Bk W1,w'=p.w) 25 gq (by kernel_rfl) ⟨⟨W1.drewN 1,fO (dw _ _)⟩,rfl⟩ ?_
  simp only[List.take_succ_cons,List.take_zero]
  repeat (go_big_quiet_step ((first|(go_at_call 177;exact eY _ (hO _))|(go_at_call 166;exact eY _ (hC _))|(go_at_call 51;exact eY _ (hR _))|(go_at_call 178;exact eY _ (hL _))|rfl)))
  refine dh (iL fun wE eG=>?_)
  simp only[List.drop_succ_cons,List.drop_zero]
  have HG:=HGi.out wE eG;have HG2:=dP HG;clear hO hC hR hL y1 u0 u1 u2 u3 u4 u5 u6 u7 v0 v1 v2 v3 v4 v5 v6 v7 eG HG;go_wp2_with (go_at_call 86;refine (rG _).mono ?_;rintro e w' ⟨⟨T,v,rfl⟩,hw'⟩;rw[hw'];clear hw')
  exact⟨rfl,.inr ⟨HZ.out,⟨_,_,rfl⟩,HG2.out⟩⟩
 | true =>
 have HZ:aG ((fK m (F:Int) r).2=aB):=by rw[aG,Gh.out,e3]
 rw[e3] at hL;clear e3;go_enter Tryz.func150,Tryz.ntmps150
 go_wp2_with fail
 clear hw0;refine gK (C:=fun w'=>∃ p:Bk W1,w'=p.w) 25 gq (by kernel_rfl) ⟨⟨W1.drewN 1,fO (dw _ _)⟩,rfl⟩ ?_
 simp only[List.take_succ_cons,List.take_zero]
 repeat (go_big_quiet_step ((first|(go_at_call 177;exact eY _ (hO _))|(go_at_call 166;exact eY _ (hC _))|(go_at_call 51;exact eY _ (hR _))|(go_at_call 178;exact eY _ (hL _))|rfl)))
 refine dh (iL fun wE eG=>?_)
 simp only[List.drop_succ_cons,List.drop_zero]
 have M2:=fU.out.step eG;have jk:=dP M2;have aA2:=Xt.out.below eG;have aA3:=qK.out.below eG;clear hO hC hR hL y1 u0 u1 u2 u3 u4 u5 u6 u7 v0 v1 v2 v3 v4 v5 v6 v7
 have KS:∀ X,Below wE.heap.size wE X->X.cell? ⟨B,1,ak⟩=au (aj (au ⟨g,off,ak⟩) m.rows.length c)/\X.cell? ⟨w.heap.size,0,ak⟩=au (ah aA r.ver)/\X.cell? ⟨w.heap.size,1,ak⟩=au (aj Ar.ta r.txt.length Ar.tc)/\X.cell? ⟨w.heap.size,2,ak⟩=au (aj Ar.ga r.got.length Ar.gc)/\X.cell? ⟨w.heap.size,3,ak⟩=au (aj Ar.sa r.dQ.length Ar.sc)/\X.cell? ⟨w.heap.size,4,ak⟩=au (aF r.wed)/\X.cell? ⟨w.heap.size,5,ak⟩=au (aF r.dV)/\X.cell? ⟨w.heap.size,6,ak⟩=au (ah aA r.dW)/\X.cell? ⟨w.heap.size,7,ak⟩=au (aj Ar.ma r.dU.length Ar.mc):=fun X hX=>by
  obtain⟨⟨x0,x1,x2,x3⟩,x4,x5,x6,x7⟩:=Bx.r8 (aA3.below hX);exact⟨gy hX M2.rws,x0,x1,x2,x3,x4,x5,x6,x7⟩
 have hbd:=(Same.drewN wE 1).below;have hAn:=CW Ar r wE.drew (aA2.below hbd) (by rw[hokr.gl];omega) (by have:=hokr.c8.2;omega)
 unfold iK fQ at hAn;clear aA2 aA3 eG M2;go_upto_region 2 with (go_at_call 86;refine fV (wW _) ?_)
 refine lU (S:=fun X:aI=>X.cell? ⟨B,1,ak⟩=au (aj (au ⟨g,off,ak⟩) m.rows.length c)/\X.cell? ⟨w.heap.size,0,ak⟩=au (ah aA r.ver)/\X.cell? ⟨w.heap.size,1,ak⟩=au (aj Ar.ta r.txt.length Ar.tc)/\X.cell? ⟨w.heap.size,2,ak⟩=au (aj Ar.ga r.got.length Ar.gc)/\X.cell? ⟨w.heap.size,3,ak⟩=au (aj Ar.sa r.dQ.length Ar.sc)/\X.cell? ⟨w.heap.size,4,ak⟩=au (aF r.wed)/\X.cell? ⟨w.heap.size,5,ak⟩=au (aF r.dV)/\X.cell? ⟨w.heap.size,6,ak⟩=au (ah aA r.dW)/\X.cell? ⟨w.heap.size,7,ak⟩=au (aj Ar.ma r.dU.length Ar.mc)) 9 gq ((KS _ hbd)) fun hHeld=>?_
 refine fC (i:=0) rfl hHeld ?_;refine fC (i:=1) rfl hHeld ?_;refine fC (i:=2) rfl hHeld ?_;refine fC (i:=3) rfl hHeld ?_;refine fC (i:=4) rfl hHeld ?_;refine fC (i:=5) rfl hHeld ?_;refine fC (i:=6) rfl hHeld ?_;refine iJ (i:=7) rfl fun K hK=>?_
 go_simp
 go_at_call 141
 refine hAn.mono ?_;rintro e V1 ⟨A2,rfl,f2,hl2,hf2,hb2⟩;have uM:=eU hbd hb2;have hd2:wE.drew.heap.size=wE.heap.size:=rfl;have M3:=jk.out.Oy uF uM hl2 (fun b hb=>by have:=hf2 b hb;omega)
 have M4:=jk.out.step uM;obtain⟨Ag,⟨⟨k0,k1,k2,k3⟩,k4,k5,k6,k7⟩,_⟩:=M4.row ok.fit uF;obtain⟨⟨j0,j1,j2,j3⟩,j4,j5,j6,j7⟩:=M4.free uF;have lC:aG _:=M3;refine hK.out _ _ (KS _ uM) (fun eP=>?_)
 clear hK hHeld;have hHeld:=eP;try simp only[iC]
 refine iJ (i:=8) rfl fun K hK=>?_
 go_simp;refine hK.out _ _ (KS _ uM) (fun eP=>?_)
 clear hK hHeld;have hHeld:=eP;try simp only[iC]
 unfold iK fQ;refine oV rfl fun K hK=>?_
 go_simp;refine hK.out _ _ ?_;clear hHeld hK M3 M4 hl2 hf2 hb2 k0 k1 k2 k3 k4 k5 k6 k7 j0 j1 j2 j3 j4 j5 j6 j7 KS hbd uM hAn;have HF2:aG ((fK m (F:Int) r).1={ m with rows:=m.rows.set F r }):=by rw[aG,HH2.out HZ.out];rfl
 go_wp2
 first|go_end0|go_ret
 exact .inl ⟨HZ.out,rfl,by rw[HF2.out];exact lC.out.iw⟩
end
section
attribute [local irreducible] sv
theorem XF (m:Mb) (fr:Int) (r:Rw):J4 m fr r=uf m (fK m fr r).1 (fK m fr r).2:=by
 unfold J4 uf
 split
 ·by_cases hd:m.done=aB
  ·rw[if_pos hd,fK,if_pos (.inr (.inr (.inr (.inl hd))))]
  ·rw[if_neg hd]
   cases hf:(fK m fr r).2 with
   | true=>rw[if_pos rfl,<- hf]
   | false =>
    rw[if_neg (by decide)]
    unfold fK at hf ⊢
    split at hf
    ·rename_i h;rw[if_pos h]
    ·cases hf
 ·rfl
theorem ab4 (B:Nat) (fr:Int) (Ar:Ra) (r:Rw) (b1 b2:Nat) (X:aI) (R:Ending->aI->Prop) (hc:X.cell? ⟨b1,0,ak⟩=au (ah aA fr)) (hx:Bx X b2 44 #[ah aA r.ver,aj Ar.ta r.txt.length Ar.tc,aj Ar.ga r.got.length Ar.gc,aj Ar.sa r.dQ.length Ar.sc,aF r.wed,aF r.dV,ah aA r.dW,aj Ar.ma r.dU.length Ar.mc]) (hS:dF dA 150 #[aO (au ⟨B,0,ak⟩),ah aA fr,aP #[ah aA r.ver,aj Ar.ta r.txt.length Ar.tc,aj Ar.ga r.got.length Ar.gc,aj Ar.sa r.dQ.length Ar.sc,aF r.wed,aF r.dV,ah aA r.dW,aj Ar.ma r.dU.length Ar.mc]] X R) (hR:∀ e w',R e w'->e=aK (.tuple #[])\/Gu e) :
  dF dA 149 #[aO (au ⟨B,0,ak⟩),aO (au ⟨b1,0,ak⟩),aO (au ⟨b2,0,ak⟩)] X R:=by
 have HR:=dP hR;clear hR;obtain⟨⟨x0,x1,x2,x3⟩,x4,x5,x6,x7⟩:=Bx.r8 hx;clear hx;go_enter Tryz.func149,Tryz.ntmps149
 go_wp2_with fail
 refine hS.mono ?_;intro e w1 hRe;rcases HR.out e w1 hRe with rfl|⟨T,v,rfl⟩
 ·have I9:aG (R (aK (.tuple #[])) w1):=hRe
  clear hRe hS;go_wp2
  first|go_end0|go_ret
  exact I9.out
 ·exact⟨rfl,hRe⟩
theorem XG:Xj:=by
 intro A m fr Ar r w hv h6 nM;have hmf:∀ (fn:Fn) (first cap:Array aJ) (w:aI),(Instr.makeFunc fn first cap).run dA w=.ok (.func fn first cap) w:=fun _ _ _ _=>rfl
 have a0:=dX w (aH #[ah aA m.id,ah aA m.n,aj A.ra m.rows.length A.rc,aj A.sa m.dR.length A.sc,aF m.done] 47);have hb0:=a0;have a1:=dX (w.alloc (aH #[ah aA m.id,ah aA m.n,aj A.ra m.rows.length A.rc,aj A.sa m.dR.length A.sc,aF m.done] 47)) (aH #[ah aA fr] 2);have hb1:=eU hb0 a1;have a2:=dX ((w.alloc (aH #[ah aA m.id,ah aA m.n,aj A.ra m.rows.length A.rc,aj A.sa m.dR.length A.sc,aF m.done] 47)).alloc (aH #[ah aA fr] 2)) (aH #[ah aA r.ver,aj Ar.ta r.txt.length Ar.tc,aj Ar.ga r.got.length Ar.gc,aj Ar.sa r.dQ.length Ar.sc,aF r.wed,aF r.dV,ah aA r.dW,aj Ar.ma r.dU.length Ar.mc] 44);have hb2:=eU hb1 a2;have a3:=dX (((w.alloc (aH #[ah aA m.id,ah aA m.n,aj A.ra m.rows.length A.rc,aj A.sa m.dR.length A.sc,aF m.done] 47)).alloc (aH #[ah aA fr] 2)).alloc (aH #[ah aA r.ver,aj Ar.ta r.txt.length Ar.tc,aj Ar.ga r.got.length Ar.gc,aj Ar.sa r.dQ.length Ar.sc,aF r.wed,aF r.dV,ah aA r.dW,aj Ar.ma r.dU.length Ar.mc] 44)) (aH #[ah aA 0,ah aA 0,aj ak 0 0,aj ak 0 0,aF aC] 47);have hb3:=eU hb2 a3
 have hx0:Bx ((((w.alloc (aH #[ah aA m.id,ah aA m.n,aj A.ra m.rows.length A.rc,aj A.sa m.dR.length A.sc,aF m.done] 47)).alloc (aH #[ah aA fr] 2)).alloc (aH #[ah aA r.ver,aj Ar.ta r.txt.length Ar.tc,aj Ar.ga r.got.length Ar.gc,aj Ar.sa r.dQ.length Ar.sc,aF r.wed,aF r.dV,ah aA r.dW,aj Ar.ma r.dU.length Ar.mc] 44)).alloc (aH #[ah aA 0,ah aA 0,aj ak 0 0,aj ak 0 0,aF aC] 47)) (w.heap.size) 47 #[ah aA m.id,ah aA m.n,aj A.ra m.rows.length A.rc,aj A.sa m.dR.length A.sc,aF m.done]:=by
  have:=(((Bx.new w 47 #[ah aA m.id,ah aA m.n,aj A.ra m.rows.length A.rc,aj A.sa m.dR.length A.sc,aF m.done]).alloc (aH #[ah aA fr] 2)).alloc (aH #[ah aA r.ver,aj Ar.ta r.txt.length Ar.tc,aj Ar.ga r.got.length Ar.gc,aj Ar.sa r.dQ.length Ar.sc,aF r.wed,aF r.dV,ah aA r.dW,aj Ar.ma r.dU.length Ar.mc] 44)).alloc (aH #[ah aA 0,ah aA 0,aj ak 0 0,aj ak 0 0,aF aC] 47);try simp only[bH] at this
  exact this
 have hx1:Bx ((((w.alloc (aH #[ah aA m.id,ah aA m.n,aj A.ra m.rows.length A.rc,aj A.sa m.dR.length A.sc,aF m.done] 47)).alloc (aH #[ah aA fr] 2)).alloc (aH #[ah aA r.ver,aj Ar.ta r.txt.length Ar.tc,aj Ar.ga r.got.length Ar.gc,aj Ar.sa r.dQ.length Ar.sc,aF r.wed,aF r.dV,ah aA r.dW,aj Ar.ma r.dU.length Ar.mc] 44)).alloc (aH #[ah aA 0,ah aA 0,aj ak 0 0,aj ak 0 0,aF aC] 47)) (w.heap.size+1) 2 #[ah aA fr]:=by
  have:=((Bx.new (w.alloc (aH #[ah aA m.id,ah aA m.n,aj A.ra m.rows.length A.rc,aj A.sa m.dR.length A.sc,aF m.done] 47)) 2 #[ah aA fr]).alloc (aH #[ah aA r.ver,aj Ar.ta r.txt.length Ar.tc,aj Ar.ga r.got.length Ar.gc,aj Ar.sa r.dQ.length Ar.sc,aF r.wed,aF r.dV,ah aA r.dW,aj Ar.ma r.dU.length Ar.mc] 44)).alloc (aH #[ah aA 0,ah aA 0,aj ak 0 0,aj ak 0 0,aF aC] 47);try simp only[bH] at this
  exact this
 have hx2:Bx ((((w.alloc (aH #[ah aA m.id,ah aA m.n,aj A.ra m.rows.length A.rc,aj A.sa m.dR.length A.sc,aF m.done] 47)).alloc (aH #[ah aA fr] 2)).alloc (aH #[ah aA r.ver,aj Ar.ta r.txt.length Ar.tc,aj Ar.ga r.got.length Ar.gc,aj Ar.sa r.dQ.length Ar.sc,aF r.wed,aF r.dV,ah aA r.dW,aj Ar.ma r.dU.length Ar.mc] 44)).alloc (aH #[ah aA 0,ah aA 0,aj ak 0 0,aj ak 0 0,aF aC] 47)) (w.heap.size+1+1) 44 #[ah aA r.ver,aj Ar.ta r.txt.length Ar.tc,aj Ar.ga r.got.length Ar.gc,aj Ar.sa r.dQ.length Ar.sc,aF r.wed,aF r.dV,ah aA r.dW,aj Ar.ma r.dU.length Ar.mc]:=by
  have:=(Bx.new ((w.alloc (aH #[ah aA m.id,ah aA m.n,aj A.ra m.rows.length A.rc,aj A.sa m.dR.length A.sc,aF m.done] 47)).alloc (aH #[ah aA fr] 2)) 44 #[ah aA r.ver,aj Ar.ta r.txt.length Ar.tc,aj Ar.ga r.got.length Ar.gc,aj Ar.sa r.dQ.length Ar.sc,aF r.wed,aF r.dV,ah aA r.dW,aj Ar.ma r.dU.length Ar.mc]).alloc (aH #[ah aA 0,ah aA 0,aj ak 0 0,aj ak 0 0,aF aC] 47);try simp only[bH] at this
  exact this
 have hx3:Bx ((((w.alloc (aH #[ah aA m.id,ah aA m.n,aj A.ra m.rows.length A.rc,aj A.sa m.dR.length A.sc,aF m.done] 47)).alloc (aH #[ah aA fr] 2)).alloc (aH #[ah aA r.ver,aj Ar.ta r.txt.length Ar.tc,aj Ar.ga r.got.length Ar.gc,aj Ar.sa r.dQ.length Ar.sc,aF r.wed,aF r.dV,ah aA r.dW,aj Ar.ma r.dU.length Ar.mc] 44)).alloc (aH #[ah aA 0,ah aA 0,aj ak 0 0,aj ak 0 0,aF aC] 47)) (w.heap.size+1+1+1) 47 #[ah aA 0,ah aA 0,aj ak 0 0,aj ak 0 0,aF aC]:=by
  have:=Bx.new (((w.alloc (aH #[ah aA m.id,ah aA m.n,aj A.ra m.rows.length A.rc,aj A.sa m.dR.length A.sc,aF m.done] 47)).alloc (aH #[ah aA fr] 2)).alloc (aH #[ah aA r.ver,aj Ar.ta r.txt.length Ar.tc,aj Ar.ga r.got.length Ar.gc,aj Ar.sa r.dQ.length Ar.sc,aF r.wed,aF r.dV,ah aA r.dW,aj Ar.ma r.dU.length Ar.mc] 44)) 47 #[ah aA 0,ah aA 0,aj ak 0 0,aj ak 0 0,aF aC];try simp only[bH] at this
  exact this
 have hP:=hv.below hb3
 have uJ:=Kq 149 #[aO (au ⟨w.heap.size+1,0,ak⟩),aO (au ⟨w.heap.size+1+1,0,ak⟩)] A m (fK m fr r).1 (fK m fr r).2 ((((w.alloc (aH #[ah aA m.id,ah aA m.n,aj A.ra m.rows.length A.rc,aj A.sa m.dR.length A.sc,aF m.done] 47)).alloc (aH #[ah aA fr] 2)).alloc (aH #[ah aA r.ver,aj Ar.ta r.txt.length Ar.tc,aj Ar.ga r.got.length Ar.gc,aj Ar.sa r.dQ.length Ar.sc,aF r.wed,aF r.dV,ah aA r.dW,aj Ar.ma r.dU.length Ar.mc] 44)).alloc (aH #[ah aA 0,ah aA 0,aj ak 0 0,aj ak 0 0,aF aC] 47)) hP (fun _ _=>enters_of Tryz.func149 (by kernel_rfl) rfl _ _)
  (fun hok hf => by
   obtain⟨i,n,ok⟩:=nD.1 hok;have:=(sV ok fr r).1;rw[this.hn,this.len])
  (fun X B fp i n hX hpl ok hd => ab4 B fr Ar r (w.heap.size + 1) (w.heap.size + 1 + 1) X _ ((hx1.below hX).at 0 rfl) (hx2.below hX) (ab2 B m i n fr Ar r fp X hpl ok hd ((nM.below hb3).below hX)) (fun e w' h => by
   rcases h with ⟨_,h,_⟩|⟨_,h,_⟩
   ·exact .inl h
   ·exact .inr h))
 have HZ0:=XF m fr r;clear nM;unfold iU iq at uJ;have hWl:=hx3.lt;obtain⟨c0,c1,c2,c3,c4⟩:=Bx.r5 hx0;have HR0:=dP hx3;have HB0:=dP hb3;have HZ:=dP HZ0;clear a0 a1 a2 a3 hb0 hb1 hb2 hb3 hx0 hx1 hx2 hx3 hP hv HZ0;unfold iU iq iK fQ;generalize uf m (fK m fr r).1 (fK m fr r).2=pm at *;go_enter Tryz.func111,Tryz.ntmps111
 go_wp2_with fail
 generalize ((((w.alloc (aH #[ah aA m.id,ah aA m.n,aj A.ra m.rows.length A.rc,aj A.sa m.dR.length A.sc,aF m.done] 47)).alloc (aH #[ah aA fr] 2)).alloc (aH #[ah aA r.ver,aj Ar.ta r.txt.length Ar.tc,aj Ar.ga r.got.length Ar.gc,aj Ar.sa r.dQ.length Ar.sc,aF r.wed,aF r.dV,ah aA r.dW,aj Ar.ma r.dU.length Ar.mc] 44)).alloc (aH #[ah aA 0,ah aA 0,aj ak 0 0,aj ak 0 0,aF aC] 47))=W0 at *;refine uJ.mono ?_;rintro e w1 ⟨A2,rfl,fp,hl,hf,hb⟩;have hR:=HR0.out.below hb;have hsz:=hb.size
 have HN:aG (∀ {z0 z1 z2 z3 z4:aJ},kE w (((((w1.setCell ⟨w.heap.size+1+1+1,0,ak⟩ z0).setCell ⟨w.heap.size+1+1+1,1,ak⟩ z1).setCell ⟨w.heap.size+1+1+1,2,ak⟩ z2).setCell ⟨w.heap.size+1+1+1,3,ak⟩ z3).setCell ⟨w.heap.size+1+1+1,4,ak⟩ z4) (jB pm.1) (jC A2 pm.1)):=fun {z0 z1 z2 z3 z4}=>by
  have hB1:=eU HB0.out hb;exact⟨fp,iy hl (qG w1 (w.heap.size+1+1+1)) (fun x hx e=>by have:=hf x hx;omega),fun x hx=>by have:=hf x hx;omega,(qG w1 (w.heap.size+1+1+1)).below hB1 hB1.size (fun x e=>by omega)⟩
 obtain⟨z0,z1,z2,z3,z4⟩:=Bx.r5 hR;obtain⟨r0,r1,r2,r3,r4⟩:=hR.f5;clear uJ hl hf hb hR c0 c1 c2 c3 c4;unfold iU iq;go_wp2;refine bY (v:=.tuple #[iU A2 pm.1,aF pm.2]) (by simp[results,Tryz.results111,go_sem,iU,iq, *]) rfl ?_
 rw[HZ.out];exact⟨_,rfl,HN.out⟩
end
def Fr5 (w:aI) (b o:Nat):Prop:=w.frozen? ⟨b,o,ak⟩=aC/\w.frozen? ⟨b,o+1,ak⟩=aC/\w.frozen? ⟨b,o+2,ak⟩=aC/\w.frozen? ⟨b,o+3,ak⟩=aC/\w.frozen? ⟨b,o+4,ak⟩=aC
theorem Gw.mbP (h:Gw w X B o g fp b off c) (ok:OkG g n) (hk:k<g.mem.length):∃ A:Ma,C5 X b (off+k*5) (ah aA (eF g k).id) (ah aA (eF g k).n) (aj A.ra (eF g k).rows.length A.rc) (aj A.sa (eF g k).dR.length A.sc) (aF (eF g k).done)/\Fr5 X b (off+k*5)/\tY X A (eF g k):=by
 obtain⟨f,⟨vs,hpc,hov,_⟩,_⟩:=h.mb hk;obtain⟨A,rfl,hl⟩:=IJ hov;have hl5:(iq A (eF g k)).toList.length=5:=rfl;have q:=hpc.cell;have z:=hpc.free;have om:=ok.mem k (by rw[<- ok.ml];exact hk)
 exact⟨A,⟨q 0 (by rw[hl5];omega),q 1 (by rw[hl5];omega),q 2 (by rw[hl5];omega),q 3 (by rw[hl5];omega),q 4 (by rw[hl5];omega)⟩,⟨z 0 (by rw[hl5];omega),z 1 (by rw[hl5];omega),z 2 (by rw[hl5];omega),z 3 (by rw[hl5];omega),z 4 (by rw[hl5];omega)⟩,⟨f,hl⟩,om.fit,Jv om,bZ (PZ (Ae hk)) (bZ ok.small.2.2.2.2 (by decide))⟩
theorem Gw.Nl {X1: aI} (h:Gw w X B o g fp b off c) (hk:k<g.mem.length) (hb:Below X.heap.size X X1) {m': Mb} {A': Ma} {f': Fp} (hr:gB X1 (jB m') (jC A' m') f') (hf:∀ b,f' b->X.heap.size<=b) :
  Gw w (((((X1.setCell ⟨b,off+k*5,ak⟩ (ah aA m'.id)).setCell ⟨b,off+k*5+1,ak⟩ (ah aA m'.n)).setCell ⟨b,off+k*5+2,ak⟩ (aj A'.ra m'.rows.length A'.rc)).setCell ⟨b,off+k*5+3,ak⟩ (aj A'.sa m'.dR.length A'.sc)).setCell ⟨b,off+k*5+4,ak⟩ (aF m'.done)) B o { g with mem:=g.mem.set k m' } fp b off c:=by
 obtain⟨f,hpl,hput⟩:=h.mb hk;have hA:=hpl.all hb (II hr) rfl hf;exact hput _ m' hA
def qh (g:Gr) (x:Ml):Gr:=if ou g x.to.toNat=aB then { g with mem:=g.mem.set x.to.toNat (fK (eF g x.to.toNat) x.fr x.row).1 } else g
theorem ap5 (B:Nat) (g:Gr) (n a b:Nat) (r:Rw) (Ak:Ra) (fp:Fp) (w:aI) (h:iP w B 0 (fZ g) fp) (ok:OkG g n) (hb:b<n) (han:a<n) (hv:ql w Ak r) :
  dF dA 72 #[aO (au ⟨B,0,ak⟩),aP #[ah aA (a:Int),ah aA (b:Int),ah aA r.ver,aj Ak.ta r.txt.length Ak.tc,aj Ak.ga r.got.length Ak.gc,aj Ak.sa r.dQ.length Ak.sc,aF r.wed,aF r.dV,ah aA r.dW,aj Ak.ma r.dU.length Ak.mc]] w fun e w'=>e=aK (.tuple #[])/\fH w w' B 0 (fZ (qh g ⟨(a:Int),(b:Int),r⟩)) fp:=by
 have gq:=iD;have hbl:b<g.mem.length:=by rw[ok.ml];exact hb
 have FX:b<g.up.length:=by rw[ok.ul];exact hb
 obtain⟨bb,off,c,G0⟩:=Gw.start h (by omega)
 have hba:=dX w (aH #[ah aA (a:Int),ah aA (b:Int),ah aA r.ver,aj Ak.ta r.txt.length Ak.tc,aj Ak.ga r.got.length Ak.gc,aj Ak.sa r.dQ.length Ak.sc,aF r.wed,aF r.dV,ah aA r.dW,aj Ak.ma r.dU.length Ak.mc] 68);have hxm:=Bx.new w 68 #[ah aA (a:Int),ah aA (b:Int),ah aA r.ver,aj Ak.ta r.txt.length Ak.tc,aj Ak.ga r.got.length Ak.gc,aj Ak.sa r.dQ.length Ak.sc,aF r.wed,aF r.dV,ah aA r.dW,aj Ak.ma r.dU.length Ak.mc];have G1:=G0.step hba;obtain⟨ub,uo,uc,u1,u2,_,_⟩:=G1.bit FX;obtain⟨A,⟨m0,m1,m2,m3,m4⟩,hf5,hmp⟩:=G1.mbP ok hbl;have c0:=G1.mem;have mD:=dP G1;have HX:=dP hxm;have XH:=dP hmp;have Xt:=dP (hv.below hba);have ug:aG (C5 (w.alloc (aH #[ah aA (a:Int),ah aA (b:Int),ah aA r.ver,aj Ak.ta r.txt.length Ak.tc,aj Ak.ga r.got.length Ak.gc,aj Ak.sa r.dQ.length Ak.sc,aF r.wed,aF r.dV,ah aA r.dW,aj Ak.ma r.dU.length Ak.mc] 68)) bb (off+b*5) (ah aA (eF g b).id) (ah aA (eF g b).n) (aj A.ra (eF g b).rows.length A.rc) (aj A.sa (eF g b).dR.length A.sc) (aF (eF g b).done)):=⟨m0,m1,m2,m3,m4⟩;have tJ:=dP hf5;obtain⟨⟨y0,y1,y2,y3,y4⟩,y5,y6,y7,y8,y9⟩:=Bx.DJ hxm;have om:=ok.mem b hb;have Ia:aG (iG (eF g b)=aB):=nD.2 ⟨b,n,om⟩;have HZ:aG (qh g ⟨(a:Int),(b:Int),r⟩=if ou g b=aB then { g with mem:=g.mem.set b (fK (eF g b) (a:Int) r).1 } else g):=by rw[aG,qh];simp only[Int.toNat_natCast]
 have iE:=dP ok;have jq:=ok.n5;have b0:(0:Int)<=b:=by omega
 have b1:(b:Int)<g.mem.length:=by omega
 have b2:(b:Int)<g.up.length:=by omega
 simp only[Nat.zero_add] at u1;clear h ok G0 G1 hba hxm hmp hv om m0 m1 m2 m3 m4 hf5;go_enter Tryz.func72,Tryz.ntmps72
 go_upto_region 1 with fail
 generalize w.alloc (aH #[ah aA (a:Int),ah aA (b:Int),ah aA r.ver,aj Ak.ta r.txt.length Ak.tc,aj Ak.ga r.got.length Ak.gc,aj Ak.sa r.dQ.length Ak.sc,aF r.wed,aF r.dV,ah aA r.dW,aj Ak.ma r.dU.length Ak.mc] 68)=W1 at *;have TT:∀ {x v},W1.cell? x=au v->∀ q:Bk W1,q.w.cell? x=au v:=fun h q=>gy q.h h
 have c0':=c0;have t1:=TT u1;have t2:=TT u2;have t3:=TT y1;clear TT u1 u2 c0 y0 y1 y2 y3 y4 y5 y6 y7 y8 y9;refine jg ?_;repeat (go_big_quiet_step ((first|rfl)))
 refine dh (iL fun wE eG=>?_)
 clear t1 t2 t3
 cases hup:ou g b with
 | false =>
  have HN:aG (qh g ⟨(a:Int),(b:Int),r⟩=g):=by rw[aG,HZ.out,if_neg (by rw[hup];decide)]
  clear hup;go_wp2_with fail
  first|go_end0|go_ret
  exact⟨rfl,by rw[HN.out];exact (mD.out.step eG).iw⟩
 | true =>
  have HN:aG (qh g ⟨(a:Int),(b:Int),r⟩={ g with mem:=g.mem.set b (fK (eF g b) (a:Int) r).1 }):=by rw[aG,HZ.out,if_pos hup]
  clear hup;have hbd:=eG.trans ((Same.drewN wE 1).below.mono eG.size);have Bj:=XG A (eF g b) (a:Int) Ak r wE.drew (XH.out.below hbd) ⟨by omega,by omega⟩ (Xt.out.below hbd)
  have HH:aG (J4 (eF g b) (a:Int) r=fK (eF g b) (a:Int) r):=by rw[aG,J4,if_pos Ia.out]
  rw[HH.out] at Bj;generalize (fK (eF g b) (a:Int) r).2=hf2 at *;generalize (fK (eF g b) (a:Int) r).1=m2 at *;generalize hmm:eF g b=m at *
  have KS:∀ Z,Below W1.heap.size W1 Z->Z.cell? ⟨B,0,ak⟩=au (aj (au ⟨bb,off,ak⟩) g.mem.length c)/\Z.cell? ⟨w.heap.size,0,ak⟩=au (ah aA (a:Int))/\Z.cell? ⟨w.heap.size,1,ak⟩=au (ah aA (b:Int))/\Z.cell? ⟨w.heap.size,2,ak⟩=au (ah aA r.ver)/\Z.cell? ⟨w.heap.size,3,ak⟩=au (aj Ak.ta r.txt.length Ak.tc)/\Z.cell? ⟨w.heap.size,4,ak⟩=au (aj Ak.ga r.got.length Ak.gc)/\Z.cell? ⟨w.heap.size,5,ak⟩=au (aj Ak.sa r.dQ.length Ak.sc)/\Z.cell? ⟨w.heap.size,6,ak⟩=au (aF r.wed)/\Z.cell? ⟨w.heap.size,7,ak⟩=au (aF r.dV)/\Z.cell? ⟨w.heap.size,8,ak⟩=au (ah aA r.dW)/\Z.cell? ⟨w.heap.size,9,ak⟩=au (aj Ak.ma r.dU.length Ak.mc)/\Z.cell? ⟨bb,off+b*5,ak⟩=au (ah aA m.id)/\Z.cell? ⟨bb,off+b*5+1,ak⟩=au (ah aA m.n)/\Z.cell? ⟨bb,off+b*5+2,ak⟩=au (aj A.ra m.rows.length A.rc)/\Z.cell? ⟨bb,off+b*5+3,ak⟩=au (aj A.sa m.dR.length A.sc)/\Z.cell? ⟨bb,off+b*5+4,ak⟩=au (aF m.done):=fun Z hZ=>by
   obtain⟨⟨y0,y1,y2,y3,y4⟩,y5,y6,y7,y8,y9⟩:=Bx.DJ (HX.out.below hZ);obtain⟨m0,m1,m2,m3,m4⟩:=ug.out;have t:∀ {x v},W1.cell? x=au v->Z.cell? x=au v:=fun h=>gy hZ h
   exact⟨t c0',y0,y1,y2,y3,y4,y5,y6,y7,y8,y9,t m0,t m1,t m2,t m3,t m4⟩
  unfold iU iq iK fQ at Bj;go_upto_region 2 with fail
  refine lU (S:=fun Z:aI=>Z.cell? ⟨B,0,ak⟩=au (aj (au ⟨bb,off,ak⟩) g.mem.length c)/\Z.cell? ⟨w.heap.size,0,ak⟩=au (ah aA (a:Int))/\Z.cell? ⟨w.heap.size,1,ak⟩=au (ah aA (b:Int))/\Z.cell? ⟨w.heap.size,2,ak⟩=au (ah aA r.ver)/\Z.cell? ⟨w.heap.size,3,ak⟩=au (aj Ak.ta r.txt.length Ak.tc)/\Z.cell? ⟨w.heap.size,4,ak⟩=au (aj Ak.ga r.got.length Ak.gc)/\Z.cell? ⟨w.heap.size,5,ak⟩=au (aj Ak.sa r.dQ.length Ak.sc)/\Z.cell? ⟨w.heap.size,6,ak⟩=au (aF r.wed)/\Z.cell? ⟨w.heap.size,7,ak⟩=au (aF r.dV)/\Z.cell? ⟨w.heap.size,8,ak⟩=au (ah aA r.dW)/\Z.cell? ⟨w.heap.size,9,ak⟩=au (aj Ak.ma r.dU.length Ak.mc)/\Z.cell? ⟨bb,off+b*5,ak⟩=au (ah aA m.id)/\Z.cell? ⟨bb,off+b*5+1,ak⟩=au (ah aA m.n)/\Z.cell? ⟨bb,off+b*5+2,ak⟩=au (aj A.ra m.rows.length A.rc)/\Z.cell? ⟨bb,off+b*5+3,ak⟩=au (aj A.sa m.dR.length A.sc)/\Z.cell? ⟨bb,off+b*5+4,ak⟩=au (aF m.done)) 23 gq ((KS _ hbd)) fun hHeld=>?_
  refine fE (i:=0) rfl ?_;refine fE (i:=1) rfl ?_;refine fE (i:=2) rfl ?_;refine fC (i:=3) rfl hHeld ?_;refine fE (i:=4) rfl ?_;refine fC (i:=5) rfl hHeld ?_;refine fE (i:=6) rfl ?_;refine fE (i:=7) rfl ?_;refine fE (i:=8) rfl ?_;refine fC (i:=9) rfl hHeld ?_;refine fE (i:=10) rfl ?_;refine fC (i:=11) rfl hHeld ?_;refine fE (i:=12) rfl ?_;refine fC (i:=13) rfl hHeld ?_;refine fE (i:=14) rfl ?_;refine fC (i:=15) rfl hHeld ?_;refine fE (i:=16) rfl ?_;refine fC (i:=17) rfl hHeld ?_;refine iJ (i:=18) rfl fun K hK=>?_
  go_simp
  go_at_call 111
  refine Bj.mono ?_;rintro e w1 ⟨A2,rfl,fr,hr1,hr2,hr3⟩;have hbw:=eU hbd hr3;have GH:=mD.out.Nl hbl hbw hr1 (fun b h=>bZ hbd.size (hr2 b h))
  have Qc:=dP GH;obtain⟨k0,k1,k2,k3,k4⟩:=ug.out;have t:∀ {x v},W1.cell? x=au v->w1.cell? x=au v:=fun h=>gy hbw h
  replace k0:=t k0;replace k1:=t k1;replace k2:=t k2;replace k3:=t k3;replace k4:=t k4;obtain⟨z0,z1,z2,z3,z4⟩:=tJ.out
  have tz:∀ {x v},W1.cell? x=au v->W1.frozen? x=aC->w1.frozen? x=aC:=fun {x v} h hz=>by
   have e:=hbw.block x.block (aX _ _ h);simpa only[World.frozen?,e] using hz
  replace z0:=tz ug.out.1 z0;replace z1:=tz ug.out.2.1 z1;replace z2:=tz ug.out.2.2.1 z2;replace z3:=tz ug.out.2.2.2.1 z3;replace z4:=tz ug.out.2.2.2.2 z4;unfold iU iq;refine hK.out _ _ (KS _ hbw) (fun eP=>?_)
  clear hK hHeld;have hHeld:=eP;try simp only[iC]
  refine fE (i:=19) rfl ?_;refine fE (i:=20) rfl ?_;refine fE (i:=21) rfl ?_;refine fE (i:=22) rfl ?_;refine oV rfl fun K hK=>?_
  go_simp;refine hK.out _ _ ?_;clear hHeld hK GH k0 k1 k2 k3 k4 z0 z1 z2 z3 z4 t tz hr1 hr2 hr3 hbw hbd KS Bj;generalize (((((w1.setCell ⟨bb,off+b*5,ak⟩ (ah aA m2.id)).setCell ⟨bb,off+b*5+1,ak⟩ (ah aA m2.n)).setCell ⟨bb,off+b*5+2,ak⟩ (aj A2.ra m2.rows.length A2.rc)).setCell ⟨bb,off+b*5+3,ak⟩ (aj A2.sa m2.dR.length A2.sc)).setCell ⟨bb,off+b*5+4,ak⟩ (aF m2.done))=W9 at *;try go_wp2
  first|go_end0|go_ret
  exact⟨rfl,by rw[HN.out];exact Qc.out.iw⟩
def aL3 (w:aI) (g o:Nat) (x:Ml) (A:Ra):Prop:=∀ i y,(yU x A).toList[i]?=au y->w.cell? ⟨g,o+i,ak⟩=au y
theorem XI:ku g i=qh { g with dS:=g.dS.take i++g.dS.drop (i+1) } (fF g i):=rfl
theorem ab5 (ok:OkG g n) {x: Ml} (hx:x.to=(b:Int)) (hb:b<n):OkG (qh g x) n:=by
 unfold qh;rw[hx];simp only[Int.toNat_natCast]
 split
 ·exact ok.to hb (sV (ok.mem b hb) x.fr x.row).1
 ·exact ok
theorem Md (g:Gr) (L:List Ml) (x:Ml):qh { g with dS:=L } x={ qh g x with dS:=L }:=by
 unfold qh
 show (if ou g x.to.toNat=aB then _ else _)=_
 split<;>rfl
theorem Jw:∀ (L:List Ml) (g:Gr),g.dS=L->drain L.length g=L.foldl qh { g with dS:=[] }
 | [],g,h=>by
  obtain⟨m,u,l⟩:=g;simp only at h
  subst h
  rfl
 | x::L,g,h=>by
  have h0:0<g.dS.length:=by rw[h];simp
  rw[bP,LV _ h0,XI];have e1:fF g 0=x:=by rw[fF,h];rfl
  have e2:g.dS.take 0++g.dS.drop (0+1)=L:=by rw[h];rfl
  rw[e1,e2,Md,Jw L _ rfl,List.foldl_cons,show qh { g with dS:=[] } x={ qh g x with dS:=[] } from Md g [] x]
theorem XJ (h:fH w X B 0 (fZ g) fp):∃ la lc f3 gU,X.cell? ⟨B,2,ak⟩=au (aj la g.dS.length lc)/\X.frozen? ⟨B,2,ak⟩=aC/\dY.ow (X.setCell ⟨B,2,ak⟩ (aj ak 0 0)) (iH 10 kS g.dS) (aj la g.dS.length lc) f3/\¬ f3 B /\
  iP (X.setCell ⟨B,2,ak⟩ (aj ak 0 0)) B 0 (fZ { g with dS:=[] }) gU/\(∀ b,gU b->¬ f3 b)/\∀ w2 cs2,cs2.length=3->fH (X.setCell ⟨B,2,ak⟩ (aj ak 0 0)) w2 B 0 cs2 gU->fH w w2 B 0 cs2 fp:=by
 obtain⟨yZ,hp,hs,hgo⟩:=h.next;obtain⟨vs,hpc,hov,hnB⟩:=hp;obtain⟨u1,vW,f1,g1,rfl,o1,h2,d1,i1⟩:=hov;obtain⟨u2,wY,f2,g2,rfl,o2,h3,d2,i2⟩:=h2;obtain⟨u3,Es,f3,g3,rfl,o3,h4,d3,i3⟩:=h3;obtain⟨rfl,h5⟩:=h4;have o3':=o3;obtain⟨la,lc,_,_,_,rfl,_⟩:=o3';have c2:=hpc.cell 2 (by simp)
 have z2:=hpc.free 2 (by simp)
 have hW:=eX.set X B 2 (aj ak 0 0);have s1:∀ b,f1 b->yZ b:=fun b hb=>(i1 b).2 (.inl hb)
 have s2:∀ b,f2 b->yZ b:=fun b hb=>(i1 b).2 (.inr ((i2 b).2 (.inl hb)))
 have s3:∀ b,f3 b->yZ b:=fun b hb=>(i1 b).2 (.inr ((i2 b).2 (.inr ((i3 b).2 (.inl hb)))))
 have n1:∀ b,f1 b->¬ b=B:=fun b hb e=>hnB (e ▸ s1 b hb)
 have n2:∀ b,f2 b->¬ b=B:=fun b hb e=>hnB (e ▸ s2 b hb)
 have n3:∀ b,f3 b->¬ b=B:=fun b hb e=>hnB (e ▸ s3 b hb)
 refine⟨la,lc,f3,fun b=>f1 b\/f2 b,by simpa using c2,by simpa using z2,dY.lJ o3 hW n3,fun e=>n3 B e rfl,⟨[u1,u2,aj ak 0 0], ?_, ?_,fun e=>e.elim (fun e=>n1 B e rfl) (fun e=>n2 B e rfl)⟩, ?_,fun w2 cs2 hl k=>?_⟩
 ·refine⟨fun j hj=>?_,fun j hj=>?_, ?_⟩
  ·have hj:j<3:=hj
   have:j=0\/j=1\/j=2:=by omega
   rcases this with rfl|rfl|rfl
   ·exact (FV (by omega) _).trans (hpc.cell 0 (by simp))
   ·exact (FV (by omega) _).trans (hpc.cell 1 (by simp))
   ·exact World.cell?_setCell_same _ _ _ c2
  ·have hj:j<3:=hj
   rw[World.frozen?_setCell];exact hpc.free j hj
  ·rw[World.size_setCell]
   exact hpc.lt
 ·exact⟨u1,_,f1,f2,rfl,dY.lJ o1 hW n1,⟨u2,_,f2,fun _=>False,rfl,dY.lJ o2 hW n2,⟨_,_,fun _=>False,fun _=>False,rfl,xH _ 10 kS,⟨rfl,fun _ h=>h⟩,fun _ h=>absurd h id,fun b=>by simp⟩,fun _ _ h=>h,fun b=>by simp⟩,fun b h h'=>d1 b h ((i2 b).2 (.inl h')),fun b=>Iff.rfl⟩
 ·rintro b (hb|hb) h
  ·exact d1 b hb ((i2 b).2 (.inr ((i3 b).2 (.inl h))))
  ·exact d2 b hb ((i3 b).2 (.inl h))
 ·obtain⟨⟨fp2,k1,k2⟩,k3,k4,k5⟩:=k
  have hz:(X.setCell ⟨B,2,ak⟩ (aj ak 0 0)).heap.size=X.heap.size:=World.size_setCell _ _ _;refine hgo w2 cs2 hl ⟨⟨fp2,k1,fun b hb=>(k2 b hb).imp (fun h=>h.elim (s1 b) (s2 b)) (fun h=>by rw[hz] at h;exact h)⟩,fun j hj=>(k3 j hj).trans (FV (by omega) _),fun j=>(k4 j).trans (World.frozen?_setCell _ _ _ _), ?_⟩
  exact (hW.mono (g:=fun b=>yZ b\/b=B) (fun b _ e=>.inr e)).trans k5 (fun b _ h=>h.elim (fun h=>.inl (h.elim (s1 b) (s2 b))) .inr)
end Go.Proofs.YtafimeakbdmkjaaGreat