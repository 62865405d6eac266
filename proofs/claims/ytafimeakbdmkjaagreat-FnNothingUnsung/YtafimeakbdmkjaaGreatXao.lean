/-
  Texts in one.
-/
import Derived.Test.YtafimeakbdmkjaaGreatXah
import Derived.Test.YtafimeakbdmkjaaGreatXan
import Derived.Test.YtafimeakbdmkjaaGreatXae
import Derived.Test.YtafimeakbdmkjaaGreatXac
import Derived.Test.YtafimeakbdmkjaaGreatXab
import Derived.Test.YtafimeakbdmkjaaGreatXad
import Derived.Test.YtafimeakbdmkjaaGreatXaa
import Derived.Test.YtafimeakbdmkjaaGreatXai
import Derived.Test.YtafimeakbdmkjaaGreatXag
import Derived.Test.YtafimeakbdmkjaaGreatXal
import Derived.Test.YtafimeakbdmkjaaGreatXam
import Derived.BigQuiet
import Derived.Deep.RegionHeld3
import Derived.Deep.CutRange
import Derived.Deep.CutBlock
namespace Go.Proofs.YtafimeakbdmkjaaGreat
open Bool renaming false->aC,true->aB
open Go renaming Addr->dH,Calls->dF,Value->aJ,World->aI,bodyPost_ret->bY,maxLen->dD,wpQuiet_nil->dh
open Go.Builtin renaming append_->bU
open Go.Ending renaming returned->aK
open Go.IntKind renaming i64->aA
open Go.Obj renaming cells->aH
open Go.Proofs.Tryz renaming prog->dA
open Go.RowKit renaming Hid->aG,intOf->dG
open Go.RowKit.Below renaming refl->dw
open Go.Value renaming bool->aF,int->ah,pointer->aO,slice->aj,string->aN
open Go.World renaming size_alloc->bH
open List renaming getD_eq_getElem?_getD->aS,getElem?_eq_getElem->aV,length_cons->bP,length_take->bM,mem_cons_of_mem->bC,mem_cons_self->bF,mem_iff_getElem->bg,take_of_length_le->aY,take_succ_eq_append_getElem->aQ
open Nat renaming le_refl->cO,le_trans->bZ,zero_le->cZ
open Option renaming none->ak,some->au
set_option linter.unusedVariables false
set_option linter.unusedSimpArgs false
open Go.RowKit Go.Sort
set_option maxRecDepth 100000
set_option maxHeartbeats 12800000
variable {f fp:Fp} {B b c cap k len n o p:Nat} {T:TypeId} {Y:aI} {L:List Ac} {a:Option dH}
section
theorem Px {w: aI} {g: Gr} {us: List aJ} (h:gB w (fZ g) us f):∃ A:Ga,us=jm A g:=by
 obtain⟨u1,vW,f1,g1,rfl,o1,h2,_⟩:=h;obtain⟨u2,wY,f2,g2,rfl,o2,h3,_⟩:=h2;obtain⟨u3,Es,f3,g3,rfl,o3,⟨rfl,_⟩,_⟩:=h3;obtain⟨ma,mc,_,_,_,rfl,_⟩:=o1;obtain⟨ua,uc,_,rfl,_⟩:=IY.1 o2;obtain⟨la,lc,_,_,_,rfl,_⟩:=o3;exact⟨⟨ma,mc,ua,uc,la,lc⟩,rfl⟩
theorem vM {w: aI} {A: Ga} {g: Gr} (h:Bx w B T (iW A g)) (hl:gB w (fZ g) (jm A g) fp) (hB:¬ fp B):iP w B 0 (fZ g) fp:=⟨_,h.pc,hl,hB⟩
theorem yL {w X: aI} {r: Nat} {g: Gr} (h:fH X Y B 0 (fZ g) fp) (hf:∀ b,fp b->w.heap.size<=b/\b≠r) (hB:w.heap.size<=B) (hrB:r≠B) (hr:w.heap.size<=r) (hrX:r<X.heap.size) (hw:Below w.heap.size w X) {Z: Array aJ} (hz:Bx X r T Z):∃ A:Ga,(Y.cell? ⟨B,0,ak⟩=au (aj A.ma g.mem.length A.mc)/\Y.cell? ⟨B,1,ak⟩=au (aj A.ua g.up.length A.uc)/\Y.cell? ⟨B,2,ak⟩=au (aj A.la g.dS.length A.lc))/\Bx Y r T Z /\
  ∀ (Y2:aI),Below Y.heap.size Y Y2->∀ {a b c:aJ},kE w (((Y2.setCell ⟨r,0,ak⟩ a).setCell ⟨r,1,ak⟩ b).setCell ⟨r,2,ak⟩ c) (fZ g) (jm A g):=by
 obtain⟨gU,hp,hs,_⟩:=h.next;obtain⟨vs,hpc,hov,hnB⟩:=hp;obtain⟨A,rfl⟩:=Px hov;have hl3:(jm A g).length=3:=rfl;have c:=hpc.cell;have BX:=hw.size
 have hfp:∀ b,gU b->w.heap.size<=b/\b≠r:=fun b hb=>by
  rcases hs b hb with k|k
  ·exact hf b k
  ·exact⟨by omega,by omega⟩
 have lg : Below w.heap.size w Y := h.wrt.below hw BX (fun b hb => by
  rcases hb with hb|hb
  ·exact (hf b hb).1
  ·omega)
 refine ⟨A,⟨c 0 (by rw [hl3];omega),c 1 (by rw [hl3];omega),c 2 (by rw [hl3];omega)⟩,hz.wrt h.wrt (fun k => by
  rcases k with k|k
  ·exact (hf r k).2 rfl
  ·exact hrB k),fun Y2 hb2 {a b c}=>⟨gU,iy (gG hov hb2) (oK Y2 r) (fun b hb e=>(hfp b hb).2 e),fun b hb=>(hfp b hb).1,(oK Y2 r).below (eU lg hb2) (bZ lg.size hb2.size) (fun b e=>by omega)⟩⟩
def vG (g:Gr):Gr:=if jA g=aB then vC g else jG
def Hy (g:Gr) (x:Ac):Gr×Int:=if jA g=aB then ((gQ g x).1,if (gQ g x).2=aB then 0 else 1) else (jG,2)
def Nh (w w':aI) (e:Ending) (g:Gr) (k:Int):Prop:=∃ A:Ga,e=aK (.tuple #[gX A g,ah aA k])/\kE w w' (fZ g) (jm A g)
theorem Py (b:Bool) (w:aI):dF dA 56 #[aF b] w fun e w'=>e=aK (ah aA (if b=aB then 0 else 1))/\w'=w:=by
 cases b with
 | true =>
  go_enter Tryz.func56,Tryz.ntmps56
  go_wp2;go_ret
  exact⟨rfl,rfl⟩
 | false =>
  go_enter Tryz.func56,Tryz.ntmps56
  go_wp2;go_ret
  exact⟨rfl,rfl⟩
attribute [local irreducible] sv
theorem ZK (A:Ga) (g:Gr) (w:aI) (hv:wZ w A g) :
  dF dA 11 #[gX A g] w fun e w'=>AX w w' e (vG g):=by
 have gq:=iD;have hb0:Below w.heap.size w ((w.alloc (aH #[aj A.ma g.mem.length A.mc,aj A.ua g.up.length A.uc,aj A.la g.dS.length A.lc] 28)).alloc (aH #[aj ak 0 0,aj ak 0 0,aj ak 0 0] 28)):=((dw _ _).alloc (cO _) _).alloc (by simp) _
 have hx0:Bx ((w.alloc (aH #[aj A.ma g.mem.length A.mc,aj A.ua g.up.length A.uc,aj A.la g.dS.length A.lc] 28)).alloc (aH #[aj ak 0 0,aj ak 0 0,aj ak 0 0] 28)) w.heap.size 28 #[aj A.ma g.mem.length A.mc,aj A.ua g.up.length A.uc,aj A.la g.dS.length A.lc]:=(Bx.new w _ _).alloc _
 have hz0:Bx ((w.alloc (aH #[aj A.ma g.mem.length A.mc,aj A.ua g.up.length A.uc,aj A.la g.dS.length A.lc] 28)).alloc (aH #[aj ak 0 0,aj ak 0 0,aj ak 0 0] 28)) (w.heap.size+1) 28 #[aj ak 0 0,aj ak 0 0,aj ak 0 0]:=by
  have:=Bx.new ((w.alloc (aH #[aj A.ma g.mem.length A.mc,aj A.ua g.up.length A.uc,aj A.la g.dS.length A.lc] 28))) 28 #[aj ak 0 0,aj ak 0 0,aj ak 0 0];simp only[bH] at this;exact this
 have hv0:=hv.below hb0;unfold gX iW;generalize qP:(w.alloc (aH #[aj A.ma g.mem.length A.mc,aj A.ua g.up.length A.uc,aj A.la g.dS.length A.lc] 28)).alloc (aH #[aj ak 0 0,aj ak 0 0,aj ak 0 0] 28)=W0 at *;have hK:=Ho A g W0 hv0;unfold gX iW at hK;have HX0:=dP hx0;have HZ0:=dP hz0;have E5:=dP hv0;have HB0:=dP hb0;obtain⟨c0,c1,c2⟩:=Bx.g3 hx0;clear hv hb0 hx0 hz0 hv0
 cases hok:jA g with
 | false =>
  have HZ:aG (vG g=jG):=by rw[aG,vG,if_neg (by rw[hok];exact Bool.false_ne_true)]
  rw[hok] at hK;clear hok;go_enter Tryz.func11,Tryz.ntmps11
  go_wp2_with fail
  refine hK.mono ?_;rintro e w1 ⟨rfl,hb1⟩;have hz1:=HZ0.out.below hb1;have HB1:=dP (eU HB0.out hb1);obtain⟨z0,z1,z2⟩:=Bx.g3 hz1;obtain⟨f0,f1,f2⟩:=hz1.f3;clear hz1 hb1 c0 c1 c2 hK;go_wp2;refine bY (v:=gX ⟨ak,0,ak,0,ak,0⟩ jG) (by simp[results,Tryz.results11,go_sem,gX,iW,jG, *]) rfl ?_
  rw[HZ.out];exact⟨_,rfl,AY ((oK w1 (w.heap.size+1)).below HB1.out HB1.out.size (fun b h=>by omega))⟩
 | true =>
  have HZ:aG (vG g=vC g):=by rw[aG,vG,if_pos hok]
  obtain⟨n,ok⟩:=oD.1 hok;rw[hok] at hK;clear hok;go_enter Tryz.func11,Tryz.ntmps11
  go_wp2_with fail
  refine hK.mono ?_;rintro e w1 ⟨rfl,hb1⟩;have HB1:=dP (eU HB0.out hb1);have HZ1:=dP (HZ0.out.below hb1);have hC:=EL A g w1 (E5.out.below hb1) ok.ln;unfold gX iW at hC;clear c0 c1 c2 hK;obtain⟨c0,c1,c2⟩:=Bx.g3 (HX0.out.below hb1);clear hb1;go_wp2_with fail
  refine hC.mono ?_;rintro e w2 ⟨A2,rfl,fp,hl2,hf2,hb2⟩;have hlt2:=jd hl2;have HB2:=dP (eU HB1.out hb2);have hba:=dX w2 (aH #[aj A2.ma g.mem.length A2.mc,aj A2.ua g.up.length A2.uc,aj A2.la g.dS.length A2.lc] 28);have hxb:=Bx.new w2 28 #[aj A2.ma g.mem.length A2.mc,aj A2.ua g.up.length A2.uc,aj A2.la g.dS.length A2.lc];have hP:iP (w2.alloc (aH #[aj A2.ma g.mem.length A2.mc,aj A2.ua g.up.length A2.uc,aj A2.la g.dS.length A2.lc] 28)) w2.heap.size 0 (fZ g) fp:=vM (A:=A2) hxb (gG hl2 hba) (fun k=>by have:=hlt2 _ k;omega)
  have HZ3:aG (Bx (w2.alloc (aH #[aj A2.ma g.mem.length A2.mc,aj A2.ua g.up.length A2.uc,aj A2.la g.dS.length A2.lc] 28)) (w.heap.size+1) 28 #[aj ak 0 0,aj ak 0 0,aj ak 0 0]):=(HZ1.out.below hb2).below hba;have HB3:=dP (eU HB2.out hba);have hr1:=HZ1.out.lt;have hs2:=hb2.size;have hS:=Xc w2.heap.size 0 g n fp _ hP ok;unfold gX iW;generalize OY:w2.alloc (aH #[aj A2.ma g.mem.length A2.mc,aj A2.ua g.up.length A2.uc,aj A2.la g.dS.length A2.lc] 28)=V3 at *;have HF2:=dP hf2;have hB3:=hxb.lt;clear hxb hP hl2 hf2 hlt2 hb2 hba c0 c1 c2 hC;go_wp2_with fail
  refine hS.mono ?_;rintro e Y ⟨rfl,hBc⟩;have hsw:=HB1.out.size;obtain⟨A3,⟨y0,y1,y2⟩,hz3,HN⟩:=yL (w:=w) (r:=(w.heap.size+1)) hBc (fun b hb=>by have:=HF2.out b hb;exact⟨by omega,by omega⟩) (by omega) (by omega) (by omega) (by have:=HZ3.out.lt;omega) HB3.out HZ3.out
  obtain⟨z0,z1,z2⟩:=Bx.g3 hz3;obtain⟨f0,f1,f2⟩:=hz3.f3;have sF:aG (∀ {a b c:aJ},kE w (((Y.setCell ⟨(w.heap.size+1),0,ak⟩ a).setCell ⟨(w.heap.size+1),1,ak⟩ b).setCell ⟨(w.heap.size+1),2,ak⟩ c) (fZ (vC g)) (jm A3 (vC g))):=HN Y (dw _ _);generalize hpm:vC g=pm at *;clear hS hBc HN hz3 hpm;go_wp2;refine bY (v:=gX A3 pm) (by simp[results,Tryz.results11,go_sem,gX,iW, *]) rfl ?_
  rw[HZ.out];exact⟨_,rfl,sF.out⟩
theorem ZL (A:Ga) (g:Gr) (x:Ac) (w:aI) (hv:wZ w A g) (ht:x.txt.length<=1000000000) :
  dF dA 21 #[gX A g,o8 x] w fun e w'=>Nh w w' e (Hy g x).1 (Hy g x).2:=by
 have gq:=iD;have hb0:Below w.heap.size w (((w.alloc (aH #[aj A.ma g.mem.length A.mc,aj A.ua g.up.length A.uc,aj A.la g.dS.length A.lc] 28)).alloc (aH #[ah aA x.kind,ah aA x.a,ah aA x.b,aN (sv x.txt)] 38)).alloc (aH #[aj ak 0 0,aj ak 0 0,aj ak 0 0] 28)):=((dw _ _).alloc (cO _) _).alloc (by simp) _ |>.alloc (by simp only[bH];omega) _
 have hx0:Bx (((w.alloc (aH #[aj A.ma g.mem.length A.mc,aj A.ua g.up.length A.uc,aj A.la g.dS.length A.lc] 28)).alloc (aH #[ah aA x.kind,ah aA x.a,ah aA x.b,aN (sv x.txt)] 38)).alloc (aH #[aj ak 0 0,aj ak 0 0,aj ak 0 0] 28)) w.heap.size 28 #[aj A.ma g.mem.length A.mc,aj A.ua g.up.length A.uc,aj A.la g.dS.length A.lc]:=((Bx.new w _ _).alloc _).alloc _
 have ha0:Bx (((w.alloc (aH #[aj A.ma g.mem.length A.mc,aj A.ua g.up.length A.uc,aj A.la g.dS.length A.lc] 28)).alloc (aH #[ah aA x.kind,ah aA x.a,ah aA x.b,aN (sv x.txt)] 38)).alloc (aH #[aj ak 0 0,aj ak 0 0,aj ak 0 0] 28)) (w.heap.size+1) 38 #[ah aA x.kind,ah aA x.a,ah aA x.b,aN (sv x.txt)]:=by
  have:=(Bx.new (w.alloc (aH #[aj A.ma g.mem.length A.mc,aj A.ua g.up.length A.uc,aj A.la g.dS.length A.lc] 28)) 38 #[ah aA x.kind,ah aA x.a,ah aA x.b,aN (sv x.txt)]).alloc (aH #[aj ak 0 0,aj ak 0 0,aj ak 0 0] 28);simp only[bH] at this;exact this
 have hz0:Bx (((w.alloc (aH #[aj A.ma g.mem.length A.mc,aj A.ua g.up.length A.uc,aj A.la g.dS.length A.lc] 28)).alloc (aH #[ah aA x.kind,ah aA x.a,ah aA x.b,aN (sv x.txt)] 38)).alloc (aH #[aj ak 0 0,aj ak 0 0,aj ak 0 0] 28)) (w.heap.size+2) 28 #[aj ak 0 0,aj ak 0 0,aj ak 0 0]:=by
  have:=Bx.new ((w.alloc (aH #[aj A.ma g.mem.length A.mc,aj A.ua g.up.length A.uc,aj A.la g.dS.length A.lc] 28)).alloc (aH #[ah aA x.kind,ah aA x.a,ah aA x.b,aN (sv x.txt)] 38)) 28 #[aj ak 0 0,aj ak 0 0,aj ak 0 0];simp only[bH] at this;exact this
 have hv0:=hv.below hb0;unfold gX iW;unfold o8 rV;generalize qP:((w.alloc (aH #[aj A.ma g.mem.length A.mc,aj A.ua g.up.length A.uc,aj A.la g.dS.length A.lc] 28)).alloc (aH #[ah aA x.kind,ah aA x.a,ah aA x.b,aN (sv x.txt)] 38)).alloc (aH #[aj ak 0 0,aj ak 0 0,aj ak 0 0] 28)=W0 at *;have hK:=Ho A g W0 hv0;unfold gX iW at hK;have HX0:=dP hx0;have HZ0:=dP hz0;have Xd:=dP ha0;have E5:=dP hv0;have HB0:=dP hb0;obtain⟨c0,c1,c2⟩:=Bx.g3 hx0;clear hv hb0 hx0 hz0 hv0 ha0
 cases hok:jA g with
 | false =>
  have HZ:aG (Hy g x=(jG,2)):=by rw[aG,Hy,if_neg (by rw[hok];exact Bool.false_ne_true)]
  rw[hok] at hK;clear hok;go_enter Tryz.func21,Tryz.ntmps21
  go_wp2_with fail
  refine hK.mono ?_;rintro e w1 ⟨rfl,hb1⟩;have hz1:=HZ0.out.below hb1;have HB1:=dP (eU HB0.out hb1);obtain⟨z0,z1,z2⟩:=Bx.g3 hz1;obtain⟨f0,f1,f2⟩:=hz1.f3;clear hz1 hb1 c0 c1 c2 hK;go_wp2;refine bY (v:=.tuple #[gX ⟨ak,0,ak,0,ak,0⟩ jG,ah aA 2]) (by simp[results,Tryz.results21,go_sem,gX,iW,jG, *]) rfl ?_
  rw[HZ.out];exact⟨_,rfl,AY ((oK w1 (w.heap.size+2)).below HB1.out HB1.out.size (fun b h=>by omega))⟩
 | true =>
  have HZ:aG (Hy g x=((gQ g x).1,if (gQ g x).2=aB then 0 else 1)):=by rw[aG,Hy,if_pos hok]
  obtain⟨n,ok⟩:=oD.1 hok;rw[hok] at hK;clear hok;go_enter Tryz.func21,Tryz.ntmps21
  go_wp2_with fail
  refine hK.mono ?_;rintro e w1 ⟨rfl,hb1⟩;have HB1:=dP (eU HB0.out hb1);have HZ1:=dP (HZ0.out.below hb1);have HA1:=dP (Xd.out.below hb1);have hC:=EL A g w1 (E5.out.below hb1) ok.ln;unfold gX iW at hC;clear c0 c1 c2 hK;obtain⟨c0,c1,c2⟩:=Bx.g3 (HX0.out.below hb1);clear hb1;go_wp2_with fail
  refine hC.mono ?_;rintro e w2 ⟨A2,rfl,fp,hl2,hf2,hb2⟩;have hlt2:=jd hl2;have HB2:=dP (eU HB1.out hb2);have hba:=dX w2 (aH #[aj A2.ma g.mem.length A2.mc,aj A2.ua g.up.length A2.uc,aj A2.la g.dS.length A2.lc] 28);have hxb:=Bx.new w2 28 #[aj A2.ma g.mem.length A2.mc,aj A2.ua g.up.length A2.uc,aj A2.la g.dS.length A2.lc];have hP:iP (w2.alloc (aH #[aj A2.ma g.mem.length A2.mc,aj A2.ua g.up.length A2.uc,aj A2.la g.dS.length A2.lc] 28)) w2.heap.size 0 (fZ g) fp:=vM (A:=A2) hxb (gG hl2 hba) (fun k=>by have:=hlt2 _ k;omega)
  have HZ3:aG (Bx (w2.alloc (aH #[aj A2.ma g.mem.length A2.mc,aj A2.ua g.up.length A2.uc,aj A2.la g.dS.length A2.lc] 28)) (w.heap.size+2) 28 #[aj ak 0 0,aj ak 0 0,aj ak 0 0]):=(HZ1.out.below hb2).below hba;have ha3:=(HA1.out.below hb2).below hba;obtain⟨x0,x1,x2,x3⟩:=Bx.a4 ha3;have HB3:=dP (eU HB2.out hba);have hr1:=HZ1.out.lt;have hs2:=hb2.size;have hS:=EY w2.heap.size 0 g n x fp _ hP ok ht;unfold o8 rV at hS;unfold gX iW;generalize OY:w2.alloc (aH #[aj A2.ma g.mem.length A2.mc,aj A2.ua g.up.length A2.uc,aj A2.la g.dS.length A2.lc] 28)=V3 at *;have HF2:=dP hf2;have hB3:=hxb.lt;clear hxb hP hl2 hf2 hlt2 hb2 hba c0 c1 c2 hC ha3;go_wp2_with fail
  refine hS.mono ?_;rintro e Y ⟨rfl,hBc⟩;have hsw:=HB1.out.size;obtain⟨A3,⟨y0,y1,y2⟩,hz3,HN⟩:=yL (w:=w) (r:=(w.heap.size+2)) hBc (fun b hb=>by have:=HF2.out b hb;exact⟨by omega,by omega⟩) (by omega) (by omega) (by omega) (by have:=HZ3.out.lt;omega) HB3.out HZ3.out
  have sF:=dP HN;have HZ4:=dP hz3;generalize hpm:(gQ g x).1=pm at *;generalize hpb:(gQ g x).2=pb at *;have TT:∀ {x v},Y.cell? x=au v->∀ q:Bk Y,q.w.cell? x=au v:=fun h q=>gy q.h h
  have t0:=TT y0;have t1:=TT y1;have t2:=TT y2;have C:∀ q:Bk Y,dF dA 56 #[aF pb] q.w fun e w'=>e=aK (ah aA (if pb=aB then 0 else 1))/\Below q.w.heap.size q.w w':=fun q=>(Py pb q.w).mono (fun e w' h=>⟨h.1,by rw[h.2];exact dw _ _⟩)
  obtain⟨cd,hcd⟩:∃ cd:Int,aG ((if pb=aB then (0:Int) else 1)=cd):=⟨_,rfl⟩
  rw[hcd.out] at C;clear hS hBc HN hz3 hpm hpb TT x0 x1 x2 x3 y0 y1 y2;go_upto_region 5 with fail
  refine gK (C:=fun w'=>∃ p:Bk Y,w'=p.w) 3 gq (by kernel_rfl) ⟨⟨Y.drewN 1,fO (dw _ _)⟩,rfl⟩ ?_
  simp only[List.take_succ_cons,List.take_zero]
  repeat (go_big_quiet_step ((first|(go_at_call 56;exact eY _ (C _))|rfl)))
  refine dh (iL fun wE eG=>?_)
  simp only[List.drop_succ_cons,List.drop_zero]
  have hz5:=HZ4.out.below eG;obtain⟨z0,z1,z2⟩:=Bx.g3 hz5;obtain⟨f0,f1,f2⟩:=hz5.f3;have HN5:aG (∀ {a b c:aJ},kE w (((wE.setCell ⟨(w.heap.size+2),0,ak⟩ a).setCell ⟨(w.heap.size+2),1,ak⟩ b).setCell ⟨(w.heap.size+2),2,ak⟩ c) (fZ pm) (jm A3 pm)):=sF.out wE eG;clear hz5 eG C t0 t1 t2 sF;go_wp2;refine bY (v:=.tuple #[gX A3 pm,ah aA cd]) (by simp[results,Tryz.results21,go_sem,gX,iW, *]) rfl ?_
  rw[HZ.out,hcd.out];exact⟨_,rfl,HN5.out⟩
end
section
def D5 (x:Ac):List dY:=[.v (ah aA x.kind),.v (ah aA x.a),.v (ah aA x.b),.v (aN (sv x.txt))]
theorem am8 (x:Ac):(D5 x).length=4:=rfl
def yM:Ac:=⟨0,0,0,[]⟩
def xq (L:List Ac) (k:Nat):Ac:=L.getD k yM
theorem Pz (hk:k<L.length):L[k]?=au (xq L k):=by simp[xq,List.getD,hk]
theorem Xe {w: aI} (h:dY.vw w (iH 4 D5 L) (aj a L.length c)) (hk:k<L.length):∃ b off,a=au ⟨b,off,ak⟩/\w.cell? ⟨b,off+k*4,ak⟩=au (ah aA (xq L k).kind)/\w.cell? ⟨b,off+k*4+1,ak⟩=au (ah aA (xq L k).a)/\w.cell? ⟨b,off+k*4+2,ak⟩=au (ah aA (xq L k).b)/\w.cell? ⟨b,off+k*4+3,ak⟩=au (aN (sv (xq L k).txt)):=by
 obtain⟨b,off,h1,h2⟩:=IE am8 h (Pz hk);obtain⟨u0,c0,rfl⟩:=h2.at (j:=0) rfl;obtain⟨u1,c1,rfl⟩:=h2.at (j:=1) rfl;obtain⟨u2,c2,rfl⟩:=h2.at (j:=2) rfl;obtain⟨u3,c3,rfl⟩:=h2.at (j:=3) rfl;exact⟨b,off,h1,c0,c1,c2,c3⟩
def Hz (b:Bool):Int:=if b=aB then 0 else 1
def xO:Gr->List Ac->List Int
 | _,[]=>[]
 | g,x::l=>Hz (gQ g x).2::xO (gQ g x).1 l
theorem LX (g:Gr) (x:Ac):∀ (l:List Ac) (g:Gr),xO g (l++[x])=xO g l++[Hz (gQ (oU g l) x).2]
 | [],g=>rfl
 | y::l,g=>by
  show Hz (gQ g y).2::xO (gQ g y).1 (l++[x])=_
  rw[LX g x l]
  rfl
theorem PD:∀ (l:List Ac) (g:Gr),(xO g l).length=l.length
 | [],g=>rfl
 | y::l,g=>by rw[xO,bP,bP,PD l]
theorem UN (g:Gr) (l:List Ac) (x:Ac):oU g (l++[x])=(gQ (oU g l) x).1:=by
 unfold oU;rw[List.foldl_append]
 rfl
theorem PE {n:Nat}:∀ (l:List Ac) {g:Gr},OkG g n->OkG (oU g l) n
 | [],g,h=>h
 | x::l,g,h=>PE l (RH h x).1
def zx (g:Gr) (L:List Ac):Gr×List Int:=if jA g=aB/\L.length<=400 then (oU g L,xO g L) else (jG,[])
def aj0 (w w':aI) (e:Ending) (g:Gr) (cs:List Int):Prop:=∃ (A:Ga) (a:Option dH) (c:Nat),e=aK (.tuple #[gX A g,aj a cs.length c])/\kE w w' (fZ g++[gJ cs]) (jm A g++[aj a cs.length c])
structure D6 (w X:aI) (B r:Nat) (g:Gr) (cs:List Int) (v:aJ) (fp fc:Fp):Prop where
 kT:iP X B 0 (fZ g) fp
 cod:dY.ow X (gJ cs) v fc
 Xf:∀ b,fc b->¬ fp b
 jV:∀ b,fp b->w.heap.size<=b/\b≠r
 LY:∀ b,fc b->w.heap.size<=b/\b≠r/\b≠B
 room:Bx X r 28 #[aj ak 0 0,aj ak 0 0,aj ak 0 0]
 rB:w.heap.size<=r/\w.heap.size<=B/\r≠B
 below:Below w.heap.size w X
theorem D6.act {w X: aI} {r: Nat} {g g': Gr} {cs: List Int} {v: aJ} {fc: Fp} (h:D6 w X B r g cs v fp fc) (hb:fH X Y B 0 (fZ g') fp):∃ fp',D6 w Y B r g' cs v fp' fc:=by
 obtain⟨gU,hp,hs,_⟩:=hb.next;have BX:=h.below.size;have hrl:=h.room.lt;have hcl:=dY.kW h.cod;have hw:=hb.wrt;refine⟨gU,hp,dY.lJ h.cod hw (fun b hb hk=>?_),fun b hb hk=>?_,fun b hb=>?_,h.LY,h.room.wrt hw (fun hk=>?_),h.rB,hw.below h.below BX (fun b hk=>?_)⟩
 ·rcases hk with hk|hk
  ·exact h.Xf b hb hk
  ·exact (h.LY b hb).2.2 hk
 ·rcases hs b hk with k|k
  ·exact h.Xf b hb k
  ·have:=hcl b hb;omega
 ·rcases hs b hb with k|k
  ·exact h.jV b k
  ·exact⟨by omega,by omega⟩
 ·rcases hk with hk|hk
  ·exact (h.jV r hk).2 rfl
  ·exact h.rB.2.2 hk
 ·rcases hk with hk|hk
  ·exact (h.jV b hk).1
  ·rw[hk];exact h.rB.2.1
theorem D6.app {w X: aI} {r: Nat} {g: Gr} {cs: List Int} {v: aJ} {fc: Fp} (h:D6 w X B r g cs v fp fc) (t:Int) (hl:cs.length<=1000000):∃ a c,v=aj a cs.length c/\∀ Y,Same Y (X.alloc (aH #[ah aA t] 2)) ->
  ∃ v' w4,(bU #[41,41] 41 #[v,aj (au ⟨X.heap.size,0,ak⟩) 1 1]).run dA Y=.ok v' w4/\∃ a' c' fc',v'=aj a' (cs.length+1) c'/\D6 w w4 B r g (cs++[t]) (aj a' (cs.length+1) c') fp fc':=by
 obtain⟨a,c,rfl,hA⟩:=nP t h.cod hl;refine⟨a,c,rfl,fun Y hY=>?_⟩
 obtain⟨v',w4,h1,a',c',f',rfl,h2,h3,h4⟩:=hA Y hY;have BX:=h.below.size;have hrl:=h.room.lt;have hBl:=h.kT.lt;have hpl:=h.kT.flt;refine⟨_,w4,h1,a',c',f',rfl,h.kT.wrt h4 (fun b hb hk=>?_),h2,fun b hb hk=>?_,h.jV,fun b hb=>?_,h.room.wrt h4 (fun hk=>(h.LY r hk).2.1 rfl),h.rB,h4.below h.below BX (fun b hk=>(h.LY b hk).1)⟩
 ·rcases hb with hb|hb
  ·exact h.Xf b hk hb
  ·exact (h.LY b hk).2.2 hb
 ·rcases h3 b hb with k|k
  ·exact h.Xf b k hk
  ·have:=hpl b hk;omega
 ·rcases h3 b hb with k|k
  ·exact h.LY b k
  ·exact⟨by omega,by omega,by omega⟩
theorem D6.done {w X: aI} {r: Nat} {g: Gr} {cs: List Int} {v: aJ} {fc: Fp} (h:D6 w X B r g cs v fp fc):∃ (A:Ga) (a:Option dH) (c:Nat),v=aj a cs.length c/\(X.cell? ⟨B,0,ak⟩=au (aj A.ma g.mem.length A.mc)/\X.cell? ⟨B,1,ak⟩=au (aj A.ua g.up.length A.uc)/\X.cell? ⟨B,2,ak⟩=au (aj A.la g.dS.length A.lc)) /\
  ∀ {x y z:aJ},kE w (((X.setCell ⟨r,0,ak⟩ x).setCell ⟨r,1,ak⟩ y).setCell ⟨r,2,ak⟩ z) (fZ g++[gJ cs]) (jm A g++[aj a cs.length c]):=by
 obtain⟨vs,hpc,hov,hnB⟩:=h.kT;obtain⟨A,rfl⟩:=Px hov;have hl3:(jm A g).length=3:=rfl;have c:=hpc.cell;have ay8:=h.cod;obtain⟨a,cc,_,rfl,_⟩:=je.1 ay8;refine⟨A,a,cc,rfl,⟨c 0 (by rw[hl3];omega),c 1 (by rw[hl3];omega),c 2 (by rw[hl3];omega)⟩,fun {x y z}=>⟨_,iy (nN hov (BO.2 ay8) (fun b hb hk=>h.Xf b hk hb)) (oK X r) (fun b hb e=>?_),fun b hb=>?_,(oK X r).below h.below h.below.size (fun b e=>by rw[e];exact h.rB.1)⟩⟩
 ·rcases hb with hb|hb
  ·exact (h.jV b hb).2 e
  ·exact (h.LY b hb).2.1 e
 ·rcases hb with hb|hb
  ·exact (h.jV b hb).1
  ·exact (h.LY b hb).1
attribute [local irreducible] sv
theorem ZM (A:Ga) (g:Gr) (pa:Option dH) (pc:Nat) (L:List Ac) (w:aI) (hv:wZ w A g) (hL:dY.vw w (iH 4 D5 L) (aj pa L.length pc)) (hll:L.length<=dD) (ht:∀ x∈L,x.txt.length<=1000000000) :
  dF dA 19 #[gX A g,aj pa L.length pc] w fun e w'=>aj0 w w' e (zx g L).1 (zx g L).2:=by
 have hb0:Below w.heap.size w ((w.alloc (aH #[aj A.ma g.mem.length A.mc,aj A.ua g.up.length A.uc,aj A.la g.dS.length A.lc] 28)).alloc (aH #[aj ak 0 0,aj ak 0 0,aj ak 0 0] 28)):=((dw _ _).alloc (cO _) _).alloc (by simp) _
 have hx0:Bx ((w.alloc (aH #[aj A.ma g.mem.length A.mc,aj A.ua g.up.length A.uc,aj A.la g.dS.length A.lc] 28)).alloc (aH #[aj ak 0 0,aj ak 0 0,aj ak 0 0] 28)) w.heap.size 28 #[aj A.ma g.mem.length A.mc,aj A.ua g.up.length A.uc,aj A.la g.dS.length A.lc]:=(Bx.new w _ _).alloc _
 have hz0:Bx ((w.alloc (aH #[aj A.ma g.mem.length A.mc,aj A.ua g.up.length A.uc,aj A.la g.dS.length A.lc] 28)).alloc (aH #[aj ak 0 0,aj ak 0 0,aj ak 0 0] 28)) (w.heap.size+1) 28 #[aj ak 0 0,aj ak 0 0,aj ak 0 0]:=by
  have:=Bx.new (w.alloc (aH #[aj A.ma g.mem.length A.mc,aj A.ua g.up.length A.uc,aj A.la g.dS.length A.lc] 28)) 28 #[aj ak 0 0,aj ak 0 0,aj ak 0 0];simp only[bH] at this;exact this
 have hv0:=hv.below hb0;unfold dD at hll;unfold gX iW;generalize qP:(w.alloc (aH #[aj A.ma g.mem.length A.mc,aj A.ua g.up.length A.uc,aj A.la g.dS.length A.lc] 28)).alloc (aH #[aj ak 0 0,aj ak 0 0,aj ak 0 0] 28)=W0 at *;have hK:=Ho A g W0 hv0;unfold gX iW at hK;have HX0:=dP hx0;have HZ0:=dP hz0;have E5:=dP hv0;have HB0:=dP hb0;have HLw:=dP hL;have Xa:=dP ht;obtain⟨c0,c1,c2⟩:=Bx.g3 hx0;clear hv hb0 hx0 hz0 hv0 hL ht
 have ay9:aG (∀ (b:Nat) (X:aI),Below w.heap.size w X->w.heap.size<=b->∀ {x y z:aJ},kE w (((X.setCell ⟨w.heap.size+1,0,ak⟩ x).setCell ⟨w.heap.size+1,1,ak⟩ y).setCell ⟨w.heap.size+1,2,ak⟩ z) (fZ jG++[gJ []]) (jm ⟨ak,0,ak,0,ak,0⟩ jG++[aj (au ⟨b,0,ak⟩) 0 0])):=fun b X hX hb {x y z}=>by
  refine⟨_,nN (Ov _) (BO.2 (je.2 ⟨au ⟨b,0,ak⟩,0,ak,rfl,iQ.nil _ _ (kL _ _),fun b=>Iff.rfl⟩:dY.ow _ (gJ []) (aj (au ⟨b,0,ak⟩) 0 0) (fun b=>(ak:Option Nat)=au b))) (fun b h _=>h),fun b h=>?_,(oK X (w.heap.size+1)).below hX hX.size (fun b e=>by omega)⟩
  rcases h with h|h
  ·exact absurd h id
  ·cases h
 cases hok:jA g with
 | false =>
  have HZ:aG (zx g L=(jG,[])):=by rw[aG,zx,if_neg (fun h=>by rw[hok] at h;exact absurd h.1 Bool.false_ne_true)]
  rw[hok] at hK;clear hok;go_enter Tryz.func19,Tryz.ntmps19
  go_wp2_with fail
  refine hK.mono ?_;rintro e w1 ⟨rfl,hb1⟩;have hz1:=HZ0.out.below hb1;have HB1:=dP (eU HB0.out hb1);obtain⟨z0,z1,z2⟩:=Bx.g3 (hz1.alloc (aH #[] 2));obtain⟨f0,f1,f2⟩:=(hz1.alloc (aH #[] 2)).f3;have HN:=ay9.out w1.heap.size (w1.alloc (aH #[] 2)) (HB1.out.trans ((dX w1 _).mono HB1.out.size)) HB1.out.size (x:=aj ak 0 0) (y:=aj ak 0 0) (z:=aj ak 0 0);have sF:=dP HN;clear hz1 hb1 c0 c1 c2 hK HN;go_wp2;refine bY (v:=.tuple #[gX ⟨ak,0,ak,0,ak,0⟩ jG,aj (au ⟨w1.heap.size,0,ak⟩) 0 0]) (by simp[results,Tryz.results19,go_sem,gX,iW,jG, *]) rfl ?_
  rw[HZ.out];exact⟨_,_,_,rfl,sF.out⟩
 | true =>
  rw[hok] at hK;by_cases az0:L.length<=400;rotate_left
  ·have g4:(400:Int)<L.length:=by omega
   have HZ:aG (zx g L=(jG,[])):=by rw[aG,zx,if_neg (fun h=>az0 h.2)]
   clear hok;go_enter Tryz.func19,Tryz.ntmps19
   go_wp2_with fail
   refine hK.mono ?_;rintro e w1 ⟨rfl,hb1⟩;have hz1:=HZ0.out.below hb1;have HB1:=dP (eU HB0.out hb1);obtain⟨z0,z1,z2⟩:=Bx.g3 (hz1.alloc (aH #[] 2));obtain⟨f0,f1,f2⟩:=(hz1.alloc (aH #[] 2)).f3;have HN:=ay9.out w1.heap.size (w1.alloc (aH #[] 2)) (HB1.out.trans ((dX w1 _).mono HB1.out.size)) HB1.out.size (x:=aj ak 0 0) (y:=aj ak 0 0) (z:=aj ak 0 0);have sF:=dP HN;clear hz1 hb1 c0 c1 c2 hK HN;go_wp2;refine bY (v:=.tuple #[gX ⟨ak,0,ak,0,ak,0⟩ jG,aj (au ⟨w1.heap.size,0,ak⟩) 0 0]) (by simp[results,Tryz.results19,go_sem,gX,iW,jG, *]) rfl ?_
   rw[HZ.out];exact⟨_,_,_,rfl,sF.out⟩
  have g4:¬ ((400:Int)<L.length):=by omega
  have HZ:aG (zx g L=(oU g L,xO g L)):=by rw[aG,zx,if_pos ⟨hok,az0⟩]
  obtain⟨n,ok⟩:=oD.1 hok;clear hok;go_enter Tryz.func19,Tryz.ntmps19
  go_wp2_with fail
  refine hK.mono ?_;rintro e w1 ⟨rfl,hb1⟩;have HB1:=dP (eU HB0.out hb1);have HZ1:=dP (HZ0.out.below hb1);have hC:=EL A g w1 (E5.out.below hb1) ok.ln;unfold gX iW at hC;clear c0 c1 c2 hK;obtain⟨c0,c1,c2⟩:=Bx.g3 (HX0.out.below hb1);clear hb1;go_wp2_with fail
  refine hC.mono ?_;rintro e w2 ⟨A2,rfl,fp,hl2,hf2,hb2⟩;have hlt2:=jd hl2;have HB2:=dP (eU HB1.out hb2);have hba:=dX w2 (aH #[aj A2.ma g.mem.length A2.mc,aj A2.ua g.up.length A2.uc,aj A2.la g.dS.length A2.lc] 28);have hxb:=Bx.new w2 28 #[aj A2.ma g.mem.length A2.mc,aj A2.ua g.up.length A2.uc,aj A2.la g.dS.length A2.lc];have hP:iP (w2.alloc (aH #[aj A2.ma g.mem.length A2.mc,aj A2.ua g.up.length A2.uc,aj A2.la g.dS.length A2.lc] 28)) w2.heap.size 0 (fZ g) fp:=vM (A:=A2) hxb (gG hl2 hba) (fun k=>by have:=hlt2 _ k;omega)
  have HZ3:aG (Bx (w2.alloc (aH #[aj A2.ma g.mem.length A2.mc,aj A2.ua g.up.length A2.uc,aj A2.la g.dS.length A2.lc] 28)) (w.heap.size+1) 28 #[aj ak 0 0,aj ak 0 0,aj ak 0 0]):=(HZ1.out.below hb2).below hba;have HB3:=dP (eU HB2.out hba);have hr1:=HZ1.out.lt;have hs2:=hb2.size;have hsw:=HB1.out.size;unfold gX iW;generalize OY:w2.alloc (aH #[aj A2.ma g.mem.length A2.mc,aj A2.ua g.up.length A2.uc,aj A2.la g.dS.length A2.lc] 28)=V3 at *;obtain⟨B,hB⟩:∃ B:Nat,aG (w2.heap.size=B):=⟨_,rfl⟩
  have hP0:D6 w (V3.alloc (aH #[] 2)) B (w.heap.size+1) g [] (aj (au ⟨V3.heap.size,0,ak⟩) 0 0) fp (fun _=>False):=by
   have hbc:=dX V3 (aH #[] 2);have eB:=hB.out;refine⟨by rw[<- eB];exact hP.below hbc,je.2 ⟨au ⟨V3.heap.size,0,ak⟩,0,ak,rfl,iQ.nil _ _ (kL _ _),fun b=>by simp⟩,fun b h=>h.elim,fun b hb=>?_,fun b h=>h.elim,HZ3.out.below hbc,⟨by omega,by omega,by omega⟩,eU HB3.out hbc⟩
   have:=hf2 b hb;exact⟨by omega,by omega⟩
  have HP0:=dP hP0;have iE:aG (∀ k,OkG (oU g (L.take k)) n):=fun k=>PE _ ok
  clear hxb hP hl2 hf2 hlt2 hb2 hba c0 c1 c2 hC hP0 HZ3 HB3 ok;go_wp2;rw[hB.out];generalize V3.alloc (aH #[] 2)=V4 at *
  go_loopw [7,8] (fun v i wr=>∃ k:Nat,k<=L.length/\i=ah aA (k:Int)/\∃ q cs a c fp fc,aG (q=oU g (L.take k))/\aG (cs=xO g (L.take k))/\v=aj a cs.length c/\D6 w wr B (w.heap.size+1) q cs (aj a cs.length c) fp fc) (fun _ i _=>L.length-(dG i).toNat)
  case atStart=>exact⟨0,cZ _,rfl,g,[],_,_,_,_,rfl,rfl,rfl,HP0.out⟩
  case round =>
   obtain⟨k,hk,rfl,q,cs,a,c,gU,fc,hq,hcs,rfl,hI⟩:=hrel;by_cases hlt:k<L.length
   ·have k1:(k:Int)<L.length:=by omega
    have k0:(0:Int)<=k:=by omega
    have hcl:cs.length<=1000000:=by rw[hcs.out,PD,bM];omega
    obtain⟨lb,lo,hpa,d0,d1,d2,d3⟩:=Xe (dY.Dn HLw.out hI.below) hlt;have hok:OkG q n:=by rw[hq.out];exact iE.out k
    have htk:=Xa.out (xq L k) (List.mem_of_getElem? (Pz hlt))
    have htake:L.take (k+1)=L.take k++[xq L k]:=by
     rw[aQ hlt];simp[xq,List.getD,hlt]
    have HQ:aG (oU g (L.take (k+1))=(gQ q (xq L k)).1):=by rw[aG,htake,UN,hq.out]
    have HC:aG (xO g (L.take (k+1))=cs++[Hz (gQ q (xq L k)).2]):=by rw[aG,htake,LX g,hcs.out,hq.out]
    have hAc:=EY B 0 q n (xq L k) gU wr hI.kT hok htk;unfold o8 rV at hAc;have HI:=dP hI;subst hpa;generalize xq L k=x at *;clear htake hq hcs hI hok;go_upto_region 9 with (go_at_call 55;refine hAc.mono ?_;rintro e w5 ⟨rfl,hb5⟩;obtain⟨fp2,hI2⟩:=HI.out.act hb5;have HI2:aG (D6 w w5 B (w.heap.size+1) (gQ q x).1 cs (aj a cs.length c) fp2 fc):=hI2;clear hb5 hI2)
    obtain⟨a0,c0,e0,hA⟩:=HI2.out.app (Hz (gQ q x).2) hcl
    cases e0
    have hCd:∀ b,dF dA 56 #[aF b] w5 fun e w'=>e=aK (ah aA (Hz b))/\w'=w5:=fun b=>Py b w5
    generalize (gQ q x).1=q' at *;generalize (gQ q x).2=ib at *;generalize hci:Hz ib=ci at *;have hCi:=hCd ib;rw[hci] at hCi;clear hCd hci hAc d0 d1 d2 d3;go_wp2_with (first|(go_at_call 56;refine fV hCi ?_)|(at_builtin;refine fG (by rfl) _ _ _ _ (by rfl) _ _ (by rfl) (by rfl) hA ⟨rfl,rfl,rfl,rfl⟩ ?_;rintro v6 w6 ⟨a6,c6,fc6,rfl,hI6⟩;have HI6:aG (D6 w w6 B (w.heap.size+1) q' (cs++[ci]) (aj a6 (cs.length+1) c6) fp2 fc6):=hI6;clear hI6 hA))
    go_roundw
    case rel=>exact⟨k+1,by omega,by go_num,q',cs++[ci],a6,c6,fp2,fc6,HQ.out.symm,HC.out.symm,by simp,by have:=HI6.out;simpa using this⟩
    case measure=>simp[dG];omega
   ·have k1:¬ ((k:Int)<L.length):=by omega
    have eL:L.take k=L:=aY (by omega)
    have HQ:aG (q=oU g L):=by rw[aG,hq.out,eL]
    have HC:aG (cs=xO g L):=by rw[aG,hcs.out,eL]
    obtain⟨A4,a4,c4,e4,⟨y0,y1,y2⟩,HN⟩:=hI.done
    cases e4
    have hz:=hI.room;obtain⟨z0,z1,z2⟩:=Bx.g3 hz;obtain⟨f0,f1,f2⟩:=hz.f3;have hrB:=hI.rB;have sF:aG (∀ {x y z:aJ},kE w (((wr.setCell ⟨w.heap.size+1,0,ak⟩ x).setCell ⟨w.heap.size+1,1,ak⟩ y).setCell ⟨w.heap.size+1,2,ak⟩ z) (fZ q++[gJ cs]) (jm A4 q++[aj a cs.length c])):=HN;clear eL hq hcs hI HN hz;go_wp2;refine bY (v:=.tuple #[gX A4 q,aj a cs.length c]) (by simp[results,Tryz.results19,go_sem,gX,iW, *]) rfl ?_
    rw[HZ.out,<- HQ.out,<- HC.out];exact⟨_,_,_,rfl,sF.out⟩
end
def Gy (R:List Rw) (k:Nat):Nat:=((R.take k).map kH).sum
def H6 (R:List Rw):Nat:=R.length+Gy R R.length
def tX (m:Mb):Nat:=H6 m.rows+m.dR.length
section
def Xg (R:List Mb) (k:Nat):Mb:=R.getD k kY
def az1:Ml:=⟨0,0,nJ⟩
def Xh (R:List Ml) (k:Nat):Ml:=R.getD k az1
def H7 (x:Ml):Nat:=kH x.row
attribute [local irreducible] sv
def Jm (R:List Mb) (k:Nat):Nat:=((R.take k).map tX).sum
theorem ZN {R: List Mb} (hk:k<R.length):Jm R (k+1)=Jm R k+tX (Xg R k):=by
 have e:Xg R k=R[k]:=by simp[Xg,List.getD,hk]
 unfold Jm;rw[aQ hk,List.map_append,List.sum_append,e];simp
theorem ZO (R:List Mb) {a: Nat} (h:a<=b):Jm R a<=Jm R b:=by
 unfold Jm;obtain⟨c,rfl⟩:=Nat.exists_eq_add_of_le h;rw[List.take_add,List.map_append,List.sum_append];omega
def ZP (R:List Mb):Nat:=R.length+Jm R R.length
def Jo (R:List Ml) (k:Nat):Nat:=((R.take k).map H7).sum
theorem ZQ {R: List Ml} (hk:k<R.length):Jo R (k+1)=Jo R k+H7 (Xh R k):=by
 have e:Xh R k=R[k]:=by simp[Xh,List.getD,hk]
 unfold Jo;rw[aQ hk,List.map_append,List.sum_append,e];simp
theorem ZR (R:List Ml) {a: Nat} (h:a<=b):Jo R a<=Jo R b:=by
 unfold Jo;obtain⟨c,rfl⟩:=Nat.exists_eq_add_of_le h;rw[List.take_add,List.map_append,List.sum_append];omega
def ZT (R:List Ml):Nat:=R.length+Jo R R.length
def E8 (g:Gr):Nat:=ZP g.mem+g.up.length+ZT g.dS
end
theorem ZU:(Tryz.prog.info? 41).map (fun i=>(i.zero,i.size,i.bytes))=au (au (aj ak 0 0),1,24):=by kernel_rfl
theorem PI {w: aI} {H: List (List Int)} (h:VV w a n c H) (hn:0<n):∃ b off,a=au ⟨b,off,ak⟩/\∀ i,i<n->∃ x cx,w.cell? ⟨b,off+i,ak⟩=au (aj x (row H i).length cx)/\Vec w x (row H i).length (row H i)/\(row H i).length<=cx/\cx<=dD:=by
 obtain⟨b,off,_,_,ha,_⟩:=h.row 0 hn;refine⟨b,off,ha,fun i hi=>?_⟩
 obtain⟨b',off',x,cx,ha',h1,h2,h3,h4⟩:=h.row i hi;rw[ha] at ha'
 cases ha'
 exact⟨x,cx,h1,h2,h3,h4⟩
section
attribute [local irreducible] sv
end
section
attribute [local irreducible] sv
end
theorem fH.at {w X:aI} {B o:Nat} {cs:List dY} {fp:Fp} (h:fH w X B o cs fp) {j:Nat} {c:dY} (hj:cs[j]?=au c):∃ u f,X.cell? ⟨B,o+j,ak⟩=au u/\X.frozen? ⟨B,o+j,ak⟩=aC/\dY.ow X c u f /\
  ∀ (X1:aI) (c':dY) (u':aJ) (f':Fp),eX f X X1->dY.ow X1 c' u' f'->(∀ b,f' b->f b\/X.heap.size<=b)->X1.cell? ⟨B,o+j,ak⟩=au u/\X1.frozen? ⟨B,o+j,ak⟩=aC/\fH w (X1.setCell ⟨B,o+j,ak⟩ u') B o (cs.set j c') fp/\(u'=u->fH w X1 B o (cs.set j c') fp):=by
 obtain⟨gU,hp,_,hgo⟩:=h.next;obtain⟨u,f,h1,h2,h3,h4,h5,h6⟩:=hp.at hj;refine⟨u,f,h1,h2,h3,fun X1 c' u' f' hw hc hf=>?_⟩
 obtain⟨k1,k2,k3,k4⟩:=h6 X1 c' u' f' hw hc hf;exact⟨k1,k2,hgo _ _ (by simp) k3,fun e=>hgo _ _ (by simp) (k4 e)⟩
theorem fH.put {w X: aI} {cs: List dY} (h:fH w X B o cs fp) {j: Nat} {x: aJ} (hj:cs[j]?=au (.v x)) (y:aJ):X.cell? ⟨B,o+j,ak⟩=au x/\X.frozen? ⟨B,o+j,ak⟩=aC/\fH w (X.setCell ⟨B,o+j,ak⟩ y) B o (cs.set j (.v y)) fp:=by
 obtain⟨u,f,h1,h2,⟨rfl,_⟩,h4⟩:=h.at hj;exact⟨h1,h2,(h4 X (.v y) y (fun _=>False) (eX.refl _ _) ⟨rfl,fun _ h=>h⟩ (fun b hb=>hb.elim)).2.2.1⟩
def m3 (k:Int):Bool:=k%3==0
def PK (r:Rw):Nat:=1+r.txt.length+r.got.length+r.dQ.length+1+1+1+r.dU.length
def cP (R:List Rw) (k:Nat):Nat:=((R.take k).map PK).sum
theorem SI {w: aI} {c1 c2: dY} {v1 v2: aJ} (h:gB w [c1,c2] [v1,v2] f):∃ f1 f2,dY.ow w c1 v1 f1/\dY.ow w c2 v2 f2/\(∀ b,f1 b->¬ f2 b)/\∀ b,f b↔f1 b\/f2 b:=by
 obtain⟨u1,vW,f1,g1,e1,o1,h2,d1,i1⟩:=h
 cases e1
 obtain⟨u2,wY,f2,g2,e2,o2,h3,d2,i2⟩:=h2
 cases e2
 have hg:=h3.2;refine⟨f1,f2,o1,o2,fun b h1 h2=>d1 b h1 ((i2 b).2 (.inl h2)),fun b=>?_⟩
 rw[i1,i2];exact⟨fun h=>h.imp id (fun h=>h.elim id (fun h=>absurd h (hg b))),fun h=>h.imp id .inl⟩
def Nj (m:Mb):Nat:=cP m.rows m.rows.length+m.dR.length
def UO (m:Mb):Nat:=2+cP m.rows m.rows.length+m.dR.length+1
def UQ (x:Ml):Nat:=2+PK x.row
def cPm (R:List Mb) (k:Nat):Nat:=((R.take k).map UO).sum
def cPl (R:List Ml) (k:Nat):Nat:=((R.take k).map UQ).sum
def Nk (g:Gr):Nat:=cPm g.mem g.mem.length+g.up.length+cPl g.dS g.dS.length
def PL (m:Mb):Mb:=if iG m=aB then fM m else kY
section
def hadB (R:List Rw) (n:Nat) (q:Int):Bool:=decide (q.toNat/n<(dO R (q.toNat%n)).txt.length)
def aF8 (R:List Rw) (n:Nat) (q:Int):List UInt8:=(dO R (q.toNat%n)).txt.getD (q.toNat/n) []
def aK4 (m:Mb):List (List UInt8)×Bool:=if m.dR.all (hadB m.rows m.k)=aB then (m.dR.map (aF8 m.rows m.k),aB) else ([],aC)
attribute [local irreducible] sv
end
theorem oN.before {w w1 w2: aI} {c: dY} {v: aJ} (h:oN w1 w2 c v) (hb:Below w.heap.size w w1):oN w w2 c v:=by
 obtain⟨f,h1,h2,h3⟩:=h;exact⟨f,h1,fun b hb'=>bZ hb.size (h2 b hb'),eU hb h3⟩
section
def Fa (m:Mb):Prop:=ji m.id/\ji m.n/\∀ r∈m.rows,sQ r
structure tY (w:aI) (A:Ma) (m:Mb):Prop where
 own:∃ f,gB w (jB m) (jC A m) f
 fit:nG m
 i64:Fa m
 sz:tX m<=1048576
def Xi:Prop:=∀ (A:Ma) (m:Mb) (who:Int) (w:aI),tY w A m->ji who->dF dA 126 #[iU A m,ah aA who] w fun e w'=>IK w w' e (J3 m who).1 (J3 m who).2
def Xj:Prop:=∀ (A:Ma) (m:Mb) (fr:Int) (Ar:Ra) (r:Rw) (w:aI),tY w A m->ji fr->ql w Ar r->dF dA 111 #[iU A m,ah aA fr,iK Ar r] w fun e w'=>IK w w' e (J4 m fr r).1 (J4 m fr r).2
def Xk:Prop:=∀ (A:Ma) (m:Mb) (w:aI),tY w A m->(iG m=aB->m.own.ver<1000000)->dF dA 70 #[iU A m] w fun e w'=>Uw w w' e (PL m)
def SmM (m:Mb):Prop:=nG m/\Nj m<=1000/\m.rows.length<=5/\tX m<=100000
theorem CJ (F:Rw->Nat) (c:Nat):∀ (R:List Rw),(∀ r∈R,F r<=c)->(R.map F).sum<=c*R.length
 | [],_=>by simp
 | r::R,h=>by
  have ih:=CJ F c R (fun x hx=>h x (bC _ hx))
  have h1:=h r bF;rw[List.map_cons,List.sum_cons,bP,Nat.mul_succ];omega
theorem iR.c8 {r: Rw} (h:iR r n):PK r<=31/\kH r<=300:=by
 have h5:=h.n5;have h1:=h.gl;have h2:=h.sl;have h3:=h.ml;have h4:=h.tl;have h6:Bz r.txt r.txt.length<=r.txt.length*20:=CG (fun i hi=>h.ts _ (by rw[aS,aV hi];exact List.getElem_mem hi)) _ (cO _)
 unfold PK kH;omega
theorem iO.small {m: Mb} {i: Nat} (h:iO m i n):SmM m:=by
 have h5:=h.n5;have hl:=h.len;have hs:=h.sl
 have e1:cP m.rows m.rows.length<=31*m.rows.length:=by
  unfold cP;rw[List.take_length];exact CJ PK 31 m.rows (fun r hr=>(h.rowOk r hr).c8.1)
 have e2:Gy m.rows m.rows.length<=300*m.rows.length:=by
  unfold Gy;rw[List.take_length];exact CJ kH 300 m.rows (fun r hr=>(h.rowOk r hr).c8.2)
 refine⟨h.fit, ?_,by omega, ?_⟩
 ·unfold Nj;omega
 ·unfold tX H6;omega
attribute [local irreducible] sv
end
def ZV (g:Gr):Prop:=(∀ m∈g.mem,Fa m)/\∀ x∈g.dS,ji x.fr/\ji x.to/\sQ x.row
structure uU (w:aI) (A:Ga) (g:Gr):Prop where
 own:∃ f,gB w (fZ g) (jm A g) f
 fit:EG g
 i64:ZV g
 sz:E8 g<=1048576
def aK5 (x:Ac):Prop:=ji x.kind/\ji x.a/\ji x.b
def QT:Prop:=∀ (A:Ga) (g:Gr) (w:aI),uU w A g->dF dA 18 #[gX A g] w fun e w'=>e=aK (aF (jA g))/\Below w.heap.size w w'
def SmG (g:Gr):Prop:=EG g/\Nk g<=100000/\g.mem.length<=5/\g.dS.length<=200/\E8 g<=1000000
theorem CP {α:Type} (F:α->Nat) (c:Nat):∀ (R:List α),(∀ r∈R,F r<=c)->(R.map F).sum<=c*R.length
 | [],_=>by simp
 | r::R,h=>by
  have ih:=CP F c R (fun x hx=>h x (bC _ hx))
  have h1:=h r bF;rw[List.map_cons,List.sum_cons,bP,Nat.mul_succ];omega
theorem OkG.ZW {g: Gr} (h:OkG g n) {m: Mb} (hm:m∈g.mem):∃ i,iO m i n:=by
 obtain⟨i,hi,rfl⟩:=bg.1 hm;refine⟨i, ?_⟩;have:=h.mem i (by rw[<- h.ml];exact hi)
 unfold eF at this
 rwa [aS,aV hi,Option.getD_some] at this
theorem OkG.small {g:Gr} {n:Nat} (h:OkG g n):SmG g:=by
 have h5:=h.n5;have hl:=h.ml;have hu:=h.ul;have h2:=h.pJ
 have e1:cPm g.mem g.mem.length<=1003*g.mem.length:=by
  unfold cPm;rw[List.take_length];refine CP UO 1003 g.mem (fun m hm=>?_)
  obtain⟨i,ok⟩:=h.ZW hm;have:=ok.small.2.1;have h2:UO m=3+Nj m:=by unfold UO Nj;omega
  omega
 have e2:Jm g.mem g.mem.length<=100000*g.mem.length:=by
  unfold Jm;rw[List.take_length];refine CP tX 100000 g.mem (fun m hm=>?_)
  obtain⟨i,ok⟩:=h.ZW hm;exact ok.small.2.2.2
 have e3:cPl g.dS g.dS.length<=33*g.dS.length:=by
  unfold cPl;rw[List.take_length];refine CP UQ 33 g.dS (fun x hx=>?_)
  obtain⟨a,b,_,_,_,_,_,ok⟩:=h.kU x hx;have:=ok.c8.1;unfold UQ;omega
 have e4:Jo g.dS g.dS.length<=300*g.dS.length:=by
  unfold Jo;rw[List.take_length];refine CP H7 300 g.dS (fun x hx=>?_)
  obtain⟨a,b,_,_,_,_,_,ok⟩:=h.kU x hx;exact ok.c8.2
 refine⟨h.fit, ?_,by omega,h2, ?_⟩
 ·unfold Nk;omega
 ·unfold E8 ZP ZT;omega
section
def zf (x:Ac):Prop:=aK5 x/\x.txt.length<=1000
theorem Bf {k a b: Int} {t: List UInt8} (h1:ji k) (h2:ji a) (h3:ji b) (h4:t.length<=1000):zf ⟨k,a,b,t⟩:=⟨⟨h1,h2,h3⟩,h4⟩
def aF9 (w X X':aI) (p:Nat) (a:Option dH) (len cap:Nat) (bs:Nat->Int) (e:Ending):Prop:=∃ x,e=aK (o8 x)/\zf x/\Cc w X' p a len cap bs/\X.grownBy X' (au p)
theorem aG0 (w:aI) (g:Nat) {a b c d: aJ}:eX (fun x=>x=g) w ((((w.setCell ⟨g,0,ak⟩ a).setCell ⟨g,1,ak⟩ b).setCell ⟨g,2,ak⟩ c).setCell ⟨g,3,ak⟩ d) :=
 (((eX.set w g 0 a).trans (eX.set _ g 1 b) (fun _ _ h=>h)).trans (eX.set _ g 2 c) (fun _ _ h=>h)).trans (eX.set _ g 3 d) (fun _ _ h=>h)
theorem Bx.fa4 {w: aI} {cs: Array aJ} (h:Bx w B T cs):w.frozen? ⟨B,0,ak⟩=aC/\w.frozen? ⟨B,1,ak⟩=aC/\w.frozen? ⟨B,2,ak⟩=aC/\w.frozen? ⟨B,3,ak⟩=aC:=⟨h.f 0,h.f 1,h.f 2,h.f 3⟩
def DA (w X Y:aI) (p:Nat) (a:Option dH) (len cap:Nat) (bs:Nat->Int) (o:Nat) (x:Ac):Prop:=SD w X Y p a len cap bs 38 o #[ah aA 0,ah aA 0,ah aA 0,.string ⟨#[]⟩] (rV x) [] [] (fun _=>False)
section
variable {w X Y Y':aI} {p:Nat} {a:Option dH} {len cap:Nat} {bs:Nat->Int} {o:Nat} {x:Ac}
theorem DA.uK (h:DA w X Y p a len cap bs o x) (k:Int):DA w X (Y.setCell ⟨o,0,ak⟩ (ah aA k)) p a len cap bs o { x with kind:=k }:=by
 have:=SD.set h 0 (ah aA k);simpa[DA,rV] using this
theorem DA.ZX (h:DA w X Y p a len cap bs o x) (k:Int):DA w X (Y.setCell ⟨o,1,ak⟩ (ah aA k)) p a len cap bs o { x with a:=k }:=by
 have:=SD.set h 1 (ah aA k);simpa[DA,rV] using this
theorem DA.ZY (h:DA w X Y p a len cap bs o x) (t:List UInt8):DA w X (Y.setCell ⟨o,3,ak⟩ (aN (sv t))) p a len cap bs o { x with txt:=t }:=by
 have:=SD.set h 3 (aN (sv t));simpa[DA,rV] using this
theorem DA.drawn (h:DA w X Y p a len cap bs o x) (hg:Y.grownBy Y' (au p)) (hc:Cc w Y' p a len cap bs):DA w X Y' p a len cap bs o x:=SD.drawn h hg hc
theorem DA.step (h:DA w X Y p a len cap bs o x) (hb:Below Y.heap.size Y Y'):DA w X Y' p a len cap bs o x:=SD.step h hb
theorem DA.cells (h:DA w X Y p a len cap bs o x):Y.cell? ⟨o,0,ak⟩=au (ah aA x.kind)/\Y.cell? ⟨o,1,ak⟩=au (ah aA x.a)/\Y.cell? ⟨o,2,ak⟩=au (ah aA x.b)/\Y.cell? ⟨o,3,ak⟩=au (aN (sv x.txt)):=Bx.a4 (SD.own h)
theorem DA.fr (h:DA w X Y p a len cap bs o x):Y.frozen? ⟨o,0,ak⟩=aC/\Y.frozen? ⟨o,1,ak⟩=aC/\Y.frozen? ⟨o,2,ak⟩=aC/\Y.frozen? ⟨o,3,ak⟩=aC:=Bx.fa4 (SD.own h)
theorem DA.cc (h:DA w X Y p a len cap bs o x):Cc w Y p a len cap bs:=SD.cc h
end
def FinA (w X Y:aI) (p:Nat) (a:Option dH) (len cap:Nat) (bs:Nat->Int):Prop:=∀ (x0 x1 x2 x3:aJ),Cc w ((((Y.setCell ⟨X.heap.size,0,ak⟩ x0).setCell ⟨X.heap.size,1,ak⟩ x1).setCell ⟨X.heap.size,2,ak⟩ x2).setCell ⟨X.heap.size,3,ak⟩ x3) p a len cap bs/\X.grownBy ((((Y.setCell ⟨X.heap.size,0,ak⟩ x0).setCell ⟨X.heap.size,1,ak⟩ x1).setCell ⟨X.heap.size,2,ak⟩ x2).setCell ⟨X.heap.size,3,ak⟩ x3) (au p)
theorem DA.fin {w X: aI} {bs: Nat->Int} {x: Ac} (h:DA w X Y p a len cap bs o x):FinA w X Y p a len cap bs:=fun x0 x1 x2 x3=>by
 obtain⟨_,_,h1,h2⟩:=SD.ans h (aG0 Y X.heap.size (a:=x0) (b:=x1) (c:=x2) (d:=x3));exact⟨h1,h2⟩
attribute [local irreducible] sv
theorem UR (N:Nat) (n:Int) (hN:n=(N:Int)) (hN1:1<=N) (Gs:N<=5) {w X: aI} {bs: Nat->Int} (h:Cc w X p a len cap bs) :
  dF dA 65 #[aO (au ⟨p,0,ak⟩),ah aA n] X fun e X'=>aF9 w X X' p a len cap bs e:=by
 subst hN;have Fb:=h.lt;have hwp:=h.hp;have J5:aG ((⟨#[]⟩:ByteArray)=sv []):=by rw[aG];unfold sv;rfl
 have b0:=dX X (aH #[ah aA 0,ah aA 0,ah aA 0,.string ⟨#[]⟩] 38);have HR0:aG (Bx (X.alloc (aH #[ah aA 0,ah aA 0,ah aA 0,.string ⟨#[]⟩] 38)) X.heap.size 38 #[ah aA 0,ah aA 0,ah aA 0,.string ⟨#[]⟩]):=Bx.new X _ _;have wV:aG (Cc w (X.alloc (aH #[ah aA 0,ah aA 0,ah aA 0,.string ⟨#[]⟩] 38)) p a len cap bs):=h.step b0;have nT:aG (X.grownBy (X.alloc (aH #[ah aA 0,ah aA 0,ah aA 0,.string ⟨#[]⟩] 38)) (au p)):=⟨b0.os,b0.tape,b0.output,b0.size,fun x hx _=>b0.block x hx⟩
 clear h b0;generalize qP:X.alloc (aH #[ah aA 0,ah aA 0,ah aA 0,.string ⟨#[]⟩] 38)=W0 at *;go_enter Tryz.func65,Tryz.ntmps65
 go_wp2_with fail
 refine (jP N (N:Int) rfl wV.out hN1 (by omega)).mono ?_
 rintro e W1 ⟨xa,rfl,hxa,c1,g1⟩;have yK:=dP c1;have mD:=dP (fP nT.out g1);have HR1:aG (Bx W1 X.heap.size 38 #[ah aA 0,ah aA 0,ah aA 0,.string ⟨#[]⟩]):=HR0.out.grown g1 (by simp;omega)
 clear c1 g1 HR0 wV nT;go_wp2_with fail
 refine (jP N (N:Int) rfl yK.out hN1 (by omega)).mono ?_
 rintro e W2 ⟨xb,rfl,hxb,c2,g2⟩;have HC2:=dP c2;have HG2:=dP (fP mD.out g2);have HR2:aG (Bx W2 X.heap.size 38 #[ah aA 0,ah aA 0,ah aA 0,.string ⟨#[]⟩]):=HR1.out.grown g2 (by simp;omega)
 clear c2 g2 HR1 yK mD;have hba:=dX W2 (aH #[ah aA 3,ah aA (xa:Int),ah aA (xb:Int),.string ⟨#[]⟩] 38);have hbx:=Bx.new W2 38 #[ah aA 3,ah aA (xa:Int),ah aA (xb:Int),.string ⟨#[]⟩];have hrl:=HR2.out.lt
 have HM:aG (DA w X (W2.alloc (aH #[ah aA 3,ah aA (xa:Int),ah aA (xb:Int),.string ⟨#[]⟩] 38)) p a len cap bs W2.heap.size ⟨3,(xa:Int),(xb:Int),[]⟩):=by
  refine⟨HC2.out.step hba,HR2.out.below hba,by rw[J5.out] at hbx ⊢;exact hbx,⟨rfl,fun _ h=>h⟩,fun b h=>h.elim,Fb,by omega, ?_⟩
  exact fP HG2.out ⟨hba.os,hba.tape,hba.output,hba.size,fun x hx _=>hba.block x hx⟩
 clear hba hbx HR2 HC2 HG2 hrl;go_upto_region 2 with fail
 generalize W2.alloc (aH #[ah aA 3,ah aA (xa:Int),ah aA (xb:Int),.string ⟨#[]⟩] 38)=W4 at *;generalize W2.heap.size=o at *;go_wp2_with fail
 refine (jP 16 16 rfl HM.out.cc (by omega) (by omega)).mono ?_
 rintro e W5 ⟨y,rfl,hy,c5,g5⟩;have iM:=dP (HM.out.drawn g5 c5);clear c5 g5 HM
 go_upto_block 0 with fail
 go_cut [14] from 15 to 45 (fun _ wx=>∃ (k:Int) (t:List UInt8),1<=k/\k<=7/\t.length<=1000/\DA w X wx p a len cap bs o ⟨k,(xa:Int),(xb:Int),t⟩)
 case first =>
  have hys:y=0\/y=1\/y=2\/y=3\/y=4\/y=5\/y=6\/y=7\/y=8\/y=9\/y=10\/y=11\/y=12\/y=13\/y=14\/y=15:=by omega
  clear hy;rcases hys with rfl|rfl|rfl|rfl|rfl|rfl|rfl|rfl|rfl|rfl|rfl|rfl|rfl|rfl|rfl|rfl
  ·obtain⟨d0,d1,d2,d3⟩:=DA.cells iM.out
   obtain⟨f0,f1,f2,f3⟩:=DA.fr iM.out;simp only at d0 d1 d2 d3
   have jW:=dP (iM.out.uK 1);have hT:=Dz 2 2 rfl (by omega) jW.out.cc
   go_wp2_with fail
   refine hT.mono ?_;rintro e Y2 ⟨t,rfl,ht,c7,g7⟩;have M2:=jW.out.drawn g7 c7;clear d0 d1 d2 d3 f0 f1 f2 f3 jW c7 g7 hT;obtain⟨d0,d1,d2,d3⟩:=DA.cells M2;obtain⟨f0,f1,f2,f3⟩:=DA.fr M2;simp only at d0 d1 d2 d3
   have pV:=dP (M2.ZY t);clear M2;go_wp2;go_meet
   case rel=>exact⟨1,t,by omega,by omega,by omega,pV.out⟩
  ·obtain⟨d0,d1,d2,d3⟩:=DA.cells iM.out
   obtain⟨f0,f1,f2,f3⟩:=DA.fr iM.out;simp only at d0 d1 d2 d3
   have jW:=dP (iM.out.uK 1);have hT:=Dz 2 2 rfl (by omega) jW.out.cc
   go_wp2_with fail
   refine hT.mono ?_;rintro e Y2 ⟨t,rfl,ht,c7,g7⟩;have M2:=jW.out.drawn g7 c7;clear d0 d1 d2 d3 f0 f1 f2 f3 jW c7 g7 hT;obtain⟨d0,d1,d2,d3⟩:=DA.cells M2;obtain⟨f0,f1,f2,f3⟩:=DA.fr M2;simp only at d0 d1 d2 d3
   have pV:=dP (M2.ZY t);clear M2;go_wp2;go_meet
   case rel=>exact⟨1,t,by omega,by omega,by omega,pV.out⟩
  ·obtain⟨d0,d1,d2,d3⟩:=DA.cells iM.out
   obtain⟨f0,f1,f2,f3⟩:=DA.fr iM.out;simp only at d0 d1 d2 d3
   have jW:=dP (iM.out.uK 1);have hT:=Dz 2 2 rfl (by omega) jW.out.cc
   go_wp2_with fail
   refine hT.mono ?_;rintro e Y2 ⟨t,rfl,ht,c7,g7⟩;have M2:=jW.out.drawn g7 c7;clear d0 d1 d2 d3 f0 f1 f2 f3 jW c7 g7 hT;obtain⟨d0,d1,d2,d3⟩:=DA.cells M2;obtain⟨f0,f1,f2,f3⟩:=DA.fr M2;simp only at d0 d1 d2 d3
   have pV:=dP (M2.ZY t);clear M2;go_wp2;go_meet
   case rel=>exact⟨1,t,by omega,by omega,by omega,pV.out⟩
  ·obtain⟨d0,d1,d2,d3⟩:=DA.cells iM.out
   obtain⟨f0,f1,f2,f3⟩:=DA.fr iM.out;simp only at d0 d1 d2 d3
   have jW:=dP (iM.out.uK 7);go_wp2;go_meet
   case rel=>exact⟨7,[],by omega,by omega,by simp,jW.out⟩
  ·obtain⟨d0,d1,d2,d3⟩:=DA.cells iM.out
   obtain⟨f0,f1,f2,f3⟩:=DA.fr iM.out;simp only at d0 d1 d2 d3
   have jW:=dP (iM.out.uK 7);go_wp2;go_meet
   case rel=>exact⟨7,[],by omega,by omega,by simp,jW.out⟩
  ·obtain⟨d0,d1,d2,d3⟩:=DA.cells iM.out
   obtain⟨f0,f1,f2,f3⟩:=DA.fr iM.out;simp only at d0 d1 d2 d3
   have jW:=dP (iM.out.uK 7);go_wp2;go_meet
   case rel=>exact⟨7,[],by omega,by omega,by simp,jW.out⟩
  ·obtain⟨d0,d1,d2,d3⟩:=DA.cells iM.out
   obtain⟨f0,f1,f2,f3⟩:=DA.fr iM.out;simp only at d0 d1 d2 d3
   have jW:=dP (iM.out.uK 4);go_wp2;go_meet
   case rel=>exact⟨4,[],by omega,by omega,by simp,jW.out⟩
  ·obtain⟨d0,d1,d2,d3⟩:=DA.cells iM.out
   obtain⟨f0,f1,f2,f3⟩:=DA.fr iM.out;simp only at d0 d1 d2 d3
   have jW:=dP (iM.out.uK 4);go_wp2;go_meet
   case rel=>exact⟨4,[],by omega,by omega,by simp,jW.out⟩
  ·obtain⟨d0,d1,d2,d3⟩:=DA.cells iM.out
   obtain⟨f0,f1,f2,f3⟩:=DA.fr iM.out;simp only at d0 d1 d2 d3
   have jW:=dP (iM.out.uK 4);go_wp2;go_meet
   case rel=>exact⟨4,[],by omega,by omega,by simp,jW.out⟩
  ·obtain⟨d0,d1,d2,d3⟩:=DA.cells iM.out
   obtain⟨f0,f1,f2,f3⟩:=DA.fr iM.out;simp only at d0 d1 d2 d3
   have jW:=dP (iM.out.uK 2);go_wp2;go_meet
   case rel=>exact⟨2,[],by omega,by omega,by simp,jW.out⟩
  ·have hO:=uq 3 iM.out.cc (by omega)
   go_wp2_with fail
   refine hO.mono ?_;rintro e Y1 ⟨b,rfl,c7,g7⟩;have jW:=dP (iM.out.drawn g7 c7);clear c7 g7 hO
   cases b with
   | false =>
    go_wp2;go_meet
    case rel=>exact⟨3,[],by omega,by omega,by simp,jW.out⟩
   | true =>
    obtain⟨d0,d1,d2,d3⟩:=DA.cells jW.out;obtain⟨f0,f1,f2,f3⟩:=DA.fr jW.out;simp only at d0 d1 d2 d3
    have pV:=dP (jW.out.uK 5);go_wp2;go_meet
    case rel=>exact⟨5,[],by omega,by omega,by simp,pV.out⟩
  ·have hO:=uq 8 iM.out.cc (by omega)
   go_wp2_with fail
   refine hO.mono ?_;rintro e Y1 ⟨b,rfl,c7,g7⟩;have jW:=dP (iM.out.drawn g7 c7);clear c7 g7 hO
   cases b with
   | false =>
    go_wp2;go_meet
    case rel=>exact⟨3,[],by omega,by omega,by simp,jW.out⟩
   | true =>
    obtain⟨d0,d1,d2,d3⟩:=DA.cells jW.out;obtain⟨f0,f1,f2,f3⟩:=DA.fr jW.out;simp only at d0 d1 d2 d3
    have pV:=dP (jW.out.uK 6);go_wp2;go_meet
    case rel=>exact⟨6,[],by omega,by omega,by simp,pV.out⟩
  ·go_wp2
   go_meet
   case rel=>exact⟨3,[],by omega,by omega,by simp,iM.out⟩
  ·go_wp2
   go_meet
   case rel=>exact⟨3,[],by omega,by omega,by simp,iM.out⟩
  ·go_wp2
   go_meet
   case rel=>exact⟨3,[],by omega,by omega,by simp,iM.out⟩
  ·go_wp2
   go_meet
   case rel=>exact⟨3,[],by omega,by omega,by simp,iM.out⟩
 case rest =>
  obtain⟨k,t,hk1,Pq,ht,hM⟩:=hcut;generalize wc=Y9 at *;have jW:=dP hM;have HS:aG (zf ⟨k,(xa:Int),(xb:Int),t⟩):=Bf ⟨by omega,by omega⟩ ⟨by omega,by omega⟩ ⟨by omega,by omega⟩ ht
  have hO:=uq 50 jW.out.cc (by omega)
  clear hM iM;go_wp2_with fail
  refine hO.mono ?_;rintro e Y1 ⟨b,rfl,c7,g7⟩;have pV:=dP (jW.out.drawn g7 c7);clear c7 g7 hO jW
  cases b with
  | false =>
   obtain⟨d0,d1,d2,d3⟩:=DA.cells pV.out;simp only at d0 d1 d2 d3
   obtain⟨r0,r1,r2,r3⟩:=Bx.a4 (SD.res pV.out);obtain⟨f0,f1,f2,f3⟩:=Bx.fa4 (SD.res pV.out);have HA:=dP (DA.fin pV.out);have uI:=dP HS.out;go_wp2;refine bY (v:=o8 ⟨k,(xa:Int),(xb:Int),t⟩) (by simp[results,Tryz.results65,go_sem,o8,rV, *]) rfl ?_
   exact⟨⟨k,(xa:Int),(xb:Int),t⟩,rfl,uI.out,HA.out _ _ _ _⟩
  | true =>
   have hB:=jP 2 2 rfl pV.out.cc (by omega) (by omega)
   go_wp2_with fail
   refine hB.mono ?_;rintro e Y2 ⟨z,rfl,hz,c7,g7⟩;have oZ:=dP (pV.out.drawn g7 c7);clear c7 g7 hB pV;have hzs:z=0\/z=1:=by omega
   clear hz;rcases hzs with rfl|rfl
   ·have hba:=dX Y2 (aH #[ah aA 0,ah aA 8,ah aA (-1),ah aA 4611686018427387904] 2)
    have hbx:=Bx.new Y2 2 #[ah aA 0,ah aA 8,ah aA (-1),ah aA 4611686018427387904];have M0:=oZ.out.step hba;have SK:=dP M0;have rW:=dP hbx;have hB:=jP 4 4 rfl M0.cc (by omega) (by omega)
    have hb2:=hbx.lt;have hpl:=SD.hpo oZ.out;have hso:=(SD.gr oZ.out).size;clear hba hbx M0 oZ;go_wp2_with fail
    generalize Y2.alloc (aH #[ah aA 0,ah aA 8,ah aA (-1),ah aA 4611686018427387904] 2)=Y3 at *;refine hB.mono ?_;rintro e Y4 ⟨j,rfl,hj,c7,g7⟩;have M4:=SK.out.drawn g7 c7;have vN:=rW.out.grown g7 (by simp;omega)
    obtain⟨d0,d1,d2,d3⟩:=DA.cells M4;obtain⟨f0,f1,f2,f3⟩:=DA.fr M4;simp only at d0 d1 d2 d3
    generalize Y2.heap.size=lb at *;have mG:=dP M4;have hjs:j=0\/j=1\/j=2\/j=3:=by omega
    clear c7 g7 hB SK rW hj M4;rcases hjs with rfl|rfl|rfl|rfl
    ·have l0:Y4.cell? ⟨lb,0,ak⟩=au (ah aA 0):=vN.at 0 rfl
     have jL:=dP (mG.out.uK 0);have CQ:aG (zf ⟨0,(xa:Int),(xb:Int),t⟩):=Bf ⟨by decide,by decide⟩ ⟨by omega,by omega⟩ ⟨by omega,by omega⟩ ht
     clear vN;go_upto_region 30 with fail
     generalize Y4.setCell ⟨o,0,ak⟩ (ah aA 0)=Y9 at *;clear d0 d1 d2 d3 f0 f1 f2 f3 l0 mG;obtain⟨d0,d1,d2,d3⟩:=DA.cells jL.out;simp only at d0 d1 d2 d3
     obtain⟨r0,r1,r2,r3⟩:=Bx.a4 (SD.res jL.out);obtain⟨f0,f1,f2,f3⟩:=Bx.fa4 (SD.res jL.out);have HA:=dP (DA.fin jL.out);have uI:=dP CQ.out;go_wp2;refine bY (v:=o8 ⟨0,(xa:Int),(xb:Int),t⟩) (by simp[results,Tryz.results65,go_sem,o8,rV, *]) rfl ?_
     exact⟨⟨0,(xa:Int),(xb:Int),t⟩,rfl,uI.out,HA.out _ _ _ _⟩
    ·have l1:Y4.cell? ⟨lb,1,ak⟩=au (ah aA 8):=vN.at 1 rfl
     have jL:=dP (mG.out.uK 8);have CQ:aG (zf ⟨8,(xa:Int),(xb:Int),t⟩):=Bf ⟨by decide,by decide⟩ ⟨by omega,by omega⟩ ⟨by omega,by omega⟩ ht
     clear vN;go_upto_region 30 with fail
     generalize Y4.setCell ⟨o,0,ak⟩ (ah aA 8)=Y9 at *;clear d0 d1 d2 d3 f0 f1 f2 f3 l1 mG;obtain⟨d0,d1,d2,d3⟩:=DA.cells jL.out;simp only at d0 d1 d2 d3
     obtain⟨r0,r1,r2,r3⟩:=Bx.a4 (SD.res jL.out);obtain⟨f0,f1,f2,f3⟩:=Bx.fa4 (SD.res jL.out);have HA:=dP (DA.fin jL.out);have uI:=dP CQ.out;go_wp2;refine bY (v:=o8 ⟨8,(xa:Int),(xb:Int),t⟩) (by simp[results,Tryz.results65,go_sem,o8,rV, *]) rfl ?_
     exact⟨⟨8,(xa:Int),(xb:Int),t⟩,rfl,uI.out,HA.out _ _ _ _⟩
    ·have l2:Y4.cell? ⟨lb,2,ak⟩=au (ah aA (-1)):=vN.at 2 rfl
     have jL:=dP (mG.out.uK (-1));have CQ:aG (zf ⟨(-1),(xa:Int),(xb:Int),t⟩):=Bf ⟨by decide,by decide⟩ ⟨by omega,by omega⟩ ⟨by omega,by omega⟩ ht
     clear vN;go_upto_region 30 with fail
     generalize Y4.setCell ⟨o,0,ak⟩ (ah aA (-1))=Y9 at *;clear d0 d1 d2 d3 f0 f1 f2 f3 l2 mG;obtain⟨d0,d1,d2,d3⟩:=DA.cells jL.out;simp only at d0 d1 d2 d3
     obtain⟨r0,r1,r2,r3⟩:=Bx.a4 (SD.res jL.out);obtain⟨f0,f1,f2,f3⟩:=Bx.fa4 (SD.res jL.out);have HA:=dP (DA.fin jL.out);have uI:=dP CQ.out;go_wp2;refine bY (v:=o8 ⟨(-1),(xa:Int),(xb:Int),t⟩) (by simp[results,Tryz.results65,go_sem,o8,rV, *]) rfl ?_
     exact⟨⟨(-1),(xa:Int),(xb:Int),t⟩,rfl,uI.out,HA.out _ _ _ _⟩
    ·have l3:Y4.cell? ⟨lb,3,ak⟩=au (ah aA 4611686018427387904):=vN.at 3 rfl
     have jL:=dP (mG.out.uK 4611686018427387904);have CQ:aG (zf ⟨4611686018427387904,(xa:Int),(xb:Int),t⟩):=Bf ⟨by decide,by decide⟩ ⟨by omega,by omega⟩ ⟨by omega,by omega⟩ ht
     clear vN;go_upto_region 30 with fail
     generalize Y4.setCell ⟨o,0,ak⟩ (ah aA 4611686018427387904)=Y9 at *;clear d0 d1 d2 d3 f0 f1 f2 f3 l3 mG;obtain⟨d0,d1,d2,d3⟩:=DA.cells jL.out;simp only at d0 d1 d2 d3
     obtain⟨r0,r1,r2,r3⟩:=Bx.a4 (SD.res jL.out);obtain⟨f0,f1,f2,f3⟩:=Bx.fa4 (SD.res jL.out);have HA:=dP (DA.fin jL.out);have uI:=dP CQ.out;go_wp2;refine bY (v:=o8 ⟨4611686018427387904,(xa:Int),(xb:Int),t⟩) (by simp[results,Tryz.results65,go_sem,o8,rV, *]) rfl ?_
     exact⟨⟨4611686018427387904,(xa:Int),(xb:Int),t⟩,rfl,uI.out,HA.out _ _ _ _⟩
   ·have hba:=dX Y2 (aH #[ah aA (-1),ah aA 5,ah aA 4611686018427387904] 2)
    have hbx:=Bx.new Y2 2 #[ah aA (-1),ah aA 5,ah aA 4611686018427387904];have M0:=oZ.out.step hba;have SK:=dP M0;have rW:=dP hbx;have hB:=jP 3 3 rfl M0.cc (by omega) (by omega)
    have hb2:=hbx.lt;have hpl:=SD.hpo oZ.out;have hso:=(SD.gr oZ.out).size;clear hba hbx M0 oZ;go_wp2_with fail
    generalize Y2.alloc (aH #[ah aA (-1),ah aA 5,ah aA 4611686018427387904] 2)=Y3 at *;refine hB.mono ?_;rintro e Y4 ⟨j,rfl,hj,c7,g7⟩;have M4:=SK.out.drawn g7 c7;have vN:=rW.out.grown g7 (by simp;omega)
    obtain⟨d0,d1,d2,d3⟩:=DA.cells M4;obtain⟨f0,f1,f2,f3⟩:=DA.fr M4;simp only at d0 d1 d2 d3
    generalize Y2.heap.size=lb at *;have mG:=dP M4;have hjs:j=0\/j=1\/j=2:=by omega
    clear c7 g7 hB SK rW hj M4;rcases hjs with rfl|rfl|rfl
    ·have l0:Y4.cell? ⟨lb,0,ak⟩=au (ah aA (-1)):=vN.at 0 rfl
     have jL:=dP (mG.out.ZX (-1));have CQ:aG (zf ⟨k,(-1),(xb:Int),t⟩):=Bf ⟨by omega,by omega⟩ ⟨by decide,by decide⟩ ⟨by omega,by omega⟩ ht
     clear vN;go_upto_region 30 with fail
     generalize Y4.setCell ⟨o,1,ak⟩ (ah aA (-1))=Y9 at *;clear d0 d1 d2 d3 f0 f1 f2 f3 l0 mG;obtain⟨d0,d1,d2,d3⟩:=DA.cells jL.out;simp only at d0 d1 d2 d3
     obtain⟨r0,r1,r2,r3⟩:=Bx.a4 (SD.res jL.out);obtain⟨f0,f1,f2,f3⟩:=Bx.fa4 (SD.res jL.out);have HA:=dP (DA.fin jL.out);have uI:=dP CQ.out;go_wp2;refine bY (v:=o8 ⟨k,(-1),(xb:Int),t⟩) (by simp[results,Tryz.results65,go_sem,o8,rV, *]) rfl ?_
     exact⟨⟨k,(-1),(xb:Int),t⟩,rfl,uI.out,HA.out _ _ _ _⟩
    ·have l1:Y4.cell? ⟨lb,1,ak⟩=au (ah aA 5):=vN.at 1 rfl
     have jL:=dP (mG.out.ZX 5);have CQ:aG (zf ⟨k,5,(xb:Int),t⟩):=Bf ⟨by omega,by omega⟩ ⟨by decide,by decide⟩ ⟨by omega,by omega⟩ ht
     clear vN;go_upto_region 30 with fail
     generalize Y4.setCell ⟨o,1,ak⟩ (ah aA 5)=Y9 at *;clear d0 d1 d2 d3 f0 f1 f2 f3 l1 mG;obtain⟨d0,d1,d2,d3⟩:=DA.cells jL.out;simp only at d0 d1 d2 d3
     obtain⟨r0,r1,r2,r3⟩:=Bx.a4 (SD.res jL.out);obtain⟨f0,f1,f2,f3⟩:=Bx.fa4 (SD.res jL.out);have HA:=dP (DA.fin jL.out);have uI:=dP CQ.out;go_wp2;refine bY (v:=o8 ⟨k,5,(xb:Int),t⟩) (by simp[results,Tryz.results65,go_sem,o8,rV, *]) rfl ?_
     exact⟨⟨k,5,(xb:Int),t⟩,rfl,uI.out,HA.out _ _ _ _⟩
    ·have l2:Y4.cell? ⟨lb,2,ak⟩=au (ah aA 4611686018427387904):=vN.at 2 rfl
     have jL:=dP (mG.out.ZX 4611686018427387904);have CQ:aG (zf ⟨k,4611686018427387904,(xb:Int),t⟩):=Bf ⟨by omega,by omega⟩ ⟨by decide,by decide⟩ ⟨by omega,by omega⟩ ht
     clear vN;go_upto_region 30 with fail
     generalize Y4.setCell ⟨o,1,ak⟩ (ah aA 4611686018427387904)=Y9 at *;clear d0 d1 d2 d3 f0 f1 f2 f3 l2 mG;obtain⟨d0,d1,d2,d3⟩:=DA.cells jL.out;simp only at d0 d1 d2 d3
     obtain⟨r0,r1,r2,r3⟩:=Bx.a4 (SD.res jL.out);obtain⟨f0,f1,f2,f3⟩:=Bx.fa4 (SD.res jL.out);have HA:=dP (DA.fin jL.out);have uI:=dP CQ.out;go_wp2;refine bY (v:=o8 ⟨k,4611686018427387904,(xb:Int),t⟩) (by simp[results,Tryz.results65,go_sem,o8,rV, *]) rfl ?_
     exact⟨⟨k,4611686018427387904,(xb:Int),t⟩,rfl,uI.out,HA.out _ _ _ _⟩
end
end Go.Proofs.YtafimeakbdmkjaaGreat