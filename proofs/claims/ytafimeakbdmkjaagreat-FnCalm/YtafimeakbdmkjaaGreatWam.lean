/-
  Texts in one.
-/
import Derived.Test.YtafimeakbdmkjaaGreatWag
import Derived.Test.YtafimeakbdmkjaaGreatWal
import Derived.Test.YtafimeakbdmkjaaGreatWad
import Derived.Test.YtafimeakbdmkjaaGreatWaf
import Derived.Test.YtafimeakbdmkjaaGreatWac
import Derived.Test.YtafimeakbdmkjaaGreatWaj
import Derived.Test.YtafimeakbdmkjaaGreatWai
import Derived.Test.YtafimeakbdmkjaaGreatWae
import Derived.Test.YtafimeakbdmkjaaGreatWab
import Derived.Test.YtafimeakbdmkjaaGreatWaa
import Derived.Deep.CutRange
namespace Go.Proofs.YtafimeakbdmkjaaGreat
open Bool renaming and_eq_true->aU2,false->aC,true->aB
open Go renaming Addr->ba5,Calls->ba3,Value->aJ,World->aI,bodyPost_ret->aY1,wpQuiet_nil->aZ2
open Go.Ending renaming returned->aK
open Go.IntKind renaming i64->aA
open Go.Obj renaming cells->aH
open Go.Proofs.Tryz renaming prog->aZ8
open Go.RowKit renaming Hid->aG,intOf->ba4
open Go.RowKit.Below renaming refl->aZ5
open Go.Value renaming agg->aP,bool->aF,int->aZ9,int->ah,pointer->aO,slice->aj
open Go.World renaming block_lt_of_cell?->bG,cell?_of_block->bT,size_alloc->aU1
open Int renaming le_refl->aZ3,toNat_natCast->dM
open List renaming eq_nil_of_length_eq_zero->aT,flatMap_cons->aT6,length_append->dB,length_replicate->bM,length_set->aV3,length_singleton->bP,mem_append->aW0,mem_cons->aX5,mem_cons_of_mem->bV,mem_of_getElem?->bW,mem_or_eq_of_mem_set->bf,mem_range->aX1,mem_singleton->dH,range->aZ6,replicate->aW5,replicate_succ->dw,take_length->aV2
open Nat renaming add_assoc->aX9,add_mul->aZ4,add_zero->aY5,le_refl->aZ0,zero_add->aY7,zero_le->aZ1
open Option renaming none->ak,some->au
open Option.some renaming inj->aV4
set_option linter.unusedVariables false
set_option linter.unusedSimpArgs false
open Go.RowKit Go.Sort
set_option maxRecDepth 100000
set_option maxHeartbeats 12800000
variable {c i len:Nat} {L:List Ac} {G:Option Nat} {X:aI} {r:Rw} {f:Fp}
section
theorem aH4 (L:List Ac):L.flatMap CV=pl (sS L):=by
 induction L with
 | nil=>rfl
 | cons x L ih =>
  rw[aT6,ih]
  show CV x++pl (sS L)=pl ((uM x).toList++sS L)
  unfold pl;rw[List.map_append]
  rfl
theorem QL {w: aI} {a: Option ba5} (h:iV w 4 a L.length c (sS L) G):eF.ow w (iF 4 CV L) (aj a L.length c) (fun b=>G=au b) :=
 ⟨a,c,sS L,G,fun _=>False,rfl,h,by rw[aH4];exact rP.2 ⟨rfl,fun _ h=>h⟩,fun _ _ h=>h,fun b=>⟨.inl,fun h=>h.elim id False.elim⟩⟩
theorem am7 {w Y: aI} {p: Nat} {a: Option ba5} {cap: Nat} {bs: Nat->Int} {oa: Option ba5} (h:AL w X Y p a len cap bs oa c G L):eF.ow Y (iF 4 CV L) (aj oa L.length c) (fun b=>G=au b):=QL h.own
structure rD (w X Y:aI) (p:Nat) (a:Option ba5) (len cap:Nat) (bs:Nat->Int) (o:Nat) (g:Gr) (fp:Fp):Prop where
 cc:Cc w Y p a len cap bs
 res:Bx Y X.heap.size 28 #[aj ak 0 0,aj ak 0 0,aj ak 0 0]
 lY:iO Y o 0 (fK g) fp
 kJ:∀ b,fp b->X.heap.size<b
 hpo:p<X.heap.size
 ho:X.heap.size<o
 gr:X.grownBy Y (au p)
section
variable {w X Y Y':aI} {p:Nat} {a:Option ba5} {len cap:Nat} {bs:Nat->Int} {o:Nat} {g g':Gr} {fp:Fp}
theorem rD.lt (h:rD w X Y p a len cap bs o g fp):w.heap.size<=X.heap.size:=by have:=h.cc.hp;have:=h.hpo;omega
theorem rD.drawn (h:rD w X Y p a len cap bs o g fp) (hg:Y.grownBy Y' (au p)) (hc:Cc w Y' p a len cap bs):rD w X Y' p a len cap bs o g fp:=by
 have h1:=h.hpo;have h2:=h.ho;exact⟨hc,h.res.grown hg (by simp;omega),h.lY.wrt (eU.l7 hg) (fun b hb e=>by cases e;rcases hb with hb|hb;have:=h.kJ _ hb;omega;omega),h.kJ,h1,h2,fQ h.gr hg⟩
theorem rD.step (h:rD w X Y p a len cap bs o g fp) (hb:Below Y.heap.size Y Y'):rD w X Y' p a len cap bs o g fp :=
 ⟨h.cc.step hb,h.res.below hb,h.lY.below hb,h.kJ,h.hpo,h.ho,fQ h.gr ⟨hb.os,hb.tape,hb.output,hb.size,fun x hx _=>hb.block x hx⟩⟩
theorem rD.act (h:rD w X Y p a len cap bs o g fp) (hb:fH Y Y' o 0 (fK g') fp):∃ fp',rD w X Y' p a len cap bs o g' fp'/\∀ b,fp' b->fp b\/Y.heap.size<=b:=by
 have h1:=h.hpo;have h2:=h.ho;have h3:=h.lt;obtain⟨gI,hp,hf,_⟩:=hb.next;have hs:=h.gr.size;have hw:∀ b,(fp b\/b=o)->X.heap.size<b:=fun b hb=>by rcases hb with hb|hb;exact h.kJ b hb;omega
 exact⟨gI,⟨h.cc.wrt hb.wrt (fun k=>by have:=hw p k;omega) (fun b k=>by have:=hw b k;omega),h.res.wrt hb.wrt (fun k=>by have:=hw _ k;omega),hp,fun b hb=>by rcases hf b hb with k|k;exact h.kJ b k;have:=h.res.lt;omega,h1,h2,oI h.gr hb.wrt (fun b k=>by have:=hw b k;omega)⟩,hf⟩
theorem rD.done (h:rD w X Y p a len cap bs o g fp):∃ A:Ga,(Y.cell? ⟨o,0,ak⟩=au (aj A.ma g.mem.length A.mc)/\Y.cell? ⟨o,1,ak⟩=au (aj A.ua g.up.length A.uc)/\Y.cell? ⟨o,2,ak⟩=au (aj A.la g.dS.length A.lc))/\gq Y (fK g) (jC A g) fp /\
  ∀ (x0 x1 x2:aJ),gq (((Y.setCell ⟨X.heap.size,0,ak⟩ x0).setCell ⟨X.heap.size,1,ak⟩ x1).setCell ⟨X.heap.size,2,ak⟩ x2) (fK g) (jC A g) fp/\Cc w (((Y.setCell ⟨X.heap.size,0,ak⟩ x0).setCell ⟨X.heap.size,1,ak⟩ x1).setCell ⟨X.heap.size,2,ak⟩ x2) p a len cap bs/\X.grownBy (((Y.setCell ⟨X.heap.size,0,ak⟩ x0).setCell ⟨X.heap.size,1,ak⟩ x1).setCell ⟨X.heap.size,2,ak⟩ x2) (au p):=by
 obtain⟨vs,hpc,hov,hnB⟩:=h.lY;obtain⟨A,rfl⟩:=XJ hov;have hl3:(jC A g).length=3:=rfl;have c:=hpc.cell;have h1:=h.hpo;have h3:=h.lt;refine⟨A,⟨c 0 (by rw[hl3];omega),c 1 (by rw[hl3];omega),c 2 (by rw[hl3];omega)⟩,hov,fun x0 x1 x2=>?_⟩
 have hw:=qF Y X.heap.size (a:=x0) (b:=x1) (c:=x2);exact⟨gU hov hw (fun b hb e=>by have:=h.kJ b hb;omega),h.cc.wrt hw (by omega) (fun b e=>by omega),oI h.gr hw (fun b e=>by omega)⟩
end
def am8 (w X X':aI) (p:Nat) (a:Option ba5) (len cap:Nat) (bs:Nat->Int) (e:Ending) (g:Gr):Prop:=∃ (A:Ga) (fp:Fp),e=aK (jc A g)/\gq X' (fK g) (jC A g) fp/\(∀ b,fp b->X.heap.size<=b)/\Cc w X' p a len cap bs/\X.grownBy X' (au p)
def aQ8 (g:Gr):Prop:=∃ n,yK n g/\n<=4/\lF g n 325
theorem Uk {w W: aI} {p: Nat} {a: Option ba5} {cap: Nat} {bs: Nat->Int} {A: Ga} {g: Gr} {fp: Fp} (hc:Cc w W p a len cap bs) (hr:Bx W X.heap.size 28 #[aj ak 0 0,aj ak 0 0,aj ak 0 0]) (hg:X.grownBy W (au p)) (hp:p<X.heap.size) (hl:gq W (fK g) (jC A g) fp) (hf:∀ b,fp b->X.heap.size<b) :
  rD w X (W.alloc (aH #[aj A.ma g.mem.length A.mc,aj A.ua g.up.length A.uc,aj A.la g.dS.length A.lc] 28)) p a len cap bs W.heap.size g fp:=by
 have hba:=dX W (aH #[aj A.ma g.mem.length A.mc,aj A.ua g.up.length A.uc,aj A.la g.dS.length A.lc] 28);have hxb:=Bx.new W 28 #[aj A.ma g.mem.length A.mc,aj A.ua g.up.length A.uc,aj A.la g.dS.length A.lc];have hlt:=jh hl;have hrl:=hr.lt;exact⟨hc.step hba,hr.below hba,AP (A:=A) hxb (gy hl hba) (fun k=>by have:=hlt _ k;omega),hf,hp,by omega,fQ hg ⟨hba.os,hba.tape,hba.output,hba.size,fun x hx _=>hba.block x hx⟩⟩
attribute [local irreducible] sv
theorem VB {w: aI} {p: Nat} {a: Option ba5} {cap: Nat} {bs: Nat->Int} (h:Cc w X p a len cap bs) :
  ba3 aZ8 60 #[aO (au ⟨p,0,ak⟩)] X fun e X'=>∃ g,aQ8 g/\am8 w X X' p a len cap bs e g:=by
 have Fv:=h.lt;have hwp:=h.hp;have b0:=dX X (aH #[aj ak 0 0,aj ak 0 0,aj ak 0 0] 28);have HR0:aG (Bx (X.alloc (aH #[aj ak 0 0,aj ak 0 0,aj ak 0 0] 28)) X.heap.size 28 #[aj ak 0 0,aj ak 0 0,aj ak 0 0]):=Bx.new X _ _;have wW:aG (Cc w (X.alloc (aH #[aj ak 0 0,aj ak 0 0,aj ak 0 0] 28)) p a len cap bs):=h.step b0;have oN:aG (X.grownBy (X.alloc (aH #[aj ak 0 0,aj ak 0 0,aj ak 0 0] 28)) (au p)):=⟨b0.os,b0.tape,b0.output,b0.size,fun x hx _=>b0.block x hx⟩
 clear h b0;generalize rV:X.alloc (aH #[aj ak 0 0,aj ak 0 0,aj ak 0 0] 28)=W0 at *;go_enter Tryz.func60,Tryz.ntmps60
 go_wp2_with fail
 refine (jR 4 4 rfl wW.out (by omega) (by omega)).mono ?_
 rintro e W1 ⟨y,rfl,hy,c1,g1⟩;obtain⟨n,hn⟩:∃ n:Nat,aG (n=1+y):=⟨_,rfl⟩;have hn4:1<=n/\n<=4:=by have:=hn.out;omega
 have en:(1:Int)+(y:Int)=n:=by have:=hn.out;omega
 have wS:=dP c1;have mP:=dP (fQ oN.out g1);have HR1:aG (Bx W1 X.heap.size 28 #[aj ak 0 0,aj ak 0 0,aj ak 0 0]):=HR0.out.grown g1 (by simp;omega)
 have hN:=Ig (n:Int) W1;clear c1 g1 HR0 wW oN rV;go_wp2_with fail
 rw[en] at *;clear en hy;refine hN.mono ?_;rintro e W2 ⟨A,rfl,zu,hl,hf,hb2⟩;have aH5:aG (yK n (jg (n:Int)).1):=Ie ⟨hn4.1,by omega⟩
 have aH6:aG (lF (jg (n:Int)).1 n 0):=YU ⟨hn4.1,by omega⟩
 have HM:aG (rD w X (W2.alloc (aH #[aj A.ma (jg (n:Int)).1.mem.length A.mc,aj A.ua (jg (n:Int)).1.up.length A.uc,aj A.la (jg (n:Int)).1.dS.length A.lc] 28)) p a len cap bs W2.heap.size (jg (n:Int)).1 zu):=by
  have h1:=mP.out.size;have h2:=HR1.out.lt;exact Uk (wS.out.step hb2) (HR1.out.below hb2) (fQ mP.out ⟨hb2.os,hb2.tape,hb2.output,hb2.size,fun x hx _=>hb2.block x hx⟩) Fv hl (fun b hb=>by have:=hf b hb;omega)
 generalize (jg (n:Int)).2=bb at *;generalize (jg (n:Int)).1=g0 at *;unfold jc jH;clear hl hf hb2 hN wS mP HR1;go_upto_region 3 with fail
 generalize W2.alloc (aH #[aj A.ma g0.mem.length A.mc,aj A.ua g0.up.length A.uc,aj A.la g0.dS.length A.lc] 28)=W3 at *;generalize W2.heap.size=o at *;have hD:=JA n (n:Int) rfl hn4.1 (by omega) HM.out.cc
 go_wp2_with fail
 refine hD.mono ?_;rintro e W4 ⟨oa,c,G,L,rfl,hA,hLl⟩;have lU:=dP (HM.out.drawn hA.gr hA.cc);have FV:=dP (am7 hA)
 have L6:aG (∀ b,G=au b->¬ zu b/\b≠o):=fun b hb=>by
  have h1:=hA.lo b hb;refine⟨fun k=>?_,fun k=>?_⟩
  ·have:=HM.out.lY.flt b k;omega
  ·have:=HM.out.lY.lt;omega
 have wo:=dP hA.ok;clear hA hD HM;go_wp2_with fail
 go_loopw [7] (fun v wr=>∃ (k:Nat) (g:Gr) (fp:Fp),k<=L.length/\v=ah aA (k:Int)/\yK n g/\lF g n (k:Int)/\rD w X wr p a len cap bs o g fp/\eF.ow wr (iF 4 CV L) (aj oa L.length c) (fun b=>G=au b)/\∀ b,G=au b->¬ fp b/\b≠o) (fun v _=>L.length-(ba4 v).toNat)
 case atStart=>exact⟨0,g0,zu,aZ1 _,rfl,aH5.out,aH6.out,lU.out,FV.out,L6.out⟩
 case round =>
  obtain⟨k,g,fp,hk,rfl,hok,how,hM,hL,hd⟩:=hrel;have iE:=dP hok;have qp:=dP how;have HM:=dP hM;have HL:=dP hL;have HD:=dP hd;clear hok how hM hL hd lU FV L6 aH5 aH6;by_cases hlt:k<L.length
  ·have k1:(k:Int)<L.length:=by omega
   have k0:(0:Int)<=k:=by omega
   obtain⟨lb,lo,hoa,d0,d1,d2,d3⟩:=XK (eF.xZ HL.out) hlt;have hxs:=wo.out (sQ L k) (bW (P6 hlt));have hAc:=XG o 0 g n (sQ L k) fp wr HM.out.lY iE.out.qP (by have:=hxs.2;omega)
   have HF:aG (∀ Y,fH wr Y o 0 (fK (iY g (sQ L k)).1) fp->∃ (k':Nat) (g:Gr) (fp:Fp),k'<=L.length/\(aZ9 aA ((k:Int)+1))=ah aA (k':Int)/\yK n g/\lF g n (k':Int)/\rD w X Y p a len cap bs o g fp/\eF.ow Y (iF 4 CV L) (aj oa L.length c) (fun b=>G=au b)/\∀ b,G=au b->¬ fp b/\b≠o):=fun Y hb=>by
    obtain⟨fp',h1,h2⟩:=HM.out.act hb;refine⟨k+1,_,fp',by omega,by push_cast;rfl,Ws iE.out _,by have:=qp.out.act iE.out.qP (sQ L k);exact this.mono (by push_cast;omega),h1,eF.lC HL.out hb.wrt (fun b e k2=>by rcases k2 with k2|k2;exact (HD.out b e).1 k2;exact (HD.out b e).2 k2),fun b e=>⟨fun k2=>?_,(HD.out b e).2⟩⟩
    rcases h2 b k2 with h3|h3
    ·exact (HD.out b e).1 h3
    ·have:=eF.lg HL.out b e;omega
   unfold su uM at hAc;subst hoa;generalize sQ L k=x at *;clear hxs HM HL HD iE qp;go_wp2_with fail
   refine hAc.mono ?_;rintro e Y2 ⟨rfl,hb5⟩;have HE:aG _:=HF.out Y2 hb5;clear hb5 HF hAc d0 d1 d2 d3;generalize (iY g x).2=bz at *;go_wp2;go_roundw
   case rel=>exact HE.out
   case measure=>simp[ba4];omega
  ·have k1:¬ ((k:Int)<L.length):=by omega
   obtain⟨A9,⟨c0,c1,c2⟩,hown,hfin⟩:=HM.out.done;have HFin:=dP hfin;have Jf:aG (∀ b,fp b->X.heap.size<=b):=fun b hb=>by have:=HM.out.kJ b hb;omega
   obtain⟨z0,z1,z2⟩:=Bx.g3 HM.out.res;obtain⟨f0,f1,f2⟩:=HM.out.res.f3;have HQ:aG (lF g n 325):=qp.out.mono (by omega)
   clear hown hfin HM HL HD qp;go_wp2;refine aY1 (v:=jc A9 g) (by simp[results,Tryz.results60,go_sem,jc,jH, *]) rfl ?_
   obtain⟨q1,q2,q3⟩:=HFin.out (aj A9.ma g.mem.length A9.mc) (aj A9.ua g.up.length A9.uc) (aj A9.la g.dS.length A9.lc);exact⟨g,⟨n,iE.out,hn4.2,HQ.out⟩,A9,fp,rfl,q1,Jf.out,q2,q3⟩
end
section
structure MD (w X Y:aI) (p:Nat) (a:Option ba5) (len cap:Nat) (bs:Nat->Int) (o:Nat) (m:Mb) (fp:Fp):Prop where
 cc:Cc w Y p a len cap bs
 res:Bx Y X.heap.size 47 #[ah aA 0,ah aA 0,aj ak 0 0,aj ak 0 0,aF aC]
 lY:iO Y o 0 (kC m) fp
 kJ:∀ b,fp b->X.heap.size<b
 hpo:p<X.heap.size
 ho:X.heap.size<o
 gr:X.grownBy Y (au p)
section
variable {w X Y Y':aI} {p:Nat} {a:Option ba5} {len cap:Nat} {bs:Nat->Int} {o:Nat} {m m':Mb} {fp:Fp}
theorem MD.lt (h:MD w X Y p a len cap bs o m fp):w.heap.size<=X.heap.size:=by have:=h.cc.hp;have:=h.hpo;omega
theorem MD.drawn (h:MD w X Y p a len cap bs o m fp) (hg:Y.grownBy Y' (au p)) (hc:Cc w Y' p a len cap bs):MD w X Y' p a len cap bs o m fp:=by
 have h1:=h.hpo;have h2:=h.ho;exact⟨hc,h.res.grown hg (by simp;omega),h.lY.wrt (eU.l7 hg) (fun b hb e=>by cases e;rcases hb with hb|hb;have:=h.kJ _ hb;omega;omega),h.kJ,h1,h2,fQ h.gr hg⟩
theorem MD.step (h:MD w X Y p a len cap bs o m fp) (hb:Below Y.heap.size Y Y'):MD w X Y' p a len cap bs o m fp :=
 ⟨h.cc.step hb,h.res.below hb,h.lY.below hb,h.kJ,h.hpo,h.ho,fQ h.gr ⟨hb.os,hb.tape,hb.output,hb.size,fun x hx _=>hb.block x hx⟩⟩
theorem MD.act (h:MD w X Y p a len cap bs o m fp) (hb:fH Y Y' o 0 (kC m') fp):∃ fp',MD w X Y' p a len cap bs o m' fp':=by
 have h1:=h.hpo;have h2:=h.ho;have h3:=h.lt;obtain⟨gI,hp,hf,_⟩:=hb.next;have hs:=h.gr.size;have hw:∀ b,(fp b\/b=o)->X.heap.size<b:=fun b hb=>by rcases hb with hb|hb;exact h.kJ b hb;omega
 exact⟨gI,h.cc.wrt hb.wrt (fun k=>by have:=hw p k;omega) (fun b k=>by have:=hw b k;omega),h.res.wrt hb.wrt (fun k=>by have:=hw _ k;omega),hp,fun b hb=>by rcases hf b hb with k|k;exact h.kJ b k;have:=h.res.lt;omega,h1,h2,oI h.gr hb.wrt (fun b k=>by have:=hw b k;omega)⟩
theorem MD.far (h:MD w X Y p a len cap bs o m fp) {f:Fp} (hw:eU f Y Y') (hd:∀ b,f b->X.heap.size<b/\b≠o/\¬ fp b):MD w X Y' p a len cap bs o m fp:=by
 have h1:=h.hpo;have h2:=h.ho;have h3:=h.lt;exact⟨h.cc.wrt hw (fun k=>by have:=(hd p k).1;omega) (fun b k=>by have:=(hd b k).1;omega),h.res.wrt hw (fun k=>by have:=(hd _ k).1;omega),h.lY.wrt hw (fun b hb k=>by rcases hb with hb|hb;exact (hd b k).2.2 hb;exact (hd b k).2.1 hb),h.kJ,h1,h2,oI h.gr hw (fun b k=>by have:=(hd b k).1;omega)⟩
end
def am9 (w X X':aI) (p:Nat) (a:Option ba5) (len cap:Nat) (bs:Nat->Int) (e:Ending) (m:Mb):Prop:=∃ (A:Ma) (fp:Fp),e=aK (iL A m)/\gq X' (jA m) (jB A m) fp/\(∀ b,fp b->X.heap.size<=b)/\Cc w X' p a len cap bs/\X.grownBy X' (au p)
def Vb (m:Mb) (q:Int):Prop:=∀ r∈m.rows,r.ver<=q
theorem Vb.mono {m: Mb} {p q: Int} (h:Vb m p) (hq:p<=q):Vb m q:=fun r hr=>Int.le_trans (h r hr) hq
theorem Vb.row {m: Mb} {q: Int} (h:Vb m q) (hq:0<=q) (j:Nat):(dO m.rows j).ver<=q:=by
 rcases Nat.lt_or_ge j m.rows.length with hj|hj
 ·exact h _ (bW (iZ hj))
 ·unfold dO
  rw[List.getD_eq_getElem?_getD,List.getElem?_eq_none hj];exact hq
theorem Vb.set {m m': Mb} {q: Int} {j: Nat} (h:Vb m q) (e:m'.rows=m.rows.set j r) (hr:r.ver<=q+1):Vb m' (q+1):=fun x hx=>by
 rw[e] at hx;rcases bf hx with k|k
 ·have:=h x k;omega
 ·rw[k];exact hr
theorem YV {m: Mb} {q: Int} (h:Vb m q) (hq:0<=q) (t:List UInt8):Vb (gX m t).1 (q+1):=by
 unfold gX
 split
 ·exact h.mono (by omega)
 ·exact h.set rfl (by have:=h.row hq m.i;simp only[Mb.own];omega)
theorem ak2 {m: Mb} {q: Int} (h:Vb m q) (hq:0<=q) (who:Int):Vb (iJ m who).1 (q+1):=by
 unfold iJ
 split
 ·exact h.mono (by omega)
 ·exact h.set rfl (by have:=h.row hq m.i;simp only[Mb.own];omega)
theorem QM {m: Mb} {q: Int} (h:Vb m q) (hr:r.ver<=q+1) (fr:Int):Vb (fG m fr r).1 (q+1):=by
 unfold fG
 split
 ·exact h.mono (by omega)
 ·exact h.set rfl hr
theorem ay2 {m: Mb} {n: Nat} (ok:iP m i n) {q: Int} (h:Vb m q) (hq:0<=q):Vb (fB m) (q+1):=by
 unfold fB
 split
 ·exact h.mono (by omega)
 ·rename_i hn
  refine h.set rfl ?_;have S:=DJ ok (by cases e:m.done with|false=>rfl|true=>exact absurd (.inl e) hn)
  have:=h.row hq i;have hv:=S.ver;rw[S.e5]
  split
  ·omega
  ·simp only;omega
theorem aH7 (i n:Int):Vb (kN i n).1 0:=by
 unfold kN
 split
 ·intro r hr
  rw[(List.mem_replicate.1 hr).2];unfold jV
  split<;>exact aZ3 _
 ·exact fun r hr=>absurd hr List.not_mem_nil
attribute [local irreducible] sv
theorem VD {w: aI} {p: Nat} {a: Option ba5} {cap: Nat} {bs: Nat->Int} (h:Cc w X p a len cap bs) :
  ba3 aZ8 105 #[aO (au ⟨p,0,ak⟩)] X fun e X'=>∃ m,((∃ i n,iP m i n)/\Vb m 13)/\am9 w X X' p a len cap bs e m:=by
 have Fv:=h.lt;have hwp:=h.hp;have b0:=dX X (aH #[ah aA 0,ah aA 0,aj ak 0 0,aj ak 0 0,aF aC] 47);have HR0:aG (Bx (X.alloc (aH #[ah aA 0,ah aA 0,aj ak 0 0,aj ak 0 0,aF aC] 47)) X.heap.size 47 #[ah aA 0,ah aA 0,aj ak 0 0,aj ak 0 0,aF aC]):=Bx.new X _ _;have wW:aG (Cc w (X.alloc (aH #[ah aA 0,ah aA 0,aj ak 0 0,aj ak 0 0,aF aC] 47)) p a len cap bs):=h.step b0;have oN:aG (X.grownBy (X.alloc (aH #[ah aA 0,ah aA 0,aj ak 0 0,aj ak 0 0,aF aC] 47)) (au p)):=⟨b0.os,b0.tape,b0.output,b0.size,fun x hx _=>b0.block x hx⟩
 clear h b0;generalize rV:X.alloc (aH #[ah aA 0,ah aA 0,aj ak 0 0,aj ak 0 0,aF aC] 47)=W0 at *;go_enter Tryz.func105,Tryz.ntmps105
 go_wp2_with fail
 refine (jR 4 4 rfl wW.out (by omega) (by omega)).mono ?_
 rintro e W1 ⟨y,rfl,hy,c1,g1⟩;obtain⟨n,hn⟩:∃ n:Nat,aG (n=1+y):=⟨_,rfl⟩;have jy:1<=n/\n<=4:=by have:=hn.out;omega
 have en:(1:Int)+(y:Int)=n:=by have:=hn.out;omega
 have wS:=dP c1;have mP:=dP (fQ oN.out g1);have HR1:aG (Bx W1 X.heap.size 47 #[ah aA 0,ah aA 0,aj ak 0 0,aj ak 0 0,aF aC]):=HR0.out.grown g1 (by simp;omega)
 have hB2:=jR n (n:Int) rfl c1 (by omega) (by omega)
 clear c1 g1 HR0 wW oN;go_wp2_with fail
 rw[en] at *;clear en;refine hB2.mono ?_;rintro e W2 ⟨i,rfl,hi,c2,g2⟩;have HC2:=dP c2;have HG2:=dP (fQ mP.out g2);have HR2:aG (Bx W2 X.heap.size 47 #[ah aA 0,ah aA 0,aj ak 0 0,aj ak 0 0,aF aC]):=HR1.out.grown g2 (by simp;omega)
 have hN:=OQ (i:Int) (n:Int) W2;clear hB2 c2 g2 HR1 wS mP;go_wp2_with fail
 refine hN.mono ?_;rintro e W3 ⟨A,rfl,f0,hl,hf0,hb3⟩
 have hnew:(kN (i:Int) (n:Int)).2=aB/\(kN (i:Int) (n:Int)).1.id=(i:Int)/\(kN (i:Int) (n:Int)).1.n=(n:Int):=by
  unfold kN;rw[if_pos ⟨iQ.2 (by omega),iQ.2 (by omega)⟩]
  exact⟨rfl,rfl,rfl⟩
 have hok0:iP (kN (i:Int) (n:Int)).1 i n:=by
  obtain⟨i',n',ok⟩:=lH.1 (ao3 hnew.1);have e1:i'=i:=by have:=ok.hid;rw[hnew.2.1] at this;omega
  have e2:n'=n:=by have:=ok.hn;rw[hnew.2.2] at this;omega
  rw[e1,e2] at ok;exact ok
 have Ue:aG (Vb (kN (i:Int) (n:Int)).1 0):=aH7 _ _;generalize hb0:(kN (i:Int) (n:Int)).2=bb0 at *;generalize hm0:(kN (i:Int) (n:Int)).1=m0 at *;clear hnew hb0 hm0 hN;have hba:=dX W3 (aH #[ah aA m0.id,ah aA m0.n,aj A.ra m0.rows.length A.rc,aj A.sa m0.dR.length A.sc,aF m0.done] 47);have hxb:=Bx.new W3 47 #[ah aA m0.id,ah aA m0.n,aj A.ra m0.rows.length A.rc,aj A.sa m0.dR.length A.sc,aF m0.done];have aT2:=hb3.size;have Uc:=HG2.out.size;have hrl:=HR2.out.lt;have hfl:=jh hl
 have HM:aG (MD w X (W3.alloc (aH #[ah aA m0.id,ah aA m0.n,aj A.ra m0.rows.length A.rc,aj A.sa m0.dR.length A.sc,aF m0.done] 47)) p a len cap bs W3.heap.size m0 f0):=by
  refine⟨(HC2.out.step hb3).step hba,(HR2.out.below hb3).below hba,Td hxb (gy hl hba) (fun k=>by have:=hfl _ k;omega),fun b hb=>by have:=hf0 b hb;omega,Fv,by omega, ?_⟩
  have hg1:W2.grownBy W3 (au p):=⟨hb3.os,hb3.tape,hb3.output,hb3.size,fun x hx _=>hb3.block x hx⟩
  have hg2:W3.grownBy (W3.alloc (aH #[ah aA m0.id,ah aA m0.n,aj A.ra m0.rows.length A.rc,aj A.sa m0.dR.length A.sc,aF m0.done] 47)) (au p):=⟨hba.os,hba.tape,hba.output,hba.size,fun x hx _=>hba.block x hx⟩
  exact fQ (fQ HG2.out hg1) hg2
 have iE:=dP hok0;unfold iL ig;clear hl hf0 hb3 hba hxb hok0 HR2 HC2 HG2 hfl;go_wp2_with fail
 generalize W3.alloc (aH #[ah aA m0.id,ah aA m0.n,aj A.ra m0.rows.length A.rc,aj A.sa m0.dR.length A.sc,aF m0.done] 47)=W4 at *;generalize W3.heap.size=o at *;refine (jR 14 14 rfl HM.out.cc (by omega) (by omega)).mono ?_
 rintro e W5 ⟨K,rfl,hK,c5,g5⟩;have iM:=dP (HM.out.drawn g5 c5);clear c5 g5 HM;go_wp2_with fail
 go_loopw [6] (fun v wr=>∃ (k:Nat) (m:Mb) (fp:Fp),k<=13/\v=ah aA (k:Int)/\iP m i n/\Vb m (13-(k:Int))/\MD w X wr p a len cap bs o m fp) (fun v _=>(ba4 v).toNat)
 case atStart=>exact⟨K,m0,f0,by omega,rfl,iE.out,Ue.out.mono (by omega),iM.out⟩
 case round =>
  obtain⟨k,m,fp,hk,rfl,ok,aH8,hM⟩:=hrel;have HV:=dP aH8;have HQ:aG (0<=13-(k:Int)):=(by omega:0<=13-(k:Int))
  clear aH8;have HM:=dP hM;have HO:=dP ok;clear hM ok iM iE;by_cases hk0:0<k
  ·have k1:(0:Int)<k:=by omega
   have wk:wrap64 ((k:Int)-1)=((k-1:Nat):Int):=by unfold wrap64;omega
   have HF:aG (∀ (Y:aI) (m':Mb) (fp':Fp),iP m' i n->Vb m' (13-(k:Int)+1)->MD w X Y p a len cap bs o m' fp'->∃ (k':Nat) (m:Mb) (fp:Fp),k'<=13/\(aZ9 aA ((k:Int)-1))=ah aA (k':Int)/\iP m i n/\Vb m (13-(k':Int))/\MD w X Y p a len cap bs o m fp):=fun Y m' fp' h1 hq h2=>⟨k-1,m',fp',by omega,by congr 1;omega,h1,hq.mono (by omega),h2⟩
   clear wk;have Nv:=jR 6 6 rfl HM.out.cc (by omega) (by omega)
   go_wp2_with fail
   refine Nv.mono ?_;rintro e Y1 ⟨y,rfl,hy6,c6,g6⟩;have fZ:=dP (HM.out.drawn g6 c6);clear c6 g6 Nv HM;have hys:y=0\/y=1\/y=2\/y=3\/y=4\/y=5:=by omega
   rcases hys with rfl|rfl|rfl|rfl|rfl|rfl
   ·have hT:=DF 3 3 rfl (by omega) fZ.out.cc
    go_wp2_with fail
    refine hT.mono ?_;rintro e Y2 ⟨t,rfl,ht,c7,g7⟩;have ji:=dP (fZ.out.drawn g7 c7);have hS:=EY o 0 m i n t fp Y2 ji.out.lY HO.out (by omega)
    clear hT c7 g7 fZ;go_wp2_with fail
    refine hS.mono ?_;rintro e Y3 ⟨rfl,hBc⟩;obtain⟨lS,h3⟩:=ji.out.act hBc;have HE:aG _:=HF.out Y3 _ lS (Gf HO.out t).1 (YV HV.out HQ.out t) h3;clear hS hBc h3 ji HF;generalize (gX m t).2=sb at *;go_wp2;go_roundw
    case rel=>exact HE.out
    case measure=>simp[ba4];omega
   ·have hT:=DF 3 3 rfl (by omega) fZ.out.cc
    go_wp2_with fail
    refine hT.mono ?_;rintro e Y2 ⟨t,rfl,ht,c7,g7⟩;have ji:=dP (fZ.out.drawn g7 c7);have hS:=EY o 0 m i n t fp Y2 ji.out.lY HO.out (by omega)
    clear hT c7 g7 fZ;go_wp2_with fail
    refine hS.mono ?_;rintro e Y3 ⟨rfl,hBc⟩;obtain⟨lS,h3⟩:=ji.out.act hBc;have HE:aG _:=HF.out Y3 _ lS (Gf HO.out t).1 (YV HV.out HQ.out t) h3;clear hS hBc h3 ji HF;generalize (gX m t).2=sb at *;go_wp2;go_roundw
    case rel=>exact HE.out
    case measure=>simp[ba4];omega
   ·have hO:=uz 3 fZ.out.cc (by omega)
    go_wp2_with fail
    refine hO.mono ?_;rintro e Y2 ⟨t,rfl,c7,g7⟩;have ji:=dP (fZ.out.drawn g7 c7);clear hO c7 g7 fZ
    cases t with
    | false =>
     have HE:aG _:=HF.out Y2 m fp HO.out (HV.out.mono (by omega)) ji.out
     clear HF ji;go_wp2;go_roundw
     case rel=>exact HE.out
     case measure=>simp[ba4];omega
    | true =>
     have En:=jR n (n:Int) rfl ji.out.cc (by omega) (by omega)
     go_wp2_with fail
     refine En.mono ?_;rintro e Y3 ⟨who,rfl,hwho,c8,g8⟩;have lT:=dP (ji.out.drawn g8 c8);have hS:=LP o 0 m i n (who:Int) fp Y3 lT.out.lY HO.out;clear En c8 g8 ji;go_wp2_with fail
     refine hS.mono ?_;rintro e Y4 ⟨rfl,hBc⟩;obtain⟨lS,h3⟩:=lT.out.act hBc;have HE:aG _:=HF.out Y4 _ lS (Wx HO.out (who:Int)).1 (ak2 HV.out HQ.out (who:Int)) h3;clear hS hBc h3 lT HF;generalize (iJ m (who:Int)).2=sb at *;go_wp2;go_roundw
     case rel=>exact HE.out
     case measure=>simp[ba4];omega
   ·have hD:=DI n (n:Int) rfl (by omega) fZ.out.cc
    go_wp2_with fail
    refine hD.mono ?_;rintro e Y2 ⟨Ar,r,fr,rfl,hSr,hlr,hfr,c7,g7⟩;have ji:=dP (fZ.out.drawn g7 c7);have ak3:=jh hlr;have hr2:=ji.out.lY.lt;have ak4:=dP ji.out.lY.flt;have HXY:=dP ji.out.res.lt;have hba:=dX Y2 (aH #[ah aA r.ver,aj Ar.ta r.txt.length Ar.tc,aj Ar.ga r.got.length Ar.gc,aj Ar.sa r.dQ.length Ar.sc,aF r.wed,aF r.dV,ah aA r.dW,aj Ar.ma r.dU.length Ar.mc] 44);have hxr:=Bx.new Y2 44 #[ah aA r.ver,aj Ar.ta r.txt.length Ar.tc,aj Ar.ga r.got.length Ar.gc,aj Ar.sa r.dQ.length Ar.sc,aF r.wed,aF r.dV,ah aA r.dW,aj Ar.ma r.dU.length Ar.mc];have Aa:=dP hxr;have lT:=dP (ji.out.step hba);have JR:=dP (gy hlr hba);have YW:=dP hSr;have aQ9:=g7.size;have Yk:aG (∀ b,fr b->p<b):=fun b hb=>by have:=hfr b hb;have:=fZ.out.cc.lt;omega
    have En:=jR n (n:Int) rfl lT.out.cc (by omega) (by omega)
    have hoY:=hr2;clear hD c7 g7 hba hxr ji fZ hlr hSr hfr hr2;unfold iK fP;go_wp2_with fail
    refine En.mono ?_;rintro e Y4 ⟨F,rfl,hF,c8,g8⟩;have lU:=dP (lT.out.drawn g8 c8);have hpY:p<Y2.heap.size:=by have:=lT.out.hpo;have:=lT.out.ho;omega
    have hx4:=Aa.out.grown g8 (by simp;omega)
    have FV:aG (gq Y4 (jL r) (jw Ar r) fr):=gU JR.out (eU.l7 g8) (fun b hb e=>by cases e;have:=Yk.out _ hb;omega)
    have uH:F<m.rows.length:=by rw[HO.out.len];exact hF
    have hF1:(F:Int)<m.rows.length:=by omega
    have hF0:(0:Int)<=F:=by omega
    obtain⟨gg,go,gc,M4⟩:=Mw.start lU.out.lY (by omega)
    obtain⟨_,_,v0,_,⟨rfl,_⟩,_⟩:=M4.at uH (j:=0) (cl:=.v (ah aA (dO m.rows F).ver)) rfl;have d2:=M4.rws;simp only[aY5,aY7] at v0 d2;have hvb:=(HO.out.ok F hF).ver;have wv:wrap64 ((dO m.rows F).ver+1)=(dO m.rows F).ver+1:=by unfold wrap64;omega
    obtain⟨⟨x0,x1,x2,x3⟩,x4,x5,x6,x7⟩:=Bx.r8 hx4;have z0:=hx4.f 0;have GK:aG (Bx (Y4.setCell ⟨Y2.heap.size,0,ak⟩ (ah aA ((dO m.rows F).ver+1))) Y2.heap.size 44 #[ah aA ((dO m.rows F).ver+1),aj Ar.ta r.txt.length Ar.tc,aj Ar.ga r.got.length Ar.gc,aj Ar.sa r.dQ.length Ar.sc,aF r.wed,aF r.dV,ah aA r.dW,aj Ar.ma r.dU.length Ar.mc]):=by have:=hx4.lW 0 (ah aA ((dO m.rows F).ver+1));rw[aG];simpa using this
    have QN:=eU.set Y4 Y2.heap.size 0 (ah aA ((dO m.rows F).ver+1));have iM:aG (MD w X (Y4.setCell ⟨Y2.heap.size,0,ak⟩ (ah aA ((dO m.rows F).ver+1))) p a len cap bs o m fp):=lU.out.far QN (fun b k=>by have:=HXY.out;rw[k];exact⟨this,by omega,fun k=>by have:=ak4.out _ k;omega⟩)
    have Qn:aG (gq (Y4.setCell ⟨Y2.heap.size,0,ak⟩ (ah aA ((dO m.rows F).ver+1))) (jL r) (jw Ar r) fr):=gU FV.out QN (fun b hb e=>by have:=ak3 b hb;omega)
    have hrw:qJ (Y4.setCell ⟨Y2.heap.size,0,ak⟩ (ah aA ((dO m.rows F).ver+1))) Ar { r with ver:=(dO m.rows F).ver+1 }:=by
     have:=Ot (uV Qn.out (lo:=0) (fun b _=>aZ1 b)) YW.out.fit YW.out.sz
     exact⟨this.txt,this.got,this.dQ,this.dU,this.mt,this.mg,this.ms,this.mm⟩
    have hS:=EZ o 0 m i n (F:Int) Ar { r with ver:=(dO m.rows F).ver+1 } fp _ iM.out.lY HO.out hrw ⟨by omega,by omega⟩
    unfold iK fP at hS;simp only at hS
    clear En c8 g8 lU Aa lT JR FV M4 hx4 hrw QN;go_upto_region 19 with fail
    clear x0 x1 x2 x3 x4 x5 x6 x7 z0 v0 d2;generalize Y4.setCell ⟨Y2.heap.size,0,ak⟩ (ah aA ((dO m.rows F).ver+1))=Y5 at *;obtain⟨⟨x0,x1,x2,x3⟩,x4,x5,x6,x7⟩:=Bx.r8 GK.out;go_wp2_with fail
    refine hS.mono ?_;rintro e Y6 ⟨rfl,hBc⟩;obtain⟨lS,h3⟩:=iM.out.act hBc;have HE:aG _:=HF.out Y6 _ lS (tJ HO.out (F:Int) { r with ver:=(dO m.rows F).ver+1 }).1 (QM HV.out (Int.add_le_add_right (HV.out.row HQ.out F) 1) (F:Int)) h3
    clear hS hBc h3 iM HF x0 x1 x2 x3 x4 x5 x6 x7;generalize (fG m (F:Int) { r with ver:=(dO m.rows F).ver+1 }).2=sb at *
    go_wp2;go_roundw
    case rel=>exact HE.out
    case measure=>simp[ba4];omega
   ·have hD:=DI n (n:Int) rfl (by omega) fZ.out.cc
    go_wp2_with fail
    refine hD.mono ?_;rintro e Y2 ⟨Ar,r,fr,rfl,hSr,hlr,hfr,c7,g7⟩;have ji:=dP (fZ.out.drawn g7 c7);have ak3:=jh hlr;have hr2:=ji.out.lY.lt;have ak4:=dP ji.out.lY.flt;have HXY:=dP ji.out.res.lt;have hba:=dX Y2 (aH #[ah aA r.ver,aj Ar.ta r.txt.length Ar.tc,aj Ar.ga r.got.length Ar.gc,aj Ar.sa r.dQ.length Ar.sc,aF r.wed,aF r.dV,ah aA r.dW,aj Ar.ma r.dU.length Ar.mc] 44);have hxr:=Bx.new Y2 44 #[ah aA r.ver,aj Ar.ta r.txt.length Ar.tc,aj Ar.ga r.got.length Ar.gc,aj Ar.sa r.dQ.length Ar.sc,aF r.wed,aF r.dV,ah aA r.dW,aj Ar.ma r.dU.length Ar.mc];have Aa:=dP hxr;have lT:=dP (ji.out.step hba);have JR:=dP (gy hlr hba);have YW:=dP hSr;have aQ9:=g7.size;have Yk:aG (∀ b,fr b->p<b):=fun b hb=>by have:=hfr b hb;have:=fZ.out.cc.lt;omega
    have En:=jR n (n:Int) rfl lT.out.cc (by omega) (by omega)
    have hoY:=hr2;clear hD c7 g7 hba hxr ji fZ hlr hSr hfr hr2;unfold iK fP;go_wp2_with fail
    refine En.mono ?_;rintro e Y4 ⟨F,rfl,hF,c8,g8⟩;have lU:=dP (lT.out.drawn g8 c8);have hpY:p<Y2.heap.size:=by have:=lT.out.hpo;have:=lT.out.ho;omega
    have hx4:=Aa.out.grown g8 (by simp;omega)
    have FV:aG (gq Y4 (jL r) (jw Ar r) fr):=gU JR.out (eU.l7 g8) (fun b hb e=>by cases e;have:=Yk.out _ hb;omega)
    have uH:F<m.rows.length:=by rw[HO.out.len];exact hF
    have hF1:(F:Int)<m.rows.length:=by omega
    have hF0:(0:Int)<=F:=by omega
    obtain⟨gg,go,gc,M4⟩:=Mw.start lU.out.lY (by omega)
    obtain⟨_,_,v0,_,⟨rfl,_⟩,_⟩:=M4.at uH (j:=0) (cl:=.v (ah aA (dO m.rows F).ver)) rfl;have d2:=M4.rws;simp only[aY5,aY7] at v0 d2;have hvb:=(HO.out.ok F hF).ver;have wv:wrap64 ((dO m.rows F).ver+1)=(dO m.rows F).ver+1:=by unfold wrap64;omega
    obtain⟨⟨x0,x1,x2,x3⟩,x4,x5,x6,x7⟩:=Bx.r8 hx4;have z0:=hx4.f 0;have GK:aG (Bx (Y4.setCell ⟨Y2.heap.size,0,ak⟩ (ah aA ((dO m.rows F).ver+1))) Y2.heap.size 44 #[ah aA ((dO m.rows F).ver+1),aj Ar.ta r.txt.length Ar.tc,aj Ar.ga r.got.length Ar.gc,aj Ar.sa r.dQ.length Ar.sc,aF r.wed,aF r.dV,ah aA r.dW,aj Ar.ma r.dU.length Ar.mc]):=by have:=hx4.lW 0 (ah aA ((dO m.rows F).ver+1));rw[aG];simpa using this
    have QN:=eU.set Y4 Y2.heap.size 0 (ah aA ((dO m.rows F).ver+1));have iM:aG (MD w X (Y4.setCell ⟨Y2.heap.size,0,ak⟩ (ah aA ((dO m.rows F).ver+1))) p a len cap bs o m fp):=lU.out.far QN (fun b k=>by have:=HXY.out;rw[k];exact⟨this,by omega,fun k=>by have:=ak4.out _ k;omega⟩)
    have Qn:aG (gq (Y4.setCell ⟨Y2.heap.size,0,ak⟩ (ah aA ((dO m.rows F).ver+1))) (jL r) (jw Ar r) fr):=gU FV.out QN (fun b hb e=>by have:=ak3 b hb;omega)
    have hrw:qJ (Y4.setCell ⟨Y2.heap.size,0,ak⟩ (ah aA ((dO m.rows F).ver+1))) Ar { r with ver:=(dO m.rows F).ver+1 }:=by
     have:=Ot (uV Qn.out (lo:=0) (fun b _=>aZ1 b)) YW.out.fit YW.out.sz
     exact⟨this.txt,this.got,this.dQ,this.dU,this.mt,this.mg,this.ms,this.mm⟩
    have hS:=EZ o 0 m i n (F:Int) Ar { r with ver:=(dO m.rows F).ver+1 } fp _ iM.out.lY HO.out hrw ⟨by omega,by omega⟩
    unfold iK fP at hS;simp only at hS
    clear En c8 g8 lU Aa lT JR FV M4 hx4 hrw QN;go_upto_region 19 with fail
    clear x0 x1 x2 x3 x4 x5 x6 x7 z0 v0 d2;generalize Y4.setCell ⟨Y2.heap.size,0,ak⟩ (ah aA ((dO m.rows F).ver+1))=Y5 at *;obtain⟨⟨x0,x1,x2,x3⟩,x4,x5,x6,x7⟩:=Bx.r8 GK.out;go_wp2_with fail
    refine hS.mono ?_;rintro e Y6 ⟨rfl,hBc⟩;obtain⟨lS,h3⟩:=iM.out.act hBc;have HE:aG _:=HF.out Y6 _ lS (tJ HO.out (F:Int) { r with ver:=(dO m.rows F).ver+1 }).1 (QM HV.out (Int.add_le_add_right (HV.out.row HQ.out F) 1) (F:Int)) h3
    clear hS hBc h3 iM HF x0 x1 x2 x3 x4 x5 x6 x7;generalize (fG m (F:Int) { r with ver:=(dO m.rows F).ver+1 }).2=sb at *
    go_wp2;go_roundw
    case rel=>exact HE.out
    case measure=>simp[ba4];omega
   ·have hS:=Fg o 0 m i n fp Y1 fZ.out.lY HO.out
    go_wp2_with fail
    refine hS.mono ?_;rintro e Y2 ⟨rfl,hBc⟩;obtain⟨lS,h3⟩:=fZ.out.act hBc;have HE:aG _:=HF.out Y2 _ lS (stepM HO.out).ok (ay2 HO.out HV.out HQ.out) h3;clear hS hBc h3 fZ HF;go_wp2;go_roundw
    case rel=>exact HE.out
    case measure=>simp[ba4];omega
  ·have k1:¬ ((0:Int)<k):=by omega
   obtain⟨vs,hpc,hov,hnB⟩:=HM.out.lY;obtain⟨A9,rfl,JU⟩:=I5 hov;have hl5:(ig A9 m).toList.length=5:=rfl;have c0:=hpc.cell 0 (by rw[hl5];omega)
   have c1:=hpc.cell 1 (by rw[hl5];omega)
   have c2:=hpc.cell 2 (by rw[hl5];omega)
   have c3:=hpc.cell 3 (by rw[hl5];omega)
   have c4:=hpc.cell 4 (by rw[hl5];omega)
   simp only[aY7] at c0 c1 c2 c3 c4;replace c0:wr.cell? ⟨o,0,ak⟩=au (ah aA m.id):=c0;replace c1:wr.cell? ⟨o,1,ak⟩=au (ah aA m.n):=c1;replace c2:wr.cell? ⟨o,2,ak⟩=au (aj A9.ra m.rows.length A9.rc):=c2;replace c3:wr.cell? ⟨o,3,ak⟩=au (aj A9.sa m.dR.length A9.sc):=c3;replace c4:wr.cell? ⟨o,4,ak⟩=au (aF m.done):=c4;obtain⟨r0,r1,r2,r3,r4⟩:=Bx.r5 HM.out.res;obtain⟨f0',f1,f2,f3,f4⟩:=HM.out.res.f5
   have HA:aG (∀ {x0 x1 x2 x3 x4:aJ},gq (((((wr.setCell ⟨X.heap.size,0,ak⟩ x0).setCell ⟨X.heap.size,1,ak⟩ x1).setCell ⟨X.heap.size,2,ak⟩ x2).setCell ⟨X.heap.size,3,ak⟩ x3).setCell ⟨X.heap.size,4,ak⟩ x4) (jA m) (jB A9 m) fp/\Cc w (((((wr.setCell ⟨X.heap.size,0,ak⟩ x0).setCell ⟨X.heap.size,1,ak⟩ x1).setCell ⟨X.heap.size,2,ak⟩ x2).setCell ⟨X.heap.size,3,ak⟩ x3).setCell ⟨X.heap.size,4,ak⟩ x4) p a len cap bs/\X.grownBy (((((wr.setCell ⟨X.heap.size,0,ak⟩ x0).setCell ⟨X.heap.size,1,ak⟩ x1).setCell ⟨X.heap.size,2,ak⟩ x2).setCell ⟨X.heap.size,3,ak⟩ x3).setCell ⟨X.heap.size,4,ak⟩ x4) (au p)):=fun {x0 x1 x2 x3 x4}=>by
    have hw:=qN wr X.heap.size (a:=x0) (b:=x1) (c:=x2) (d:=x3) (e:=x4);have h1:=HM.out.hpo;have h3:=HM.out.lt;exact⟨gU JU hw (fun b hb e=>by have:=HM.out.kJ b hb;omega),HM.out.cc.wrt hw (by omega) (fun b e=>by omega),oI HM.out.gr hw (fun b e=>by omega)⟩
   have Ea:aG (∀ b,fp b->X.heap.size<=b):=fun b hb=>by have:=HM.out.kJ b hb;omega
   clear hpc hov JU HM hnB hl5;go_wp2;refine aY1 (v:=aP #[ah aA m.id,ah aA m.n,aj A9.ra m.rows.length A9.rc,aj A9.sa m.dR.length A9.sc,aF m.done]) (by simp[results,Tryz.results105,go_sem, *]) rfl ?_
   exact⟨m,⟨⟨i,n,HO.out⟩,HV.out.mono (by omega)⟩,A9,fp,rfl,HA.out.1,Ea.out,HA.out.2⟩
end
structure Di (m:Mb) (n:Nat):Prop where
 id':-1<=m.id/\m.id<=7
 hn:m.n=(n:Int)
 n5:1<=n/\n<=5
 ok:∀ r∈m.rows,iR r n
 rl:m.rows.length<=5
 sl:m.dR.length<=61
 sg:∀ x∈m.dR,-1<=x/\x<=62
 vb:Vb m 13
theorem iP.dms {m: Mb} {n: Nat} (h:iP m i n) (hv:Vb m 13):Di m n:=by
 have h5:=h.n5;have hl:=h.lt;exact⟨by rw[h.hid];omega,h.hn,h5,h.rowOk,by rw[h.len];omega,by have:=h.sl;omega,fun x hx=>by have:=h.elem hx;omega,hv⟩
theorem Di.fit {m: Mb} {n: Nat} (h:Di m n):nY m:=⟨fun r hr=>(h.ok r hr).fit,fun x hx=>by have:=h.sg x hx;omega⟩
theorem Di.i64 {m: Mb} {n: Nat} (h:Di m n):Fq m:=by
 have h1:=h.id';have h5:=h.n5;refine⟨⟨by omega,by omega⟩,⟨by rw[h.hn];omega,by rw[h.hn];omega⟩,fun r hr=>?_⟩
 have hr:=h.ok r hr;have hv:=hr.ver
 cases e:r.dV with
 | true=>have:=(hr.dV e).2.1;exact⟨⟨by omega,by omega⟩,by omega,by omega⟩
 | false=>rw[tC,(hr.not e).1];exact⟨⟨by omega,by omega⟩,by omega,by omega⟩
theorem QO {α: Type} {F: α->List eF} {s: Nat} (hF:∀ x,(F x).length=s) (hs:0<s) {w: aI} {x: α} {xs: List α} {g off: Nat} (h:eF.ow w (iF s F (x::xs)) (aj (au ⟨g,off,ak⟩) (xs.length+1) c) f) :
  (c=1->eF.ow w (iF s F xs) (aj (au ⟨g,off,ak⟩) 0 0) (fun _=>False)/\xs=[])/\(1<c->∃ f',eF.ow w (iF s F xs) (aj (au ⟨g,off+s,ak⟩) xs.length (c-1)) f'/\∀ b,f' b->f b):=by
 obtain⟨a0,c0,us,G,f0,e,ho,hl,hn,hf⟩:=h
 cases e
 have hlen:(x::xs).length=xs.length+1:=rfl;rw[hlen] at ho;rcases ho with ⟨h0,_⟩|⟨g0,aQ6,e,ho,rfl⟩
 ·omega
 cases e
 have hle:=ho.le;refine⟨fun hc=>?_,fun hc=>?_⟩
 ·have:xs=[]:=aT (by omega)
  subst this;exact⟨⟨_,0,[],ak,fun _=>False,rfl,iV.nil _ _ (kV _ _),⟨rfl,fun _ h=>h⟩,fun _ _ h=>h,fun b=>by simp⟩,rfl⟩
 ·rw[aT6] at hl
  obtain⟨u1,u2,f1,f2,rfl,l1,l2,hd,Ep⟩:=mO hl;have hu1:u1.length=s:=by rw[jI l1,hF]
  refine⟨fun b=>au g=au b\/f2 b,⟨au ⟨g,off+s,ak⟩,c-1,u2,au g,f2,rfl,iV.of ?_,l2,fun b hb hk=>hn b hb ((Ep b).2 (.inr hk)),fun b=>Iff.rfl⟩,fun b hb=>(hf b).2 (hb.imp id (fun h=>(Ep b).2 (.inr h)))⟩
  have hm:(xs.length+1)*s=xs.length*s+s:=by rw[aZ4,Nat.one_mul]
  have WJ:=ho.len;rw[dB,hu1,hm] at WJ
  have hcs:(c-1)*s+s=c*s:=by
   have:c=(c-1)+1:=by omega
   rw[this,aZ4,Nat.one_mul];simp
  refine⟨by omega,by omega,by have:=ho.max;omega,ho.blk,fun i hi=>?_,fun i hi=>?_,fun i hi=>?_⟩
  ·have:=ho.cell (s+i) (by rw[hm];omega)
   rw[show off+s+i=off+(s+i) by omega,this,List.getElem?_append_right (by omega),hu1]
   simp
  ·have:=ho.some (s+i) (by omega)
   rwa [show off+s+i=off+(s+i) by omega]
  ·have:=ho.free (s+i) (by omega)
   rwa [show off+s+i=off+(s+i) by omega]
theorem VE {w: aI} {p: Nat} {a: Option ba5} {cap: Nat} {bs: Nat->Int} (h:Cc w X p a len cap bs) :
  ba3 aZ8 61 #[aO (au ⟨p,0,ak⟩)] X fun e X'=>∃ m n,Di m n/\am9 w X X' p a len cap bs e m:=by
 have fU:=iq;have Fv:=h.lt;have hwp:=h.hp;have b0:=dX X (aH #[ah aA 0,ah aA 0,aj ak 0 0,aj ak 0 0,aF aC] 47);have HR0:aG (Bx (X.alloc (aH #[ah aA 0,ah aA 0,aj ak 0 0,aj ak 0 0,aF aC] 47)) X.heap.size 47 #[ah aA 0,ah aA 0,aj ak 0 0,aj ak 0 0,aF aC]):=Bx.new X _ _;have wW:aG (Cc w (X.alloc (aH #[ah aA 0,ah aA 0,aj ak 0 0,aj ak 0 0,aF aC] 47)) p a len cap bs):=h.step b0;have oN:aG (X.grownBy (X.alloc (aH #[ah aA 0,ah aA 0,aj ak 0 0,aj ak 0 0,aF aC] 47)) (au p)):=⟨b0.os,b0.tape,b0.output,b0.size,fun x hx _=>b0.block x hx⟩
 have hX0:=HR0.out.lt;clear h b0;generalize rV:X.alloc (aH #[ah aA 0,ah aA 0,aj ak 0 0,aj ak 0 0,aF aC] 47)=W0 at *;have hD:=VD wW.out;go_enter Tryz.func61,Tryz.ntmps61
 go_wp2_with fail
 refine hD.mono ?_;rintro e W3 ⟨m0,⟨⟨i,n,hok⟩,hvb⟩,A,f0,rfl,hl,hf0,c3,g3⟩;have jD:=dP (hok.dms hvb);have HN0:aG (m0.rows.length=n/\1<=n):=⟨hok.len,hok.n5.1⟩;have CB:=dP hok.sl;have hba:=dX W3 (aH #[ah aA m0.id,ah aA m0.n,aj A.ra m0.rows.length A.rc,aj A.sa m0.dR.length A.sc,aF m0.done] 47);have hxb:=Bx.new W3 47 #[ah aA m0.id,ah aA m0.n,aj A.ra m0.rows.length A.rc,aj A.sa m0.dR.length A.sc,aF m0.done];have hrl:=(HR0.out.grown g3 (by simp;omega)).lt
 have hfl:=jh hl
 have HM:aG (MD w X (W3.alloc (aH #[ah aA m0.id,ah aA m0.n,aj A.ra m0.rows.length A.rc,aj A.sa m0.dR.length A.sc,aF m0.done] 47)) p a len cap bs W3.heap.size m0 f0):=by
  refine⟨c3.step hba,(HR0.out.grown g3 (by simp;omega)).below hba,Td hxb (gy hl hba) (fun k=>by have:=hfl _ k;omega),fun b hb=>by have:=hf0 b hb;omega,Fv,by omega, ?_⟩
  have hg2:W3.grownBy (W3.alloc (aH #[ah aA m0.id,ah aA m0.n,aj A.ra m0.rows.length A.rc,aj A.sa m0.dR.length A.sc,aF m0.done] 47)) (au p):=⟨hba.os,hba.tape,hba.output,hba.size,fun x hx _=>hba.block x hx⟩
  exact fQ (fQ oN.out g3) hg2
 unfold iL ig;clear hl hf0 hba hxb hok HR0 wW oN hfl c3 g3 hD;go_wp2_with fail
 generalize W3.alloc (aH #[ah aA m0.id,ah aA m0.n,aj A.ra m0.rows.length A.rc,aj A.sa m0.dR.length A.sc,aF m0.done] 47)=W4 at *;generalize W3.heap.size=o at *;refine (uz 12 HM.out.cc (by omega)).mono ?_
 rintro e W5 ⟨t,rfl,c5,g5⟩;have iM:=dP (HM.out.drawn g5 c5);clear c5 g5 HM
 go_upto_if 7 with fail
 go_cut [7] from 8 to 35 (fun _ wx=>∃ (m:Mb) (fp:Fp),Di m n/\MD w X wx p a len cap bs o m fp)
 case first =>
  cases t with
  | false =>
   go_wp2;go_meet
   case rel=>exact⟨m0,f0,jD.out,iM.out⟩
  | true =>
   have Nv:=jR 4 4 rfl iM.out.cc (by omega) (by omega)
   go_wp2_with fail
   refine Nv.mono ?_;rintro e Y1 ⟨y,rfl,hy6,c6,g6⟩;have fZ:=dP (iM.out.drawn g6 c6);clear c6 g6 Nv iM;have hys:y=0\/y=1\/y=2\/y=3:=by omega
   rcases hys with rfl|rfl|rfl|rfl
   ·have hF:=IV (-1) 7 (by omega) (by omega) (by omega) fZ.out.cc
    go_wp2_with fail
    refine hF.mono ?_;rintro e Y2 ⟨x,rfl,hx1,hx2,c7,g7⟩;have M2:=fZ.out.drawn g7 c7;obtain⟨v0,z0,hB⟩:=(fH.refl M2.lY).put (j:=0) (x:=ah aA m0.id) rfl (ah aA x);obtain⟨lS,M3⟩:=M2.act (m':={ m0 with id:=x }) hB
    simp only[aY7] at v0 z0 M3;have HE:aG (∃ (m:Mb) (fp:Fp),Di m n/\MD w X (Y2.setCell ⟨o,0,ak⟩ (ah aA x)) p a len cap bs o m fp):=⟨{ m0 with id:=x },lS,⟨⟨hx1,hx2⟩,jD.out.hn,jD.out.n5,jD.out.ok,jD.out.rl,jD.out.sl,jD.out.sg,jD.out.vb⟩,M3⟩
    clear hF c7 g7 M2 hB M3 fZ;go_wp2;go_meet
    case rel=>exact HE.out
   ·obtain⟨gg,go,gc,M1w⟩:=Mw.start fZ.out.lY (by have:=HN0.out;omega)
    obtain⟨u,f,hu,hfz,how,hsub,hnB,hput⟩:=fZ.out.lY.at (j:=2) (c:=iF 8 jr m0.rows) rfl;obtain rfl:=aV4 (hu.symm.trans M1w.rws);simp only[aY7] at hu hfz hput
    obtain⟨r0,R,hR⟩:∃ r0 R,m0.rows=r0::R:=by
     cases e:m0.rows with
     | nil=>have:=HN0.out;rw[e] at this;simp at this;omega
     | cons r0 R=>exact⟨r0,R,rfl⟩
    have JU:m0.rows.length=R.length+1:=by rw[hR];rfl
    have hcap:R.length+1<=gc:=by
     have:=how;obtain⟨_,_,_,_,_,e,ho,_⟩:=this
     cases e
     have:=ho.le.1;omega
    rw[JU] at hu how;rw[hR] at how
    have HD:aG (∀ (u':aJ) (f':Fp),eF.ow Y1 (iF 8 jr R) u' f'->(∀ b,f' b->f b)->∃ (m:Mb) (fp:Fp),Di m n/\MD w X (Y1.setCell ⟨o,2,ak⟩ u') p a len cap bs o m fp):=fun u' f' h1 h2=>by
     obtain⟨_,_,k3,_⟩:=hput Y1 (iF 8 jr R) u' f' (eU.refl _ _) h1 (fun b hb=>.inl (h2 b hb))
     obtain⟨lS,M3⟩:=fZ.out.act (m':={ m0 with rows:=R }) k3
     exact⟨{ m0 with rows:=R },lS,⟨jD.out.id',jD.out.hn,jD.out.n5,fun r hr=>jD.out.ok r (by rw[hR];exact bV _ hr),by have:=jD.out.rl;simp only;omega,jD.out.sl,jD.out.sg,fun r hr=>jD.out.vb r (by rw[hR];exact bV _ hr)⟩,M3⟩
    have n1:(1:Int)<=((R.length+1:Nat):Int):=by omega
    have n2:(1:Int)<=(R.length:Int)+1:=by omega
    obtain⟨t1,t2⟩:=QO jW (by omega) how
    by_cases hc1:gc=1
    ·subst hc1
     obtain⟨k1,k2⟩:=t1 rfl;subst k2;have HE:aG _:=HD.out _ _ k1 (fun b hb=>hb.elim)
     clear hput how t1 t2 HD k1 fZ M1w hR JU;go_wp2;go_meet
     case rel=>exact HE.out
    ·obtain⟨f',k1,k2⟩:=t2 (by omega)
     have HE:aG _:=HD.out _ f' k1 k2;clear hput how t1 t2 HD k1 fZ M1w hR JU;go_wp2;go_meet
     case rel=>exact HE.out
   ·obtain⟨u,f,hu,hfz,how,hsub,hnB,hput⟩:=fZ.out.lY.at (j:=3) (c:=gQ m0.dR) rfl
    obtain⟨sa,sc,_,rfl,_⟩:=jv.1 how;simp only[aY7] at hu;have hF:=IV (-1) 62 (by omega) (by omega) (by omega) (fZ.out.step (Same.drewN Y1 1).below).cc
    clear hfz how hput;go_wp2_with fail
    refine lG (S:=fun X:aI=>X.cell? ⟨o,3,ak⟩=au (aj sa m0.dR.length sc)) 7 fU ((hu)) fun hHeld=>?_
    refine fC (i:=0) rfl hHeld ?_;refine fC (i:=1) rfl hHeld ?_;refine fE (i:=2) rfl ?_;refine iy (i:=3) rfl fun K hK=>?_
    go_simp
    go_at_call 62
    refine hF.mono ?_;rintro e Y2 ⟨x,rfl,hx1,hx2,c7,g7⟩;have M2:=(fZ.out.step (Same.drewN Y1 1).below).drawn g7 c7;obtain⟨u,f,hu2,hfz,how,hsub,hnB,hput⟩:=M2.lY.at (j:=3) (c:=gQ m0.dR) rfl;simp only[aY7] at hu2 hput hfz;have hu3:Y2.cell? ⟨o,3,ak⟩=au (aj sa m0.dR.length sc):=g7.cell (show (Y1.drewN 1).cell? ⟨o,3,ak⟩=_ from hu) (by have:=fZ.out.hpo;have:=fZ.out.ho;simp;omega)
    obtain rfl:=aV4 (hu2.symm.trans hu3);obtain⟨a',c',ea,hA⟩:=pO x how (by have:=CB.out;omega)
    cases ea
    refine hK.out _ _ hu3 (fun eG=>?_)
    clear hK hHeld;have hHeld:=eG;try simp only[gW]
    refine iy (i:=4) rfl fun K hK=>?_
    go_simp;refine hK.out _ _ (((dX Y2 (aH #[ah aA x] 2)).cell (bG _ _ hu3)).trans hu3) (fun eG=>?_)
    clear hK hHeld;have hHeld:=eG;try simp only[gW]
    refine iy (i:=5) rfl fun K hK=>?_
    refine jm (by rfl) _ _ _ _ (by rfl) (aj sa m0.dR.length sc) _ (by rfl) (by rfl) hA ⟨rfl,rfl,rfl,rfl⟩ ?_
    rintro v' w4 ⟨a4,c4,f4,rfl,q1,q2,q3⟩;obtain⟨k1,k2,k3,_⟩:=hput w4 (gQ (m0.dR++[x])) _ f4 q3 q1 q2;refine hK.out _ _ k1 (fun eG=>?_)
    clear hK hHeld;have hHeld:=eG;try simp only[gW]
    refine fC (i:=6) rfl hHeld ?_;obtain⟨lS,M3⟩:=M2.act (m':={ m0 with dR:=m0.dR++[x] }) k3
    have HE : aG (∃ (m : Mb) (fp : Fp),Di m n /\ MD w X (w4.setCell ⟨o,3,ak⟩ (aj a4 (m0.dR.length + 1) c4)) p a len cap bs o m fp) := ⟨{ m0 with dR := m0.dR ++ [x] },lS,⟨jD.out.id',jD.out.hn,jD.out.n5,jD.out.ok,jD.out.rl,by have := CB.out;simp;omega,fun y hy => by
     rcases aW0.1 hy with h|h
     ·exact jD.out.sg y h
     ·have:y=x:=by simpa using h
      omega,jD.out.vb⟩,M3⟩
    refine oH rfl fun K hK=>?_
    go_simp;refine hK.out _ _ ?_;clear hK hHeld hF c7 g7 M2 hA hput q1 q2 q3 k3 M3 fZ how hu hu2 hu3;go_wp2_with fail
    go_meet
    case rel=>exact HE.out
   ·obtain⟨v0,z0,hB⟩:=(fH.refl fZ.out.lY).put (j:=4) (x:=aF m0.done) rfl (aF (!m0.done))
    obtain⟨lS,M3⟩:=fZ.out.act (m':={ m0 with done:=!m0.done }) hB
    simp only[aY7] at v0 z0 M3;have HE:aG (∃ (m:Mb) (fp:Fp),Di m n/\MD w X (Y1.setCell ⟨o,4,ak⟩ (aF (!m0.done))) p a len cap bs o m fp):=⟨{ m0 with done:=!m0.done },lS,⟨jD.out.id',jD.out.hn,jD.out.n5,jD.out.ok,jD.out.rl,jD.out.sl,jD.out.sg,jD.out.vb⟩,M3⟩
    clear hB M3 fZ;go_wp2;go_meet
    case rel=>exact HE.out
 case rest =>
  obtain⟨m,fp,hO,hM⟩:=hcut;generalize wc=Y9 at *;have HM:=dP hM;have HO:=dP hO;clear hM hO iM jD HN0;obtain⟨vs,hpc,hov,hnB⟩:=HM.out.lY;obtain⟨A9,rfl,JU⟩:=I5 hov;have hl5:(ig A9 m).toList.length=5:=rfl;have c0:=hpc.cell 0 (by rw[hl5];omega)
  have c1:=hpc.cell 1 (by rw[hl5];omega)
  have c2:=hpc.cell 2 (by rw[hl5];omega)
  have c3:=hpc.cell 3 (by rw[hl5];omega)
  have c4:=hpc.cell 4 (by rw[hl5];omega)
  simp only[aY7] at c0 c1 c2 c3 c4;replace c0:Y9.cell? ⟨o,0,ak⟩=au (ah aA m.id):=c0;replace c1:Y9.cell? ⟨o,1,ak⟩=au (ah aA m.n):=c1;replace c2:Y9.cell? ⟨o,2,ak⟩=au (aj A9.ra m.rows.length A9.rc):=c2;replace c3:Y9.cell? ⟨o,3,ak⟩=au (aj A9.sa m.dR.length A9.sc):=c3;replace c4:Y9.cell? ⟨o,4,ak⟩=au (aF m.done):=c4;obtain⟨r0,r1,r2,r3,r4⟩:=Bx.r5 HM.out.res;obtain⟨f0',f1,f2,f3,f4⟩:=HM.out.res.f5
  have HA:aG (∀ {x0 x1 x2 x3 x4:aJ},gq (((((Y9.setCell ⟨X.heap.size,0,ak⟩ x0).setCell ⟨X.heap.size,1,ak⟩ x1).setCell ⟨X.heap.size,2,ak⟩ x2).setCell ⟨X.heap.size,3,ak⟩ x3).setCell ⟨X.heap.size,4,ak⟩ x4) (jA m) (jB A9 m) fp/\Cc w (((((Y9.setCell ⟨X.heap.size,0,ak⟩ x0).setCell ⟨X.heap.size,1,ak⟩ x1).setCell ⟨X.heap.size,2,ak⟩ x2).setCell ⟨X.heap.size,3,ak⟩ x3).setCell ⟨X.heap.size,4,ak⟩ x4) p a len cap bs/\X.grownBy (((((Y9.setCell ⟨X.heap.size,0,ak⟩ x0).setCell ⟨X.heap.size,1,ak⟩ x1).setCell ⟨X.heap.size,2,ak⟩ x2).setCell ⟨X.heap.size,3,ak⟩ x3).setCell ⟨X.heap.size,4,ak⟩ x4) (au p)):=fun {x0 x1 x2 x3 x4}=>by
   have hw:=qN Y9 X.heap.size (a:=x0) (b:=x1) (c:=x2) (d:=x3) (e:=x4);have h1:=HM.out.hpo;have h3:=HM.out.lt;exact⟨gU JU hw (fun b hb e=>by have:=HM.out.kJ b hb;omega),HM.out.cc.wrt hw (by omega) (fun b e=>by omega),oI HM.out.gr hw (fun b e=>by omega)⟩
  have Ea:aG (∀ b,fp b->X.heap.size<=b):=fun b hb=>by have:=HM.out.kJ b hb;omega
  clear hpc hov JU HM hnB hl5;go_wp2;refine aY1 (v:=aP #[ah aA m.id,ah aA m.n,aj A9.ra m.rows.length A9.rc,aj A9.sa m.dR.length A9.sc,aF m.done]) (by simp[results,Tryz.results61,go_sem, *]) rfl ?_
  exact⟨m,n,HO.out,A9,fp,rfl,HA.out.1,Ea.out,HA.out.2⟩
section
structure wC (g:Gr) (n:Nat):Prop where
 mem:∀ m∈g.mem,nY m/\Fq m/\sN m<=100000
 dS:∀ x∈g.dS,qK x.row/\(jo x.fr/\jo x.to/\tC x.row)/\Fj x<=1000
 ml:g.mem.length=n
 n4:1<=n/\n<=4
 ul:g.up.length<=5
 ak5:g.dS.length<=201
 ow:lF g n 400
theorem wC.fit {g: Gr} {n: Nat} (h:wC g n):Dw g:=⟨fun m hm=>(h.mem m hm).1,fun x hx=>(h.dS x hx).1⟩
theorem wC.g64 {g: Gr} {n: Nat} (h:wC g n):Vj g:=⟨fun m hm=>(h.mem m hm).2.1,fun x hx=>(h.dS x hx).2.1⟩
theorem wC.sz {g: Gr} {n: Nat} (h:wC g n):AQ g<=1048576:=by
 have e2:Eh g.mem g.mem.length<=100000*g.mem.length:=by
  unfold Eh;rw[aV2];exact xW sN 100000 g.mem (fun m hm=>(h.mem m hm).2.2)
 have e4:Ei g.dS g.dS.length<=1000*g.dS.length:=by
  unfold Ei;rw[aV2];exact xW Fj 1000 g.dS (fun x hx=>(h.dS x hx).2.2)
 have:=h.ml;have:=h.n4;have:=h.ul;have:=h.ak5;unfold AQ P7 P8;omega
theorem aH9 {g: Gr} {n: Nat} (h:OkG g n) (h4:n<=4) (ho:lF g n 325):wC g n:=by
 refine⟨fun m hm=>?_,fun x hx=>?_,h.ml,⟨h.n5.1,h4⟩,by rw[h.ul];omega,by have:=h.pF;omega,ho.mono (by omega)⟩
 ·obtain⟨i,ok⟩:=h.ab6 hm
  exact⟨ok.fit,JF ok,ok.small.2.2.2⟩
 ·obtain⟨i,j,h1,h2,h3,h5,_,ok⟩:=h.jZ x hx
  have h5':=h.n5;exact⟨ok.fit,⟨⟨by omega,by omega⟩,⟨by omega,by omega⟩,(Yh h).2 x hx |>.2.2⟩,by have:=ok.c8.2;unfold Fj;omega⟩
theorem wC.set {g:Gr} {n:Nat} (h:wC g n) {m:Mb} (hm:nY m/\Fq m/\sN m<=100000) (hv:(dO m.rows 0).ver<=400):wC { g with mem:=g.mem.set 0 m } n:=by
 refine⟨fun x hx=>?_,h.dS,by simp only[aV3];exact h.ml,h.n4,h.ul,h.ak5,fun k hk=>?_⟩
 ·rcases bf hx with k|k
  ·exact h.mem x k
  ·rw[k];exact hm
 ·have e:=nX (g:=g) (i:=0) (j:=k) (m:=m) (by rw[h.ml];exact h.n4.1)
  unfold Gr.set at e;unfold iD;rw[e]
  split
  ·rename_i k0;rw[k0];exact hv
  ·exact h.ow k hk
theorem Ul {w Y Y2: aI} {p: Nat} {a: Option ba5} {cap: Nat} {bs: Nat->Int} {o: Nat} {g: Gr} {fp: Fp} (h:rD w X Y p a len cap bs o g fp) (hg:Y.grownBy Y2 (au p)) (hc:Cc w Y2 p a len cap bs) :
  ∃ V:aI,rD w X V p a len cap bs o g fp/\V.heap.size=Y.heap.size/\Below V.heap.size V Y2/\∀ b,b≠p->V.heap[b]?=Y.heap[b]?:=by
 have hpY:=h.cc.lt;obtain⟨i,x,hi,hh⟩:=hc.cur
 have hb:∀ b,b≠p->(Y.heap.setIfInBounds p (aH #[aj a len cap,ah aA (i:Int),ah aA x] 96 (0,0)))[b]?=Y.heap[b]?:=fun b hne=>by
  rw[Array.getElem?_setIfInBounds_ne (fun e=>hne e.symm)]
 have hp:(Y.heap.setIfInBounds p (aH #[aj a len cap,ah aA (i:Int),ah aA x] 96 (0,0)))[p]?=Y2.heap[p]?:=by
  rw[Array.getElem?_setIfInBounds_self_of_lt hpY,hh]
 have hs:(Y.heap.setIfInBounds p (aH #[aj a len cap,ah aA (i:Int),ah aA x] 96 (0,0))).size=Y.heap.size:=by simp
 have hgV:Y.grownBy { Y with heap:=Y.heap.setIfInBounds p (aH #[aj a len cap,ah aA (i:Int),ah aA x] 96 (0,0)) } (au p):=⟨rfl,rfl,rfl,Nat.le_of_eq hs.symm,fun b _ hne=>hb b (fun e=>hne (by rw[e]))⟩
 refine⟨{ Y with heap:=Y.heap.setIfInBounds p (aH #[aj a len cap,ah aA (i:Int),ah aA x] 96 (0,0)) },h.drawn hgV (h.cc.drawn hgV ⟨i,x,hi,hp.trans hh⟩),hs,⟨hg.os,hg.tape,hg.output, ?_,fun b hlt=>?_⟩,hb⟩
 ·show (Y.heap.setIfInBounds p _).size<=_
  rw[hs];exact hg.size
 ·show Y2.heap[b]?=(Y.heap.setIfInBounds p _)[b]?
  by_cases e:b=p
  ·rw[e];exact hp.symm
  ·rw[hb b e]
   have hlt':b<Y.heap.size:=by have h1:b<(Y.heap.setIfInBounds p (aH #[aj a len cap,ah aA (i:Int),ah aA x] 96 (0,0))).size:=hlt;rw[hs] at h1;exact h1
   exact hg.block b hlt' (fun k=>e (aV4 k))
theorem uK.sz2 (h:uK r):kK r<=1000:=by
 have h1:=CQ h.ts r.txt.length (aZ0 _);have:=h.tl;have:=h.gl;have:=h.sl;have:=h.ml;have h2:=Nat.mul_le_mul_right 21 h.tl;unfold kK;omega
theorem Di.sz2 {m: Mb} {n: Nat} (h:Di m n):sN m<=100000:=by
 have e2:G9 m.rows m.rows.length<=300*m.rows.length:=by
  unfold G9;rw[aV2];exact CW kK 300 m.rows (fun r hr=>(h.ok r hr).c8.2)
 have:=h.rl;have:=h.sl;unfold sN Il;omega
theorem ak6 (w:aI) (x:Int):jk (w.alloc (aH #[ah aA x] 2)) 1 w.heap.size 0 1 1 ([x].map (aZ9 aA)):=by
 have hb:=Bx.new w 2 #[ah aA x];refine⟨rfl,aZ0 _,by unfold maxLen;omega,hb.lt,fun i hi=>?_,fun i hi=>?_,fun i hi=>hb.f _⟩
 ·obtain rfl:i=0:=by omega
  exact hb.at 0 rfl
 ·obtain rfl:i=0:=by omega
  rw[show (0:Nat)+0=0 from rfl,hb.at 0 rfl]
  rfl
theorem ak7 {m: Mb} {n: Nat} (h:iP m i n):Il m.rows<=2000:=by
 have e2:G9 m.rows m.rows.length<=300*m.rows.length:=by
  unfold G9;rw[aV2];exact CW kK 300 m.rows (fun r hr=>(h.rowOk r hr).c8.2)
 have:=h.len;have:=h.n5;unfold Il;omega
theorem ay3 {m: Mb} {n: Nat} (h:iP m 0 n) (hn:0<n):nY { m with rows:=m.rows.set 0 { dO m.rows 0 with wed:=aB,dV:=aB,dU:=(dO m.rows 0).got },done:=aB }/\Fq { m with rows:=m.rows.set 0 { dO m.rows 0 with wed:=aB,dV:=aB,dU:=(dO m.rows 0).got },done:=aB }/\sN { m with rows:=m.rows.set 0 { dO m.rows 0 with wed:=aB,dV:=aB,dU:=(dO m.rows 0).got },done:=aB }<=100000:=by
 have hf:=h.fit;have h6:=JF h;have ok:=h.ok 0 hn;have hin:dO m.rows 0∈m.rows:=oM (by rw[h.len];exact hn)
 have hl:=h.len;have h5:=h.n5;have hs:=h.sl;refine⟨⟨fun r hr=>?_,hf.2⟩,⟨h6.1,h6.2.1,fun r hr=>?_⟩, ?_⟩
 ·rcases bf hr with k|k
  ·exact hf.1 r k
  ·rw[k];exact⟨ok.fit.1,ok.fit.2.1,ok.fit.1⟩
 ·rcases bf hr with k|k
  ·exact h6.2.2 r k
  ·rw[k];exact (h6.2.2 _ hin:jo (dO m.rows 0).ver/\jo (dO m.rows 0).dW)
 ·have hz:kK { dO m.rows 0 with wed:=aB,dV:=aB,dU:=(dO m.rows 0).got }<=400:=by
   have h1:=ok.c8.2;have h2:=ok.gl;unfold kK at h1 ⊢;simp only
   omega
  generalize ({ dO m.rows 0 with wed:=aB,dV:=aB,dU:=(dO m.rows 0).got }:Rw)=r' at hz ⊢
  have e2:G9 (m.rows.set 0 r') (m.rows.set 0 r').length<=400*(m.rows.set 0 r').length:=by
   unfold G9;rw[aV2];refine CW kK 400 _ (fun r hr=>?_)
   rcases bf hr with k|k
   ·have:=(h.rowOk r k).c8.2;omega
   ·rw[k];exact hz
  unfold sN Il;rw[aV3] at e2;simp only[aV3]
  omega
theorem wC.push {g: Gr} {n: Nat} (h:wC g n) {x y: Int} (hr:uK r) (hx:jo x) (hy:jo y) (hl:g.dS.length<=200):wC { g with dS:=g.dS++[⟨x,y,r⟩] } n:=by
 have hx:qK (⟨x,y,r⟩:Ml).row/\(jo (⟨x,y,r⟩:Ml).fr/\jo (⟨x,y,r⟩:Ml).to/\tC (⟨x,y,r⟩:Ml).row)/\Fj ⟨x,y,r⟩<=1000:=⟨hr.fit,⟨hx,hy,hr.i64⟩,hr.sz2⟩;refine⟨h.mem,fun y hy=>?_,h.ml,h.n4,h.ul,by simp only[dB,bP];omega,h.ow.Dh rfl⟩
 rcases aW0.1 hy with k|k
 ·exact h.dS y k
 ·rw[dH.1 k];exact hx
def DgA (g:Gr):Prop:=∃ n,wC g n
attribute [local irreducible] sv
theorem JV {w: aI} {p: Nat} {a: Option ba5} {cap: Nat} {bs: Nat->Int} (h:Cc w X p a len cap bs) :
  ba3 aZ8 29 #[aO (au ⟨p,0,ak⟩)] X fun e X'=>∃ g,DgA g/\am8 w X X' p a len cap bs e g:=by
 have fU:=iq;have Fv:=h.lt;have hwp:=h.hp;have b0:=dX X (aH #[aj ak 0 0,aj ak 0 0,aj ak 0 0] 28);have HR0:aG (Bx (X.alloc (aH #[aj ak 0 0,aj ak 0 0,aj ak 0 0] 28)) X.heap.size 28 #[aj ak 0 0,aj ak 0 0,aj ak 0 0]):=Bx.new X _ _;have wW:aG (Cc w (X.alloc (aH #[aj ak 0 0,aj ak 0 0,aj ak 0 0] 28)) p a len cap bs):=h.step b0;have oN:aG (X.grownBy (X.alloc (aH #[aj ak 0 0,aj ak 0 0,aj ak 0 0] 28)) (au p)):=⟨b0.os,b0.tape,b0.output,b0.size,fun x hx _=>b0.block x hx⟩
 have hX0:=HR0.out.lt;clear h b0;generalize rV:X.alloc (aH #[aj ak 0 0,aj ak 0 0,aj ak 0 0] 28)=W0 at *;have hD:=VB wW.out;go_enter Tryz.func29,Tryz.ntmps29
 go_wp2_with fail
 refine hD.mono ?_;rintro e W3 ⟨g0,⟨n,hok,hn4,how⟩,A,zu,rfl,hl,hf,c3,g3⟩;have G:=hok.qP;have jD:=dP (aH9 G hn4 how);have iE:=dP G;have HM:aG (rD w X (W3.alloc (aH #[aj A.ma g0.mem.length A.mc,aj A.ua g0.up.length A.uc,aj A.la g0.dS.length A.lc] 28)) p a len cap bs W3.heap.size g0 zu):=Uk c3 (HR0.out.grown g3 (by simp;omega)) (fQ oN.out g3) Fv hl (fun b hb=>by have:=hf b hb;omega)
 have hn1:1<=n:=G.n5.1;unfold jc jH;clear hl hf hok how G HR0 wW oN c3 g3 hD rV;go_wp2_with fail
 generalize W3.alloc (aH #[aj A.ma g0.mem.length A.mc,aj A.ua g0.up.length A.uc,aj A.la g0.dS.length A.lc] 28)=W4 at *;generalize W3.heap.size=o at *;refine (uz 10 HM.out.cc (by omega)).mono ?_
 rintro e W5 ⟨t,rfl,c5,g5⟩;have iM:=dP (HM.out.drawn g5 c5);clear c5 g5 HM
 go_upto_if 8 with fail
 go_cut [8] from 9 to 74 (fun _ wx=>∃ (g:Gr) (fp:Fp),wC g n/\rD w X wx p a len cap bs o g fp)
 case first =>
  cases t with
  | false =>
   go_wp2;go_meet
   case rel=>exact⟨g0,zu,jD.out,iM.out⟩
  | true =>
   have Nv:=jR 5 5 rfl iM.out.cc (by omega) (by omega)
   go_wp2_with fail
   refine Nv.mono ?_;rintro e Y1 ⟨y,rfl,hy6,c6,g6⟩;have fZ:=dP (iM.out.drawn g6 c6);have hml:=jD.out.ml;have vY:=dP hml;have hm0:0<g0.mem.length:=by omega
   have hm1:(0:Int)<g0.mem.length:=by omega
   clear c6 g6 Nv iM hml;have hys:y=0\/y=1\/y=2\/y=3\/y=4:=by omega
   clear hy6;rcases hys with rfl|rfl|rfl|rfl|rfl
   ·obtain⟨b,off,c,G0⟩:=Gw.start fZ.out.lY hm0
    have hu:=G0.mem;have hD:=VE (fZ.out.step (Same.drewN Y1 1).below).cc;clear G0;go_wp2_with fail
    refine lG (S:=fun X:aI=>X.cell? ⟨o,0,ak⟩=au (aj (au ⟨b,off,ak⟩) g0.mem.length c)) 5 fU ((hu)) fun hHeld=>?_
    refine fE (i:=0) rfl ?_;refine fC (i:=1) rfl hHeld ?_;refine fE (i:=2) rfl ?_;refine iy (i:=3) rfl fun K hK=>?_
    go_simp
    go_at_call 61
    refine hD.mono ?_;rintro e Y2 ⟨m',n',hS',Am,fm,rfl,hl,hfm,c7,g7⟩;have hu3:Y2.cell? ⟨o,0,ak⟩=au (aj (au ⟨b,off,ak⟩) g0.mem.length c):=g7.cell (show (Y1.drewN 1).cell? ⟨o,0,ak⟩=_ from hu) (by have:=fZ.out.hpo;have:=fZ.out.ho;simp;omega)
    obtain⟨V,hV,MB,QS,hVe⟩:=Ul (fZ.out.step (Same.drewN Y1 1).below) g7 c7;obtain⟨b',off',c',G1⟩:=Gw.start hV.lY hm0;have e1:=aV4 ((fM QS G1.mem).symm.trans hu3)
    cases e1
    have hG:=G1.JH (k:=0) hm0 QS hl (fun b hb=>by have:=hfm b hb;rw[MB];exact this)
    obtain⟨lS,M3,_⟩:=hV.act hG.iw;obtain⟨f9,hpl,_⟩:=G1.mb (k:=0) hm0;simp only[Nat.zero_mul,aY5] at hpl M3;have hpl2:=hpl.below QS;obtain⟨_,_,x0,z0,_⟩:=hpl2.at (j:=0) rfl;obtain⟨_,_,x1,z1,_⟩:=hpl2.at (j:=1) rfl;obtain⟨_,_,x2,z2,_⟩:=hpl2.at (j:=2) rfl;obtain⟨_,_,x3,z3,_⟩:=hpl2.at (j:=3) rfl;obtain⟨_,_,x4,z4,_⟩:=hpl2.at (j:=4) rfl;simp only[aY5] at x0 z0;have HE:aG (∃ (g:Gr) (fp:Fp),wC g n/\rD w X _ p a len cap bs o g fp):=⟨_,lS,jD.out.set ⟨hS'.fit,hS'.i64,hS'.sz2⟩ (by have:=hS'.vb.row (by omega) 0;omega),M3⟩
    refine hK.out _ _ hu3 (fun eG=>?_)
    clear hK hHeld;have hHeld:=eG;try simp only[gW]
    unfold iL;unfold ig;refine fE (i:=4) rfl ?_;refine oH rfl fun K hK=>?_
    go_simp;refine hK.out _ _ ?_;clear hK hHeld hD c7 g7 hV MB QS hVe G1 hG hpl hpl2 M3 hS' hl hfm fZ hu hu3 x0 x1 x2 x3 x4 z0 z1 z2 z3 z4;go_wp2_with fail
    go_meet
    case rel=>exact HE.out
   ·obtain⟨u,f,hu,hfz,how,hsub,hnB,hput⟩:=fZ.out.lY.at (j:=1) (c:=vX g0.up) rfl
    simp only[aY7] at hu hfz hput
    obtain⟨u0,R,hR⟩:∃ u0 R,g0.up=u0::R:=by
     cases e:g0.up with
     | nil=>have:=iE.out.ul;rw[e] at this;simp at this;omega
     | cons u0 R=>exact⟨u0,R,rfl⟩
    have Gn:R.length+1<=5:=by have:=jD.out.ul;rw[hR] at this;simpa using this
    rw[hR,xO] at how
    obtain⟨gg,go_,gc,rfl,hcap⟩:∃ gg go_ gc,u=aj (au ⟨gg,go_,ak⟩) (R.length+1) gc/\R.length+1<=gc:=by
     obtain⟨a1,c1,us,G1,f1,e,ho,_⟩:=how;rcases ho with ⟨h0,_⟩|⟨g2,off2,e2,ho,_⟩
     ·simp at h0
     ·exact⟨g2,off2,c1,by rw[e,e2];rfl,ho.le⟩
    have HD:aG (∀ (u':aJ) (f':Fp),eF.ow Y1 (iF 1 Gv R) u' f'->(∀ b,f' b->f b)->∃ (g:Gr) (fp:Fp),wC g n/\rD w X (Y1.setCell ⟨o,1,ak⟩ u') p a len cap bs o g fp):=fun u' f' h1 h2=>by
     rw[<- xO] at h1;obtain⟨_,_,k3,_⟩:=hput Y1 (vX R) u' f' (eU.refl _ _) h1 (fun b hb=>.inl (h2 b hb))
     obtain⟨lS,M3,_⟩:=fZ.out.act (g':={ g0 with up:=R }) k3
     exact⟨{ g0 with up:=R },lS,⟨jD.out.mem,jD.out.dS,jD.out.ml,jD.out.n4,by simp only;omega,jD.out.ak5,jD.out.ow.Dh rfl⟩,M3⟩
    have n1:(1:Int)<=((R.length+1:Nat):Int):=by omega
    have n2:(1:Int)<=(R.length:Int)+1:=by omega
    obtain⟨t1,t2⟩:=QO Kw (by omega) how
    by_cases hc1:gc=1
    ·subst hc1
     obtain⟨k1,k2⟩:=t1 rfl;subst k2;have HE:aG _:=HD.out _ _ k1 (fun b hb=>hb.elim)
     clear hput how t1 t2 HD k1 fZ hR;go_wp2;go_meet
     case rel=>exact HE.out
    ·obtain⟨f',k1,k2⟩:=t2 (by omega)
     have HE:aG _:=HD.out _ f' k1 k2;clear hput how t1 t2 HD k1 fZ hR;go_wp2;go_meet
     case rel=>exact HE.out
   ·obtain⟨b,off,c,G0⟩:=Gw.start fZ.out.lY hm0
    have hu:=G0.mem;obtain⟨um,fm,hu2,_,BQ,_⟩:=fZ.out.lY.at (j:=2) (c:=iF 10 jU g0.dS) rfl;obtain⟨la,lc,_,_,_,rfl,_⟩:=BQ;simp only[aY7] at hu2;have hop:o≠p:=by have:=fZ.out.hpo;have:=fZ.out.ho;omega
    have Um:∀ {Y Y':aI} {j:Nat} {v:aJ},Y.grownBy Y' (au p)->Y.cell? ⟨o,j,ak⟩=au v->Y'.cell? ⟨o,j,ak⟩=au v:=fun hg h=>hg.cell h (by simp;exact fun e=>hop e)
    have hF3:=IV (-1) 6 (by omega) (by omega) (by omega) (fZ.out.step (Same.drewN Y1 1).below).cc
    have aT3:=dP vY.out;clear G0;go_wp2_with fail
    refine lG (S:=fun X:aI=>X.cell? ⟨o,2,ak⟩=au (aj la g0.dS.length lc)/\X.cell? ⟨o,0,ak⟩=au (aj (au ⟨b,off,ak⟩) g0.mem.length c)) 15 fU ((⟨hu2,hu⟩)) fun hHeld=>?_
    refine fE (i:=0) rfl ?_;refine fC (i:=1) rfl hHeld ?_;refine fE (i:=2) rfl ?_;refine fE (i:=4) rfl ?_;refine fE (i:=6) rfl ?_;refine fE (i:=7) rfl ?_;refine fC (i:=8) rfl hHeld ?_;refine fE (i:=9) rfl ?_;refine iy (i:=3) rfl fun K hK=>?_
    go_simp
    go_at_call 62
    refine hF3.mono ?_;rintro e Y2 ⟨xf,rfl,hx1,hx2,c7,g7⟩;have M2:=(fZ.out.step (Same.drewN Y1 1).below).drawn g7 c7;have v2:Y2.cell? ⟨o,2,ak⟩=au (aj la g0.dS.length lc):=Um g7 (show (Y1.drewN 1).cell? ⟨o,2,ak⟩=_ from hu2)
    have v0:Y2.cell? ⟨o,0,ak⟩=au (aj (au ⟨b,off,ak⟩) g0.mem.length c):=Um g7 (show (Y1.drewN 1).cell? ⟨o,0,ak⟩=_ from hu)
    have hF5:=IV (-1) 6 (by omega) (by omega) (by omega) c7
    refine hK.out _ _ ⟨v2,v0⟩ (fun eG=>?_)
    clear hK hHeld;have hHeld:=eG;try simp only[gW]
    refine iy (i:=5) rfl fun K hK=>?_
    go_simp
    go_at_call 62
    refine hF5.mono ?_;rintro e Y3 ⟨xt,rfl,ht1,ht2,c8,g8⟩;have M3:=M2.drawn g8 c8;have y2:=Um g8 v2;have y0:=Um g8 v0;have aI0:=DI g0.mem.length (g0.mem.length:Int) rfl (by have:=jD.out.n4;have:=vY.out;omega) c8
    refine hK.out _ _ ⟨y2,y0⟩ (fun eG=>?_)
    clear hK hHeld;have hHeld:=eG;try simp only[gW]
    refine iy (i:=10) rfl fun K hK=>?_
    go_simp
    go_at_call 63
    refine aI0.mono ?_;rintro e Y4 ⟨Ar,r,fr,rfl,hr,hl,hlo,c9,g9⟩;obtain⟨V,hV,MB,QS,hVe⟩:=Ul M3 g9 c9;obtain⟨b',off',c',G1⟩:=Gw.start hV.lY hm0;have eV:∀ j,V.cell? ⟨o,j,ak⟩=Y3.cell? ⟨o,j,ak⟩:=fun j=>bT (hVe o hop)
    have e1:=aV4 (G1.mem.symm.trans ((eV 0).trans y0))
    cases e1
    obtain⟨u9,f9,f0,k1,k2,k3,k4,k5,k6,_,_,k8⟩:=G1.full;have e2:=aV4 (k1.symm.trans ((eV 2).trans y2));subst e2;have hA:=Gw.UY (x:=⟨xf,xt,r⟩) k3 k6 k8 QS hl (fun b hb=>by rw[MB];exact hlo b hb) (by have:=iE.out.pF;omega)
    have z2:=Um g9 y2;have z0:=Um g9 y0;have hKm:∀ {Y:aI},eU f9 V Y->Y.cell? ⟨o,0,ak⟩=au (aj (au ⟨b,off,ak⟩) g0.mem.length c):=fun hw=>(bT (hw.block o k5 k4)).trans G1.mem
    refine hK.out _ _ ⟨z2,z0⟩ (fun eG=>?_)
    clear hK hHeld;have hHeld:=eG;try simp only[gW]
    unfold iK;unfold fP;unfold yM at hA;refine fE (i:=11) rfl ?_;refine iy (i:=12) rfl fun K hK=>?_
    go_simp;refine hK.out _ _ ⟨((dX Y4 _).cell (bG _ _ z2)).trans z2,((dX Y4 _).cell (bG _ _ z0)).trans z0⟩ (fun eG=>?_)
    clear hK hHeld;have hHeld:=eG;try simp only[gW]
    refine iy (i:=13) rfl fun K hK=>?_
    refine jm (by rfl) _ _ _ _ (by rfl) (aj la g0.dS.length lc) _ (by rfl) (by rfl) hA ⟨rfl,rfl,rfl,rfl⟩ ?_
    rintro v9 w4 ⟨a9,c10,rfl,hw4,q1,q2,EU⟩;refine hK.out _ _ ⟨q1,hKm hw4⟩ (fun eG=>?_)
    clear hK hHeld;have hHeld:=eG;try simp only[gW]
    refine fE (i:=14) rfl ?_;obtain⟨lS,M9,_⟩:=hV.act EU.iw;have HE:aG (∃ (g:Gr) (fp:Fp),wC g n/\rD w X (w4.setCell ⟨o,2,ak⟩ (aj a9 (g0.dS.length+1) c10)) p a len cap bs o g fp):=⟨_,lS,jD.out.push hr ⟨by omega,by omega⟩ ⟨by omega,by omega⟩ iE.out.pF,M9⟩
    refine oH rfl fun K hK=>?_
    go_simp;refine hK.out _ _ ?_;clear hK hHeld hF3 hF5 aI0 c7 c8 c9 g7 g8 g9 M2 M3 hV MB QS hVe G1 eV k1 k2 k3 k4 k5 k6 k8 hA hKm hw4 q1 q2 EU M9 hr hl hlo fZ hu hu2 v0 v2 y0 y2 z0 z2;go_wp2_with fail
    go_meet
    case rel=>exact HE.out
   ·obtain⟨b,off,c,G0⟩:=Gw.start fZ.out.lY hm0
    have hu:=G0.mem;obtain⟨f9,hpl,hbk⟩:=G0.mb (k:=0) hm0;obtain⟨u,f,hu3,hfz,how,hsub,hnB,hput⟩:=hpl.at (j:=3) (c:=gQ (dY g0 0).dR) rfl;have hba:=dX Y1 (aH #[ah aA 1] 2);have ru:eF.ow (Y1.alloc (aH #[ah aA 1] 2)) (gQ [1]) (aj (au ⟨Y1.heap.size,0,ak⟩) 1 1) (fun b=>au Y1.heap.size=au b):=jv.2 ⟨_,1,au Y1.heap.size,rfl,iV.of (ak6 Y1 1),fun b=>Iff.rfl⟩
    obtain⟨q1,q2,q3,_⟩:=hput (Y1.alloc (aH #[ah aA 1] 2)) (gQ [1]) (aj (au ⟨Y1.heap.size,0,ak⟩) 1 1) _ (eU.of_below hba) ru (fun b e=>.inr (by cases e;exact aZ0 _))
    have hG:=hbk _ { dY g0 0 with dR:=[1] } q3
    obtain⟨lS,M3,_⟩:=fZ.out.act hG.iw;simp only[Nat.zero_mul,aY5] at q1 q2 M3;have hmm:=jD.out.mem (dY g0 0) (AY hm0);have HE:aG (∃ (g:Gr) (fp:Fp),wC g n/\rD w X _ p a len cap bs o g fp):=⟨_,lS,jD.out.set (m:={ dY g0 0 with dR:=[1] }) ⟨⟨hmm.1.1,fun x hx=>by rw[dH.1 hx];omega⟩,hmm.2.1,by have:=hmm.2.2;unfold sN at this ⊢;simp only[bP];have h5:=iE.out.mem 0 (by omega);have:=ak7 h5;omega⟩ (by have:=jD.out.ow 0 (by omega);exact this),M3⟩
    clear hput hG hbk how ru q3 M3 hmm fZ hpl G0 hu3 hba;go_wp2;go_meet
    case rel=>exact HE.out
   ·obtain⟨b,off,c,G0⟩:=Gw.start fZ.out.lY hm0
    have hu:=G0.mem;obtain⟨f9,hpl,hbk⟩:=G0.mb (k:=0) hm0;have okm:=iE.out.mem 0 (by omega)
    have hr0:0<(dY g0 0).rows.length:=by rw[okm.len];omega
    have hr1:(0:Int)<((dY g0 0).rows.length:Int):=by omega
    have IX:=okm.ok 0 (by omega)
    obtain⟨rg,ro,rc,fr,hrw,hne,_,_,ak8,VF⟩:=hpl.el (F:=jr) jW (by omega) (j:=2) (L:=(dY g0 0).rows) rfl (k:=0) (iZ hr0)
    have HQ:aG (nY { dY g0 0 with rows:=(dY g0 0).rows.set 0 { dO (dY g0 0).rows 0 with wed:=aB,dV:=aB,dU:=(dO (dY g0 0).rows 0).got },done:=aB }/\Fq { dY g0 0 with rows:=(dY g0 0).rows.set 0 { dO (dY g0 0).rows 0 with wed:=aB,dV:=aB,dU:=(dO (dY g0 0).rows 0).got },done:=aB }/\sN { dY g0 0 with rows:=(dY g0 0).rows.set 0 { dO (dY g0 0).rows 0 with wed:=aB,dV:=aB,dU:=(dO (dY g0 0).rows 0).got },done:=aB }<=100000):=ay3 okm (by omega)
    have HV:aG ((dO ((dY g0 0).rows.set 0 { dO (dY g0 0).rows 0 with wed:=aB,dV:=aB,dU:=(dO (dY g0 0).rows 0).got }) 0).ver<=400):=by
     rw[aG,gB hr0,if_pos rfl];exact jD.out.ow 0 (by omega)
    have hgf:=IX.fit.1;have hgl:(dO (dY g0 0).rows 0).got.length<=1000000:=by have:=IX.gl;omega
    generalize hrr:dO (dY g0 0).rows 0=r at *;generalize hmm:dY g0 0=m at *;simp only[Nat.zero_mul,aY5] at hpl hbk hrw ak8 VF;obtain⟨w4,z4,B1⟩:=(fH.refl ak8).put (j:=4) (x:=aF r.wed) rfl (aF aB);obtain⟨w5,z5,B2⟩:=B1.put (j:=5) (x:=aF r.dV) rfl (aF aB);generalize hYb:(Y1.setCell ⟨rg,ro+4,ak⟩ (aF aB)).setCell ⟨rg,ro+5,ak⟩ (aF aB)=Yb at *;obtain⟨u2,f2,w2,_,ow2,_⟩:=B2.at (j:=2) (c:=gQ r.got) rfl;obtain⟨ga,gc,rfl,Az,_,_⟩:=nI (eF.xZ ow2) hgf;obtain⟨u7,f7,w7,z7,ow7,an0⟩:=B2.at (j:=7) (c:=gQ r.dU) rfl;have hba:=dX Yb (aH #[] 2);have w2':=fM hba w2;have hA:=wU (c:=gc) Az hgl
    have Ah:aG (∀ (w9:aI) (a9:Option ba5) (c9:Nat) (Un:Fp),eF.ow w9 (gQ r.got) (aj a9 r.got.length c9) Un->(∀ b,Un b->Yb.heap.size<=b)->Below Yb.heap.size Yb w9->w9.cell? ⟨rg,ro+7,ak⟩=au u7/\w9.frozen? ⟨rg,ro+7,ak⟩=aC/\∃ B9:fH Y1 (w9.setCell ⟨rg,ro+7,ak⟩ (aj a9 r.got.length c9)) b off (kC { m with rows:=m.rows.set 0 { r with wed:=aB,dV:=aB,dU:=r.got } }) f9,True):=fun w9 a9 c9 Un h1 h2 h3=>by
     obtain⟨q1,q2,q3,_⟩:=an0 w9 (gQ r.got) (aj a9 r.got.length c9) Un (eU.of_below h3) h1 (fun b hb=>.inr (h2 b hb))
     exact⟨q1,q2,VF _ { r with wed:=aB,dV:=aB,dU:=r.got } q3,trivial⟩
    have Xf:=dP hbk;clear an0 VF hbk hpl ak8 B1 B2 ow2 ow7 Az G0 okm IX hba hgf;go_upto_region 17 with (at_builtin;refine fJ (by rfl) _ _ _ _ (by rfl) _ _ (by rfl) (by rfl) hA ⟨rfl,rfl,rfl,rfl⟩ ?_;rintro v9 w9 ⟨a9,c9,Un,rfl,k1,k2,k3⟩;obtain⟨q1,q2,B9,_⟩:=Ah.out w9 a9 c9 Un k1 k2 k3)
    generalize w9.setCell ⟨rg,ro+7,ak⟩ (aj a9 r.got.length c9)=W9 at *;have EU:=Xf.out _ _ B9;obtain⟨x4,y4,B10⟩:=B9.put (j:=4) (x:=aF m.done) rfl (aF aB);have hu9:=EU.mem;simp only[aV3] at hu9;have aI1:=Xf.out _ { m with rows:=m.rows.set 0 { r with wed:=aB,dV:=aB,dU:=r.got },done:=aB } B10
    obtain⟨lS,M3,_⟩:=fZ.out.act aI1.iw;have HE:aG (∃ (g:Gr) (fp:Fp),wC g n/\rD w X (W9.setCell ⟨b,off+4,ak⟩ (aF aB)) p a len cap bs o g fp):=⟨_,lS,jD.out.set HQ.out HV.out,M3⟩;clear hA Ah Xf EU B9 B10 aI1 M3 fZ k1 k2 k3 q1 q2 hu hrw w4 z4 w5 z5 w2 w2' w7 z7 hYb;go_wp2;go_meet
    case rel=>exact HE.out
 case rest =>
  obtain⟨g,fp,hO,hM⟩:=hcut;generalize wc=Y9 at *;have HM:=dP hM;have HO:aG (DgA g):=⟨n,hO⟩;clear hM hO iM jD;obtain⟨A9,⟨c0,c1,c2⟩,hown,hfin⟩:=HM.out.done;have HFin:=dP hfin;have Jf:aG (∀ b,fp b->X.heap.size<=b):=fun b hb=>by have:=HM.out.kJ b hb;omega
  obtain⟨z0,z1,z2⟩:=Bx.g3 HM.out.res;obtain⟨f0,f1,f2⟩:=HM.out.res.f3;clear hown hfin HM;go_wp2;refine aY1 (v:=jc A9 g) (by simp[results,Tryz.results29,go_sem,jc,jH, *]) rfl ?_
  obtain⟨q1,q2,q3⟩:=HFin.out (aj A9.ma g.mem.length A9.mc) (aj A9.ua g.up.length A9.uc) (aj A9.la g.dS.length A9.lc);exact⟨g,HO.out,A9,fp,rfl,q1,Jf.out,q2,q3⟩
end
def DgN (w w':aI) (A:Ga) (g:Gr):Prop:=It w' (fK g) (jC A g) w.heap.size w'.heap.size/\DgA g/\Below w.heap.size w w'
theorem VG (a:Option ba5) (len cap:Nat) (bs:Nat->Int) (w:aI) (hv:oC w a len bs) (hl:len<=4096) :
  ba3 aZ8 32 #[aj a len cap] w fun e w'=>∃ (A:Ga) (g:Gr),e=aK (jc A g)/\DgN w w' A g:=by
 have hb0:=dX w (aH #[aj ak 0 0,aj ak 0 0,aj ak 0 0] 28);have HR:aG (Bx (w.alloc (aH #[aj ak 0 0,aj ak 0 0,aj ak 0 0] 28)) w.heap.size 28 #[aj ak 0 0,aj ak 0 0,aj ak 0 0]):=Bx.new w _ _;have hN:=newC a len cap bs w _ hb0 hv hl;generalize hX0:w.alloc (aH #[aj ak 0 0,aj ak 0 0,aj ak 0 0] 28)=X0 at *;clear hb0;go_enter Tryz.func32,Tryz.ntmps32
 go_wp2_with fail
 refine hN.mono ?_;rintro e X1 ⟨p,rfl,hp,c1,hb1⟩;have HR1:=dP (HR.out.below hb1);have hwp:w.heap.size<p:=by have:=HR.out.lt;omega
 have hp1:=c1.lt;have hD:=JV c1;clear hN c1 hb1 HR hX0;go_wp2_with fail
 refine hD.mono ?_;rintro e X2 ⟨g,hS,A,fp,rfl,hlo,hf,c2,g2⟩;have HS:=dP hS;have hw2:=HR1.out.grown g2 (by simp;omega)
 have HE:aG (∀ (x0 x1 x2:aJ),DgN w (((X2.setCell ⟨w.heap.size,0,ak⟩ x0).setCell ⟨w.heap.size,1,ak⟩ x1).setCell ⟨w.heap.size,2,ak⟩ x2) A g):=fun x0 x1 x2=>by
  have hw:=qF X2 w.heap.size (a:=x0) (b:=x1) (c:=x2);exact⟨uV (gU hlo hw (fun b hb e=>by have:=hf b hb;omega)) (fun b hb=>by have:=hf b hb;omega),HS.out,hw.below c2.below c2.below.size (fun b e=>by rw[e];exact aZ0 _)⟩
 obtain⟨z0,z1,z2⟩:=Bx.g3 hw2;obtain⟨f0,f1,f2⟩:=hw2.f3;unfold jc jH;clear hD hS hlo hf c2 g2 hw2 HR1;go_wp2;refine aY1 (v:=aP #[aj A.ma g.mem.length A.mc,aj A.ua g.up.length A.uc,aj A.la g.dS.length A.lc]) (by simp[results,Tryz.results32,go_sem, *]) rfl ?_
 exact⟨A,g,rfl,HE.out _ _ _⟩
theorem VH (a:Option ba5) (len cap:Nat) (bs:Nat->Int) (w:aI) (hv:oC w a len bs) (hl:len<=4096) :
  ba3 aZ8 8 #[aj a len cap] w fun e w'=>∃ (A:Ga) (g:Gr),e=aK (jc A g)/\DgN w w' A g:=by
 have hb0:=dX w (aH #[aj ak 0 0,aj ak 0 0,aj ak 0 0] 28);have HR:aG (Bx (w.alloc (aH #[aj ak 0 0,aj ak 0 0,aj ak 0 0] 28)) w.heap.size 28 #[aj ak 0 0,aj ak 0 0,aj ak 0 0]):=Bx.new w _ _;have hD:=VG a len cap bs (w.alloc (aH #[aj ak 0 0,aj ak 0 0,aj ak 0 0] 28)) (hv.below hb0 (aZ0 _)) hl;have HB0:aG (Below w.heap.size w (w.alloc (aH #[aj ak 0 0,aj ak 0 0,aj ak 0 0] 28))):=hb0;generalize hX0:w.alloc (aH #[aj ak 0 0,aj ak 0 0,aj ak 0 0] 28)=X0 at *;clear hb0 hv;go_enter Tryz.func8,Tryz.ntmps8
 go_wp2_with fail
 refine hD.mono ?_;rintro e X2 ⟨A,g,rfl,hI,hS,hb⟩;have HS:=dP hS;have hw2:=HR.out.below hb;have hwl:=HR.out.lt
 have HE:aG (∀ (x0 x1 x2:aJ),DgN w (((X2.setCell ⟨w.heap.size,0,ak⟩ x0).setCell ⟨w.heap.size,1,ak⟩ x1).setCell ⟨w.heap.size,2,ak⟩ x2) A g):=fun x0 x1 x2=>by
  have hw:=qF X2 w.heap.size (a:=x0) (b:=x1) (c:=x2);have hbb:=eP HB0.out hb;obtain⟨f,h1,h2⟩:=hI;exact⟨uV (gU h1 hw (fun b hb e=>by have:=(h2 b hb).1;omega)) (fun b hb=>by have:=(h2 b hb).1;omega),HS.out,hw.below hbb hbb.size (fun b e=>by rw[e];exact aZ0 _)⟩
 obtain⟨z0,z1,z2⟩:=Bx.g3 hw2;obtain⟨f0,f1,f2⟩:=hw2.f3;unfold jc jH;clear hD hS hI hb hw2 HR HB0 hX0;go_wp2;refine aY1 (v:=aP #[aj A.ma g.mem.length A.mc,aj A.ua g.up.length A.uc,aj A.la g.dS.length A.lc]) (by simp[results,Tryz.results8,go_sem, *]) rfl ?_
 exact⟨A,g,rfl,HE.out _ _ _⟩
section
structure PG (w Y:aI) (p:Nat) (a:Option ba5) (len cap:Nat) (bs:Nat->Int) (o:Nat) (A:Ga) (g:Gr):Prop where
 cc:Cc w Y p a len cap bs
 res:Bx Y w.heap.size 28 #[aj ak 0 0,aj ak 0 0,aj ak 0 0]
 own:Bx Y o 28 #[aj A.ma g.mem.length A.mc,aj A.ua g.up.length A.uc,aj A.la g.dS.length A.lc]
 hp:w.heap.size<p
 ho:p<o
section
variable {w Y Y':aI} {p:Nat} {a:Option ba5} {len cap:Nat} {bs:Nat->Int} {o:Nat} {A:Ga} {g:Gr}
theorem PG.drawn (h:PG w Y p a len cap bs o A g) (hg:Y.grownBy Y' (au p)) (hc:Cc w Y' p a len cap bs):PG w Y' p a len cap bs o A g:=by
 have h1:=h.hp;have h2:=h.ho;exact⟨hc,h.res.grown hg (by simp;omega),h.own.grown hg (by simp;omega),h1,h2⟩
theorem PG.step (h:PG w Y p a len cap bs o A g) (hb:Below Y.heap.size Y Y'):PG w Y' p a len cap bs o A g:=⟨h.cc.step hb,h.res.below hb,h.own.below hb,h.hp,h.ho⟩
theorem PG.put (h:PG w Y p a len cap bs o A g) (A':Ga) (g':Gr):PG w (((Y.setCell ⟨o,0,ak⟩ (aj A'.ma g'.mem.length A'.mc)).setCell ⟨o,1,ak⟩ (aj A'.ua g'.up.length A'.uc)).setCell ⟨o,2,ak⟩ (aj A'.la g'.dS.length A'.lc)) p a len cap bs o A' g':=by
 have h1:=h.hp;have h2:=h.ho;have h3:=h.cc.hp;have hw:=qF Y o (a:=aj A'.ma g'.mem.length A'.mc) (b:=aj A'.ua g'.up.length A'.uc) (c:=aj A'.la g'.dS.length A'.lc);refine⟨h.cc.wrt hw (by omega) (fun b e=>by omega),h.res.wrt hw (by omega), ?_,h1,h2⟩
 have:=((h.own.lW 0 (aj A'.ma g'.mem.length A'.mc)).lW 1 (aj A'.ua g'.up.length A'.uc)).lW 2 (aj A'.la g'.dS.length A'.lc);simpa using this
end
theorem PG.ans {w Y: aI} {p: Nat} {a: Option ba5} {cap: Nat} {bs: Nat->Int} {o: Nat} {A: Ga} {g: Gr} (h:PG w Y p a len cap bs o A g) {v: aJ} (hl:eF.ow Y (iF 4 CV L) v f) (hf:∀ b,f b->w.heap.size<b) (x0 x1 x2:aJ) :
  It (((Y.setCell ⟨w.heap.size,0,ak⟩ x0).setCell ⟨w.heap.size,1,ak⟩ x1).setCell ⟨w.heap.size,2,ak⟩ x2) [iF 4 CV L] [v] w.heap.size (((Y.setCell ⟨w.heap.size,0,ak⟩ x0).setCell ⟨w.heap.size,1,ak⟩ x1).setCell ⟨w.heap.size,2,ak⟩ x2).heap.size/\Below w.heap.size w (((Y.setCell ⟨w.heap.size,0,ak⟩ x0).setCell ⟨w.heap.size,1,ak⟩ x1).setCell ⟨w.heap.size,2,ak⟩ x2):=by
 have hw:=qF Y w.heap.size (a:=x0) (b:=x1) (c:=x2);exact⟨uV (J6.2 (eF.lC hl hw (fun b hb e=>by have:=hf b hb;omega))) (fun b hb=>by have:=hf b hb;omega),hw.below h.cc.below h.cc.below.size (fun b e=>by rw[e];exact aZ0 _)⟩
theorem ak9 (n:Nat) (hn:n<=1048576) (w:aI) :
  (Instr.makeSlice 29 (ah aA (n:Int)) (ah aA (n:Int))).run aZ8 w=.ok (aj (au ⟨w.heap.size,0,ak⟩) n n) (w.alloc (aH (madeCells #[ah aA 0,ah aA 0,ah aA 0,.string ⟨#[]⟩] (n*4)) 38)):=by
 obtain⟨i,hi,hz,hs,hb⟩:=sF Tryz.infoAc;have hr:=run_make (P:=aZ8) w 29 38 i _ Tryz.underlying29 hi hz aA aA n n (by omega) (aZ3 _) (by rw[hb];omega) (by omega)
 simp only[dM,hs] at hr;exact hr
theorem al0 (n:Nat):sS (aW5 n yQ)=(aW5 n (#[aZ9 aA 0,ah aA 0,ah aA 0,.string ⟨#[]⟩]:Array aJ).toList).flatten:=by
 have KC:(⟨#[]⟩:ByteArray)=sv []:=by unfold sv;rfl
 induction n with
 | zero=>rfl
 | succ n ih =>
  rw[dw,dw,List.flatten_cons,<- ih,KC]
  rfl
theorem ay4 (w:aI) (n:Nat) (hn:n<=1048576):iV (w.alloc (aH (madeCells #[ah aA 0,ah aA 0,ah aA 0,.string ⟨#[]⟩] (n*4)) 38)) 4 (au ⟨w.heap.size,0,ak⟩) (aW5 n yQ).length n (sS (aW5 n yQ)) (au w.heap.size):=by
 rw[al0,bM];exact iV.of (Dn w #[ah aA 0,ah aA 0,ah aA 0,.string ⟨#[]⟩] 4 n 38 rfl (by omega) (by unfold maxLen;omega))
def aL4 (w w':aI) (e:Ending):Prop:=∃ (A:Ga) (g:Gr) (oa:Option ba5) (c:Nat) (L:List Ac),e=aK (.tuple #[jc A g,aj oa L.length c])/\It w' [iF 4 CV L] [aj oa L.length c] w.heap.size w'.heap.size/\(1<=g.mem.length/\g.mem.length<=5)/\(∀ x∈L,zx x)/\L.length<=401/\Below w.heap.size w w'
attribute [local irreducible] sv
theorem VI (a:Option ba5) (len cap:Nat) (bs:Nat->Int) (w:aI) (hv:oC w a len bs) (hl:len<=4096) :
  ba3 aZ8 7 #[aj a len cap] w fun e w'=>aL4 w w' e:=by
 have hb0:=dX w (aH #[aj ak 0 0,aj ak 0 0,aj ak 0 0] 28);have HR:aG (Bx (w.alloc (aH #[aj ak 0 0,aj ak 0 0,aj ak 0 0] 28)) w.heap.size 28 #[aj ak 0 0,aj ak 0 0,aj ak 0 0]):=Bx.new w _ _;have hN:=newC a len cap bs w _ hb0 hv hl;generalize hX0:w.alloc (aH #[aj ak 0 0,aj ak 0 0,aj ak 0 0] 28)=X0 at *;clear hb0;go_enter Tryz.func7,Tryz.ntmps7
 go_wp2_with fail
 refine hN.mono ?_;rintro e X1 ⟨p,rfl,hp,c1,hb1⟩;have HR1:=dP (HR.out.below hb1);have hwp:w.heap.size<p:=by have:=HR.out.lt;omega
 have wS:=dP c1;clear hN c1 hb1 HR hX0 hv;go_wp2_with fail
 refine (jR 5 5 rfl wS.out (by omega) (by omega)).mono ?_
 rintro e X2 ⟨y,rfl,hy,c2,g2⟩;obtain⟨n,hn⟩:∃ n:Nat,aG (n=1+y):=⟨_,rfl⟩;have jy:1<=n/\n<=5:=by have:=hn.out;omega
 have en:(1:Int)+(y:Int)=n:=by have:=hn.out;omega
 have HC2:=dP c2;have HR2:aG (Bx X2 w.heap.size 28 #[aj ak 0 0,aj ak 0 0,aj ak 0 0]):=HR1.out.grown g2 (by simp;omega)
 have hN:=Ig (n:Int) X2;clear c2 g2 HR1 wS;go_wp2_with fail
 rw[en] at *;clear en hy;refine hN.mono ?_;rintro e X3 ⟨A,rfl,zu,hlo,hf,hb3⟩;have hgl:=(Ie jy).qP.ml
 have HM:aG (PG w (X3.alloc (aH #[aj A.ma (jg (n:Int)).1.mem.length A.mc,aj A.ua (jg (n:Int)).1.up.length A.uc,aj A.la (jg (n:Int)).1.dS.length A.lc] 28)) p a len cap bs X3.heap.size A (jg (n:Int)).1):=by
  have hba:=dX X3 (aH #[aj A.ma (jg (n:Int)).1.mem.length A.mc,aj A.ua (jg (n:Int)).1.up.length A.uc,aj A.la (jg (n:Int)).1.dS.length A.lc] 28);exact⟨(HC2.out.step hb3).step hba,(HR2.out.below hb3).below hba,Bx.new X3 _ _,hwp,by have:=HC2.out.lt;have:=hb3.size;omega⟩
 have HG:aG (∃ A g,PG w (X3.alloc (aH #[aj A.ma (jg (n:Int)).1.mem.length A.mc,aj A.ua (jg (n:Int)).1.up.length A.uc,aj A.la (jg (n:Int)).1.dS.length A.lc] 28)) p a len cap bs X3.heap.size A g/\g.mem.length=n):=⟨A,_,HM.out,hgl⟩;generalize (jg (n:Int)).2=bb at *;generalize (jg (n:Int)).1=g0 at *;unfold jc jH;have Ed:=dP hgl;clear hlo hf hb3 hN HC2 HR2 hgl HG;go_upto_region 4 with fail
 generalize X3.alloc (aH #[aj A.ma g0.mem.length A.mc,aj A.ua g0.up.length A.uc,aj A.la g0.dS.length A.lc] 28)=X4 at *;generalize X3.heap.size=o at *;have hO:=uz 4 HM.out.cc (by omega)
 go_wp2_with fail
 refine hO.mono ?_;rintro e X5 ⟨t,rfl,c5,g5⟩;have iM:=dP (HM.out.drawn g5 c5);clear hO c5 g5 HM
 go_upto_if 20 with fail
 go_cut [5] from 19 to 26 (fun v wx=>∃ (N:Nat) (A:Ga) (g:Gr),1<=N/\N<=5/\v=ah aA (N:Int)/\g.mem.length=N/\PG w wx p a len cap bs o A g)
 case first =>
  cases t with
  | false =>
   go_wp2;go_meet
   case rel=>exact⟨n,A,g0,jy.1,jy.2,rfl,Ed.out,iM.out⟩
  | true =>
   have hD:=JV iM.out.cc;go_wp2_with fail
   refine hD.mono ?_;rintro e X6 ⟨g,⟨m,hS⟩,A2,fp,rfl,hlo,hf,c6,g6⟩;have M6:=iM.out.drawn g6 c6;have qx:=dP (M6.put A2 g);have vY:aG (1<=g.mem.length/\g.mem.length<=5):=by have:=hS.ml;have:=hS.n4;exact⟨by omega,by omega⟩
   obtain⟨z0,z1,z2⟩:=Bx.g3 M6.own;obtain⟨f0,f1,f2⟩:=M6.own.f3;unfold jc jH;clear hD hS hlo hf c6 g6 M6 iM;go_upto_region 6 with fail
   generalize ((X6.setCell ⟨o,0,ak⟩ (aj A2.ma g.mem.length A2.mc)).setCell ⟨o,1,ak⟩ (aj A2.ua g.up.length A2.uc)).setCell ⟨o,2,ak⟩ (aj A2.la g.dS.length A2.lc)=X7 at *;clear z0 z1 z2 f0 f1 f2;obtain⟨z0,z1,z2⟩:=Bx.g3 qx.out.own;have hmx:=Ey 1 (g.mem.length:Int) X7;have emx:max (1:Int) (g.mem.length:Int)=g.mem.length:=by have:=vY.out.1;omega
   rw[emx] at hmx;clear emx;go_wp2_with (go_at_call 30;refine fV hmx ?_)
   go_meet
   case rel=>exact⟨g.mem.length,A2,g,vY.out.1,vY.out.2,rfl,rfl,qx.out⟩
 case rest =>
 obtain⟨N,A2,g,hN1,G6,rfl,hgl,hM⟩:=hcut;generalize wc=X8 at *;have pV:=dP hM;have tV:aG (1<=g.mem.length/\g.mem.length<=5):=by rw[aG,hgl];exact⟨hN1,G6⟩
 clear hM iM hgl Ed;have hD:=JA N (N:Int) rfl hN1 G6 pV.out.cc;go_wp2_with fail
 refine hD.mono ?_;rintro e X9 ⟨oa,c,G,L,rfl,hA,hLl⟩;have jK:=dP (pV.out.drawn hA.gr hA.cc);have HA9:=dP hA;have hbig:w.heap.size<X8.heap.size:=by have:=pV.out.own.lt;have:=pV.out.hp;have:=pV.out.ho;omega
 have hO:=uz 60 jK.out.cc (by omega)
 clear hA hD pV;go_wp2_with fail
 refine hO.mono ?_;rintro e Y1 ⟨t2,rfl,c7,g7⟩;have wV:=dP (jK.out.drawn g7 c7);have QT:=dP (HA9.out.drawn g7 c7);clear hO c7 g7 jK HA9
 cases t2 with
 | false =>
  obtain⟨d0,d1,d2⟩:=Bx.g3 wV.out.own;obtain⟨z0,z1,z2⟩:=Bx.g3 wV.out.res;obtain⟨f0,f1,f2⟩:=wV.out.res.f3;have HF:=wV.out.ans (am7 QT.out) (fun b hb=>by have:=QT.out.lo b hb;omega)
  have G7:=dP HF;have wo:=dP QT.out.ok;clear HF wV QT;go_wp2;refine aY1 (v:=.tuple #[jc A2 g,aj oa L.length c]) (by simp[results,Tryz.results7,go_sem,jc,jH, *]) rfl ?_
  exact⟨A2,g,oa,c,L,rfl,(G7.out _ _ _).1,tV.out,wo.out,by omega,(G7.out _ _ _).2⟩
 | true =>
  have hB:=jR 2 2 rfl wV.out.cc (by omega) (by omega)
  clear QT;go_wp2_with fail
  refine hB.mono ?_;rintro e Y2 ⟨z,rfl,hz,c7,g7⟩;obtain⟨q,hq⟩:∃ q:Nat,aG (q=400+z):=⟨_,rfl⟩;have hq4:q<=401:=by have:=hq.out;omega
  have eq:(400:Int)+(z:Int)=q:=by have:=hq.out;omega
  have M11:=wV.out.drawn g7 c7;have hba:=dX Y2 (aH (madeCells #[ah aA 0,ah aA 0,ah aA 0,.string ⟨#[]⟩] (q*4)) 38);have QU:=dP (M11.step hba);have hmk:=ak9 q (by omega) Y2
  have hY2:w.heap.size<Y2.heap.size:=by have:=M11.res.lt;omega
  have HO:aG (iV (Y2.alloc (aH (madeCells #[ah aA 0,ah aA 0,ah aA 0,.string ⟨#[]⟩] (q*4)) 38)) 4 (au ⟨Y2.heap.size,0,ak⟩) (aW5 q yQ).length q (sS (aW5 q yQ)) (au Y2.heap.size)):=ay4 Y2 q (by omega)
  clear hB c7 g7 wV M11 hba;go_upto_region 10 with fail
  generalize Y2.alloc (aH (madeCells #[ah aA 0,ah aA 0,ah aA 0,.string ⟨#[]⟩] (q*4)) 38)=Y3 at *;clear hmk eq;obtain⟨d0,d1,d2⟩:=Bx.g3 QU.out.own;obtain⟨z0,z1,z2⟩:=Bx.g3 QU.out.res;obtain⟨f0,f1,f2⟩:=QU.out.res.f3;have HF:=QU.out.ans (QL HO.out) (fun b hb=>by have:=aV4 hb;omega)
  have G7:=dP HF
  have wo:aG (∀ x∈aW5 q yQ,zx x):=fun x hx=>by
   rw[(List.mem_replicate.1 hx).2];exact BG ⟨by omega,by omega⟩ ⟨by omega,by omega⟩ ⟨by omega,by omega⟩ (by simp)
  clear HF QU HO;go_wp2;refine aY1 (v:=.tuple #[jc A2 g,aj (au ⟨Y2.heap.size,0,ak⟩) q q]) (by simp[results,Tryz.results7,go_sem,jc,jH, *]) rfl ?_
  exact⟨A2,g,au ⟨Y2.heap.size,0,ak⟩,q,aW5 q yQ,by rw[bM],(G7.out _ _ _).1,tV.out,wo.out,by rw[bM];exact hq4,(G7.out _ _ _).2⟩
end
section
section
variable {w Y Y':aI} {p:Nat} {a:Option ba5} {len cap:Nat} {bs:Nat->Int} {o:Nat} {A:Ma} {m:Mb} {fp:Fp}
end
attribute [local irreducible] sv
end
section
attribute [local irreducible] sv
theorem JW (A B:Ra) (r:Rw) (w:aI) (hv:qJ w A r) (hu:qJ w B r) :
  ba3 aZ8 34 #[iK A r,iK B r] w fun e w'=>e=aK (aF aB)/\Grew w w':=by
 have hB0:Grew w ((w.alloc (aH (fP A r) 44)).alloc (aH (fP B r) 44)):=((Grew.refl _).alloc _).alloc _;have hx:Bx ((w.alloc (aH (fP A r) 44)).alloc (aH (fP B r) 44)) w.heap.size 44 (fP A r):=(Bx.new w _ _).alloc _
 have hy:Bx ((w.alloc (aH (fP A r) 44)).alloc (aH (fP B r) 44)) (w.heap.size+1) 44 (fP B r):=by
  have:=Bx.new (w.alloc (aH (fP A r) 44)) 44 (fP B r);simpa using this
 have h0:=hv.below hB0.1;have g0:=hu.below hB0.1;have hT:=UF A.ta B.ta A.tc B.tc r.txt _ h0.txt g0.txt h0.mt;have hE:∀ X,Below w.heap.size w X->∀ (x y:Option ba5) (c d:Nat) (l:List Int),Vec w x l.length l->Vec w y l.length l->l.length<=maxLen->ba3 aZ8 24 #[aj x l.length c,aj y l.length d] X fun e w'=>e=aK (aF aB)/\Grew X w':=fun X h x y c d l h1 h2 h3=>(N8 x y l.length c l.length d l l X (h1.below h (aZ0 _)) (h2.below h (aZ0 _)) h3).mono (fun e w' ⟨h4,q,h5⟩=>⟨by rw[h4,UE],by rw[h5];exact (Grew.refl _).drewN q⟩)
 obtain⟨ver,txt,got,dQ,wed,dV,dW,dU⟩:=r;obtain⟨ta,tc,ga,gc,sa,sc,ma,mc⟩:=A;obtain⟨ub,uc,vb,vc,xb,xc,yb,yc⟩:=B;have HV:=dP hv;have HU:=dP hu;have hG:=fun X h=>hE X h ga vb gc vc got HV.out.got HU.out.got HV.out.mg
 have hS:=fun X h=>hE X h sa xb sc xc dQ HV.out.dQ HU.out.dQ HV.out.ms
 have hM:=fun X h=>hE X h ma yb mc yc dU HV.out.dU HU.out.dU HV.out.mm
 have HX:aG (∀ X,Grew ((w.alloc (aH (fP ⟨ta,tc,ga,gc,sa,sc,ma,mc⟩ ⟨ver,txt,got,dQ,wed,dV,dW,dU⟩) 44)).alloc (aH (fP ⟨ub,uc,vb,vc,xb,xc,yb,yc⟩ ⟨ver,txt,got,dQ,wed,dV,dW,dU⟩) 44)) X->Bx X w.heap.size 44 #[ah aA ver,aj ta txt.length tc,aj ga got.length gc,aj sa dQ.length sc,aF wed,aF dV,ah aA dW,aj ma dU.length mc]/\Bx X (w.heap.size+1) 44 #[ah aA ver,aj ub txt.length uc,aj vb got.length vc,aj xb dQ.length xc,aF wed,aF dV,ah aA dW,aj yb dU.length yc]):=fun X h=>⟨hx.below h.1,hy.below h.1⟩
 have n1:(ver==ver)=aB:=by simp
 have n2:(dW==dW)=aB:=by simp
 have n3:(wed==wed)=aB:=by simp
 have n4:(dV==dV)=aB:=by simp
 unfold iK;unfold fP at *;simp only at hT ⊢
 generalize rV:(w.alloc (aH #[ah aA ver,aj ta txt.length tc,aj ga got.length gc,aj sa dQ.length sc,aF wed,aF dV,ah aA dW,aj ma dU.length mc] 44)).alloc (aH #[ah aA ver,aj ub txt.length uc,aj vb got.length vc,aj xb dQ.length xc,aF wed,aF dV,ah aA dW,aj yb dU.length yc] 44)=W at *;have oN:=dP hB0;obtain⟨⟨c0,c1,_,_⟩,_⟩:=Bx.r8 (HX.out W (Grew.refl _)).1;obtain⟨⟨d0,d1,_,_⟩,_⟩:=Bx.r8 (HX.out W (Grew.refl _)).2;clear hv hu hx hy h0 g0 hE hB0;go_enter Tryz.func34,Tryz.ntmps34
 go_wp2_with fail
 refine hT.mono ?_;rintro e w1 ⟨rfl,hg1⟩;obtain⟨⟨_,_,c2,_⟩,_⟩:=Bx.r8 (HX.out w1 hg1).1;obtain⟨⟨_,_,d2,_⟩,_⟩:=Bx.r8 (HX.out w1 hg1).2;have mP:=dP hg1;clear hT hg1 c0 c1 d0 d1;go_wp2_with fail
 refine (hG w1 (oN.out.trans mP.out).1).mono ?_;rintro e w2 ⟨rfl,hg2⟩;have HG2:=dP (mP.out.trans hg2);obtain⟨⟨_,_,_,c3⟩,_⟩:=Bx.r8 (HX.out w2 HG2.out).1;obtain⟨⟨_,_,_,d3⟩,_⟩:=Bx.r8 (HX.out w2 HG2.out).2;clear hg2 c2 d2 hG;go_wp2_with fail
 refine (hS w2 (oN.out.trans HG2.out).1).mono ?_;rintro e w3 ⟨rfl,hg3⟩;have GY:=dP (HG2.out.trans hg3);obtain⟨_,c4,c5,c6,c7⟩:=Bx.r8 (HX.out w3 GY.out).1;obtain⟨_,d4,d5,d6,d7⟩:=Bx.r8 (HX.out w3 GY.out).2;clear hg3 c3 d3 hS;go_wp2_with fail
 refine (hM w3 (oN.out.trans GY.out).1).mono ?_;rintro e w4 ⟨rfl,hg4⟩;have zk:=dP (oN.out.trans (GY.out.trans hg4));clear hg4 c4 c5 c6 c7 d4 d5 d6 d7 hM;go_wp2;go_ret
 exact⟨rfl,zk.out⟩
end
theorem VJ (A D:Ma) (m:Mb) (w:aI) (hv:wO w A m) (hu:wO w D m) :
  ba3 aZ8 33 #[iL A m,iL D m] w fun e w'=>e=aK (aF aB)/\Below w.heap.size w w':=by
 have fU:=iq;have hB0:Below w.heap.size w ((w.alloc (aH #[ah aA m.id,ah aA m.n,aj A.ra m.rows.length A.rc,aj A.sa m.dR.length A.sc,aF m.done] 47)).alloc (aH #[ah aA m.id,ah aA m.n,aj D.ra m.rows.length D.rc,aj D.sa m.dR.length D.sc,aF m.done] 47)):=(dX w _).trans ((dX _ _).mono (dX w _).size);have hx:Bx ((w.alloc (aH #[ah aA m.id,ah aA m.n,aj A.ra m.rows.length A.rc,aj A.sa m.dR.length A.sc,aF m.done] 47)).alloc (aH #[ah aA m.id,ah aA m.n,aj D.ra m.rows.length D.rc,aj D.sa m.dR.length D.sc,aF m.done] 47)) w.heap.size 47 #[ah aA m.id,ah aA m.n,aj A.ra m.rows.length A.rc,aj A.sa m.dR.length A.sc,aF m.done]:=(Bx.new w _ _).alloc _
 have hy:Bx ((w.alloc (aH #[ah aA m.id,ah aA m.n,aj A.ra m.rows.length A.rc,aj A.sa m.dR.length A.sc,aF m.done] 47)).alloc (aH #[ah aA m.id,ah aA m.n,aj D.ra m.rows.length D.rc,aj D.sa m.dR.length D.sc,aF m.done] 47)) (w.heap.size+1) 47 #[ah aA m.id,ah aA m.n,aj D.ra m.rows.length D.rc,aj D.sa m.dR.length D.sc,aF m.done]:=by
  have:=Bx.new (w.alloc (aH #[ah aA m.id,ah aA m.n,aj A.ra m.rows.length A.rc,aj A.sa m.dR.length A.sc,aF m.done] 47)) 47 #[ah aA m.id,ah aA m.n,aj D.ra m.rows.length D.rc,aj D.sa m.dR.length D.sc,aF m.done];simpa using this
 have hm:=hv.mr;unfold maxLen at hm;have hE:∀ X,Below w.heap.size w X->ba3 aZ8 24 #[aj A.sa m.dR.length A.sc,aj D.sa m.dR.length D.sc] X fun e w'=>e=aK (aF aB)/\Below X.heap.size X w':=fun X h=>(N8 A.sa D.sa m.dR.length A.sc m.dR.length D.sc m.dR m.dR X (hv.dR.below h (aZ0 _)) (hu.dR.below h (aZ0 _)) hv.ms).mono (fun e w' ⟨h1,q,h2⟩=>⟨by rw[h1];simp[II],by rw[h2];exact fO (aZ5 _ _)⟩)
 have HV:aG (∀ X,Below w.heap.size w X->wO X A m):=fun X h=>hv.below h
 have HU:aG (∀ X,Below w.heap.size w X->wO X D m):=fun X h=>hu.below h
 unfold iL ig;generalize rV:(w.alloc (aH #[ah aA m.id,ah aA m.n,aj A.ra m.rows.length A.rc,aj A.sa m.dR.length A.sc,aF m.done] 47)).alloc (aH #[ah aA m.id,ah aA m.n,aj D.ra m.rows.length D.rc,aj D.sa m.dR.length D.sc,aF m.done] 47)=W at *;have n1:(m.id != m.id)=aC:=by simp
 have n2:(m.n != m.n)=aC:=by simp
 have n3:(m.done != m.done)=aC:=by simp
 have n4:((m.rows.length:Int) != (m.rows.length:Int))=aC:=by simp
 have HX:=dP hx;have HY:=dP hy;have HB:=dP hB0;obtain⟨c0,c1,c2,c3,c4⟩:=Bx.r5 hx;obtain⟨d0,d1,d2,d3,d4⟩:=Bx.r5 hy;clear hv hu hB0 hx hy;go_enter Tryz.func33,Tryz.ntmps33
 go_wp2_with fail
 refine (hE _ HB.out).mono ?_;rintro e w1 ⟨rfl,hb1⟩;have HB1:=dP (eP HB.out hb1);have qO:=dP (HX.out.below hb1);have zn:=dP (HY.out.below hb1);clear c0 c1 c2 c3 c4 d0 d1 d2 d3 d4 hE hb1 HX HY;obtain⟨c0,c1,c2,c3,c4⟩:=Bx.r5 qO.out;obtain⟨d0,d1,d2,d3,d4⟩:=Bx.r5 zn.out;go_wp2_with fail
 clear c0 c1 c2 c3 c4 d0 d1 d2 d3 d4 n1 n2 n3 n4
 go_loopw [5] (fun v wr=>∃ k:Nat,k<=m.rows.length/\v=ah aA (k:Int)/\Below w1.heap.size w1 wr) (fun v _=>m.rows.length-(ba4 v).toNat)
 case atStart=>exact⟨0,aZ1 _,rfl,aZ5 _ _⟩
 case round =>
  obtain⟨k,hk,rfl,hb⟩:=hrel;have Qe:=dP hb;have mZ:=dP (eP HB1.out hb);obtain⟨c0,c1,c2,c3,c4⟩:=Bx.r5 (qO.out.below hb);obtain⟨d0,d1,d2,d3,d4⟩:=Bx.r5 (zn.out.below hb);by_cases hlt:k<m.rows.length
  ·have k1:(k:Int)<m.rows.length:=by omega
   have k0:(0:Int)<=k:=by omega
   have hva:=HV.out wr mZ.out;have hvd:=HU.out wr mZ.out;obtain⟨g,off,Ak,ea,⟨⟨x0,x1,x2,x3⟩,x4,x5,x6,x7⟩,hr1⟩:=hva.row hlt;obtain⟨g',off',Dk,ed,⟨⟨y0,y1,y2,y3⟩,y4,y5,y6,y7⟩,hr2⟩:=hvd.row hlt;rw[ea] at c2;rw[ed] at d2;have CL:∀ q:Bk wr,ba3 aZ8 34 #[iK Ak (dO m.rows k),iK Dk (dO m.rows k)] q.w fun e w'=>e=aK (aF aB)/\Below q.w.heap.size q.w w':=fun q=>(JW Ak Dk (dO m.rows k) q.w (hr1.below q.h) (hr2.below q.h)).mono (fun e w' h=>⟨h.1,h.2.1⟩)
   unfold iK fP at CL;have T:∀ {x v},wr.cell? x=au v->∀ q:Bk wr,q.w.cell? x=au v:=fun h q=>fM q.h h
   have pc2:=T c2;have pd2:=T d2;have Nw:=T x0;have Uo:=T x1;have Ur:=T x2;have yO:=T x3;have xB:=T x4;have CJ:=T x5;have Jq:=T x6;have PD:=T x7;have Ny:=T y0;have Us:=T y1;have Ut:=T y2;have QV:=T y3;have QW:=T y4;have YX:=T y5;have PE:=T y6;have PI:=T y7;have wk:wrap64 ((k:Int)+1)=(k:Int)+1:=by unfold wrap64;omega
   generalize dO m.rows k=r at *;clear hva hvd hr1 hr2 T x0 x1 x2 x3 x4 x5 x6 x7 y0 y1 y2 y3 y4 y5 y6 y7 d2 c0 c1 c3 c4 d0 d1 d3 d4 hb;go_wp2_with fail
   refine jf ?_;repeat (go_big_quiet_step ((first|(go_at_call 34;exact eY _ (CL _))|rfl)))
   refine aZ2 (iI fun wE eH=>?_)
   have HB2:=dP (eP Qe.out eH);clear CL pc2 pd2 Nw Uo Ur yO xB CJ Jq PD Ny Us Ut QV QW YX PE PI c2 eH;go_wp2;go_roundw
   case rel=>exact⟨k+1,by omega,by go_num,HB2.out⟩
   case measure=>simp[ba4];omega
  ·have k1:¬ ((k:Int)<m.rows.length):=by omega
   clear hb;go_wp2;go_ret
   exact⟨rfl,mZ.out⟩
section
variable {w w':aI} {o:Nat} {A:Ma} {m:Mb}
end
structure Gx (w:aI) (o q:Nat) (A:Ga) (g:Gr):Prop where
 box:Bx w o 28 #[aj A.ma g.mem.length A.mc,aj A.ua g.up.length A.uc,aj A.la g.dS.length A.lc]
 own:∃ f,gq w (fK g) (jC A g) f/\∀ b,f b->b≠q
section
variable {w w':aI} {o q:Nat} {A:Ga} {g:Gr}
theorem Gx.below (h:Gx w o q A g) (hb:Below w.heap.size w w'):Gx w' o q A g:=⟨h.box.below hb,h.own.imp (fun f h=>⟨gy h.1 hb,h.2⟩)⟩
theorem Gx.grp (h:Gx w o q A g) (hf:Dw g) (h6:Vj g) (hs:AQ g<=1048576):wu w A g:=⟨h.own.imp (fun _ h=>h.1),hf,h6,hs⟩
theorem Gx.ok (h:Gx w o q A g) {n:Nat} (ok:OkG g n):wu w A g:=h.grp ok.fit (Yh ok) (by have:=ok.small.2.2.2.2;omega)
theorem Gx.new' {X:aI} (h:kW X w (fK g) (jC A g)):Gx (w.alloc (aH #[aj A.ma g.mem.length A.mc,aj A.ua g.up.length A.uc,aj A.la g.dS.length A.lc] 28)) w.heap.size w.heap.size A g:=by
 obtain⟨f,h1,h2,_⟩:=h;have:=jh h1;exact⟨Bx.new _ _ _,f,gy h1 (dX w _),fun b hb=>by have:=this b hb;omega⟩
end
section
attribute [local irreducible] sv
end
def Nz:Prop:=∀ (A:Ga) (g:Gr) (w:aI),wu w A g->(∀ n,OkG g n->Vz g n)->ba3 aZ8 10 #[jc A g] w fun e w'=>zH w w' e (qH g)
theorem YZ:Nz:=by
 intro A g w hv kD
 cases hok:jQ g with
 | true =>
  obtain⟨n,ok⟩:=xM.1 hok;rw[qH,if_pos hok];exact YS A g n w hv ok (kD n ok)
 | false =>
  have HZ:aG (qH g=kQ):=by rw[aG,qH,if_neg (by rw[hok];exact Bool.false_ne_true)]
  have hb0:Below w.heap.size w ((w.alloc (aH #[aj A.ma g.mem.length A.mc,aj A.ua g.up.length A.uc,aj A.la g.dS.length A.lc] 28)).alloc (aH #[aj ak 0 0,aj ak 0 0,aj ak 0 0] 28)):=((aZ5 _ _).alloc (aZ0 _) _).alloc (by simp) _
  have hx0:Bx ((w.alloc (aH #[aj A.ma g.mem.length A.mc,aj A.ua g.up.length A.uc,aj A.la g.dS.length A.lc] 28)).alloc (aH #[aj ak 0 0,aj ak 0 0,aj ak 0 0] 28)) w.heap.size 28 #[aj A.ma g.mem.length A.mc,aj A.ua g.up.length A.uc,aj A.la g.dS.length A.lc]:=(Bx.new w _ _).alloc _
  have hx2:Bx ((w.alloc (aH #[aj A.ma g.mem.length A.mc,aj A.ua g.up.length A.uc,aj A.la g.dS.length A.lc] 28)).alloc (aH #[aj ak 0 0,aj ak 0 0,aj ak 0 0] 28)) (w.heap.size+1) 28 #[aj ak 0 0,aj ak 0 0,aj ak 0 0]:=by
   have:=Bx.new (w.alloc (aH #[aj A.ma g.mem.length A.mc,aj A.ua g.up.length A.uc,aj A.la g.dS.length A.lc] 28)) 28 #[aj ak 0 0,aj ak 0 0,aj ak 0 0];simp only[aU1] at this;exact this
  have hv0:=hv.below hb0;unfold jc jH;generalize rV:(w.alloc (aH #[aj A.ma g.mem.length A.mc,aj A.ua g.up.length A.uc,aj A.la g.dS.length A.lc] 28)).alloc (aH #[aj ak 0 0,aj ak 0 0,aj ak 0 0] 28)=W0 at *;have hK:=BU A g W0 hv0;rw[hok] at hK;unfold jc jH at hK;have HZ0:=dP hx2;have HB0:=dP hb0;obtain⟨c0,c1,c2⟩:=Bx.g3 hx0;clear hv hb0 hx0 hx2 hv0 kD hok;go_enter Tryz.func10,Tryz.ntmps10
  go_wp2_with fail
  refine hK.mono ?_;rintro e w1 ⟨rfl,hb1⟩;have hz1:=HZ0.out.below hb1;have HB1:=dP (eP HB0.out hb1);obtain⟨z0,z1,z2⟩:=Bx.g3 hz1;obtain⟨f0,f1,f2⟩:=hz1.f3;clear hz1 hb1 c0 c1 c2 hK;go_wp2;refine aY1 (v:=jc ⟨ak,0,ak,0,ak,0⟩ kQ) (by simp[results,Tryz.results10,go_sem,jc,jH,kQ, *]) rfl ?_
  rw[HZ.out];exact⟨_,rfl,EW ((qF w1 (w.heap.size+1)).below HB1.out HB1.out.size (fun b h=>by omega))⟩
theorem aL5 (B:Nat) (g:Gr) (n:Nat) (x:Ac) (fp:Fp) (w:aI) (h:iO w B 0 (fK g) fp) (ok:OkG g n) (hk:xC x=aB) (hm:rM g x=aB) (ha:jo x.a) (hb:jo x.b) (ht:x.txt.length<=1048576) (hv:Vx g x) (h5:x.kind≠5/\x.kind≠6) :
  ba3 aZ8 83 #[aO (au ⟨B,0,ak⟩),nT x] w fun e w'=>e=aK (aF (iY g x).2)/\fH w w' B 0 (fK (iY g x).1) fp:=by
 rw[rM,aU2] at hm;obtain⟨hbl,hup⟩:=hm;have hf:=JK hbl (KR x).1;rw[FQ,ok.ml] at hf;obtain⟨a,ea⟩:∃ a:Nat,x.a=(a:Int):=⟨x.a.toNat,by omega⟩
 have han:a<n:=by omega
 have hin:inB x.a 0 ((g.mem.length:Int)-1)=aB:=iQ.2 ⟨by omega,by rw[ok.ml];omega⟩
 have hta:x.a.toNat=a:=by omega
 rw[xC,decide_eq_true_eq] at hk;unfold Vx at hv;rw[hta] at hv;rcases (by omega:x.kind=1\/x.kind=2\/x.kind=3\/x.kind=4\/x.kind=7) with e|e|e|e|e
 ·have hS:nT x=.iface 153 (aP #[ah aA x.a,.string (sv x.txt)]):=by rw[nT,if_pos e]
  rw[hS];rw[decide_eq_false (by omega:¬ x.kind=3),Bool.false_or] at hup
  rw[CU (by omega) hin hup,if_pos e,hta,ea]
  exact ax2 B g n a x.txt fp w h ok han ht
 ·have hS:nT x=.iface 155 (aP #[ah aA x.a,ah aA x.b]):=by rw[nT,if_neg (by omega),if_pos e]
  rw[hS];rw[decide_eq_false (by omega:¬ x.kind=3),Bool.false_or] at hup
  rw[Gl (by omega),DU] at hbl
  rw[CU (by omega) hin hup,if_neg (by omega),if_pos e,if_pos hbl]
  have h2:=hbl;rw[nN,aU2,aU2,iQ,iQ] at h2;obtain⟨b,eb⟩:∃ b:Nat,x.b=(b:Int):=⟨x.b.toNat,by omega⟩
  rw[ea,eb];exact ax4 B g n a b fp w h ok han
 ·have hS:nT x=.iface 156 (aP #[ah aA x.a,ah aA x.b]):=by rw[nT,if_neg (by omega),if_neg (by omega),if_pos e]
  rw[hS];rw[Gl (by omega),DU] at hbl
  have h2:=hbl;rw[nN,aU2,aU2,iQ,iQ,ok.ml] at h2;obtain⟨b,eb⟩:∃ b:Nat,x.b=(b:Int):=⟨x.b.toNat,by omega⟩
  rw[PV e,if_pos hbl];exact ax5 B g n a b x ea eb fp w h ok han (by omega)
 ·have hS:nT x=.iface 158 (aP #[ah aA x.a]):=by rw[nT,if_neg (by omega),if_neg (by omega),if_neg (by omega),if_pos e]
  rw[hS];rw[decide_eq_false (by omega:¬ x.kind=3),Bool.false_or] at hup
  rw[CU (by omega) hin hup,if_neg (by omega),if_neg (by omega),if_pos e,hta,ea]
  exact ax3 B g n a fp w h ok han (hv e)
 ·have hS:nT x=.iface 161 (aP #[ah aA x.a]):=by rw[nT,if_neg (by omega),if_neg (by omega),if_neg (by omega),if_neg (by omega),if_neg (by omega),if_neg (by omega),if_pos e]
  rw[hS];rw[decide_eq_false (by omega:¬ x.kind=3),Bool.false_or] at hup
  rw[CU (by omega) hin hup,if_neg (by omega),if_neg (by omega),if_neg (by omega),if_neg (by omega),if_neg (by omega),if_pos e,ea]
  exact ax6 B g n a fp w h ok han
def Hq:Prop:=∀ (A:Ga) (g:Gr) (n:Nat) (x:Ac) (w:aI),wu w A g->OkG g n->jo x.a->jo x.b->x.txt.length<=1048576->Vx g x->x.kind≠5/\x.kind≠6->ba3 aZ8 13 #[jc A g,su x] w fun e w'=>Ve w w' e (iY g x).1 (FU (iY g x).2)
theorem Rx:Hq:=fun A g n x w h ok ha hb ht hv h5=>Ru A g n x w h ok ha hb ht (fun B fp w h hk hm=>aL5 B g n x fp w h ok hk hm ha hb ht hv h5)
def FW (n:Nat) (g:Gr):Prop:=∀ i j,i<n->j<n->dO (dY g j).rows i=iD g i
def Way (n:Nat) (g:Gr):Prop:=∀ i j,i<n->j<n->dO (dY g j).rows i=iD g i\/⟨(i:Int),(j:Int),iD g i⟩∈g.dS
theorem al1 {m: Mb} {b n a: Nat} (M:iP m b n) (hd:m.done=aC) (hs:(dO m.rows b).dQ=[]) (ha:a<n) (hab:a≠b) (ok:iR r n):(fG m (a:Int) r).1=if r.ver<=(dO m.rows a).ver then m else { m with rows:=m.rows.set a r }:=by
 have h1:inB (a:Int) 0 (m.n-1)=aB:=iQ.2 (by rw[M.hn];omega)
 have h2:gu r m.n=aB:=by rw[M.hn];exact qh.2 ok
 have h3:(a:Int)≠m.id:=by rw[M.hid];omega
 unfold fG;rw[M.own,hs,hd,h1,h2];simp only[dM]
 by_cases c:r.ver<=(dO m.rows a).ver
 ·rw[if_pos c,if_pos (by simp[c])]
 ·rw[if_neg c,if_neg (by simp[c,h3])]
theorem al2 {n: Nat} {g: Gr} (D:ND n c g) (hl:0<g.dS.length) (W:Way n g):Way n (jl g 0):=by
 have G:=D.G.qP;obtain⟨a,b,h1,h2,h3,h4,h5,h6,hx,key⟩:=QJ G hl;have Lm:=G.land hl;obtain⟨D',hD⟩:=D.land hl;have aL6:(jl g 0).dS=g.dS.drop 1:=by rw[Lm.2.2.1];simp
 have hmem:∀ y∈g.dS,y=eX g 0\/y∈(jl g 0).dS:=fun y hy=>by
  rw[aL6]
  cases e:g.dS with
  | nil=>rw[e] at hy;cases hy
  | cons z t =>
   rw[e] at hy;rcases aX5.1 hy with h|h
   ·left;rw[h];simp[eX,e]
   ·right;simpa using h
 intro i j hi hj;rw[(hD i hi).1]
 have keep:(j≠b\/i≠a)->⟨(i:Int),(j:Int),iD g i⟩∈g.dS->⟨(i:Int),(j:Int),iD g i⟩∈(jl g 0).dS:=fun hne hm=>by
  rcases hmem _ hm with h|h
  ·exfalso
   rw[<- h] at h1 h2;simp only at h1 h2
   omega
  ·exact h
 by_cases e:j=b
 ·have hj2:dY (jl g 0) j=(fG (dY g b) (a:Int) (eX g 0).row).1:=by rw[key,if_pos ⟨e,D.up b h4⟩]
  rw[hj2,al1 (G.mem b h4) (D.dn b h4) (D.rows b b h4 h4).1.2 h3 h5 h6];have hal:a<(dY g b).rows.length:=by rw[(G.mem b h4).len];exact h3
  by_cases e2:i=a
  ·have hsy:=(D.dS _ hx).2
   rw[h1,dM] at hsy;have hh:=(D.rows b a h4 h3).2;rw[e2,e];have W':=W a b h3 h4
   split
   ·rename_i hv
    rcases hh with hh|hh
    ·rcases W' with W'|W'
     ·exact .inl W'
     ·rcases hmem _ W' with h|h
      ·exfalso
       rw[<- h] at hv;simp only at hv
       omega
      ·exact .inr h
    ·exact .inl hh
   ·rename_i hv
    simp only[gB hal,if_pos]
    rcases hsy with hs|hs
    ·rcases W' with W'|W'
     ·exfalso;rw[W'] at hv;omega
     ·rcases hmem _ W' with h|h
      ·exfalso
       rw[<- h] at hs;simp only at hs
       omega
      ·exact .inr h
    ·exact .inl hs
  ·have hrow:dO (if (eX g 0).row.ver<=(dO (dY g b).rows a).ver then dY g b else { dY g b with rows:=(dY g b).rows.set a (eX g 0).row }).rows i=dO (dY g b).rows i:=by
    split
    ·rfl
    ·simp only[gB hal,if_neg e2]
   rw[hrow];have W':=W i b hi h4;rw[<- e] at W';rw[<- e];exact W'.imp id (keep (.inr e2))
 ·have hj2:dY (jl g 0) j=dY g j:=by rw[key,if_neg (fun h=>e h.1)]
  rw[hj2];exact (W i j hi hj).imp id (keep (.inl e))
theorem JX {n c:Nat}:∀ (f:Nat) {g:Gr},ND n c g->g.dS.length<=f->ND n c (drain f g)/\(drain f g).dS=[]/\(∀ k,k<n->iD (drain f g) k=iD g k/\(dY (drain f g) k).dR=(dY g k).dR)/\(Way n g->FW n (drain f g))
 | 0,g,D,hl=>by
  have e:g.dS=[]:=aT (by omega)
  refine⟨D,e,fun k _=>⟨rfl,rfl⟩,fun W i j hi hj=>?_⟩
  rcases W i j hi hj with h|h
  ·exact h
  ·rw[e] at h;cases h
 | f+1,g,D,hl=>by
  unfold drain;by_cases c0:0<g.dS.length
  ·rw[if_pos c0]
   obtain⟨D',hD⟩:=D.land c0;have hm:=(D.G.qP.land c0).2.2.1;obtain⟨k1,k2,k3,k4⟩:=JX f D' (by rw[hm];simp;omega)
   exact⟨k1,k2,fun k hk=>⟨(k3 k hk).1.trans (hD k hk).1,(k3 k hk).2.trans (hD k hk).2⟩,fun W=>k4 (al2 D c0 W)⟩
  ·rw[if_neg c0]
   have e:g.dS=[]:=aT (by omega)
   refine⟨D,e,fun k _=>⟨rfl,rfl⟩,fun W i j hi hj=>?_⟩
   rcases W i j hi hj with h|h
   ·exact h
   ·rw[e] at h;cases h
theorem Y0 (a:Nat) (g:Gr):(kS g (a:Int)).mem=g.mem/\(kS g (a:Int)).up=g.up/\(∀ x∈g.dS,x∈(kS g (a:Int)).dS)/\(kS g (a:Int)).dS.length<=g.dS.length+g.mem.length /\
  (∀ x∈(kS g (a:Int)).dS,x∈g.dS\/∃ b:Nat,x=⟨(a:Int),(b:Int),iD g a⟩)/\(g.dS.length+g.mem.length<=200->∀ i,i<g.mem.length->i≠a->⟨(a:Int),(i:Int),iD g a⟩∈(kS g (a:Int)).dS):=by
 obtain⟨h1,h2,h3,h4,h5,h6⟩:=DV a (aZ6 g.mem.length) g;rw[List.length_range] at h4 h6;exact⟨h1,h2,h3,h4,h5,fun hl i hi=>h6 hl i (aX1.2 hi)⟩
theorem ay5 {g g': Gr} (h:g'.mem=g.mem) (i:Nat):dY g' i=dY g i:=by unfold dY;rw[h]
theorem NC {n c:Nat} {g:Gr} (D:ND n c g) (hc:c+n<1000000):∀ k,k<=n->ND n (c+k) ((aZ6 k).foldl jP g)/\(∀ i,i<n->dY ((aZ6 k).foldl jP g) i=if i<k then fB (dY g i) else dY g i)/\((aZ6 k).foldl jP g).dS.length<=g.dS.length+k*n /\
  (g.dS=[]->∀ i j,i<k->j<n->j≠i->⟨(i:Int),(j:Int),dO (fB (dY g i)).rows i⟩∈((aZ6 k).foldl jP g).dS)
 | 0,_=>⟨D,fun i _=>by simp,by simp,fun _ i j hi=>absurd hi (Nat.not_lt_zero _)⟩
 | k+1,hk=>by
  obtain⟨D',h1,h2,h3⟩:=NC D hc k (by omega)
  rw[List.range_succ,List.foldl_append]
  show ND n (c+(k+1)) (jP ((aZ6 k).foldl jP g) k)/\(∀ i,i<n->dY (jP ((aZ6 k).foldl jP g) k) i=if i<k+1 then fB (dY g i) else dY g i)/\(jP ((aZ6 k).foldl jP g) k).dS.length<=g.dS.length+(k+1)*n /\
   (g.dS=[]->∀ i j,i<k+1->j<n->j≠i->⟨(i:Int),(j:Int),dO (fB (dY g i)).rows i⟩∈(jP ((aZ6 k).foldl jP g) k).dS)
  generalize (aZ6 k).foldl jP g=g' at D' h1 h2 h3 ⊢;have n5:=D.G.qP.n5;have hk':k<n:=by omega
  have hkl:k<g'.mem.length:=by rw[D'.G.qP.ml];exact hk'
  have ek:dY g' k=dY g k:=by rw[h1 k hk',if_neg (by omega)]
  have hG:=UU D'.G hk';have eC:jP g' k=kS (g'.set k (fB (dY g k))) (k:Int):=by rw[jP,if_pos (D'.up k hk'),ek]
  have DS:=D'.step (by omega) hk'
  rw[ek] at DS;have hml:=DS.G.qP.ml;obtain⟨p1,p2,p3,p4,p5,p6⟩:=Y0 k (g'.set k (fB (dY g k)));have eo:iD (g'.set k (fB (dY g k))) k=dO (fB (dY g k)).rows k:=by unfold iD;rw[nX hkl,if_pos rfl]
  have aI2:(g'.set k (fB (dY g k))).dS=g'.dS:=rfl;rw[eo] at p5 p6;rw[hml,aI2] at p4 p6;rw[aI2] at p3;have hmul:(k+1)*n=k*n+n:=by rw[Nat.succ_mul]
  have hkn:k*n<=4*5:=Nat.mul_le_mul (by omega) n5.2
  have eo':∀ (b:Nat),(⟨(k:Int),(b:Int),dO (fB (dY g k)).rows k⟩:Ml)=⟨(k:Int),(b:Int),iD (g'.set k (fB (dY g k))) k⟩:=fun b=>by rw[eo]
  rw[eC] at hG ⊢;refine⟨DS.jZ (g':=kS (g'.set k (fB (dY g k))) (k:Int)) hG p1 p2 (fun y hy=>(p5 y hy).imp id (fun ⟨b,e⟩=>⟨k,b,hk',by rw[e,eo']⟩)),fun i hi=>?_, ?_,fun h0 i j hi hj hne=>?_⟩
  ·have e2:dY (kS (g'.set k (fB (dY g k))) (k:Int)) i=dY (g'.set k (fB (dY g k))) i:=ay5 p1 i
   rw[e2,nX hkl];by_cases e:i=k
   ·rw[if_pos e,if_pos (by omega),e]
   ·rw[if_neg e,h1 i hi]
    by_cases c2:i<k
    ·rw[if_pos c2,if_pos (by omega)]
    ·rw[if_neg c2,if_neg (by omega)]
  ·omega
  ·have hg0:g'.dS.length<=k*n:=by rw[h0] at h2;simpa using h2
   by_cases e:i=k
   ·rw[e]
    exact p6 (by omega) j hj (fun h=>hne (by rw[h,e]))
   ·exact p3 _ (h3 h0 i j (by omega) hj hne)
theorem mG {n: Nat} {g: Gr} (D:ND n c g) (hc:c+n<1000000):ND n (c+n) (lV g)/\(lV g).dS=[]/\(∀ i,i<n->iD (lV g) i=dO (fB (dY g i)).rows i/\(dY (lV g) i).dR=(fB (dY g i)).dR)/\(g.dS=[]->FW n (lV g)):=by
 have hml:=D.G.qP.ml;obtain⟨D',h1,h2,h3⟩:=NC D hc n (aZ0 _);unfold lV;rw[hml];generalize (aZ6 n).foldl jP g=g' at D' h1 h2 h3 ⊢;obtain⟨k1,k2,k3,k4⟩:=JX g'.dS.length D' (aZ0 _);have ho:∀ i,i<n->iD g' i=dO (fB (dY g i)).rows i:=fun i hi=>by unfold iD;rw[h1 i hi,if_pos hi]
 refine⟨k1,k2,fun i hi=>⟨(k3 i hi).1.trans (ho i hi),by rw[(k3 i hi).2,h1 i hi,if_pos hi]⟩,fun h0=>k4 (fun i j hi hj=>?_)⟩
 by_cases e:j=i
 ·left;rw[e];rfl
 ·right;rw[ho i hi];exact h3 h0 i j hi hj e
def cnts (n:Nat) (g:Gr):List Int:=(aZ6 n).map (fun i=>((iD g i).txt.length:Int))
theorem Uu {n: Nat} {g: Gr} (hi:i<n):el (cnts n g) i=((iD g i).txt.length:Int):=by
 unfold cnts el;simp[hi]
theorem ND.DX {n: Nat} {g: Gr} (D:ND n c g) (hc:c<1000000) (hi:i<n):dO (fB (dY g i)).rows i=yZ (dY g i).rows (iD g i) n/\(fB (dY g i)).dR=kR ((dY g i).rows.set i { iD g i with got:=kH (dY g i).rows (iD g i) n }) n (60-(dY g i).dR.length) (dY g i).dR:=by
 have M:=D.G.qP.mem i hi;have hil:i<(dY g i).rows.length:=by rw[M.len];exact hi
 have hv:=D.ver i hi;have e:=Ui M (D.dn i hi) (by unfold iD at hv;omega) (fun j hj=>(D.rows i j hi hj).1)
 rw[e];simp only[gB hil,if_pos]
 exact⟨rfl,rfl⟩
theorem VK {n: Nat} {g: Gr} (D:ND n c g) (hc:c+n<1000000):cnts n (lV g)=cnts n g:=by
 unfold cnts;refine List.map_congr_left (fun i hi=>?_)
 have hi:=aX1.1 hi;rw[((mG D hc).2.2.1 i hi).1,(D.DX (by omega) hi).1,(DW _ _ _).2.1]
def Za (n:Nat) (g:Gr):Prop:=∀ i s,i<n->s<n->el (iD g i).got s=((iD g s).txt.length:Int)
theorem wZ {n: Nat} {g: Gr} (D:ND n c g) (hc:c+n<1000000) (S:FW n g):Za n (lV g):=fun i s hi hs=>by
 obtain⟨h,log,G⟩:=D.G;have R:=(mG D hc).2.2.1;obtain⟨e1,e2,_⟩:=DW (dY g i).rows (iD g i) n;rw[(R i hi).1,(R s hs).1,(D.DX (by omega) hi).1,(D.DX (by omega) hs).1,(DW _ _ _).2.1,e1,zY hs,S s i hs hi]
 have:=(G.mem i hi).EL s hs;rw[S s i hs hi] at this;have e:el (iD g i).got s=el (dO (dY g i).rows i).got s:=rfl;omega
theorem QX (R:List Rw) (n:Nat):∀ (f:Nat) (s:List Int),(kR R n f s).length=s.length+f\/nS R n (kR R n f s).length=aC
 | 0,s=>.inl rfl
 | f+1,s=>by
  unfold kR
  split
  ·rcases QX R n f (s++[(s.length:Int)]) with h|h
   ·left;rw[h];simp;omega
   ·exact .inr h
  ·rename_i h;right;simpa using h
theorem Ry {n: Nat} {g: Gr} (D:ND n c g) (hc:c+n<1000000) (S:FW n g) (F:Za n g) (hi:i<n):vS (cnts n (lV g)) (dY (lV g) i).dR.length:=by
 obtain⟨h,log,G⟩:=D.G;have n5:=G.n5;have hn0:0<n:=by omega
 have M:=G.mem i hi;have MO:=M.okM n5;obtain⟨s1,s2⟩:=M.uO (D.dn i hi);rw[VK D hc,((mG D hc).2.2.1 i hi).2,(D.DX (by omega) hi).2]
 have hcl:(cnts n g).length=n:=by simp[cnts]
 have hil:i<(dY g i).rows.length:=by rw[MO.len];exact hi
 have hmod:∀ q,q%n<n:=fun q=>Nat.mod_lt q hn0
 have hbel:∀ q,bel (cnts n g) q↔((q/n:Nat):Int)<((iD g (q%n)).txt.length:Int):=fun q=>by rw[bel,hcl,Uu (hmod q)]
 have OB:∀ j,j<n->∀ s,s<n->el (dO ((dY g i).rows.set i { iD g i with got:=kH (dY g i).rows (iD g i) n }) j).got s=((iD g s).txt.length:Int):=fun j hj s hs=>by
  rw[gB hil]
  split
  ·simp only
   rw[zY hs,S s i hs hi,F i s hi hs];omega
  ·rw[S j i hj hi];exact F j s hj hs
 have an1:∀ q,nS ((dY g i).rows.set i { iD g i with got:=kH (dY g i).rows (iD g i) n }) n q=aB↔bel (cnts n g) q:=fun q=>by
  rw[hbel,nS,List.all_eq_true]
  constructor
  ·intro hall
   have:=hall _ (oM (j:=i) (by rw[aV3];exact hil))
   rw[decide_eq_true_eq,OB i hi _ (hmod q)] at this;exact this
  ·intro hb r hr
   obtain⟨j,hj,rfl⟩:=Ib hr;rw[aV3,MO.len] at hj;rw[decide_eq_true_eq,OB j hj _ (hmod q)];exact hb
 have hold:∀ q,q<(dY g i).dR.length->bel (cnts n g) q:=fun q hq=>by
  rw[hbel];obtain⟨r,r1,r2⟩:=(s2 q hq).2 i hi;obtain⟨t,ht⟩:=M.head
  have hnx:Nx r (dO (dY g i).rows i):=by
   rcases aX5.1 (ht ▸ r1) with e|e
   ·rw[e];exact Nx.refl _
   ·have:=G.S.chain i
    rw[ht] at this;exact (List.pairwise_cons.1 this).1 r e
  have h1:=hnx.got (q%n);have h2:=F i (q%n) hi (hmod q);have e:el (iD g i).got (q%n)=el (dO (dY g i).rows i).got (q%n):=rfl;omega
 obtain⟨q1,q2,q3,q4⟩:=yI ((dY g i).rows.set i { iD g i with got:=kH (dY g i).rows (iD g i) n }) n (60-(dY g i).dR.length) (dY g i).dR (fun q hq=>(s2 q hq).1)
 refine⟨fun q hq=>?_, ?_⟩
 ·by_cases c2:q<(dY g i).dR.length
  ·exact hold q c2
  ·exact (an1 q).1 (q4 q (by omega) hq)
 ·rcases QX ((dY g i).rows.set i { iD g i with got:=kH (dY g i).rows (iD g i) n }) n (60-(dY g i).dR.length) (dY g i).dR with he|he
  ·rw[hbel,he]
   have h60:(dY g i).dR.length+(60-(dY g i).dR.length)=60:=by omega
   rw[h60];have hd:12<=60/n:=(Nat.le_div_iff_mul_le hn0).2 (by omega)
   have htl:=((G.mem (60%n) (hmod 60)).ok (60%n) (hmod 60)).tl;have e:(iD g (60%n)).txt.length=(dO (dY g (60%n)).rows (60%n)).txt.length:=rfl;omega
  ·intro hb
   rw[(an1 _).2 hb] at he
   cases he
theorem al3 {n: Nat} {g: Gr} (D:ND n c g) (hc:c+8*n<1000000):ND n (c+8*n) (oV g)/\(oV g).dS=[]/\FW n (oV g)/\∀ i,i<n->vS (cnts n (oV g)) (dY (oV g) i).dR.length:=by
 obtain⟨D1,m1,_,_⟩:=mG D (by omega)
 obtain⟨D2,m2,_,S2⟩:=mG D1 (by omega)
 obtain⟨D3,m3,_,S3⟩:=mG D2 (by omega)
 have F3:=wZ D2 (by omega) (S2 m1)
 obtain⟨D4,m4,_,S4⟩:=mG D3 (by omega)
 have F4:=wZ D3 (by omega) (S3 m2)
 obtain⟨D5,m5,_,S5⟩:=mG D4 (by omega)
 have F5:=wZ D4 (by omega) (S4 m3)
 obtain⟨D6,m6,_,S6⟩:=mG D5 (by omega)
 have F6:=wZ D5 (by omega) (S5 m4)
 obtain⟨D7,m7,_,S7⟩:=mG D6 (by omega)
 have F7:=wZ D6 (by omega) (S6 m5)
 obtain⟨D8,m8,_,S8⟩:=mG D7 (by omega)
 refine⟨D8.more (by omega),m8,S8 m7,fun i hi=>Ry D7 (by omega) (S7 m6) F7 hi⟩
theorem VL (A D:Ga) (g:Gr) (w:aI) (hv:zh w A g) (hu:zh w D g) (hm:g.mem.length<=1000000/\g.up.length<=1000000/\g.dS.length<=1000000) :
  ba3 aZ8 9 #[jc A g,jc D g] w fun e w'=>e=aK (aF aB)/\Below w.heap.size w w':=by
 have fU:=iq;have hB0:Below w.heap.size w ((w.alloc (aH #[aj A.ma g.mem.length A.mc,aj A.ua g.up.length A.uc,aj A.la g.dS.length A.lc] 28)).alloc (aH #[aj D.ma g.mem.length D.mc,aj D.ua g.up.length D.uc,aj D.la g.dS.length D.lc] 28)):=(dX w _).trans ((dX _ _).mono (dX w _).size);have hx:Bx ((w.alloc (aH #[aj A.ma g.mem.length A.mc,aj A.ua g.up.length A.uc,aj A.la g.dS.length A.lc] 28)).alloc (aH #[aj D.ma g.mem.length D.mc,aj D.ua g.up.length D.uc,aj D.la g.dS.length D.lc] 28)) w.heap.size 28 #[aj A.ma g.mem.length A.mc,aj A.ua g.up.length A.uc,aj A.la g.dS.length A.lc]:=(Bx.new w _ _).alloc _
 have hy:Bx ((w.alloc (aH #[aj A.ma g.mem.length A.mc,aj A.ua g.up.length A.uc,aj A.la g.dS.length A.lc] 28)).alloc (aH #[aj D.ma g.mem.length D.mc,aj D.ua g.up.length D.uc,aj D.la g.dS.length D.lc] 28)) (w.heap.size+1) 28 #[aj D.ma g.mem.length D.mc,aj D.ua g.up.length D.uc,aj D.la g.dS.length D.lc]:=by
  have:=Bx.new (w.alloc (aH #[aj A.ma g.mem.length A.mc,aj A.ua g.up.length A.uc,aj A.la g.dS.length A.lc] 28)) 28 #[aj D.ma g.mem.length D.mc,aj D.ua g.up.length D.uc,aj D.la g.dS.length D.lc];simp only[aU1] at this;exact this
 have HV:=dP (hv.below hB0);have HU:=dP (hu.below hB0);unfold jc jH;generalize rV:((w.alloc (aH #[aj A.ma g.mem.length A.mc,aj A.ua g.up.length A.uc,aj A.la g.dS.length A.lc] 28)).alloc (aH #[aj D.ma g.mem.length D.mc,aj D.ua g.up.length D.uc,aj D.la g.dS.length D.lc] 28))=W at *;have n1:((g.mem.length:Int) != (g.mem.length:Int))=aC:=by simp
 have n2:((g.up.length:Int) != (g.up.length:Int))=aC:=by simp
 have n3:((g.dS.length:Int) != (g.dS.length:Int))=aC:=by simp
 have HX:=dP hx;have HY:=dP hy;have HB:=dP hB0;obtain⟨hm1,hm2,hm3⟩:=hm;obtain⟨c0,c1,c2⟩:=Bx.g3 hx;obtain⟨d0,d1,d2⟩:=Bx.g3 hy;clear hv hu hB0 hx hy;go_enter Tryz.func9,Tryz.ntmps9
 go_wp2_with fail
 clear c0 c1 c2 d0 d1 d2 n1 n2 n3
 go_loopw [5] (fun v wr=>∃ k:Nat,k<=g.mem.length/\v=ah aA (k:Int)/\Below W.heap.size W wr) (fun v _=>g.mem.length-(ba4 v).toNat)
 case atStart=>exact⟨0,aZ1 _,rfl,aZ5 _ _⟩
 case round =>
  obtain⟨k,hk,rfl,hb⟩:=hrel;have mZ:=dP hb;obtain⟨c0,c1,c2⟩:=Bx.g3 (HX.out.below hb);obtain⟨d0,d1,d2⟩:=Bx.g3 (HY.out.below hb);have T:∀ {x v},wr.cell? x=au v->∀ q:Bk wr,q.w.cell? x=au v:=fun h q=>fM q.h h
  by_cases hlt:k<g.mem.length
  ·have k1:(k:Int)<g.mem.length:=by omega
   have k0:(0:Int)<=k:=by omega
   obtain⟨b1,o1,Ak,ea,⟨x0,x1,x2,x3,x4⟩,hr1⟩:=(HV.out.below hb).member hlt;obtain⟨b2,o2,Dk,ed,⟨y0,y1,y2,y3,y4⟩,hr2⟩:=(HU.out.below hb).member hlt;rw[ea] at c0;rw[ed] at d0;have CL:∀ q:Bk wr,ba3 aZ8 33 #[iL Ak (dY g k),iL Dk (dY g k)] q.w fun e w'=>e=aK (aF aB)/\Below q.w.heap.size q.w w':=fun q=>VJ Ak Dk (dY g k) q.w (hr1.below q.h) (hr2.below q.h)
   unfold iL ig at CL;have pc0:=T c0;have pd0:=T d0;have Nw:=T x0;have Uo:=T x1;have Ur:=T x2;have yO:=T x3;have xB:=T x4;have Ny:=T y0;have Us:=T y1;have Ut:=T y2;have QV:=T y3;have QW:=T y4;generalize dY g k=m at *;clear hr1 hr2 T x0 x1 x2 x3 x4 y0 y1 y2 y3 y4 c1 c2 d0 d1 d2 hb;go_wp2_with fail
   refine jf ?_;repeat (go_big_quiet_step ((first|(go_at_call 33;exact eY _ (CL _))|rfl)))
   refine aZ2 (iI fun wE eH=>?_)
   have HB2:=dP (eP mZ.out eH);clear CL pc0 pd0 Nw Uo Ur yO xB Ny Us Ut QV QW c0 eH;go_wp2;go_roundw
   case rel=>exact⟨k+1,by omega,by go_num,HB2.out⟩
   case measure=>simp[ba4];omega
  ·have k1:¬ ((k:Int)<g.mem.length):=by omega
   clear hb T;go_wp2
   go_loopw [6] (fun v wr=>∃ k:Nat,k<=g.up.length/\v=ah aA (k:Int)/\Below W.heap.size W wr) (fun v _=>g.up.length-(ba4 v).toNat)
   case atStart=>exact⟨0,aZ1 _,rfl,mZ.out⟩
   case round =>
    obtain⟨k,hk,rfl,hb⟩:=hrel;have mZ:=dP hb;obtain⟨c0,c1,c2⟩:=Bx.g3 (HX.out.below hb);obtain⟨d0,d1,d2⟩:=Bx.g3 (HY.out.below hb);have T:∀ {x v},wr.cell? x=au v->∀ q:Bk wr,q.w.cell? x=au v:=fun h q=>fM q.h h
    by_cases hlt:k<g.up.length
    ·have k1:(k:Int)<g.up.length:=by omega
     have k0:(0:Int)<=k:=by omega
     have nb:∀ b:Bool,(b != b)=aC:=fun b=>by cases b<;>rfl
     rcases (HV.out.below hb).up with h0|⟨b1,o1,ea,hc1⟩
     ·omega
     rcases (HU.out.below hb).up with h0|⟨b2,o2,ed,hc2⟩
     ·omega
     rw[ea] at c1;rw[ed] at d1;have x0:=hc1 k hlt;have y0:=hc2 k hlt;have pc1:=T c1;have pd1:=T d1;have Nw:=T x0;have Ny:=T y0;generalize g.up.getD k aC=u at *;have nu:=nb u;clear nb T x0 y0 hc1 hc2 c0 c2 d0 d1 d2 hb;go_wp2_with fail
     refine jf ?_;repeat (go_big_quiet_step ((first|rfl)))
     refine aZ2 (iI fun wE eH=>?_)
     have HB2:=dP (eP mZ.out eH);clear pc1 pd1 Nw Ny c1 nu eH;go_wp2;go_roundw
     case rel=>exact⟨k+1,by omega,by go_num,HB2.out⟩
     case measure=>simp[ba4];omega
    ·have k1:¬ ((k:Int)<g.up.length):=by omega
     clear hb T;go_wp2
     go_loopw [7] (fun v wr=>∃ k:Nat,k<=g.dS.length/\v=ah aA (k:Int)/\Below W.heap.size W wr) (fun v _=>g.dS.length-(ba4 v).toNat)
     case atStart=>exact⟨0,aZ1 _,rfl,mZ.out⟩
     case round =>
      obtain⟨k,hk,rfl,hb⟩:=hrel;have mZ:=dP hb;obtain⟨c0,c1,c2⟩:=Bx.g3 (HX.out.below hb);obtain⟨d0,d1,d2⟩:=Bx.g3 (HY.out.below hb);have T:∀ {x v},wr.cell? x=au v->∀ q:Bk wr,q.w.cell? x=au v:=fun h q=>fM q.h h
      by_cases hlt:k<g.dS.length
      ·have k1:(k:Int)<g.dS.length:=by omega
       have k0:(0:Int)<=k:=by omega
       obtain⟨b1,o1,Ak,ea,x0,x1,⟨⟨x2,x3,x4,x5⟩,x6,x7,x8,x9⟩,hr1⟩:=(HV.out.below hb).letter hlt;obtain⟨b2,o2,Dk,ed,y0,y1,⟨⟨y2,y3,y4,y5⟩,y6,y7,y8,y9⟩,hr2⟩:=(HU.out.below hb).letter hlt;rw[ea] at c2;rw[ed] at d2;have CL:∀ q:Bk wr,ba3 aZ8 34 #[iK Ak (eX g k).row,iK Dk (eX g k).row] q.w fun e w'=>e=aK (aF aB)/\Below q.w.heap.size q.w w':=fun q=>(JW Ak Dk (eX g k).row q.w (hr1.below q.h) (hr2.below q.h)).mono (fun e w' h=>⟨h.1,h.2.1⟩)
       unfold iK fP at CL;have pc2:=T c2;have pd2:=T d2;have Nw:=T x0;have Uo:=T x1;have Ur:=T x2;have yO:=T x3;have xB:=T x4;have CJ:=T x5;have Jq:=T x6;have PD:=T x7;have px8:=T x8;have px9:=T x9;have Ny:=T y0;have Us:=T y1;have Ut:=T y2;have QV:=T y3;have QW:=T y4;have YX:=T y5;have PE:=T y6;have PI:=T y7;have py8:=T y8;have py9:=T y9;generalize eX g k=y at *;obtain⟨fr,tt,r⟩:=y;simp only at Nw Uo Ur yO xB CJ Jq PD px8 px9 Ny Us Ut QV QW YX PE PI py8 py9 CL
       simp only[aX9 (o1+k*10) 2,Nat.reduceAdd] at yO xB CJ Jq PD px8 px9;simp only[aX9 (o2+k*10) 2,Nat.reduceAdd] at QV QW YX PE PI py8 py9;have nf:(fr != fr)=aC:=by simp
       have nt:(tt != tt)=aC:=by simp
       clear hr1 hr2 T x0 x1 x2 x3 x4 x5 x6 x7 x8 x9 y0 y1 y2 y3 y4 y5 y6 y7 y8 y9 c0 c1 d0 d1 d2 hb;go_wp2_with fail
       refine jf ?_;repeat (go_big_quiet_step ((first|(go_at_call 34;exact eY _ (CL _))|rfl)))
       refine aZ2 (iI fun wE eH=>?_)
       have HB2:=dP (eP mZ.out eH);clear CL pc2 pd2 Nw Uo Ur yO xB CJ Jq PD px8 px9 Ny Us Ut QV QW YX PE PI py8 py9 c2 nf nt eH;go_wp2;go_roundw
       case rel=>exact⟨k+1,by omega,by go_num,HB2.out⟩
       case measure=>simp[ba4];omega
      ·have k1:¬ ((k:Int)<g.dS.length):=by omega
       have HE:=dP (eP HB.out hb);clear hb T;go_wp2;go_ret
       exact⟨rfl,HE.out⟩
end Go.Proofs.YtafimeakbdmkjaaGreat