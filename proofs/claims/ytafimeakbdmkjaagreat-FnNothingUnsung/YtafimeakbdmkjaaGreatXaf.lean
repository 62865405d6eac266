/-
  Texts in one.
-/
import Derived.Test.YtafimeakbdmkjaaGreatXaa
import Derived.Test.YtafimeakbdmkjaaGreatXae
import Derived.Test.YtafimeakbdmkjaaGreatXac
import Derived.Test.YtafimeakbdmkjaaGreatXab
import Derived.Deep.Cut
import Derived.Deep.CutRange
namespace Go.Proofs.YtafimeakbdmkjaaGreat
open Bool renaming and_eq_true->bI,false->aC,true->aB
open Go renaming Addr->dH,Calls->dF,Value->aJ,World->aI,bodyPost_ret->bY,maxLen->dD
open Go.Builtin renaming append_->bU
open Go.Ending renaming returned->aK
open Go.IntKind renaming i64->aA
open Go.Obj renaming cells->aH
open Go.Proofs.Tryz renaming prog->dA,underlying41->bG
open Go.RowKit renaming Hid->aG,intOf->dG
open Go.RowKit.Below renaming refl->dw
open Go.Value renaming agg->aP,bool->aF,int->ah,int->dB,slice->aj,string->aN
open Go.World renaming block_lt_of_cell?->aX,cell?_of_block->bf,size_alloc->bH
open List renaming all_eq_true->bJ,length_append->bD,length_cons->bP,length_set->bQ,length_take->bM,mem_cons_of_mem->bC,mem_cons_self->bF,mem_iff_getElem->bg,take_of_length_le->aY,take_succ_eq_append_getElem->aQ
open Nat renaming le_refl->cO,zero_le->cZ
open Option renaming none->ak,some->au
open Option.some renaming inj->bT
set_option linter.unusedVariables false
set_option linter.unusedSimpArgs false
open Go.RowKit Go.Sort
set_option maxRecDepth 100000
set_option maxHeartbeats 12800000
variable {P:Program} {B b i j k n off s:Nat} {a d e u x:aJ} {us:List aJ} {f:Fp} {r:Rw} {α:Type} {X' w':aI} {L:List Bool} {T:List Int}
theorem Tryz.infoRw:(Tryz.prog.info? 44).map (fun i=>(i.zero,i.size,i.bytes))=au (au (aP #[ah aA 0,aj ak 0 0,aj ak 0 0,aj ak 0 0,aF aC,aF aC,ah aA 0,aj ak 0 0]),8,120):=by kernel_rfl
theorem iD:Tryz.prog.follows .mixedOrders=aB:=by kernel_rfl
theorem uP {t: TypeId} {z: aJ} (h:(P.info? t).map (fun i=>(i.zero,i.size,i.bytes))=au (au z,s,b)):∃ i,P.info? t=au i/\i.zero=au z/\i.size=s/\i.bytes=b:=by
 cases e:P.info? t with
 | none=>rw[e] at h;cases h
 | some i =>
  rw[e] at h;simp only[Option.map_some,Option.some.injEq,Prod.mk.injEq] at h;exact⟨i,rfl,h.1,h.2.1,h.2.2⟩
theorem vF {w: aI} {cs: List dY} (h:gB w cs us f):gB w (.v x::cs) (x::us) f:=⟨x,us,fun _=>False,f,rfl,⟨rfl,fun _ h=>h⟩,h,fun _ h=>absurd h id,fun b=>by simp⟩
theorem qF {w: aI} {cs: List dY} (h:gB w (.v x::cs) us f):∃ us',us=x::us'/\gB w cs us' f:=by
 obtain⟨u,us',f1,f2,rfl,⟨rfl,h1⟩,h2,hd,hf⟩:=h;exact⟨us',rfl,vT h2 (fun b=>(hf b).trans ⟨fun h=>h.elim (fun h=>absurd h (h1 b)) id,.inr⟩)⟩
theorem pX {w: aI} {c: dY} {cs: List dY} {f1 f2: Fp} (h1:dY.ow w c u f1) (h2:gB w cs us f2) (hd:∀ b,f1 b->¬ f2 b):gB w (c::cs) (u::us) (fun b=>f1 b\/f2 b):=⟨u,us,f1,f2,rfl,h1,h2,hd,fun b=>Iff.rfl⟩
theorem Ez {w: aI} {A: Ra} (h:gB w (jM r) (jr A r) f):gB w (jo r) (fQ A r).toList f:=by
 obtain⟨u1,vW,f1,g1,e1,o1,h2,d1,i1⟩:=h
 cases e1
 obtain⟨u2,wY,f2,g2,e2,o2,h3,d2,i2⟩:=h2
 cases e2
 obtain⟨u3,Es,f3,g3,e3,o3,h4,d3,i3⟩:=h3
 cases e3
 exact vF ⟨_,_,f1,g1,rfl,o1,⟨_,_,f2,g2,rfl,o2,⟨_,_,f3,g3,rfl,o3,vF (vF (vF h4)),d3,i3⟩,d2,i2⟩,d1,i1⟩
theorem wP {w: aI} (h:gB w (jo r) us f):∃ A:Ra,us=(fQ A r).toList/\gB w (jM r) (jr A r) f:=by
 obtain⟨us0,rfl,hq0⟩:=qF h;obtain⟨u1,vW,f1,g1,rfl,o1,h2,d1,i1⟩:=hq0;obtain⟨u2,wY,f2,g2,rfl,o2,h3,d2,i2⟩:=h2;obtain⟨u3,Es,f3,g3,rfl,o3,h4,d3,i3⟩:=h3;obtain⟨NU,rfl,hq4⟩:=qF h4;obtain⟨us5,rfl,hq5⟩:=qF hq4;obtain⟨us6,rfl,hq6⟩:=qF hq5;obtain⟨u7,us7,f7,g7,rfl,o7,⟨rfl,h8⟩,d7,i7⟩:=hq6;obtain⟨ta,tc,_,rfl,_⟩:=uN.1 o1;obtain⟨ga,gc,_,rfl,_⟩:=je.1 o2;obtain⟨sa,sc,_,rfl,_⟩:=je.1 o3;obtain⟨ma,mc,_,rfl,_⟩:=je.1 o7;exact⟨⟨ta,tc,ga,gc,sa,sc,ma,mc⟩,rfl,⟨_,_,f1,g1,rfl,o1,⟨_,_,f2,g2,rfl,o2,⟨_,_,f3,g3,rfl,o3,⟨_,_,f7,g7,rfl,o7,⟨rfl,h8⟩,d7,i7⟩,d3,i3⟩,d2,i2⟩,d1,i1⟩⟩
theorem II {w: aI} {A: Ma} {m: Mb} (h:gB w (jB m) (jC A m) f):gB w (jY m) (iq A m).toList f:=by
 obtain⟨u1,vW,f1,g1,e1,o1,h2,d1,i1⟩:=h
 cases e1
 obtain⟨u2,wY,f2,g2,e2,o2,h3,d2,i2⟩:=h2
 cases e2
 exact vF (vF ⟨_,_,f1,g1,rfl,o1,⟨_,_,f2,g2,rfl,o2,vF h3,d2,i2⟩,d1,i1⟩)
theorem IJ {w: aI} {m: Mb} (h:gB w (jY m) us f):∃ A:Ma,us=(iq A m).toList/\gB w (jB m) (jC A m) f:=by
 obtain⟨us0,rfl,hq0⟩:=qF h;obtain⟨us9,rfl,hq1⟩:=qF hq0;obtain⟨u1,vW,f1,g1,rfl,o1,h2,d1,i1⟩:=hq1;obtain⟨u2,wY,f2,g2,rfl,o2,h3,d2,i2⟩:=h2;obtain⟨NU,rfl,⟨rfl,h4⟩⟩:=qF h3;have Ry:=o1;obtain⟨ra,rc,_,_,_,rfl,_⟩:=Ry;obtain⟨sa,sc,_,rfl,_⟩:=je.1 o2;exact⟨⟨ra,rc,sa,sc⟩,rfl,⟨_,_,f1,g1,rfl,o1,⟨_,_,f2,g2,rfl,o2,⟨rfl,h4⟩,d2,i2⟩,d1,i1⟩⟩
theorem sW {F: α->List dY} (hF:∀ x,(F x).length=s) {w: aI} (t ty e:TypeId) (z:aJ) (bytes:Nat) (ht:P.underlying t=au (.slice e)) (hi:(P.info? e).map (fun i=>(i.zero,i.size,i.bytes))=au (au z,s,bytes)) (hzs:z.cells.size=s) (hsz:0<s)
  {a:Option dH} {c:Nat} {L:List α} {x:α} {fp fd:Fp} (hO:dY.ow w (iH s F L) (aj a L.length c) fp) {vals:List aJ} (hd:gB w (F x) vals fd) (hdis:∀ b,fp b->¬ fd b) (h1:∀ u∈vals,u.oneCell'=aB)
  (nb:Nat) (T:TypeId) (hnb:w.heap[nb]?=au (aH vals.toArray T (0,0))) (h63:L.length+1<=dD) (hbytes:(L.length+1)*bytes<=140737488355328) :
  ∃ a' c' w' fp',(bU #[t,t] ty #[aj a L.length c,aj (au ⟨nb,0,ak⟩) 1 1]).run P w=.ok (aj a' (L.length+1) c') w'/\dY.ow w' (iH s F (L++[x])) (aj a' (L.length+1) c') fp'/\eX fp w w'/\∀ b,fp' b->fp b\/fd b\/b=w.heap.size:=by
 obtain⟨i,hi0,hz,hs,hb⟩:=uP hi;obtain⟨a',c',w',fp',h2,h3,h4,h5⟩:=JI (P:=P) (w:=w) t ty e i z s bytes ht hi0 hz hs hb hzs hsz hO hd hdis (by rw[jO hd,hF]) h1 nb T hnb h63 hbytes
 refine⟨a',c',w',fp',h2, ?_,h4,h5⟩;unfold iH;rw[List.flatMap_append,bD];simpa using h3
structure MO (w X:aI) (o:Nat) (A:Ma) (m:Mb) (fp:Fp):Prop where
 own:Bx X o 47 (iq A m)
 ls:gB X (jB m) (jC A m) fp
 jV:∀ b,fp b->o<b
 lo:w.heap.size<=o
 below:Below w.heap.size w X
theorem MO.step {w X: aI} {o: Nat} {A: Ma} {m: Mb} {fp: Fp} (h:MO w X o A m fp) (hb:Below X.heap.size X X'):MO w X' o A m fp:=⟨h.own.below hb,gG h.ls hb,h.jV,h.lo,eU h.below hb⟩
theorem MO.push {w X X1: aI} {o: Nat} {A: Ma} {m: Mb} {fp: Fp} (h:MO w X o A m fp) (hb:Below X.heap.size X X1) {Ar: Ra} {fr: Fp} (hr:gB X1 (jM r) (jr Ar r) fr) (hfr:∀ b,fr b->X.heap.size<=b) (hl:m.rows.length<=1000000) :
  ∀ Y,Same Y (X1.alloc (aH (fQ Ar r) 44))->∃ v' w4,(bU #[45,45] 45 #[aj A.ra m.rows.length A.rc,aj (au ⟨X1.heap.size,0,ak⟩) 1 1]).run dA Y=.ok v' w4 /\
   ∃ a' c',v'=aj a' (m.rows.length+1) c'/\w4.cell? ⟨o,2,ak⟩=au (aj A.ra m.rows.length A.rc)/\w4.frozen? ⟨o,2,ak⟩=aC/\Below o X w4/\Below o X (w4.setCell ⟨o,2,ak⟩ (aj a' (m.rows.length+1) c'))/\∃ fp',MO w (w4.setCell ⟨o,2,ak⟩ (aj a' (m.rows.length+1) c')) o ⟨a',c',A.sa,A.sc⟩ { m with rows:=m.rows++[r] } fp':=by
 intro Y hY;have h1:=h.step hb;have lg:=(dX X1 _).trans (hY.below.mono (dX X1 _).size);have h2:=h1.step lg;have hls:=h2.ls;obtain⟨u1,vW,f1,g1,e1,o1,l2,d1,i1⟩:=hls
 cases e1
 have uQ:=Ez (gG hr lg);have hol:=h.own.lt;have hpl:=jd h.ls;have BX:=hb.size;obtain⟨a',c',w4,fp',k1,k2,k3,k4⟩:=sW (P:=dA) jU (w:=Y) 45 45 44 _ 120 Tryz.underlying45 Tryz.infoRw rfl (by omega) (x:=r) o1 uQ (fun b hb1 hb2=>by have:=hpl b ((i1 b).2 (.inl hb1));have:=hfr b hb2;omega) (by intro u hu;simp[fQ] at hu;rcases hu with h|h|h|h|h|h|h|h<;>rw[h]<;>rfl) X1.heap.size 44 (by rw[hY.heap];exact heap_alloc_new X1 _) (by unfold dD;omega) (by omega)
 have hf1:∀ b,f1 b->o<b:=fun b hb1=>h.jV b ((i1 b).2 (.inl hb1))
 have hg1:∀ b,g1 b->o<b:=fun b hb1=>h.jV b ((i1 b).2 (.inr hb1))
 have hYs:X1.heap.size<Y.heap.size:=by rw[hY.size];simp
 have yB:Bx w4 o 47 (iq A m):=h2.own.wrt k3 (fun hb1=>by have:=hf1 _ hb1;omega)
 have sZ:=eU hb lg;have b4:Below o X w4:=k3.below (sZ.mono (by omega:o<=X.heap.size)) (by omega) (fun b hb1=>by have:=hf1 _ hb1;omega)
 have av6:∀ b,fp' b->o<b:=fun b hb1=>by
  rcases k4 b hb1 with k|k|k
  ·exact hf1 b k
  ·have:=hfr b k;omega
  ·omega
 refine⟨_,w4,k1,a',c',rfl,yB.at 2 rfl,yB.f 2,b4,b4.setCell (p:=⟨o,2,ak⟩) (cO _) _,fun b=>fp' b\/g1 b, ?_, ?_,fun b hb1=>hb1.elim (av6 b) (hg1 b),h.lo, ?_⟩
 ·have:=yB.lK 2 (aj a' (m.rows.length+1) c')
  have e:(iq A m).setIfInBounds 2 (aj a' (m.rows.length+1) c')=iq ⟨a',c',A.sa,A.sc⟩ { m with rows:=m.rows++[r] }:=by simp[iq]
  rw[e] at this;exact this
 ·have hw:=eX.set w4 o 2 (aj a' (m.rows.length+1) c')
  have k2':dY.ow w4 (iH 8 jo (m.rows++[r])) (aj a' (m.rows++[r]).length c') fp':=by
   rw[bD];exact k2
  exact iy (pX k2' (iy l2 k3 (fun b hb1 hb2 => d1 b hb2 hb1)) (fun b hb1 hb2 => by
   rcases k4 b hb1 with k|k|k
   ·exact d1 b k hb2
   ·have:=hfr b k;have:=hpl b ((i1 b).2 (.inr hb2));omega
   ·have:=hpl b ((i1 b).2 (.inr hb2));omega)) hw (fun b hb1 e=>by have:=hb1.elim (av6 b) (hg1 b);omega)
 ·have:=h.below
  have hlo:=h.lo;exact ((this.mono (cO _)).trans (b4.mono hlo)).setCell (p:=⟨o,2,ak⟩) hlo _
def Uw (w w':aI) (e:Ending) (m:Mb):Prop:=∃ A:Ma,e=aK (iU A m)/\kE w w' (jB m) (jC A m)
def IK (w w':aI) (e:Ending) (m:Mb) (b:Bool):Prop:=∃ A:Ma,e=aK (.tuple #[iU A m,aF b])/\kE w w' (jB m) (jC A m)
theorem xH (w:aI) (s:Nat) (F:α->List dY):dY.ow w (iH s F []) (aj ak 0 0) (fun _=>False):=⟨ak,0,[],ak,fun _=>False,rfl,iQ.nil _ _ Il,⟨rfl,fun _ h=>h⟩,fun _ _ h=>h,fun b=>by simp⟩
theorem VJ (w:aI):gB w (jB kY) (jC ⟨ak,0,ak,0⟩ kY) (fun _=>False) :=
 vT (pX (xH w 8 jo) (pX (vV w) (⟨rfl,fun _ h=>h⟩:gB w [] [] (fun _=>False)) (fun _ _ h=>h)) (fun _ h=>absurd h id)) (fun b=>by simp)
theorem EC {w: aI} (hb:Below w.heap.size w w'):kE w w' (jB kY) (jC ⟨ak,0,ak,0⟩ kY):=⟨_,VJ w',fun b h=>absurd h id,hb⟩
theorem qG (w:aI) (g:Nat) {b c: aJ}:eX (fun x=>x=g) w (((((w.setCell ⟨g,0,ak⟩ a).setCell ⟨g,1,ak⟩ b).setCell ⟨g,2,ak⟩ c).setCell ⟨g,3,ak⟩ d).setCell ⟨g,4,ak⟩ e) :=
 ((((eX.set w g 0 a).trans (eX.set _ g 1 b) (fun _ _ h=>h)).trans (eX.set _ g 2 c) (fun _ _ h=>h)).trans (eX.set _ g 3 d) (fun _ _ h=>h)).trans (eX.set _ g 4 e) (fun _ _ h=>h)
theorem Bx.f5 {w: aI} {T: TypeId} {cs: Array aJ} (h:Bx w B T cs):w.frozen? ⟨B,0,ak⟩=aC/\w.frozen? ⟨B,1,ak⟩=aC/\w.frozen? ⟨B,2,ak⟩=aC/\w.frozen? ⟨B,3,ak⟩=aC/\w.frozen? ⟨B,4,ak⟩=aC:=⟨h.f 0,h.f 1,h.f 2,h.f 3,h.f 4⟩
theorem MO.ans {w X: aI} {o r: Nat} {A: Ma} {m: Mb} {fp: Fp} (h:MO w X o A m fp) (hr:w.heap.size<=r) (hro:r<=o) {b c: aJ} :
  kE w (((((X.setCell ⟨r,0,ak⟩ a).setCell ⟨r,1,ak⟩ b).setCell ⟨r,2,ak⟩ c).setCell ⟨r,3,ak⟩ d).setCell ⟨r,4,ak⟩ e) (jB m) (jC A m) :=
 ⟨fp,iy h.ls (qG X r) (fun b hb e=>by have:=h.jV b hb;omega),fun b hb=>by have:=h.jV b hb;have:=h.lo;omega,(qG X r).below h.below h.below.size (fun b e=>by omega)⟩
section
structure CR (w X:aI) (O:Array aJ) (cs:List dY) (vs:List aJ) (fp:Fp):Prop where
 out:Bx X w.heap.size 44 O
 res:Bx X (w.heap.size+1) 44 #[ah aA 0,aj ak 0 0,aj ak 0 0,aj ak 0 0,aF aC,aF aC,ah aA 0,aj ak 0 0]
 own:gB X cs vs fp
 jV:∀ b,fp b->w.heap.size+1<b
 below:Below w.heap.size w X
theorem CR.put {w X Z: aI} {O: Array aJ} {cs: List dY} {vs: List aJ} {fp: Fp} {c: dY} {v: aJ} (h:CR w X O cs vs fp) (mW:Below X.heap.size X Z) (hw:eX (fun _=>False) Z X') (ho:dY.ow X' c v f) (hf:∀ b,f b->b=Z.heap.size) (i:Nat) :
  CR w X' O cs vs fp/\∃ fp',CR w (X'.setCell ⟨w.heap.size,i,ak⟩ v) (O.setIfInBounds i v) (cs++[c]) (vs++[v]) fp':=by
 have hb:Below X.heap.size X X':=hw.below mW mW.size (fun b h=>absurd h id)
 have hol:=h.res.lt;have hZ:=mW.size;have h1:CR w X' O cs vs fp:=⟨h.out.below hb,h.res.below hb,gG h.own hb,h.jV,eU h.below hb⟩;refine⟨h1,fun b=>fp b\/f b,h1.out.lK i v,h1.res.far (by omega) v,iy (nN h1.own (BO.2 ho) (fun b h2 h3=>by have:=jd h.own b h2;have:=hf b h3;omega)) (eX.set X' w.heap.size i v) (fun b hb e=>?_),fun b hb=>?_,h1.below.setCell (p:=⟨w.heap.size,i,ak⟩) (cO _) v⟩
 ·rcases hb with hb|hb
  ·have:=h.jV b hb;omega
  ·have:=hf b hb;omega
 ·rcases hb with hb|hb
  ·exact h.jV b hb
  ·have:=hf b hb;omega
theorem CR.ints {w X: aI} {O: Array aJ} {cs: List dY} {vs: List aJ} {fp: Fp} (h:CR w X O cs vs fp) {x: Option dH} {c: Nat} {l: List Int} (hv:Vec w x l.length l) (hl:l.length<=1000000) (i:Nat) (o:aJ) (hi:O[i]?=au o) (i0:TypeInfo) (hi0:Tryz.prog.info? 2=au i0) (hz0:i0.zero=au (ah aA 0)) (hz1:i0.size=1) (hz2:i0.bytes=8) :
  ∀ Z,Same Z (X.alloc (aH #[] 2))->∃ v' w4,(bU #[41,41] 41 #[aj (au ⟨X.heap.size,0,ak⟩) 0 0,aj x l.length c]).run dA Z=.ok v' w4 /\
   ∃ a' c',v'=aj a' l.length c'/\w4.cell? ⟨w.heap.size,i,ak⟩=au o/\w4.frozen? ⟨w.heap.size,i,ak⟩=aC/\∃ fp',CR w (w4.setCell ⟨w.heap.size,i,ak⟩ (aj a' l.length c')) (O.setIfInBounds i (aj a' l.length c')) (cs++[gJ l]) (vs++[aj a' l.length c']) fp':=by
 intro Z hZ;have mW:=(dX X _).trans (hZ.below.mono (dX X _).size);obtain⟨a6,c6,w6,KW,IL,IQ,hw6,DU⟩:=xU (P:=dA) (w:=Z) 41 41 2 i0 bG hi0 hz0 hz1 hz2 (kL X.heap.size 0) (x:=x) (c:=c) (hv.below (eU h.below mW) (cO _)) hl;obtain⟨h1,fp',h2⟩:=h.put mW hw6 IQ DU i;exact⟨_,w6,IL,a6,c6,rfl,h1.out.at i hi,h1.out.f i,fp',h2⟩
theorem CR.aH7 {w X: aI} {O: Array aJ} {cs: List dY} {vs: List aJ} {fp: Fp} (h:CR w X O cs vs fp) {x: Option dH} {c: Nat} {l: List (List UInt8)} (hv:yA w x l) (hl:l.length<=1000000) (i:Nat) (o:aJ) (hi:O[i]?=au o) (i0:TypeInfo) (hi0:Tryz.prog.info? 9=au i0) (hz0:i0.zero=au (.string ⟨#[]⟩)) (hz1:i0.size=1) (hz2:i0.bytes=16) :
  ∀ Z,Same Z (X.alloc (aH #[] 9))->∃ v' w4,(bU #[42,42] 42 #[aj (au ⟨X.heap.size,0,ak⟩) 0 0,aj x l.length c]).run dA Z=.ok v' w4 /\
   ∃ a' c',v'=aj a' l.length c'/\w4.cell? ⟨w.heap.size,i,ak⟩=au o/\w4.frozen? ⟨w.heap.size,i,ak⟩=aC/\∃ fp',CR w (w4.setCell ⟨w.heap.size,i,ak⟩ (aj a' l.length c')) (O.setIfInBounds i (aj a' l.length c')) (cs++[pO l]) (vs++[aj a' l.length c']) fp':=by
 intro Z hZ;have mW:=(dX X _).trans (hZ.below.mono (dX X _).size);obtain⟨a6,c6,w6,KW,IL,IQ,hw6,DU⟩:=Uj (P:=dA) (w:=Z) 42 42 9 i0 Tryz.underlying42 hi0 hz0 hz1 hz2 (kL X.heap.size 0) (x:=x) (c:=c) (hv.below (eU h.below mW)) (by omega)
 obtain⟨h1,fp',h2⟩:=h.put mW hw6 IQ DU i;exact⟨_,w6,IL,a6,c6,rfl,h1.out.at i hi,h1.out.f i,fp',h2⟩
attribute [local irreducible] sv
theorem yG (A:Ra) (r:Rw) (w:aI) (hv:qj w A r) (h1:r.txt.length<=1000000) (h2:r.got.length<=1000000) (h3:r.dQ.length<=1000000) (h4:r.dU.length<=1000000) :
  dF dA 76 #[iK A r] w fun e w'=>Nb w w' e r:=by
 obtain⟨i0,hi0,hz0,hz1,hz2⟩:=xW Tryz.info9;obtain⟨i2,hi2,hy0,hy1,hy2⟩:=jX Tryz.info2n;have HV:=dP hv
 have T0:CR w ((w.alloc (aH (fQ A r) 44)).alloc (aH #[ah aA 0,aj ak 0 0,aj ak 0 0,aj ak 0 0,aF aC,aF aC,ah aA 0,aj ak 0 0] 44)) (fQ A r) [] [] (fun _=>False):=by
  have x1:=Bx.new (w.alloc (aH (fQ A r) 44)) 44 #[ah aA 0,aj ak 0 0,aj ak 0 0,aj ak 0 0,aF aC,aF aC,ah aA 0,aj ak 0 0];rw[bH] at x1;exact⟨(Bx.new w _ _).alloc _,x1,⟨rfl,fun _ h=>h⟩,fun b h=>absurd h id,(dX w _).trans ((dX _ _).mono (dX w _).size)⟩
 obtain⟨ver,txt,got,dQ,wed,dV,dW,dU⟩:=r;obtain⟨ta,tc,ga,gc,sa,sc,ma,mc⟩:=A;unfold iK;unfold fQ at *;simp only at *
 generalize qP:(w.alloc (aH #[ah aA ver,aj ta txt.length tc,aj ga got.length gc,aj sa dQ.length sc,aF wed,aF dV,ah aA dW,aj ma dU.length mc] 44)).alloc (aH #[ah aA 0,aj ak 0 0,aj ak 0 0,aj ak 0 0,aF aC,aF aC,ah aA 0,aj ak 0 0] 44)=W at *;have hA:=T0.aH7 (x:=ta) (c:=tc) (l:=txt) HV.out.txt h1 1 (aj ta txt.length tc) rfl i0 hi0 hz0 hz1 hz2;have c1:W.cell? ⟨w.heap.size,1,ak⟩=au (aj ta txt.length tc):=T0.out.at 1 rfl;have d1:(W.alloc (aH #[] 9)).cell? ⟨w.heap.size,1,ak⟩=au (aj ta txt.length tc):=(T0.out.below (dX W (aH #[] 9))).at 1 rfl;clear T0;clear hv;go_enter Tryz.func76,Tryz.ntmps76
 go_upto_region 1 with fail
 go_upto_region 2 with (at_builtin;refine fG (by rfl) _ _ _ _ (by rfl) _ _ (by rfl) (by rfl) hA ⟨rfl,rfl,rfl,rfl⟩ ?_;rintro v1 w1 ⟨a1,e1,rfl,q1a,q1b,gU,hR1⟩;have HR1:aG (CR w (w1.setCell ⟨w.heap.size,1,ak⟩ (aj a1 txt.length e1)) (#[ah aA ver,aj ta txt.length tc,aj ga got.length gc,aj sa dQ.length sc,aF wed,aF dV,ah aA dW,aj ma dU.length mc].setIfInBounds 1 (aj a1 txt.length e1)) ([]++[pO txt]) ([]++[aj a1 txt.length e1]) gU):=hR1;clear hR1 hA c1 d1)
 clear q1a q1b;generalize w1.setCell ⟨w.heap.size,1,ak⟩ (aj a1 txt.length e1)=W1 at *;have T1:CR w W1 #[ah aA ver,aj a1 txt.length e1,aj ga got.length gc,aj sa dQ.length sc,aF wed,aF dV,ah aA dW,aj ma dU.length mc] ([]++[pO txt]) ([]++[aj a1 txt.length e1]) gU:=by simpa using HR1.out
 clear HR1;have hA:=T1.ints (x:=ga) (c:=gc) (l:=got) HV.out.got h2 2 (aj ga got.length gc) rfl i2 hi2 hy0 hy1 hy2;have c2:W1.cell? ⟨w.heap.size,2,ak⟩=au (aj ga got.length gc):=T1.out.at 2 rfl;have d2:(W1.alloc (aH #[] 2)).cell? ⟨w.heap.size,2,ak⟩=au (aj ga got.length gc):=(T1.out.below (dX W1 (aH #[] 2))).at 2 rfl;clear T1;go_upto_region 3 with (at_builtin;refine fG (by rfl) _ _ _ _ (by rfl) _ _ (by rfl) (by rfl) hA ⟨rfl,rfl,rfl,rfl⟩ ?_;rintro v2 w2 ⟨a2,e2,rfl,q2a,q2b,fp2,hR2⟩;have HR2:aG (CR w (w2.setCell ⟨w.heap.size,2,ak⟩ (aj a2 got.length e2)) (#[ah aA ver,aj a1 txt.length e1,aj ga got.length gc,aj sa dQ.length sc,aF wed,aF dV,ah aA dW,aj ma dU.length mc].setIfInBounds 2 (aj a2 got.length e2)) (([]++[pO txt])++[gJ got]) (([]++[aj a1 txt.length e1])++[aj a2 got.length e2]) fp2):=hR2;clear hR2 hA c2 d2)
 clear q2a q2b;generalize w2.setCell ⟨w.heap.size,2,ak⟩ (aj a2 got.length e2)=W2 at *;have T2:CR w W2 #[ah aA ver,aj a1 txt.length e1,aj a2 got.length e2,aj sa dQ.length sc,aF wed,aF dV,ah aA dW,aj ma dU.length mc] (([]++[pO txt])++[gJ got]) (([]++[aj a1 txt.length e1])++[aj a2 got.length e2]) fp2:=by simpa using HR2.out
 clear HR2;have hA:=T2.ints (x:=sa) (c:=sc) (l:=dQ) HV.out.dQ h3 3 (aj sa dQ.length sc) rfl i2 hi2 hy0 hy1 hy2;have c3:W2.cell? ⟨w.heap.size,3,ak⟩=au (aj sa dQ.length sc):=T2.out.at 3 rfl;have d3:(W2.alloc (aH #[] 2)).cell? ⟨w.heap.size,3,ak⟩=au (aj sa dQ.length sc):=(T2.out.below (dX W2 (aH #[] 2))).at 3 rfl;clear T2;go_upto_region 4 with (at_builtin;refine fG (by rfl) _ _ _ _ (by rfl) _ _ (by rfl) (by rfl) hA ⟨rfl,rfl,rfl,rfl⟩ ?_;rintro v3 w3 ⟨a3,e3,rfl,q3a,q3b,lq,VK⟩;have HR3:aG (CR w (w3.setCell ⟨w.heap.size,3,ak⟩ (aj a3 dQ.length e3)) (#[ah aA ver,aj a1 txt.length e1,aj a2 got.length e2,aj sa dQ.length sc,aF wed,aF dV,ah aA dW,aj ma dU.length mc].setIfInBounds 3 (aj a3 dQ.length e3)) ((([]++[pO txt])++[gJ got])++[gJ dQ]) ((([]++[aj a1 txt.length e1])++[aj a2 got.length e2])++[aj a3 dQ.length e3]) lq):=VK;clear VK hA c3 d3)
 clear q3a q3b;generalize w3.setCell ⟨w.heap.size,3,ak⟩ (aj a3 dQ.length e3)=W3 at *;have T3:CR w W3 #[ah aA ver,aj a1 txt.length e1,aj a2 got.length e2,aj a3 dQ.length e3,aF wed,aF dV,ah aA dW,aj ma dU.length mc] ((([]++[pO txt])++[gJ got])++[gJ dQ]) ((([]++[aj a1 txt.length e1])++[aj a2 got.length e2])++[aj a3 dQ.length e3]) lq:=by simpa using HR3.out
 clear HR3;have hA:=T3.ints (x:=ma) (c:=mc) (l:=dU) HV.out.dU h4 7 (aj ma dU.length mc) rfl i2 hi2 hy0 hy1 hy2;have c4:W3.cell? ⟨w.heap.size,7,ak⟩=au (aj ma dU.length mc):=T3.out.at 7 rfl;have d4:(W3.alloc (aH #[] 2)).cell? ⟨w.heap.size,7,ak⟩=au (aj ma dU.length mc):=(T3.out.below (dX W3 (aH #[] 2))).at 7 rfl;clear T3;go_upto_region 5 with (at_builtin;refine fG (by rfl) _ _ _ _ (by rfl) _ _ (by rfl) (by rfl) hA ⟨rfl,rfl,rfl,rfl⟩ ?_;rintro v4 w4 ⟨a4,e4,rfl,q4a,q4b,ED,VL⟩;have HR4:aG (CR w (w4.setCell ⟨w.heap.size,7,ak⟩ (aj a4 dU.length e4)) (#[ah aA ver,aj a1 txt.length e1,aj a2 got.length e2,aj a3 dQ.length e3,aF wed,aF dV,ah aA dW,aj ma dU.length mc].setIfInBounds 7 (aj a4 dU.length e4)) (((([]++[pO txt])++[gJ got])++[gJ dQ])++[gJ dU]) (((([]++[aj a1 txt.length e1])++[aj a2 got.length e2])++[aj a3 dQ.length e3])++[aj a4 dU.length e4]) ED):=VL;clear VL hA c4 d4)
 clear q4a q4b;generalize w4.setCell ⟨w.heap.size,7,ak⟩ (aj a4 dU.length e4)=W4 at *;have T4:CR w W4 #[ah aA ver,aj a1 txt.length e1,aj a2 got.length e2,aj a3 dQ.length e3,aF wed,aF dV,ah aA dW,aj a4 dU.length e4] (((([]++[pO txt])++[gJ got])++[gJ dQ])++[gJ dU]) (((([]++[aj a1 txt.length e1])++[aj a2 got.length e2])++[aj a3 dQ.length e3])++[aj a4 dU.length e4]) ED:=by simpa using HR4.out
 clear HR4;obtain⟨⟨o0,o1,o2,o3⟩,o4,o5,o6,o7⟩:=Bx.r8 T4.out;obtain⟨⟨r0,r1,r2,r3⟩,r4,r5,r6,r7⟩:=Bx.r8 T4.res;obtain⟨⟨f0,f1,f2,f3⟩,f4,f5,f6,f7⟩:=T4.res.f8;have HT:=dP T4;clear T4;go_wp2;refine bY (v:=aP #[ah aA ver,aj a1 txt.length e1,aj a2 got.length e2,aj a3 dQ.length e3,aF wed,aF dV,ah aA dW,aj a4 dU.length e4]) (by simp[results,Tryz.results76,go_sem, *]) rfl ?_
 refine⟨⟨a1,e1,a2,e2,a3,e3,a4,e4⟩,rfl,ED,iy HT.out.own (JK _ (w.heap.size+1)) (fun b hb e=>by have:=HT.out.jV b hb;omega),fun b hb=>by have:=HT.out.jV b hb;omega,(JK _ (w.heap.size+1)).below HT.out.below HT.out.below.size (fun b e=>by rw[e];omega)⟩
end
theorem Oi {hi:Int}:∀ {l:List Int} {lo:Int},l.Pairwise (·<·)->(∀ x∈l,lo<=x/\x<hi)->(l.length:Int)<=max 0 (hi-lo)
 | [],lo,_,_=>by simp;omega
 | x::l,lo,hp,h=>by
  have h1:=List.pairwise_cons.1 hp;have hx:=h x bF;have:=Oi (lo:=x+1) h1.2 (fun y hy=>⟨by have:=h1.1 y hy;omega,(h y (bC _ hy)).2⟩)
  simp only[bP]
  omega
theorem iR.sl (h:iR r n):r.dQ.length<=n:=by
 have:=Oi (lo:=0) (hi:=(n:Int)) (kZ.1 h.oL) h.dQ;omega
theorem iR.ml (h:iR r n):r.dU.length<=n:=by
 cases e:r.dV with
 | true=>have:=(h.dV e).2.2.2.1;omega
 | false=>rw[(h.not e).2];simp
def VN (r:Rw):Prop:=r.txt.length<=1000000/\r.got.length<=1000000/\r.dQ.length<=1000000/\r.dU.length<=1000000
theorem iR.ln (h:iR r n):VN r:=⟨by have:=h.tl;omega,by have:=h.gl;have:=h.n5;omega,by have:=h.sl;have:=h.n5;omega,by have:=h.ml;have:=h.n5;omega⟩
def LnM (m:Mb):Prop:=m.rows.length<=1000000/\m.dR.length<=1000000/\∀ r∈m.rows,VN r
theorem iO.rowOk {m: Mb} (h:iO m i n):∀ r∈m.rows,iR r n:=by
 intro r hr;obtain⟨j,hj,rfl⟩:=bg.1 hr;have:=h.ok j (by rw[<- h.len];exact hj)
 simpa[dO,List.getD,hj] using this
theorem iO.ln {m: Mb} (h:iO m i n):LnM m:=⟨by have:=h.len;have:=h.n5;omega,by have:=h.sl;omega,fun r hr=>(h.rowOk r hr).ln⟩
theorem Zi (w:aI) (A:Ma) (m:Mb):Bx (((w.alloc (aH (iq A m) 47)).alloc (aH #[ah aA 0,ah aA 0,aj ak 0 0,aj ak 0 0,aF aC] 47)).alloc (aH (iq A m) 47)) w.heap.size 47 (iq A m) /\
  Bx (((w.alloc (aH (iq A m) 47)).alloc (aH #[ah aA 0,ah aA 0,aj ak 0 0,aj ak 0 0,aF aC] 47)).alloc (aH (iq A m) 47)) (w.heap.size+1) 47 #[ah aA 0,ah aA 0,aj ak 0 0,aj ak 0 0,aF aC] /\
  Bx (((w.alloc (aH (iq A m) 47)).alloc (aH #[ah aA 0,ah aA 0,aj ak 0 0,aj ak 0 0,aF aC] 47)).alloc (aH (iq A m) 47)) (w.heap.size+1+1) 47 (iq A m) /\
  Below w.heap.size w (((w.alloc (aH (iq A m) 47)).alloc (aH #[ah aA 0,ah aA 0,aj ak 0 0,aj ak 0 0,aF aC] 47)).alloc (aH (iq A m) 47)):=by
 have x0:=((Bx.new w 47 (iq A m)).alloc (aH #[ah aA 0,ah aA 0,aj ak 0 0,aj ak 0 0,aF aC] 47)).alloc (aH (iq A m) 47);have x1:=(Bx.new (w.alloc (aH (iq A m) 47)) 47 #[ah aA 0,ah aA 0,aj ak 0 0,aj ak 0 0,aF aC]).alloc (aH (iq A m) 47);have x2:=Bx.new ((w.alloc (aH (iq A m) 47)).alloc (aH #[ah aA 0,ah aA 0,aj ak 0 0,aj ak 0 0,aF aC] 47)) 47 (iq A m);simp only[bH] at x1 x2;exact⟨x0,x1,x2,((dw _ _).alloc (cO _) _).alloc (by simp) _ |>.alloc (by simp only[bH];omega) _⟩
theorem al6 {w X: aI} {o: Nat} {A: Ma} {m: Mb} (ho:Bx X o 47 (iq A m)) (hlo:w.heap.size<=o) (hb:Below w.heap.size w X) (hv:Vec w A.sa m.dR.length m.dR) (hl:m.dR.length<=1000000) :
  ∀ Z,Same Z (X.alloc (aH #[] 2))->∃ v' w4,(bU #[41,41] 41 #[aj (au ⟨X.heap.size,0,ak⟩) 0 0,aj A.sa m.dR.length A.sc]).run dA Z=.ok v' w4 /\
   ∃ a' c',v'=aj a' m.dR.length c'/\w4.cell? ⟨o,3,ak⟩=au (aj A.sa m.dR.length A.sc)/\w4.frozen? ⟨o,3,ak⟩=aC /\
    ∃ W,W=w4.setCell ⟨o,3,ak⟩ (aj a' m.dR.length c')/\Below o X W/\W.cell? ⟨o,2,ak⟩=au (aj A.ra m.rows.length A.rc)/\W.frozen? ⟨o,2,ak⟩=aC/\Below o X ((W.alloc (aH #[] 44)).setCell ⟨o,2,ak⟩ (aj (au ⟨W.heap.size,0,ak⟩) 0 0))/\∃ fp,MO w ((W.alloc (aH #[] 44)).setCell ⟨o,2,ak⟩ (aj (au ⟨W.heap.size,0,ak⟩) 0 0)) o ⟨au ⟨W.heap.size,0,ak⟩,0,a',c'⟩ { m with rows:=[] } fp:=by
 intro Z hZ;obtain⟨i0,hi0,hz0,hz1,hz2⟩:=jX Tryz.info2n;have mW:=(dX X _).trans (hZ.below.mono (dX X _).size);obtain⟨a6,c6,w6,KW,IL,IQ,hw6,DU⟩:=xU (P:=dA) (w:=Z) 41 41 2 i0 bG hi0 hz0 hz1 hz2 (kL X.heap.size 0) (x:=A.sa) (c:=A.sc) (hv.below (eU hb mW) (cO _)) hl;have b6:Below X.heap.size X w6:=hw6.below mW mW.size (fun b h=>h.elim)
 have ho1:=ho.below b6;have hol:=ho.lt;have hZs:=mW.size;have ho2:=ho1.lK 3 (aj a6 m.dR.length c6);have b7:Below o X (w6.setCell ⟨o,3,ak⟩ (aj a6 m.dR.length c6)):=(b6.mono (by omega:o<=X.heap.size)).setCell (p:=⟨o,3,ak⟩) (cO _) _
 have k6:=dY.lJ IQ (eX.set w6 o 3 (aj a6 m.dR.length c6)) (fun b hb e=>by have:=DU b hb;omega)
 refine⟨_,w6,IL,a6,c6,rfl,ho1.at 3 rfl,ho1.f 3,_,rfl,b7, ?_⟩;generalize w6.setCell ⟨o,3,ak⟩ (aj a6 m.dR.length c6)=W at *;have ho3:=(ho2.alloc (aH #[] 44)).lK 2 (aj (au ⟨W.heap.size,0,ak⟩) 0 0);have b8:Below o X ((W.alloc (aH #[] 44)).setCell ⟨o,2,ak⟩ (aj (au ⟨W.heap.size,0,ak⟩) 0 0)):=(b7.alloc (by have:=ho2.lt;omega) _).setCell (p:=⟨o,2,ak⟩) (cO _) _
 have k7:=dY.lJ (dY.ig k6 (dX W (aH #[] 44))) (eX.set _ o 2 (aj (au ⟨W.heap.size,0,ak⟩) 0 0)) (fun b hb e=>by have:=DU b hb;omega)
 refine⟨ho2.at 2 rfl,ho2.f 2,b8,KW, ?_, ?_,fun b hb=>by have:=DU b hb;omega,hlo,(hb.mono (cO _)).trans (b8.mono hlo)⟩
 ·have e:((iq A m).setIfInBounds 3 (aj a6 m.dR.length c6)).setIfInBounds 2 (aj (au ⟨W.heap.size,0,ak⟩) 0 0)=iq ⟨au ⟨W.heap.size,0,ak⟩,0,a6,c6⟩ { m with rows:=[] }:=by simp[iq]
  rw[e] at ho3;exact ho3
 ·refine vT (pX (f1:=fun _=>False) (⟨au ⟨W.heap.size,0,ak⟩,0,[],ak,fun _=>False,rfl,iQ.nil _ _ (kL _ _),⟨rfl,fun _ h=>h⟩,fun _ _ h=>h,fun b=>by simp⟩:dY.ow _ (iH 8 jo []) (aj (au ⟨W.heap.size,0,ak⟩) 0 0) (fun _=>False)) (pX k7 (⟨rfl,fun _ h=>h⟩:gB _ [] [] (fun _=>False)) (fun _ _ h=>h)) (fun _ h=>h.elim)) (fun b=>by simp)
theorem VO (A:Ma) (m:Mb) (w:aI) (hv:yF w A m) (hln:LnM m) :
  dF dA 75 #[iU A m] w fun e w'=>Uw w w' e m:=by
 have gq:=iD;obtain⟨x0,x1,x2,hb0⟩:=Zi w A m;have HV:aG (yF w A m):=hv;obtain⟨id,n,rows,dR,done⟩:=m;obtain⟨ra,rc,sa,sc⟩:=A;have hA:=al6 x2 (by omega) hb0 HV.out.dR hln.2.1
 unfold iU;unfold iq at *;simp only at *
 generalize qP:((w.alloc (aH #[ah aA id,ah aA n,aj ra rows.length rc,aj sa dR.length sc,aF done] 47)).alloc (aH #[ah aA 0,ah aA 0,aj ak 0 0,aj ak 0 0,aF aC] 47)).alloc (aH #[ah aA id,ah aA n,aj ra rows.length rc,aj sa dR.length sc,aF done] 47)=W0 at *;have d3:(W0.alloc (aH #[] 2)).cell? ⟨w.heap.size,3,ak⟩=au (aj sa dR.length sc):=(x0.alloc (aH #[] 2)).at 3 rfl;have HX0:aG (Bx W0 w.heap.size 47 #[ah aA id,ah aA n,aj ra rows.length rc,aj sa dR.length sc,aF done]):=x0;have qH:aG (Bx W0 (w.heap.size+1) 47 #[ah aA 0,ah aA 0,aj ak 0 0,aj ak 0 0,aF aC]):=x1;clear hv x0 x1 x2;go_enter Tryz.func75,Tryz.ntmps75
 go_upto_region 2 with fail
 go_upto_region 3 with (at_builtin;refine fG (by rfl) _ _ _ _ (by rfl) _ _ (by rfl) (by rfl) hA ⟨rfl,rfl,rfl,rfl⟩ ?_;rintro v1 w1 ⟨a1,e1,rfl,q1,q2,W1,hW1,b7,q3,q4,b8,gU,hM1⟩;have fU:aG (∃ gU,MO w ((W1.alloc (aH #[] 44)).setCell ⟨w.heap.size+1+1,2,ak⟩ (aj (au ⟨W1.heap.size,0,ak⟩) 0 0)) (w.heap.size+1+1) ⟨au ⟨W1.heap.size,0,ak⟩,0,a1,e1⟩ ⟨id,n,[],dR,done⟩ gU):=⟨gU,hM1⟩;clear hM1 hA d3)
 rw[<- hW1]
 have t2:(W1.alloc (aH #[] 44)).cell? ⟨w.heap.size+1+1,2,ak⟩=au (aj ra rows.length rc):=by
  have:=(dX W1 (aH #[] 44)).cell (aX _ _ q3);exact this.trans q3
 have t3:(W1.alloc (aH #[] 44)).frozen? ⟨w.heap.size+1+1,2,ak⟩=aC:=by
  have e:=(dX W1 (aH #[] 44)).block (w.heap.size+1+1) (aX _ _ q3);simpa only[World.frozen?,e] using q4
 clear hW1 q1 q2;have l9:aG (Bx ((W1.alloc (aH #[] 44)).setCell ⟨w.heap.size+1+1,2,ak⟩ (aj (au ⟨W1.heap.size,0,ak⟩) 0 0)) w.heap.size 47 #[ah aA id,ah aA n,aj ra rows.length rc,aj sa dR.length sc,aF done]):=(b8.block w.heap.size (by omega)).trans HX0.out
 have BZ:aG (Bx ((W1.alloc (aH #[] 44)).setCell ⟨w.heap.size+1+1,2,ak⟩ (aj (au ⟨W1.heap.size,0,ak⟩) 0 0)) (w.heap.size+1) 47 #[ah aA 0,ah aA 0,aj ak 0 0,aj ak 0 0,aF aC]):=(b8.block (w.heap.size+1) (by omega)).trans qH.out
 clear HX0 qH b7 b8 hb0 qP;go_wp2_with fail
 generalize (W1.alloc (aH #[] 44)).setCell ⟨w.heap.size+1+1,2,ak⟩ (aj (au ⟨W1.heap.size,0,ak⟩) 0 0)=W2 at *;clear q3 q4 t2 t3
 go_loopw [4] (fun i wr=>∃ k:Nat,k<=rows.length/\i=ah aA (k:Int)/\∃ A R fp,aG (R=rows.take k)/\MO w wr (w.heap.size+1+1) A ⟨id,n,R,dR,done⟩ fp/\Bx wr w.heap.size 47 #[ah aA id,ah aA n,aj ra rows.length rc,aj sa dR.length sc,aF done]/\Bx wr (w.heap.size+1) 47 #[ah aA 0,ah aA 0,aj ak 0 0,aj ak 0 0,aF aC]) (fun i _=>rows.length-(dG i).toNat)
 case atStart =>
  obtain⟨fp2,hM2⟩:=fU.out;exact⟨0,cZ _,rfl,_,[],_,rfl,hM2,l9.out,BZ.out⟩
 case round =>
  obtain⟨k,hk,rfl,A,R,fp,hR,M,hpar,hres⟩:=hrel;have hrl:rows.length<=1000000:=hln.1;obtain⟨p0,p1,p2,p3,p4⟩:=Bx.r5 hpar;by_cases hlt:k<rows.length
  ·have k1:(k:Int)<rows.length:=by omega
   have k0:(0:Int)<=k:=by omega
   have hRl:R.length<=1000000:=by rw[hR.out,bM];omega
   obtain⟨g,off,Ak,hra,hc8,hrs⟩:=HV.out.row (k:=k) hlt;have hlr:=hln.2.2 _ (List.mem_of_getElem? (iV hlt));simp only at hra hrs hc8
   subst hra;have IU:=dP (hrs.below M.below);have zJ:=dP M.below;have BF:=dP hres;have Oj:=dP hpar;have HM:=dP M;have c2:wr.cell? ⟨w.heap.size+1+1,2,ak⟩=au (aj A.ra R.length A.rc):=M.own.at 2 rfl
   have KS:∀ X,X.cell? ⟨w.heap.size+1+1,2,ak⟩=au (aj A.ra R.length A.rc)->X.cell? ⟨w.heap.size,2,ak⟩=au (aj (au ⟨g,off,ak⟩) rows.length rc)->Below w.heap.size w X->(X.cell? ⟨w.heap.size+1+1,2,ak⟩=au (aj A.ra R.length A.rc)/\X.cell? ⟨w.heap.size,2,ak⟩=au (aj (au ⟨g,off,ak⟩) rows.length rc)/\X.cell? ⟨g,off+k*8,ak⟩=au (ah aA (dO rows k).ver)/\X.cell? ⟨g,off+k*8+1,ak⟩=au (aj Ak.ta (dO rows k).txt.length Ak.tc)/\X.cell? ⟨g,off+k*8+2,ak⟩=au (aj Ak.ga (dO rows k).got.length Ak.gc)/\X.cell? ⟨g,off+k*8+3,ak⟩=au (aj Ak.sa (dO rows k).dQ.length Ak.sc)/\X.cell? ⟨g,off+k*8+4,ak⟩=au (aF (dO rows k).wed)/\X.cell? ⟨g,off+k*8+5,ak⟩=au (aF (dO rows k).dV)/\X.cell? ⟨g,off+k*8+6,ak⟩=au (ah aA (dO rows k).dW)/\X.cell? ⟨g,off+k*8+7,ak⟩=au (aj Ak.ma (dO rows k).dU.length Ak.mc)):=fun X x1 x2 hX=>by
    obtain⟨⟨d0,d1,d2,d3⟩,d4,d5,d6,d7⟩:=hc8;have t:∀ x v,w.cell? x=au v->X.cell? x=au v:=fun x v h=>gy hX h
    exact⟨x1,x2,t _ _ d0,t _ _ d1,t _ _ d2,t _ _ d3,t _ _ d4,t _ _ d5,t _ _ d6,t _ _ d7⟩
   have KB:∀ X,Below wr.heap.size wr X->X.cell? ⟨w.heap.size+1+1,2,ak⟩=au (aj A.ra R.length A.rc)/\X.cell? ⟨w.heap.size,2,ak⟩=au (aj (au ⟨g,off,ak⟩) rows.length rc)/\Below w.heap.size w X:=fun X hX=>⟨gy hX c2,gy hX p2,eU zJ.out hX⟩
   have KK:=fun X hX=>KS X (KB X hX).1 (KB X hX).2.1 (KB X hX).2.2
   have hbd:=(Same.drewN wr 1).below;generalize hrr:dO rows k=r at *;have hRR:=dP hrr;clear hrr M hres hpar hc8 hrs c2 p0 p1 p3 p4;go_wp2_with fail
   refine lU (S:=fun X:aI=>X.cell? ⟨w.heap.size+1+1,2,ak⟩=au (aj A.ra R.length A.rc)/\X.cell? ⟨w.heap.size,2,ak⟩=au (aj (au ⟨g,off,ak⟩) rows.length rc)/\X.cell? ⟨g,off+k*8,ak⟩=au (ah aA r.ver)/\X.cell? ⟨g,off+k*8+1,ak⟩=au (aj Ak.ta r.txt.length Ak.tc)/\X.cell? ⟨g,off+k*8+2,ak⟩=au (aj Ak.ga r.got.length Ak.gc)/\X.cell? ⟨g,off+k*8+3,ak⟩=au (aj Ak.sa r.dQ.length Ak.sc)/\X.cell? ⟨g,off+k*8+4,ak⟩=au (aF r.wed)/\X.cell? ⟨g,off+k*8+5,ak⟩=au (aF r.dV)/\X.cell? ⟨g,off+k*8+6,ak⟩=au (ah aA r.dW)/\X.cell? ⟨g,off+k*8+7,ak⟩=au (aj Ak.ma r.dU.length Ak.mc)) 11 gq ((KK _ hbd)) fun hHeld=>?_
   refine fC (i:=0) rfl hHeld ?_;refine fC (i:=1) rfl hHeld ?_;refine fC (i:=2) rfl hHeld ?_;refine fC (i:=3) rfl hHeld ?_;refine fC (i:=4) rfl hHeld ?_;refine fC (i:=5) rfl hHeld ?_;refine fC (i:=6) rfl hHeld ?_;refine iJ (i:=7) rfl fun K hK=>?_
   go_simp
   go_at_call 76
   refine (yG Ak r wr.drew (IU.out.below hbd) hlr.1 hlr.2.1 hlr.2.2.1 hlr.2.2.2).mono ?_;rintro e w1 ⟨Ar,rfl,fr,hr1,hr2,hr3⟩;have hb1:=eU hbd hr3;have hA:=HM.out.push hb1 hr1 (fun b hb=>hr2 b hb) hRl
   have hb2:Below wr.heap.size wr (w1.alloc (aH (fQ Ar r) 44)):=hb1.trans ((dX w1 _).mono hb1.size);refine hK.out _ _ (KK _ hb1) (fun eP=>?_)
   clear hK hHeld;have hHeld:=eP;try simp only[iC]
   unfold iK;unfold fQ at hA hb2 ⊢;refine iJ (i:=8) rfl fun K hK=>?_
   go_simp;refine hK.out _ _ (KK _ hb2) (fun eP=>?_)
   clear hK hHeld;have hHeld:=eP;try simp only[iC]
   refine iJ (i:=9) rfl fun K hK=>?_
   refine jH (by rfl) _ _ _ _ (by rfl) (aj A.ra R.length A.rc) _ (by rfl) (by rfl) hA ⟨rfl,rfl,rfl,rfl⟩ ?_
   rintro v9 w4 ⟨a9,c9,rfl,q1,q2,b4,b5,fp9,vY⟩;have hK4:w4.cell? ⟨w.heap.size,2,ak⟩=au (aj (au ⟨g,off,ak⟩) rows.length rc):=(b4.cell (p:=⟨w.heap.size,2,ak⟩) (by show w.heap.size<w.heap.size+1+1;omega)).trans p2
   refine hK.out _ _ (KS _ q1 hK4 (zJ.out.trans (b4.mono (by omega)))) (fun eP=>?_)
   clear hK hHeld;have hHeld:=eP;try simp only[iC]
   refine fC (i:=10) rfl hHeld ?_;refine oV rfl fun K hK=>?_
   go_simp;refine hK.out _ _ ?_;have jL:=dP vY;have Dv:aG (Bx (w4.setCell ⟨w.heap.size+1+1,2,ak⟩ (aj a9 (R.length+1) c9)) (w.heap.size+1) 47 #[ah aA 0,ah aA 0,aj ak 0 0,aj ak 0 0,aF aC]):=(b5.block (w.heap.size+1) (Nat.lt_succ_self _)).trans BF.out;have IV:aG (Bx (w4.setCell ⟨w.heap.size+1+1,2,ak⟩ (aj a9 (R.length+1) c9)) w.heap.size 47 #[ah aA id,ah aA n,aj (au ⟨g,off,ak⟩) rows.length rc,aj sa dR.length sc,aF done]):=(b5.block w.heap.size (by omega)).trans Oj.out
   have EF:aG (R++[r]=rows.take (k+1)):=by
    rw[aG,hR.out,<- hRR.out,aQ hlt];simp[dO,List.getD,hlt]
   clear vY hA hr1 hr2 hr3 KS KB KK;generalize w4.setCell ⟨w.heap.size+1+1,2,ak⟩ (aj a9 (R.length+1) c9)=W9 at *;clear hb1 hb2 hbd q1 q2 b4 b5 hHeld hK4 p2;go_wp2;go_roundw
   case rel=>exact⟨k+1,by omega,by go_num,_,_,_,EF,jL.out,IV.out,Dv.out⟩
   case measure=>simp[dG];omega
  ·have k1:¬ ((k:Int)<rows.length):=by omega
   have HRN:aG (R=rows):=by rw[aG,hR.out,aY (by omega)]
   have hRl:aG (R.length=rows.length):=by rw[aG,HRN.out]
   obtain⟨o0,o1,o2,o3,o4⟩:=Bx.r5 M.own;obtain⟨r0,r1,r2,r3,r4⟩:=Bx.r5 hres;obtain⟨f0,f1,f2,f3,f4⟩:=hres.f5;have HA:aG (kE w (((((wr.setCell ⟨w.heap.size+1,0,ak⟩ (ah aA id)).setCell ⟨w.heap.size+1,1,ak⟩ (ah aA n)).setCell ⟨w.heap.size+1,2,ak⟩ (aj A.ra R.length A.rc)).setCell ⟨w.heap.size+1,3,ak⟩ (aj A.sa dR.length A.sc)).setCell ⟨w.heap.size+1,4,ak⟩ (aF done)) (jB ⟨id,n,R,dR,done⟩) (jC A ⟨id,n,R,dR,done⟩)):=M.ans (Nat.le_succ _) (Nat.le_succ _);clear M hres hR hpar;go_wp2;refine bY (v:=iU A ⟨id,n,R,dR,done⟩) (by simp[results,Tryz.results75,go_sem,iU,iq, *]) rfl ?_
   rw[<- HRN.out];exact⟨_,rfl,HA.out⟩
theorem iR.fit (h:iR r n):qo r:=by
 have h5:=h.n5
 have ok:∀ v,okB v=aB->Fits v:=fun v h1 x hx=>by
  simp only[okB,bI,decide_eq_true_eq,bJ] at h1;have:=iZ.1 (h1.2 x hx);omega
 refine⟨ok _ h.got,fun x hx=>by have:=h.dQ x hx;omega, ?_⟩
 cases e:r.dV with
 | true=>exact ok _ (h.dV e).2.2.1
 | false=>rw[(h.not e).2];exact fun x hx=>absurd hx List.not_mem_nil
theorem iO.fit {m: Mb} (h : iO m i n) : nG m := ⟨fun r hr => (h.rowOk r hr).fit,fun x hx => by
 obtain⟨j,hj,rfl⟩:=bg.1 hx;have:=(h.sg j hj).1;simp[el,hj] at this
 omega⟩
def C5 (w:aI) (B o:Nat) (x0 x1 x2 x3 x4:aJ):Prop:=w.cell? ⟨B,o,ak⟩=au x0/\w.cell? ⟨B,o+1,ak⟩=au x1/\w.cell? ⟨B,o+2,ak⟩=au x2/\w.cell? ⟨B,o+3,ak⟩=au x3/\w.cell? ⟨B,o+4,ak⟩=au x4
structure Mw (w X:aI) (B o:Nat) (m:Mb) (fp:Fp) (g off c:Nat):Prop where
 iw:fH w X B o (jY m) fp
 rws:X.cell? ⟨B,o+2,ak⟩=au (aj (au ⟨g,off,ak⟩) m.rows.length c)
theorem Mw.start {w: aI} {o: Nat} {m: Mb} {fp: Fp} (h:iP w B o (jY m) fp) (hn:0<m.rows.length):∃ g off c,Mw w w B o m fp g off c:=by
 obtain⟨g,off,c,f,h1,_⟩:=h.el (F:=jo) jU (by omega) (j:=2) (L:=m.rows) rfl (iV hn)
 exact⟨g,off,c,fH.refl h,h1⟩
theorem Mw.step {w X: aI} {o: Nat} {m: Mb} {fp: Fp} {g c: Nat} (h:Mw w X B o m fp g off c) (hb:Below X.heap.size X X'):Mw w X' B o m fp g off c:=⟨h.iw.below hb,gy hb h.rws⟩
theorem Mw.box {w X: aI} {o: Nat} {m: Mb} {fp: Fp} {g c: Nat} (h:Mw w X B o m fp g off c) (hf:nG m):∃ sa sc,C5 X B o (ah aA m.id) (ah aA m.n) (aj (au ⟨g,off,ak⟩) m.rows.length c) (aj sa m.dR.length sc) (aF m.done)/\yF X ⟨au ⟨g,off,ak⟩,c,sa,sc⟩ m:=by
 obtain⟨gU,hp,_⟩:=h.iw.next;have hv:=hp.pv;obtain⟨u0,c0,rfl⟩:=hv.at (j:=0) rfl;obtain⟨u1,c1,rfl⟩:=hv.at (j:=1) rfl;obtain⟨u2,c2,v2⟩:=hv.at (j:=2) rfl;obtain⟨u3,c3,v3⟩:=hv.at (j:=3) rfl;obtain⟨u4,c4,rfl⟩:=hv.at (j:=4) rfl;have e2:=bT (c2.symm.trans h.rws);subst e2;obtain⟨sa,sc,rfl,s1,s2,s3⟩:=l7 v3 hf.2;have k:=v2;obtain⟨_,_,_,e,k1,k2,_⟩:=k
 cases e
 exact⟨sa,sc,⟨c0,c1,c2,c3,c4⟩,v2,s1,by omega,by omega,hf.1⟩
theorem Mw.id' {w X: aI} {o: Nat} {m: Mb} {fp: Fp} {g c: Nat} (h:Mw w X B o m fp g off c):X.cell? ⟨B,o,ak⟩=au (ah aA m.id)/\X.cell? ⟨B,o+1,ak⟩=au (ah aA m.n)/\X.cell? ⟨B,o+4,ak⟩=au (aF m.done):=by
 obtain⟨gU,hp,_⟩:=h.iw.next;have hv:=hp.pv;obtain⟨u0,c0,rfl⟩:=hv.at (j:=0) rfl;obtain⟨u1,c1,rfl⟩:=hv.at (j:=1) rfl;obtain⟨u4,c4,rfl⟩:=hv.at (j:=4) rfl;exact⟨c0,c1,c4⟩
theorem Mw.row {w X:aI} {B o:Nat} {m:Mb} {fp:Fp} {g off c:Nat} (h:Mw w X B o m fp g off c) (hf:nG m) {k:Nat} (hk:k<m.rows.length):∃ Ak:Ra,C8 X g (off+k*8) (ah aA (dO m.rows k).ver) (aj Ak.ta (dO m.rows k).txt.length Ak.tc) (aj Ak.ga (dO m.rows k).got.length Ak.gc) (aj Ak.sa (dO m.rows k).dQ.length Ak.sc) (aF (dO m.rows k).wed) (aF (dO m.rows k).dV) (ah aA (dO m.rows k).dW) (aj Ak.ma (dO m.rows k).dU.length Ak.mc)/\qj X Ak (dO m.rows k):=by
 obtain⟨sa,sc,_,h2⟩:=h.box hf;obtain⟨g',off',Ak,e,h3,h4⟩:=h2.row hk
 cases e
 exact⟨Ak,h3,h4⟩
theorem Mw.at {w X:aI} {B o:Nat} {m:Mb} {fp:Fp} {g off c:Nat} (h:Mw w X B o m fp g off c) {k:Nat} (hk:k<m.rows.length) {j:Nat} {cl:dY} (hj:(jo (dO m.rows k))[j]?=au cl):∃ u f,X.cell? ⟨g,off+k*8+j,ak⟩=au u/\X.frozen? ⟨g,off+k*8+j,ak⟩=aC/\dY.ow X cl u f/\(∀ b,f b->b<X.heap.size) /\
  ∀ (X1:aI) (c':dY) (u':aJ) (f':Fp) (r':Rw),(jo (dO m.rows k)).set j c'=jo r'->eX f X X1->dY.ow X1 c' u' f'->(∀ b,f' b->f b\/X.heap.size<=b)->X1.cell? ⟨g,off+k*8+j,ak⟩=au u/\X1.frozen? ⟨g,off+k*8+j,ak⟩=aC/\Mw w (X1.setCell ⟨g,off+k*8+j,ak⟩ u') B o { m with rows:=m.rows.set k r' } fp g off c/\(u'=u->Mw w X1 B o { m with rows:=m.rows.set k r' } fp g off c):=by
 obtain⟨gU,hp,hf1,hgo⟩:=h.iw.next;obtain⟨g',off',c',f,h1,hgB,hfg,hfs,hpl,hput⟩:=hp.el (F:=jo) jU (by omega) (j:=2) (L:=m.rows) rfl (iV hk)
 have e:=bT (h1.symm.trans h.rws)
 cases e
 obtain⟨u,fj,hu,hfz,hc,hsub,hnB,hset⟩:=hpl.at hj;have IW:=hp.lt;refine⟨u,fj,hu,hfz,hc,dY.kW hc,fun X1 c' u' f' r' er hw hc' hf'=>?_⟩
 obtain⟨k1,k2,k3,k4⟩:=hset X1 c' u' f' hw hc' hf';rw[er] at k3 k4;have VP:¬ fj B:=fun hb=>hp.nB (hfs B (hsub B hb))
 have hr1:X1.cell? ⟨B,o+2,ak⟩=au (aj (au ⟨g,off,ak⟩) m.rows.length c):=(bf (hw.block B IW VP)).trans h.rws;have key:∀ Z,fH X Z g (off+k*8) (jo r') f->fH w Z B o (jY { m with rows:=m.rows.set k r' }) fp:=fun Z hZ=>hgo Z _ rfl (hput Z r' hZ)
 refine⟨k1,k2,⟨key _ k3, ?_⟩,fun e=>⟨key _ (k4 e), ?_⟩⟩
 ·rw[World.cell?_setCell_other _ _ _ _ (by simp only[ne_eq,Addr.mk.injEq,not_and];intro e;exact absurd e hgB),hr1]
  simp
 ·rw[hr1];simp
theorem Mw.put {w X: aI} {o: Nat} {m: Mb} {fp: Fp} {g c: Nat} (h:Mw w X B o m fp g off c) (hk:k<m.rows.length) {y: aJ} (hj:(jo (dO m.rows k))[j]?=au (.v x)) {r': Rw} (er:(jo (dO m.rows k)).set j (.v y)=jo r') :
  X.cell? ⟨g,off+k*8+j,ak⟩=au x/\X.frozen? ⟨g,off+k*8+j,ak⟩=aC/\Mw w (X.setCell ⟨g,off+k*8+j,ak⟩ y) B o { m with rows:=m.rows.set k r' } fp g off c:=by
 obtain⟨u,f,h1,h2,⟨rfl,h3⟩,_,h4⟩:=h.at hk hj;exact⟨h1,h2,(h4 X (.v y) y (fun _=>False) r' er (eX.refl _ _) ⟨rfl,fun _ h=>h⟩ (fun b hb=>hb.elim)).2.2.1⟩
theorem Mw.KX {w X: aI} {o: Nat} {m: Mb} {fp: Fp} {g c: Nat} (h:Mw w X B o m fp g off c) {cl: dY} (hj:(jY m)[j]?=au cl) (hj2:j≠2):∃ u f,X.cell? ⟨B,o+j,ak⟩=au u/\X.frozen? ⟨B,o+j,ak⟩=aC/\dY.ow X cl u f/\(∀ b,f b->b<X.heap.size) /\
  ∀ (X1:aI) (c':dY) (u':aJ) (f':Fp) (m':Mb),(jY m).set j c'=jY m'->m'.rows.length=m.rows.length->eX f X X1->dY.ow X1 c' u' f'->(∀ b,f' b->f b\/X.heap.size<=b)->X1.cell? ⟨B,o+j,ak⟩=au u/\X1.frozen? ⟨B,o+j,ak⟩=aC/\Mw w (X1.setCell ⟨B,o+j,ak⟩ u') B o m' fp g off c:=by
 obtain⟨gU,hp,hf1,hgo⟩:=h.iw.next;obtain⟨u,fj,hu,hfz,hc,hsub,hnB,hset⟩:=hp.at hj;refine⟨u,fj,hu,hfz,hc,dY.kW hc,fun X1 c' u' f' m' er hl hw hc' hf'=>?_⟩
 obtain⟨k1,k2,k3,k4⟩:=hset X1 c' u' f' hw hc' hf';rw[er] at k3;refine⟨k1,k2,hgo _ _ rfl k3, ?_⟩;rw[World.cell?_setCell_other _ _ _ _ (by simp only[ne_eq,Addr.mk.injEq,not_and];intro _ e;omega),bf (hw.block B hp.lt hnB),h.rws,hl]
def vZ (L:List Bool):dY:=.sl 1 L.length (pl (L.map Value.bool))
def IX (w:aI) (a:Option dH) (L:List Bool):Prop:=L.length=0\/∃ b off,a=au ⟨b,off,ak⟩/\∀ i,i<L.length->w.cell? ⟨b,off+i,ak⟩=au (aF (L.getD i aC))
theorem IX.below {w: aI} {a: Option dH} (h:IX w a L) (hb:Below w.heap.size w w'):IX w' a L:=by
 rcases h with h|⟨b,off,ha,hc⟩
 ·exact .inl h
 ·exact .inr ⟨b,off,ha,fun i hi=>(hb.cell (aX _ _ (hc i hi))).trans (hc i hi)⟩
theorem IY {w: aI} {fp: Fp}:dY.ow w (vZ L) u fp↔∃ a c G,u=aj a L.length c/\iQ w 1 a L.length c (L.map Value.bool) G/\∀ b,fp b↔G=au b:=by
 constructor
 ·rintro⟨a,c,us,G,f,rfl,ho,hl,hn,hf⟩
  obtain⟨rfl,h0⟩:=rM.1 hl;exact⟨a,c,G,rfl,ho,fun b=>(hf b).trans ⟨fun h=>h.elim id (fun h=>absurd h (h0 b)),.inl⟩⟩
 ·rintro⟨a,c,G,rfl,ho,hf⟩
  exact⟨a,c,_,G,fun _=>False,rfl,ho,rM.2 ⟨rfl,fun _ h=>h⟩,fun _ _ h=>h,fun b=>(hf b).trans ⟨.inl,fun h=>h.elim id False.elim⟩⟩
theorem VQ {w: aI} (h:dY.vw w (vZ L) u):∃ a c,u=aj a L.length c/\IX w a L/\L.length<=c/\c<=dD:=by
 obtain⟨a,c,us,rfl,h1,h2,h3,h,hl⟩:=h;have e:=Ej.1 hl;subst e;refine⟨a,c,rfl, ?_,h1,h2⟩;rcases h with h|⟨b,off,ha,hc⟩
 ·exact .inl h
 ·refine .inr ⟨b,off,ha,fun i hi=>?_⟩
  rw[hc i (by omega)]
  simp[List.getD,hi]
def kS (x:Ml):List dY:=.v (ah aA x.fr)::.v (ah aA x.to)::jo x.row
theorem rD (x:Ml):(kS x).length=10:=rfl
structure Ga where
 ma:Option dH
 mc:Nat
 ua:Option dH
 uc:Nat
 la:Option dH
 lc:Nat
def iW (A:Ga) (g:Gr):Array aJ:=#[aj A.ma g.mem.length A.mc,aj A.ua g.up.length A.uc,aj A.la g.dS.length A.lc]
def gX (A:Ga) (g:Gr):aJ:=.agg (iW A g)
def fZ (g:Gr):List dY:=[iH 5 jY g.mem,vZ g.up,iH 10 kS g.dS]
def jm (A:Ga) (g:Gr):List aJ:=[aj A.ma g.mem.length A.mc,aj A.ua g.up.length A.uc,aj A.la g.dS.length A.lc]
def EG (g:Gr):Prop:=(∀ m∈g.mem,nG m)/\∀ x∈g.dS,qo x.row
structure wZ (w:aI) (A:Ga) (g:Gr):Prop where
 mem:dY.vw w (iH 5 jY g.mem) (aj A.ma g.mem.length A.mc)
 up:IX w A.ua g.up
 dS:dY.vw w (iH 10 kS g.dS) (aj A.la g.dS.length A.lc)
 lm:g.mem.length<=dD
 lu:g.up.length<=dD
 ll:g.dS.length<=dD
 fit:EG g
theorem wZ.below {w: aI} {A: Ga} {g: Gr} (h:wZ w A g) (hb:Below w.heap.size w w'):wZ w' A g:=⟨dY.Dn h.mem hb,h.up.below hb,dY.Dn h.dS hb,h.lm,h.lu,h.ll,h.fit⟩
theorem Ol {w: aI} {A: Ga} {g: Gr} (h:Az w (fZ g) (jm A g)) (hf:EG g):wZ w A g:=by
 obtain⟨u1,vW,e1,h1,h2⟩:=h
 cases e1
 obtain⟨u2,wY,e2,h3,h4⟩:=h2
 cases e2
 obtain⟨u3,Es,e3,h5,_⟩:=h4
 cases e3
 obtain⟨a,c,e,k1,k2,k3⟩:=VQ h3
 cases e
 have l1:=h1;obtain⟨_,_,_,e,m1,m2,_⟩:=l1
 cases e
 have l5:=h5;obtain⟨_,_,_,e,n1,n2,_⟩:=l5
 cases e
 exact⟨h1,k1,h5,by omega,by omega,by omega,hf⟩
theorem Pv.mem {w: aI} {o: Nat} {m: Mb} (h:Pv w b o (jY m)) (hf:nG m):∃ A:Ma,C5 w b o (ah aA m.id) (ah aA m.n) (aj A.ra m.rows.length A.rc) (aj A.sa m.dR.length A.sc) (aF m.done)/\yF w A m:=by
 obtain⟨u0,c0,rfl⟩:=h.at (j:=0) rfl;obtain⟨u1,c1,rfl⟩:=h.at (j:=1) rfl;obtain⟨u2,c2,v2⟩:=h.at (j:=2) rfl;obtain⟨u3,c3,v3⟩:=h.at (j:=3) rfl;obtain⟨u4,c4,rfl⟩:=h.at (j:=4) rfl;have k2:=v2;obtain⟨ra,rc,_,rfl,r1,r2,_⟩:=k2;obtain⟨sa,sc,rfl,s1,s2,s3⟩:=l7 v3 hf.2;exact⟨⟨ra,rc,sa,sc⟩,⟨c0,c1,c2,c3,c4⟩,v2,s1,by omega,by omega,hf.1⟩
theorem rX {g: Gr} (hk:k<g.mem.length):g.mem[k]?=au (eF g k):=by simp[eF,List.getD,hk]
theorem wZ.member {w: aI} {A: Ga} {g: Gr} (h:wZ w A g) (hk:k<g.mem.length):∃ b off Ak,A.ma=au ⟨b,off,ak⟩/\C5 w b (off+k*5) (ah aA (eF g k).id) (ah aA (eF g k).n) (aj Ak.ra (eF g k).rows.length Ak.rc) (aj Ak.sa (eF g k).dR.length Ak.sc) (aF (eF g k).done)/\yF w Ak (eF g k):=by
 obtain⟨b,off,h1,h2⟩:=IE uz h.mem (rX hk);obtain⟨Ak,h3,h4⟩:=h2.mem (h.fit.1 _ (List.mem_of_getElem? (rX hk)));exact⟨b,off,Ak,h1,h3,h4⟩
theorem nH {g: Gr} (hk:k<g.dS.length):g.dS[k]?=au (fF g k):=by simp[fF,List.getD,hk]
theorem Pv.dS {w: aI} {o: Nat} {x: Ml} (h:Pv w b o (kS x)) (hf:qo x.row):∃ A:Ra,w.cell? ⟨b,o,ak⟩=au (ah aA x.fr)/\w.cell? ⟨b,o+1,ak⟩=au (ah aA x.to)/\C8 w b (o+2) (ah aA x.row.ver) (aj A.ta x.row.txt.length A.tc) (aj A.ga x.row.got.length A.gc) (aj A.sa x.row.dQ.length A.sc) (aF x.row.wed) (aF x.row.dV) (ah aA x.row.dW) (aj A.ma x.row.dU.length A.mc)/\qj w A x.row:=by
 obtain⟨u0,c0,rfl⟩:=h.at (j:=0) rfl;obtain⟨u1,c1,rfl⟩:=h.at (j:=1) rfl
 have hp:Pv w b (o+2) (jo x.row):=by
  obtain⟨vs,h1,h2⟩:=h;obtain⟨v0,vs0,rfl,_,h3⟩:=h2;obtain⟨v1,vs1,rfl,_,h4⟩:=h3;refine⟨vs1,fun j hj=>?_,h4⟩
  have:=h1 (j+2) (by simp;omega)
  rw[show o+2+j=o+(j+2) by omega,this]
  rfl
 obtain⟨A,h3,h4⟩:=hp.row hf;exact⟨A,c0,c1,h3,h4⟩
theorem wZ.letter {w: aI} {A: Ga} {g: Gr} (h:wZ w A g) (hk:k<g.dS.length):∃ b off Ak,A.la=au ⟨b,off,ak⟩/\w.cell? ⟨b,off+k*10,ak⟩=au (ah aA (fF g k).fr)/\w.cell? ⟨b,off+k*10+1,ak⟩=au (ah aA (fF g k).to)/\C8 w b (off+k*10+2) (ah aA (fF g k).row.ver) (aj Ak.ta (fF g k).row.txt.length Ak.tc) (aj Ak.ga (fF g k).row.got.length Ak.gc) (aj Ak.sa (fF g k).row.dQ.length Ak.sc) (aF (fF g k).row.wed) (aF (fF g k).row.dV) (ah aA (fF g k).row.dW) (aj Ak.ma (fF g k).row.dU.length Ak.mc)/\qj w Ak (fF g k).row:=by
 obtain⟨b,off,h1,h2⟩:=IE rD h.dS (nH hk);obtain⟨Ak,h3,h4,h5,h6⟩:=h2.dS (h.fit.2 _ (List.mem_of_getElem? (nH hk)));exact⟨b,off,Ak,h1,h3,h4,h5,h6⟩
structure Gw (w X:aI) (B o:Nat) (g:Gr) (fp:Fp) (b off c:Nat):Prop where
 iw:fH w X B o (fZ g) fp
 mem:X.cell? ⟨B,o,ak⟩=au (aj (au ⟨b,off,ak⟩) g.mem.length c)
theorem Gw.start {w: aI} {o: Nat} {g: Gr} {fp: Fp} (h:iP w B o (fZ g) fp) (hn:0<g.mem.length):∃ b off c,Gw w w B o g fp b off c:=by
 obtain⟨b,off,c,f,h1,_⟩:=h.el (F:=jY) uz (by omega) (j:=0) (L:=g.mem) rfl (rX hn)
 exact⟨b,off,c,fH.refl h,h1⟩
theorem Gw.step {w X: aI} {o: Nat} {g: Gr} {fp: Fp} {c: Nat} (h:Gw w X B o g fp b off c) (hb:Below X.heap.size X X'):Gw w X' B o g fp b off c:=⟨h.iw.below hb,gy hb h.mem⟩
theorem Gw.mb {w X: aI} {o: Nat} {g: Gr} {fp: Fp} {c: Nat} (h:Gw w X B o g fp b off c) (hk:k<g.mem.length):∃ f,iP X b (off+k*5) (jY (eF g k)) f /\
  ∀ (X1:aI) (m':Mb),fH X X1 b (off+k*5) (jY m') f->Gw w X1 B o { g with mem:=g.mem.set k m' } fp b off c:=by
 obtain⟨gU,hp,hf1,hgo⟩:=h.iw.next;obtain⟨b',off',c',f,h1,hgB,hfg,hfs,hpl,hput⟩:=hp.el (F:=jY) uz (by omega) (j:=0) (L:=g.mem) rfl (rX hk)
 have e:=bT (h1.symm.trans h.mem)
 cases e
 refine⟨f,hpl,fun X1 m' hb=>⟨hgo _ (fZ { g with mem:=g.mem.set k m' }) rfl (hput X1 m' hb), ?_⟩⟩
 have hn:¬ (f B\/B=b):=by
  rintro (h2|h2)
  ·obtain⟨_,_,_,h3⟩:=hp
   exact h3 (hfs B h2)
  ·exact hgB h2.symm
 have hbk:=hb.wrt.block B hp.lt hn;simp only[bQ]
 exact (bf hbk).trans h.mem
theorem Gw.rd {w X: aI} {o: Nat} {g: Gr} {fp: Fp} {c: Nat} (h:Gw w X B o g fp b off c) (hf:EG g):∃ ua uc la lc,X.cell? ⟨B,o+1,ak⟩=au (aj ua g.up.length uc)/\X.cell? ⟨B,o+2,ak⟩=au (aj la g.dS.length lc)/\wZ X ⟨au ⟨b,off,ak⟩,c,ua,uc,la,lc⟩ g:=by
 obtain⟨gU,hp,_⟩:=h.iw.next;have hv:=hp.pv;obtain⟨u0,c0,v0⟩:=hv.at (j:=0) rfl;obtain⟨u1,c1,v1⟩:=hv.at (j:=1) rfl;obtain⟨u2,c2,v2⟩:=hv.at (j:=2) rfl;have e0:=bT (c0.symm.trans h.mem);subst e0;obtain⟨ua,uc,rfl,s1,s2,s3⟩:=VQ v1;have k:=v0;obtain⟨_,_,_,e,k1,k2,_⟩:=k
 cases e
 have l:=v2;obtain⟨la,lc,_,rfl,l1,l2,_⟩:=l;exact⟨ua,uc,la,lc,c1,c2,v0,s1,v2,by omega,by omega,by omega,hf⟩
theorem IZ {w: aI} {T: List (List UInt8)} (t:List UInt8) (h:dY.ow w (pO T) u f) (hl:T.length<=1000000):∃ a c,u=aj a T.length c/\∀ Y,Same Y (w.alloc (aH #[aN (sv t)] 9)) ->
  ∃ v' w4,(bU #[42,42] 42 #[u,aj (au ⟨w.heap.size,0,ak⟩) 1 1]).run dA Y=.ok v' w4/\∃ a' c' f',v'=aj a' (T.length+1) c'/\dY.ow w4 (pO (T++[t])) v' f'/\(∀ b,f' b->f b\/w.heap.size<=b)/\eX f w w4:=by
 obtain⟨i0,hi0,hz0,hz1,hz2⟩:=xW Tryz.info9;have h':=h;obtain⟨a,c,G,rfl,ho,hf⟩:=uN.1 h';refine⟨a,c,rfl,fun Y hY=>?_⟩
 have lg:=(dX w _).trans (hY.below.mono (dX w _).size);have hlt:=dY.kW h;obtain⟨a',c',w4,fp',k1,k2,k3,k4⟩:=JI (P:=dA) (w:=Y) 42 42 9 i0 _ 1 16 Tryz.underlying42 hi0 hz0 hz1 hz2 rfl (by omega) (dY.ig h lg) (rM (vs:=[aN (sv t)]).2 ⟨rfl,fun (b:Nat) (h:False)=>h⟩:gB Y (pl [aN (sv t)]) [aN (sv t)] (fun _=>False)) (fun _ _ h=>h) rfl (by intro u hu;simp at hu;rw[hu];rfl) w.heap.size 9 (by rw[hY.heap];exact heap_alloc_new w _) (by unfold dD;omega) (by omega)
 refine⟨_,w4,k1,a',c',fp',rfl, ?_,fun b hb=>?_,(eX.of_below (f:=f) lg).trans k3 (fun _ _ h=>h)⟩
 ·have e:pO (T++[t])=.sl 1 (T.length+1) (pl (sD T)++pl [aN (sv t)]):=by simp[pO,sD,pl]
  rw[e];exact k2
 ·rcases k4 b hb with k|k|k
  ·exact .inl k
  ·exact k.elim
  ·exact .inr (by have:=lg.size;omega)
theorem nP {w: aI} (t:Int) (h:dY.ow w (gJ T) u f) (hl:T.length<=1000000):∃ a c,u=aj a T.length c/\∀ Y,Same Y (w.alloc (aH #[ah aA t] 2)) ->
  ∃ v' w4,(bU #[41,41] 41 #[u,aj (au ⟨w.heap.size,0,ak⟩) 1 1]).run dA Y=.ok v' w4/\∃ a' c' f',v'=aj a' (T.length+1) c'/\dY.ow w4 (gJ (T++[t])) v' f'/\(∀ b,f' b->f b\/w.heap.size<=b)/\eX f w w4:=by
 obtain⟨i0,hi0,hz0,hz1,hz2⟩:=jX Tryz.info2n;have h':=h;obtain⟨a,c,G,rfl,ho,hf⟩:=je.1 h';refine⟨a,c,rfl,fun Y hY=>?_⟩
 have lg:=(dX w _).trans (hY.below.mono (dX w _).size);obtain⟨a',c',w4,fp',k1,k2,k3,k4⟩:=JI (P:=dA) (w:=Y) 41 41 2 i0 _ 1 8 bG hi0 hz0 hz1 hz2 rfl (by omega) (dY.ig h lg) (rM (vs:=[ah aA t]).2 ⟨rfl,fun (b:Nat) (h:False)=>h⟩:gB Y (pl [ah aA t]) [ah aA t] (fun _=>False)) (fun _ _ h=>h) rfl (by intro u hu;simp at hu;rw[hu];rfl) w.heap.size 2 (by rw[hY.heap];exact heap_alloc_new w _) (by unfold dD;omega) (by omega)
 refine⟨_,w4,k1,a',c',fp',rfl, ?_,fun b hb=>?_,(eX.of_below (f:=f) lg).trans k3 (fun _ _ h=>h)⟩
 ·have e:gJ (T++[t])=.sl 1 (T.length+1) (pl (T.map (dB aA))++pl [ah aA t]):=by simp[gJ,pl]
  rw[e];exact k2
 ·rcases k4 b hb with k|k|k
  ·exact .inl k
  ·exact k.elim
  ·exact .inr (by have:=lg.size;omega)
theorem nR {w: aI} (h:dY.ow w (gJ T) u f) (hk:k<T.length):∃ g o c,u=aj (au ⟨g,o,ak⟩) T.length c/\f g/\w.cell? ⟨g,o+k,ak⟩=au (ah aA (el T k))/\w.frozen? ⟨g,o+k,ak⟩=aC/\∀ (y:Int),dY.ow (w.setCell ⟨g,o+k,ak⟩ (ah aA y)) (gJ (T.set k y)) u f/\eX f w (w.setCell ⟨g,o+k,ak⟩ (ah aA y)):=by
 obtain⟨a,c,G,rfl,ho,hf⟩:=je.1 h;rcases ho with ⟨h0,_⟩|⟨g,off,rfl,hs,rfl⟩
 ·omega
 have hc:w.cell? ⟨g,off+k,ak⟩=au (ah aA (el T k)):=by
  rw[hs.cell k (by omega)]
  simp[el,hk]
 refine⟨g,off,c,rfl,(hf g).2 rfl,hc,hs.free k (by have:=hs.le;omega),fun y=>⟨?_,(eX.set w g (off+k) _).mono (fun b _ hb=>(hf b).2 (by rw[hb]))⟩⟩
 refine je.2 ⟨au ⟨g,off,ak⟩,c,au g,by rw[bQ],.inr ⟨g,off,rfl, ?_,rfl⟩,hf⟩
 have:=Rf hs (j:=k) (by omega) (ah aA y)
 rw[bQ,List.map_set];exact this
theorem QM {w: aI} {T: List Bool} (h:dY.ow w (vZ T) u f) (hk:k<T.length):∃ g o c,u=aj (au ⟨g,o,ak⟩) T.length c/\f g/\w.cell? ⟨g,o+k,ak⟩=au (aF (T.getD k aC))/\w.frozen? ⟨g,o+k,ak⟩=aC/\∀ (y:Bool),dY.ow (w.setCell ⟨g,o+k,ak⟩ (aF y)) (vZ (T.set k y)) u f/\eX f w (w.setCell ⟨g,o+k,ak⟩ (aF y)):=by
 obtain⟨a,c,G,rfl,ho,hf⟩:=IY.1 h;rcases ho with ⟨h0,_⟩|⟨g,off,rfl,hs,rfl⟩
 ·omega
 have hc:w.cell? ⟨g,off+k,ak⟩=au (aF (T.getD k aC)):=by
  rw[hs.cell k (by omega)]
  simp[List.getD,hk]
 refine⟨g,off,c,rfl,(hf g).2 rfl,hc,hs.free k (by have:=hs.le;omega),fun y=>⟨?_,(eX.set w g (off+k) _).mono (fun b _ hb=>(hf b).2 (by rw[hb]))⟩⟩
 refine IY.2 ⟨au ⟨g,off,ak⟩,c,au g,by rw[bQ],.inr ⟨g,off,rfl, ?_,rfl⟩,hf⟩
 have:=Rf hs (j:=k) (by omega) (aF y)
 rw[bQ,List.map_set];exact this
theorem Gw.bit {w X: aI} {o: Nat} {g: Gr} {fp: Fp} {c: Nat} (h:Gw w X B o g fp b off c) (hk:k<g.up.length):∃ ub uo uc,X.cell? ⟨B,o+1,ak⟩=au (aj (au ⟨ub,uo,ak⟩) g.up.length uc)/\X.cell? ⟨ub,uo+k,ak⟩=au (aF (ou g k))/\X.frozen? ⟨ub,uo+k,ak⟩=aC /\
  ∀ y:Bool,Gw w (X.setCell ⟨ub,uo+k,ak⟩ (aF y)) B o { g with up:=g.up.set k y } fp b off c:=by
 obtain⟨gU,hp,hf1,hgo⟩:=h.iw.next;obtain⟨u,f,h1,_,h2,h3,h4,h5⟩:=hp.at (j:=1) rfl;obtain⟨ub,uo,uc,rfl,k1,k2,k3,k4⟩:=QM h2 hk;refine⟨ub,uo,uc,h1,k2,k3,fun y=>⟨?_, ?_⟩⟩
 ·exact hgo _ (fZ { g with up:=g.up.set k y }) rfl ((h5 _ (vZ (g.up.set k y)) (aj (au ⟨ub,uo,ak⟩) g.up.length uc) f (k4 y).2 (k4 y).1 (fun b hb=>.inl hb)).2.2.2 rfl)
 ·exact (bf ((k4 y).2.block B hp.lt h4)).trans h.mem
end Go.Proofs.YtafimeakbdmkjaaGreat