/-
  Texts in one.
-/
import Derived.Test.YtafimeakbdmkjaaGreatXag
import Derived.Test.YtafimeakbdmkjaaGreatXaa
import Derived.Test.YtafimeakbdmkjaaGreatXaf
import Derived.StillTail
import Derived.Deep.Quiet
import Derived.BigQuiet
namespace Go.Proofs.YtafimeakbdmkjaaGreat
open Bool renaming and_eq_true->bI,false->aC,true->aB
open Go renaming Addr->dH,Calls->dF,Value->aJ,World->aI,bodyPost_ret->bY,maxLen->dD,wpQuiet_nil->dh
open Go.Builtin renaming append_->bU
open Go.Ending renaming returned->aK
open Go.IntKind renaming i64->aA
open Go.Obj renaming cells->aH
open Go.Proofs.Tryz renaming prog->dA
open Go.RowKit renaming Hid->aG,intOf->dG
open Go.RowKit.Below renaming refl->dw
open Go.Value renaming agg->aP,bool->aF,int->ah,pointer->aO,slice->aj,string->aN
open Go.World renaming cell?_of_block->bf,size_alloc->bH
open List renaming getElem?_eq_none->aZ,length_cons->bP,length_set->bQ,length_take->bM,mem_iff_getElem->bg,replicate->bV,take_of_length_le->aY,take_succ_eq_append_getElem->aQ
open Nat renaming le_refl->cO,le_trans->bZ,zero_le->cZ
open Option renaming none->ak,some->au
open Option.some renaming inj->bT
set_option linter.unusedVariables false
set_option linter.unusedSimpArgs false
open Go.RowKit Go.Sort
set_option maxRecDepth 100000
set_option maxHeartbeats 12800000
variable {X1 w:aI} {fr:Fp} {a b c:aJ}
theorem Tryz.infoMb:(Tryz.prog.info? 47).map (fun i=>(i.zero,i.size,i.bytes))=au (au (aP #[ah aA 0,ah aA 0,aj ak 0 0,aj ak 0 0,aF aC]),5,72):=by kernel_rfl
theorem Tryz.infoBo:(Tryz.prog.info? 4).map (fun i=>(i.zero,i.size,i.bytes))=au (au (aF aC),1,1):=by kernel_rfl
def F7 (b:Bool):List dY:=[.v (aF b)]
theorem JZ (b:Bool):(F7 b).length=1:=rfl
theorem RI (b:Bool):∀ c∈F7 b,c.one:=by
 intro c hc;rw[List.mem_singleton.1 hc]
 rfl
theorem xI (L:List Bool):vZ L=iH 1 F7 L:=by
 unfold vZ iH
 congr 1
 induction L with
 | nil=>rfl
 | cons b L ih =>
  rw[List.flatMap_cons,<- ih]
  rfl
structure GO (w X:aI) (o:Nat) (A:Ga) (g:Gr) (fp:Fp):Prop where
 own:Bx X o 28 (iW A g)
 ls:gB X (fZ g) (jm A g) fp
 jV:∀ b,fp b->w.heap.size+2<=b/\b≠o
 lo:w.heap.size<=o
 sz:w.heap.size+2<=X.heap.size
 below:Below w.heap.size w X
theorem GO.step {X X': aI} {o: Nat} {A: Ga} {g: Gr} {fp: Fp} (h:GO w X o A g fp) (hb:Below X.heap.size X X'):GO w X' o A g fp:=⟨h.own.below hb,gG h.ls hb,h.jV,h.lo,bZ h.sz hb.size,eU h.below hb⟩
theorem GO.put {X: aI} {o: Nat} {A: Ga} {g: Gr} {fp: Fp} (h:GO w X o A g fp) {j: Nat} {c: dY} (hj:(fZ g)[j]?=au c):∃ u f,(jm A g)[j]?=au u/\dY.ow X c u f/\(∀ b,f b->(w.heap.size+2<=b/\b≠o)/\b<X.heap.size) /\
  ∀ (X1:aI) (c':dY) (u':aJ) (f':Fp) (A':Ga) (g':Gr),eX f X X1->dY.ow X1 c' u' f'->(∀ b,f' b->f b\/X.heap.size<=b)->(fZ g).set j c'=fZ g'->(jm A g).set j u'=jm A' g'->(iW A g).setIfInBounds j u'=iW A' g' ->
   Bx X1 o 28 (iW A g)/\((∀ b,b<w.heap.size+2->b≠o->X1.heap[b]?=X.heap[b]?)/\Below w.heap.size w X1)/\(∀ b,b<w.heap.size+2->b≠o->(X1.setCell ⟨o,j,ak⟩ u').heap[b]?=X.heap[b]?)/\∃ fp',GO w (X1.setCell ⟨o,j,ak⟩ u') o A' g' fp':=by
 obtain⟨u,f,hu,hc,hs,hp⟩:=zF h.ls hj;have hlt:=jd h.ls;have hol:=h.own.lt;have hsz:=h.sz;have hlo:=h.lo;have hfo:∀ b,f b->(w.heap.size+2<=b/\b≠o)/\b<X.heap.size:=fun b hb=>⟨h.jV b (hs b hb),hlt b (hs b hb)⟩
 refine⟨u,f,hu,hc,hfo,fun X1 c' u' f' A' g' hw hc' hf' e1 e2 e3=>?_⟩
 have ho1:Bx X1 o 28 (iW A g):=h.own.wrt hw (fun hb=>(hfo o hb).1.2 rfl)
 have hw2:=eX.set X1 o j u';have hws:=hw.size;have aN3:=hw2.size
 have av7:∀ b,f' b->w.heap.size+2<=b/\b≠o:=fun b hb=>by
  rcases hf' b hb with k|k
  ·exact (hfo b k).1
  ·omega
 have k1 := hp (X1.setCell ⟨o,j,ak⟩ u') c' u' f' (bZ hw.size hw2.size) (dY.lJ hc' hw2 (fun b hb e => (av7 b hb).2 e)) (fun b hb hn => (hw2.block b (Nat.lt_of_lt_of_le (hlt b hb) hw.size) (h.jV b hb).2).trans (hw.block b (hlt b hb) hn)) (fun b hb hb2 => by
  rcases hf' b hb with k|k
  ·exact k
  ·have:=hlt b hb2;omega)
 rw[e1,e2] at k1;have hb1:Below w.heap.size w X1:=hw.below h.below h.below.size (fun b hb=>by have:=(hfo b hb).1.1;omega)
 refine⟨ho1,⟨fun b hb hne=>hw.block b (by omega) (fun k=>by have:=(hfo b k).1.1;omega),hb1⟩,fun b hb hne=>(hw2.block b (by omega) hne).trans (hw.block b (by omega) (fun k=>by have:=(hfo b k).1.1;omega)),_, ?_,k1,fun b hb=>?_,h.lo,by omega, ?_⟩
 ·have:=ho1.lK j u'
  rw[e3] at this;exact this
 ·rcases hb with hb|hb
  ·exact av7 b hb
  ·exact h.jV b hb.1
 ·exact hw2.below hb1 (by omega) (fun b e=>by rw[e];exact hlo)
theorem GO.ai5 {X: aI} {o: Nat} {A: Ga} {g: Gr} {fp: Fp} (h:GO w X o A g fp) (hb:Below X.heap.size X X1) {m: Mb} {Am: Ma} (hr:gB X1 (jB m) (jC Am m) fr) (hfr:∀ b,fr b->X.heap.size<=b) (hl:g.mem.length<=1000000) :
  ∀ Y,Same Y (X1.alloc (aH (iq Am m) 47))->∃ v' w4,(bU #[24,24] 24 #[aj A.ma g.mem.length A.mc,aj (au ⟨X1.heap.size,0,ak⟩) 1 1]).run dA Y=.ok v' w4 /\
   ∃ a' c',v'=aj a' (g.mem.length+1) c'/\Bx w4 o 28 (iW A g)/\((∀ b,b<w.heap.size+2->b≠o->w4.heap[b]?=X.heap[b]?)/\Below w.heap.size w w4)/\(∀ b,b<w.heap.size+2->b≠o->(w4.setCell ⟨o,0,ak⟩ (aj a' (g.mem.length+1) c')).heap[b]?=X.heap[b]?)/\∃ fp',GO w (w4.setCell ⟨o,0,ak⟩ (aj a' (g.mem.length+1) c')) o ⟨a',c',A.ua,A.uc,A.la,A.lc⟩ { g with mem:=g.mem++[m] } fp':=by
 intro Y hY;have lg:=(dX X1 _).trans (hY.below.mono (dX X1 _).size);have sZ:=eU hb lg;have BX:=hb.size;obtain⟨u,f,hu,hc,hfo,hput⟩:=h.put (j:=0) (c:=iH 5 jY g.mem) rfl;have hu':=(bT hu).symm;subst hu';have uQ:=II (gG hr lg);obtain⟨a',c',w4,fp',k1,k2,k3,k4⟩:=sW (P:=dA) uz (w:=Y) 24 24 47 _ 72 Tryz.underlying24 Tryz.infoMb rfl (by omega) (x:=m) (dY.ig hc sZ) uQ (fun b h1 h2=>by have:=(hfo b h1).2;have:=hfr b h2;omega) (tu uQ (Rz m)) X1.heap.size 47 (by rw[hY.heap];exact heap_alloc_new X1 _) (by unfold dD;omega) (by omega)
 have hw:eX f X w4:=(eX.of_below (f:=f) sZ).trans k3 (fun _ _ h=>h)
 obtain ⟨q1,q2,q3,q4⟩ := hput w4 (iH 5 jY (g.mem ++ [m])) (aj a' (g.mem.length + 1) c') fp' ⟨a',c',A.ua,A.uc,A.la,A.lc⟩ { g with mem := g.mem ++ [m] } hw k2 (fun b hb1 => by
  rcases k4 b hb1 with k|k|k
  ·exact .inl k
  ·exact .inr (hfr b k)
  ·right;have:=sZ.size;omega) rfl (by simp[jm]) (by simp[iW])
 exact⟨_,w4,k1,a',c',rfl,q1,q2,q3,q4⟩
theorem GO.aE7 {X: aI} {o: Nat} {A: Ga} {g: Gr} {fp: Fp} (h:GO w X o A g fp) (hb:Below X.heap.size X X1) (b:Bool) (hl:g.up.length<=1000000) :
  ∀ Y,Same Y (X1.alloc (aH #[aF b] 4))->∃ v' w4,(bU #[25,25] 25 #[aj A.ua g.up.length A.uc,aj (au ⟨X1.heap.size,0,ak⟩) 1 1]).run dA Y=.ok v' w4 /\
   ∃ a' c',v'=aj a' (g.up.length+1) c'/\Bx w4 o 28 (iW A g)/\((∀ b,b<w.heap.size+2->b≠o->w4.heap[b]?=X.heap[b]?)/\Below w.heap.size w w4)/\(∀ b,b<w.heap.size+2->b≠o->(w4.setCell ⟨o,1,ak⟩ (aj a' (g.up.length+1) c')).heap[b]?=X.heap[b]?)/\∃ fp',GO w (w4.setCell ⟨o,1,ak⟩ (aj a' (g.up.length+1) c')) o ⟨A.ma,A.mc,a',c',A.la,A.lc⟩ { g with up:=g.up++[b] } fp':=by
 intro Y hY;have lg:=(dX X1 _).trans (hY.below.mono (dX X1 _).size);have sZ:=eU hb lg;have BX:=hb.size;obtain⟨u,f,hu,hc,hfo,hput⟩:=h.put (j:=1) (c:=vZ g.up) rfl;have hu':=(bT hu).symm;subst hu';rw[xI] at hc;have uQ:gB Y (F7 b) [aF b] (fun _=>False):=vF ⟨rfl,fun _ h=>h⟩
 obtain⟨a',c',w4,fp',k1,k2,k3,k4⟩:=sW (P:=dA) JZ (w:=Y) 25 25 4 _ 1 Tryz.underlying25 Tryz.infoBo rfl (by omega) (x:=b) (dY.ig hc sZ) uQ (fun b h1 h2=>h2) (tu uQ (RI b)) X1.heap.size 4 (by rw[hY.heap];exact heap_alloc_new X1 _) (by unfold dD;omega) (by omega)
 have hw:eX f X w4:=(eX.of_below (f:=f) sZ).trans k3 (fun _ _ h=>h)
 rw[<- xI] at k2
 obtain ⟨q1,q2,q3,q4⟩ := hput w4 (vZ (g.up ++ [b])) (aj a' (g.up.length + 1) c') fp' ⟨A.ma,A.mc,a',c',A.la,A.lc⟩ { g with up := g.up ++ [b] } hw k2 (fun b hb1 => by
  rcases k4 b hb1 with k|k|k
  ·exact .inl k
  ·exact k.elim
  ·right;have:=sZ.size;omega) rfl (by simp[jm]) (by simp[iW])
 exact⟨_,w4,k1,a',c',rfl,q1,q2,q3,q4⟩
theorem GO.aE8 {X: aI} {o: Nat} {A: Ga} {g: Gr} {fp: Fp} (h:GO w X o A g fp) (hb:Below X.heap.size X X1) {x: Ml} {Ar: Ra} (hr:gB X1 (jM x.row) (jr Ar x.row) fr) (hfr:∀ b,fr b->X.heap.size<=b) (hl:g.dS.length<=1000000) :
  ∀ Y,Same Y (X1.alloc (aH (yU x Ar) 68))->∃ v' w4,(bU #[26,26] 26 #[aj A.la g.dS.length A.lc,aj (au ⟨X1.heap.size,0,ak⟩) 1 1]).run dA Y=.ok v' w4 /\
   ∃ a' c',v'=aj a' (g.dS.length+1) c'/\Bx w4 o 28 (iW A g)/\((∀ b,b<w.heap.size+2->b≠o->w4.heap[b]?=X.heap[b]?)/\Below w.heap.size w w4)/\(∀ b,b<w.heap.size+2->b≠o->(w4.setCell ⟨o,2,ak⟩ (aj a' (g.dS.length+1) c')).heap[b]?=X.heap[b]?)/\∃ fp',GO w (w4.setCell ⟨o,2,ak⟩ (aj a' (g.dS.length+1) c')) o ⟨A.ma,A.mc,A.ua,A.uc,a',c'⟩ { g with dS:=g.dS++[x] } fp':=by
 intro Y hY;have lg:=(dX X1 _).trans (hY.below.mono (dX X1 _).size);have sZ:=eU hb lg;have BX:=hb.size;obtain⟨u,f,hu,hc,hfo,hput⟩:=h.put (j:=2) (c:=iH 10 kS g.dS) rfl;have hu':=(bT hu).symm;subst hu';have uQ:=JX (gG hr lg);obtain⟨a',c',w4,fp',k1,k2,k3,k4⟩:=sW (P:=dA) rD (w:=Y) 26 26 68 _ 136 Tryz.underlying26 Tryz.infoMl rfl (by omega) (x:=x) (dY.ig hc sZ) uQ (fun b h1 h2=>by have:=(hfo b h1).2;have:=hfr b h2;omega) (tu uQ (zK x)) X1.heap.size 68 (by rw[hY.heap];exact heap_alloc_new X1 _) (by unfold dD;omega) (by omega)
 have hw:eX f X w4:=(eX.of_below (f:=f) sZ).trans k3 (fun _ _ h=>h)
 obtain ⟨q1,q2,q3,q4⟩ := hput w4 (iH 10 kS (g.dS ++ [x])) (aj a' (g.dS.length + 1) c') fp' ⟨A.ma,A.mc,A.ua,A.uc,a',c'⟩ { g with dS := g.dS ++ [x] } hw k2 (fun b hb1 => by
  rcases k4 b hb1 with k|k|k
  ·exact .inl k
  ·exact .inr (hfr b k)
  ·right;have:=sZ.size;omega) rfl (by simp[jm]) (by simp[iW])
 exact⟨_,w4,k1,a',c',rfl,q1,q2,q3,q4⟩
def AX (w w':aI) (e:Ending) (g:Gr):Prop:=∃ A:Ga,e=aK (gX A g)/\kE w w' (fZ g) (jm A g)
def aE9 (w w':aI) (e:Ending) (g:Gr) (b:Bool):Prop:=∃ A:Ga,e=aK (.tuple #[gX A g,aF b])/\kE w w' (fZ g) (jm A g)
theorem Ov (w:aI):gB w (fZ jG) (jm ⟨ak,0,ak,0,ak,0⟩ jG) (fun _=>False) :=
 vT (pX (xH w 5 jY) (pX (by rw[show vZ jG.up=iH 1 F7 [] from xI []];exact xH w 1 F7) (pX (xH w 10 kS) (⟨rfl,fun _ h=>h⟩:gB w [] [] (fun _=>False)) (fun _ _ h=>h)) (fun _ h=>absurd h id)) (fun _ h=>absurd h id)) (fun b=>by simp)
theorem AY {w': aI} (hb:Below w.heap.size w w'):kE w w' (fZ jG) (jm ⟨ak,0,ak,0,ak,0⟩ jG):=⟨_,Ov w',fun b h=>absurd h id,hb⟩
theorem oK (w:aI) (g:Nat):eX (fun x=>x=g) w (((w.setCell ⟨g,0,ak⟩ a).setCell ⟨g,1,ak⟩ b).setCell ⟨g,2,ak⟩ c) :=
 ((eX.set w g 0 a).trans (eX.set _ g 1 b) (fun _ _ h=>h)).trans (eX.set _ g 2 c) (fun _ _ h=>h)
theorem Bx.f3 {B: Nat} {T: TypeId} {cs: Array aJ} (h:Bx w B T cs):w.frozen? ⟨B,0,ak⟩=aC/\w.frozen? ⟨B,1,ak⟩=aC/\w.frozen? ⟨B,2,ak⟩=aC:=⟨h.f 0,h.f 1,h.f 2⟩
theorem GO.ans {X: aI} {o r: Nat} {A: Ga} {g: Gr} {fp: Fp} (h:GO w X o A g fp) (hr:w.heap.size<=r) (hro:r<w.heap.size+2) :
  kE w (((X.setCell ⟨r,0,ak⟩ a).setCell ⟨r,1,ak⟩ b).setCell ⟨r,2,ak⟩ c) (fZ g) (jm A g) :=
 ⟨fp,iy h.ls (oK X r) (fun b hb e=>by have:=(h.jV b hb).1;omega),fun b hb=>by have:=(h.jV b hb).1;omega,(oK X r).below h.below h.below.size (fun b e=>by omega)⟩
theorem Zn (w:aI):GO w ((w.alloc (aH #[aj ak 0 0,aj ak 0 0,aj ak 0 0] 28)).alloc (aH #[aj ak 0 0,aj ak 0 0,aj ak 0 0] 28)) (w.heap.size+1) ⟨ak,0,ak,0,ak,0⟩ jG (fun _=>False):=by
 have x1:=Bx.new (w.alloc (aH #[aj ak 0 0,aj ak 0 0,aj ak 0 0] 28)) 28 #[aj ak 0 0,aj ak 0 0,aj ak 0 0];rw[bH] at x1;exact⟨x1,Ov _,fun b h=>h.elim,by omega,by simp only[bH];omega,(dX w _).trans ((dX _ _).mono (dX w _).size)⟩
def BH (n:Int) (k:Nat):Gr:=⟨(List.range k).map (fun (i:Nat)=>(kM (i:Int) n).1),bV k aB,[]⟩
theorem V5 (n:Int) (k:Nat):BH n (k+1)=⟨(BH n k).mem++[(kM (k:Int) n).1],(BH n k).up++[aB],[]⟩:=by
 unfold BH;simp only[List.range_succ,List.map_append,List.map_cons,List.map_nil,List.replicate_succ']
theorem Hq (n:Int) (w:aI) :
  dF dA 12 #[ah aA n] w fun e w'=>aE9 w w' e (jf n).1 (jf n).2:=by
 have hb0:=dX w (aH #[aj ak 0 0,aj ak 0 0,aj ak 0 0] 28);have hx:=Bx.new w 28 #[aj ak 0 0,aj ak 0 0,aj ak 0 0];have T0:=Zn w
 cases e1:inB n 1 5 with
 | false =>
  have HZ:aG (jf n=(jG,aC)):=by rw[aG,jf,e1];rfl
  generalize hW:w.alloc (aH #[aj ak 0 0,aj ak 0 0,aj ak 0 0] 28)=W at *;have HB0:=dP hb0;obtain⟨c0,c1,c2⟩:=Bx.g3 hx;obtain⟨f0,f1,f2⟩:=hx.f3;clear hx hb0 T0;go_enter Tryz.func12,Tryz.ntmps12
  go_wp2_with (go_at_call 40;refine fV (gI _ _ _ _) ?_)
  refine bY (v:=.tuple #[gX ⟨ak,0,ak,0,ak,0⟩ jG,aF aC]) (by simp[results,Tryz.results12,go_sem,gX,iW,jG, *]) rfl ?_
  rw[HZ.out];exact⟨_,rfl,AY ((oK W w.heap.size).below HB0.out HB0.out.size (fun b h=>by rw[h];exact cO _))⟩
 | true =>
 have jq:=iZ.1 e1;obtain⟨N,rfl⟩:∃ N:Nat,n=(N:Int):=⟨n.toNat,by omega⟩
 have HZ:aG (jf (N:Int)=(BH (N:Int) N,aB)):=by rw[aG,jf,e1];rfl
 have HT0:aG (GO w ((w.alloc (aH #[aj ak 0 0,aj ak 0 0,aj ak 0 0] 28)).alloc (aH #[aj ak 0 0,aj ak 0 0,aj ak 0 0] 28)) (w.heap.size+1) ⟨ak,0,ak,0,ak,0⟩ jG (fun _=>False)):=T0
 have HR0:aG (Bx ((w.alloc (aH #[aj ak 0 0,aj ak 0 0,aj ak 0 0] 28)).alloc (aH #[aj ak 0 0,aj ak 0 0,aj ak 0 0] 28)) w.heap.size 28 #[aj ak 0 0,aj ak 0 0,aj ak 0 0]):=hx.alloc _;clear hx hb0 T0;go_enter Tryz.func12,Tryz.ntmps12
 go_wp2_with (go_at_call 40;refine fV (gI _ _ _ _) ?_)
 clear e1
 go_loopw [5] (fun i wr=>∃ k:Nat,k<=N/\i=ah aA (k:Int)/\∃ A g fp,aG (g=BH (N:Int) k)/\GO w wr (w.heap.size+1) A g fp/\Bx wr w.heap.size 28 #[aj ak 0 0,aj ak 0 0,aj ak 0 0]) (fun i _=>N-(dG i).toNat)
 case atStart=>exact⟨0,cZ _,rfl,_,jG,_,rfl,HT0.out,HR0.out⟩
 case round =>
  obtain⟨k,hk,rfl,A,g,fp,hg,M,hres⟩:=hrel;by_cases hlt:k<N
  ·have k1:(k:Int)<N:=by omega
   have hml:g.mem.length<=1000000:=by rw[hg.out,BH];simp;omega
   have FX:g.up.length<=1000000:=by rw[hg.out,BH];simp;omega
   have BF:=dP hres;have HM:=dP M;have yV:aG (BH (N:Int) (k+1)=⟨g.mem++[(kM (k:Int) (N:Int)).1],g.up++[aB],g.dS⟩):=by rw[aG,V5,hg.out];rfl
   clear M hres hg;have hN:=Ou (k:Int) (N:Int) wr;generalize (kM (k:Int) (N:Int)).1=m at *;generalize (kM (k:Int) (N:Int)).2=fl at *;unfold IK iU iq at hN;go_upto_region 8 with (go_at_call 41;refine hN.mono ?_;rintro e w1 ⟨Am,rfl,fr,hr1,hr2,hr3⟩)
   have hbn:=dX w1 (aH #[ah aA m.id,ah aA m.n,aj Am.ra m.rows.length Am.rc,aj Am.sa m.dR.length Am.sc,aF m.done] 47);have hxn:=Bx.new w1 47 #[ah aA m.id,ah aA m.n,aj Am.ra m.rows.length Am.rc,aj Am.sa m.dR.length Am.sc,aF m.done];generalize hWn:w1.alloc (aH #[ah aA m.id,ah aA m.n,aj Am.ra m.rows.length Am.rc,aj Am.sa m.dR.length Am.sc,aF m.done] 47)=Wn at *;have hbW:=eU hr3 hbn;have hA:=HM.out.ai5 (m:=m) (Am:=Am) hbW (gG hr1 hbn) hr2 hml;unfold iq at hA;obtain⟨y0,y1,y2,y3,y4⟩:=Bx.r5 hxn;have RJ:=HM.out.step hbW;have o0:=RJ.own.at 0 rfl;have HRn:=dP (BF.out.below hbW);clear hr1 hr2 hr3 hN hbn hxn RJ;go_upto_region 9 with (at_builtin;refine fG (by rfl) _ _ _ _ (by rfl) _ _ (by rfl) (by rfl) hA ⟨rfl,rfl,rfl,rfl⟩ ?_;rintro v2 w2 ⟨a2,e2,rfl,q1,_,q3,fp2,hM2⟩;clear o0;have o0:=q1.at 0 rfl;have oz:=q1.f 0)
   have jk:=dP hM2;have HR2:aG (Bx (w2.setCell ⟨w.heap.size+1,0,ak⟩ (aj a2 (g.mem.length+1) e2)) w.heap.size 28 #[aj ak 0 0,aj ak 0 0,aj ak 0 0]):=(q3 w.heap.size (by omega) (by omega)).trans BF.out
   clear hM2 q1 q3 hA o0 oz y0 y1 y2 y3 y4;generalize w2.setCell ⟨w.heap.size+1,0,ak⟩ (aj a2 (g.mem.length+1) e2)=W2 at *;have hA3:=jk.out.aE7 (dw _ _) aB FX;have o1:=jk.out.own.at 1 rfl;simp only at hA3 o1
   go_wp2_with (at_builtin;refine fG (by rfl) _ _ _ _ (by rfl) _ _ (by rfl) (by rfl) hA3 ⟨rfl,rfl,rfl,rfl⟩ ?_;rintro v3 w3 ⟨a3,e3,rfl,q1,_,q3,lq,F8⟩;clear o1;have o1:=q1.at 1 rfl;have oz:=q1.f 1;have lC:aG (GO w (w3.setCell ⟨w.heap.size+1,1,ak⟩ (aj a3 (g.up.length+1) e3)) (w.heap.size+1) ⟨a2,e2,a3,e3,A.la,A.lc⟩ ⟨g.mem++[m],g.up++[aB],g.dS⟩ lq):=F8;have HR3:aG (Bx (w3.setCell ⟨w.heap.size+1,1,ak⟩ (aj a3 (g.up.length+1) e3)) w.heap.size 28 #[aj ak 0 0,aj ak 0 0,aj ak 0 0]):=((q3 w.heap.size (by omega) (by omega)).trans HR2.out);clear F8 q1 q3 hA3)
   go_roundw
   case rel=>exact⟨k+1,by omega,by go_num,_,_,_,yV.out.symm,lC.out,HR3.out⟩
   case measure=>simp[dG];omega
  ·have k1:¬ ((k:Int)<N):=by omega
   have e:k=N:=by omega
   have HGN:aG (g=BH (N:Int) N):=by rw[aG,hg.out,e]
   clear e hg;obtain⟨o0,o1,o2⟩:=Bx.g3 M.own;obtain⟨r0,r1,r2⟩:=Bx.g3 hres;obtain⟨f0,f1,f2⟩:=hres.f3;have HA:aG (kE w (((wr.setCell ⟨w.heap.size,0,ak⟩ (aj A.ma g.mem.length A.mc)).setCell ⟨w.heap.size,1,ak⟩ (aj A.ua g.up.length A.uc)).setCell ⟨w.heap.size,2,ak⟩ (aj A.la g.dS.length A.lc)) (fZ g) (jm A g)):=M.ans (cO _) (by omega)
   clear M hres;go_wp2;refine bY (v:=.tuple #[gX A g,aF aB]) (by simp[results,Tryz.results12,go_sem,gX,iW, *]) rfl ?_
   rw[HZ.out,<- HGN.out];exact⟨_,rfl,HA.out⟩
def LnG (g:Gr):Prop:=g.mem.length<=1000000/\g.up.length<=1000000/\g.dS.length<=1000000/\(∀ m∈g.mem,LnM m)/\∀ x∈g.dS,VN x.row
theorem OkG.ln {g:Gr} {n:Nat} (h:OkG g n):LnG g:=by
 have h5:=h.n5;refine⟨by rw[h.ml];omega,by rw[h.ul];omega,by have:=h.pJ;omega,fun m hm=>?_,fun x hx=>?_⟩
 ·obtain⟨j,hj,rfl⟩:=bg.1 hm
  have:=(h.mem j (by rw[<- h.ml];exact hj)).ln
  simpa[eF,List.getD,hj] using this
 ·obtain⟨_,_,_,_,_,_,_,R⟩:=h.kU x hx
  exact R.ln
theorem OkG.fit {g : Gr} {n : Nat} (h : OkG g n) : EG g := ⟨fun m hm => by
  obtain⟨j,hj,rfl⟩:=bg.1 hm;have:=(h.mem j (by rw[<- h.ml];exact hj)).fit
  simpa[eF,List.getD,hj] using this,fun y hy=>by obtain⟨_,_,_,_,_,_,_,R⟩:=h.kU y hy;exact R.fit⟩
theorem al9 (L:List Bool):L.flatMap F7=pl (L.map Value.bool):=by
 have:=xI L;unfold vZ iH at this
 injection this with _ _ h
 exact h.symm
theorem EK {a: Option dH} (ha:sH a) {x: Option dH} {c: Nat} {L: List Bool} (hv:IX w x L) (hm:L.length<=1000000) :
  ∃ a' c' w' fp',(bU #[25,25] 25 #[aj a 0 0,aj x L.length c]).run dA w=.ok (aj a' L.length c') w'/\dY.ow w' (vZ L) (aj a' L.length c') fp'/\eX (fun _=>False) w w'/\∀ b,fp' b->b=w.heap.size:=by
 have e0:dY.ow w (iH 1 F7 []) (aj a 0 0) (fun _=>False):=⟨a,0,[],ak,fun _=>False,rfl,iQ.nil _ _ ha,⟨rfl,fun _ h=>h⟩,fun _ _ h=>h,fun b=>by simp⟩
 have hd:gB w (L.flatMap F7) (L.map Value.bool) (fun _=>False):=by rw[al9];exact rM.2 ⟨rfl,fun _ h=>h⟩
 obtain ⟨a',c',w',fp',k1,k2,k3,k4⟩ := JU (P := dA) JZ RI (w := w) 25 25 4 _ 1 Tryz.underlying25 Tryz.infoBo rfl (by omega) (L := []) (M := L) e0 hd (fun _ h => h.elim) x c (by
  rcases hv with h|⟨b,off,rfl,hc⟩
  ·exact .inl h
  ·refine .inr ⟨_,rfl,fun j u hu=>?_⟩
   have hj:j<L.length:=by
    rcases Nat.lt_or_ge j L.length with h|h
    ·exact h
    ·rw[aZ (by simpa using h)] at hu;cases hu
   have hcj:=hc j hj;have e:(⟨b,off,ak⟩:dH).add j=⟨b,off+j,ak⟩:=by by_cases hz:j=0<;>simp[Addr.add,hz]
   rw[e,hcj,<- hu];simp[List.getD,hj]) (by simp only[List.length_nil];unfold dD;omega) (by simp only[List.length_nil];omega)
 simp only[List.length_nil,Nat.zero_add,List.nil_append] at k1 k2;rw[<- xI] at k2
 exact ⟨a',c',w',fp',k1,k2,k3,fun b hb => by
  rcases k4 b hb with k|k|k
  ·exact k.elim
  ·exact k.elim
  ·exact k⟩
theorem V7 {g: Gr} {A: Ga} {W: aI} (hs:w.heap.size+2<=W.heap.size) (hb:Below w.heap.size w W) (hv:IX w A.ua g.up) (hl:g.up.length<=1000000) :
  ∀ Z,Same Z (W.alloc (aH #[] 4))->∃ v' w4,(bU #[25,25] 25 #[aj (au ⟨W.heap.size,0,ak⟩) 0 0,aj A.ua g.up.length A.uc]).run dA Z=.ok v' w4 /\
   ∃ a' c',v'=aj a' g.up.length c'/\Below W.heap.size W w4/\∃ fp,GO w (w4.alloc (aH #[aj ak 0 0,aj a' g.up.length c',aj ak 0 0] 28)) w4.heap.size ⟨ak,0,a',c',ak,0⟩ ⟨[],g.up,[]⟩ fp:=by
 intro Z hZ;have mW:=(dX W _).trans (hZ.below.mono (dX W _).size);have hwZ:=eU hb mW;obtain⟨a',c',w4,fp,k1,k2,k3,k4⟩:=EK (w:=Z) (kL W.heap.size 0) (c:=A.uc) (hv.below hwZ) hl;have b4:Below W.heap.size W w4:=k3.below mW mW.size (fun b h=>h.elim)
 have hZs:=mW.size;have h4s:=k3.size;refine⟨_,w4,k1,a',c',rfl,b4,fp,Bx.new w4 _ _, ?_,fun b hb1=>?_,by omega,by simp only[bH];omega, ?_⟩
 ·have k5:=dY.ig k2 (dX w4 (aH #[aj ak 0 0,aj a' g.up.length c',aj ak 0 0] 28))
  exact vT (pX (xH _ 5 jY) (pX k5 (pX (xH _ 10 kS) (⟨rfl,fun _ h=>h⟩:gB _ [] [] (fun _=>False)) (fun _ h=>absurd h id)) (fun b _ h=>by rcases h with h|h<;>exact h)) (fun _ h=>absurd h id)) (fun b=>by simp)
 ·have:=k4 b hb1
  have:=dY.kW k2 b hb1;omega
 ·exact (eU hb b4).trans ((dX w4 _).mono (by have:=hb.size;omega))
theorem EL (A:Ga) (g:Gr) (w:aI) (hv:wZ w A g) (hln:LnG g) :
  dF dA 38 #[gX A g] w fun e w'=>AX w w' e g:=by
 have gq:=iD;have x0:=(Bx.new w 28 (iW A g)).alloc (aH #[aj ak 0 0,aj ak 0 0,aj ak 0 0] 28);have x1:=Bx.new (w.alloc (aH (iW A g) 28)) 28 #[aj ak 0 0,aj ak 0 0,aj ak 0 0];rw[bH] at x1;have hb0:Below w.heap.size w ((w.alloc (aH (iW A g) 28)).alloc (aH #[aj ak 0 0,aj ak 0 0,aj ak 0 0] 28)):=(dX w _).trans ((dX _ _).mono (dX w _).size);have hs0:w.heap.size+2<=((w.alloc (aH (iW A g) 28)).alloc (aH #[aj ak 0 0,aj ak 0 0,aj ak 0 0] 28)).heap.size:=by simp only[bH];omega
 have hA:=V7 (A:=A) (g:=g) hs0 hb0 hv.up hln.2.1;have HV:aG (wZ w A g):=hv;obtain⟨mem,up,dS⟩:=g;obtain⟨ma,mc,ua,uc,la,lc⟩:=A;unfold gX;unfold iW at *;simp only at *
 generalize hW:((w.alloc (aH #[aj ma mem.length mc,aj ua up.length uc,aj la dS.length lc] 28)).alloc (aH #[aj ak 0 0,aj ak 0 0,aj ak 0 0] 28))=W at *;have HX0:aG (Bx W w.heap.size 28 #[aj ma mem.length mc,aj ua up.length uc,aj la dS.length lc]):=x0;have qH:aG (Bx W (w.heap.size+1) 28 #[aj ak 0 0,aj ak 0 0,aj ak 0 0]):=x1;have F6:aG (w.heap.size+2<=W.heap.size):=hs0;have d1:(W.alloc (aH #[] 4)).cell? ⟨w.heap.size,1,ak⟩=au (aj ua up.length uc):=(x0.alloc (aH #[] 4)).at 1 rfl;clear hv x0 x1 hb0 hs0;go_enter Tryz.func38,Tryz.ntmps38
 go_upto_region 2 with (at_builtin;refine fG (by rfl) _ _ _ _ (by rfl) _ _ (by rfl) (by rfl) hA ⟨rfl,rfl,rfl,rfl⟩ ?_;rintro v1 w1 ⟨a1,e1,rfl,b1,gU,hM1⟩;clear hA d1)
 obtain⟨O,hO⟩:∃ O:Nat,aG (w1.heap.size=O):=⟨_,rfl⟩;have I7:w.heap.size+2<=O:=by have:=b1.size;have:=F6.out;have:=hO.out;omega
 rw[hO.out] at hM1;have b2:Below W.heap.size W (w1.alloc (aH #[aj ak 0 0,aj a1 up.length e1,aj ak 0 0] 28)):=b1.trans ((dX w1 _).mono b1.size);have fU:aG (∃ gU,GO w (w1.alloc (aH #[aj ak 0 0,aj a1 up.length e1,aj ak 0 0] 28)) O ⟨ak,0,a1,e1,ak,0⟩ ⟨[],up,[]⟩ gU):=⟨gU,hM1⟩;have l9:aG (Bx (w1.alloc (aH #[aj ak 0 0,aj a1 up.length e1,aj ak 0 0] 28)) w.heap.size 28 #[aj ma mem.length mc,aj ua up.length uc,aj la dS.length lc]):=HX0.out.below b2;have BZ:aG (Bx (w1.alloc (aH #[aj ak 0 0,aj a1 up.length e1,aj ak 0 0] 28)) (w.heap.size+1) 28 #[aj ak 0 0,aj ak 0 0,aj ak 0 0]):=qH.out.below b2;clear hM1 b1 b2 HX0 qH F6 hW;rw[hO.out];generalize w1.alloc (aH #[aj ak 0 0,aj a1 up.length e1,aj ak 0 0] 28)=W2 at *;go_wp2
 go_loopw [4] (fun i wr=>∃ k:Nat,k<=mem.length/\i=ah aA (k:Int)/\∃ A R fp,aG (R=mem.take k)/\GO w wr O A ⟨R,up,[]⟩ fp/\Bx wr w.heap.size 28 #[aj ma mem.length mc,aj ua up.length uc,aj la dS.length lc]/\Bx wr (w.heap.size+1) 28 #[aj ak 0 0,aj ak 0 0,aj ak 0 0]) (fun i _=>mem.length-(dG i).toNat)
 case atStart =>
  obtain⟨fp2,hM2⟩:=fU.out;exact⟨0,cZ _,rfl,_,[],_,rfl,hM2,l9.out,BZ.out⟩
 case round =>
  obtain⟨k,hk,rfl,A,R,fp,hR,M,hpar,hres⟩:=hrel;have hml:mem.length<=1000000:=hln.1;obtain⟨p0,p1,p2⟩:=Bx.g3 hpar;by_cases hlt:k<mem.length
  ·have k1:(k:Int)<mem.length:=by omega
   have k0:(0:Int)<=k:=by omega
   have hRl:R.length<=1000000:=by rw[hR.out,bM];omega
   obtain⟨b,off,Ak,hma,hc5,hms⟩:=HV.out.member (k:=k) hlt;have hlm:LnM (eF ⟨mem,up,dS⟩ k):=hln.2.2.2.1 _ (List.mem_of_getElem? (rX (g:=⟨mem,up,dS⟩) hlt))
   have hgk:mem.take (k+1)=mem.take k++[eF ⟨mem,up,dS⟩ k]:=by
    rw[aQ hlt];simp[eF,List.getD,hlt]
   simp only at hma hc5
   subst hma;generalize eF ⟨mem,up,dS⟩ k=m at *;have HMS:aG (yF wr Ak m):=hms.below M.below;have BF:aG (Bx wr (w.heap.size+1) 28 #[aj ak 0 0,aj ak 0 0,aj ak 0 0]):=hres;have Oj:aG (Bx wr w.heap.size 28 #[aj (au ⟨b,off,ak⟩) mem.length mc,aj ua up.length uc,aj la dS.length lc]):=hpar;have HM:aG (GO w wr O A ⟨R,up,[]⟩ fp):=M;have c0:wr.cell? ⟨O,0,ak⟩=au (aj A.ma R.length A.mc):=M.own.at 0 rfl
   have KS:∀ X,X.cell? ⟨O,0,ak⟩=au (aj A.ma R.length A.mc)->X.cell? ⟨w.heap.size,0,ak⟩=au (aj (au ⟨b,off,ak⟩) mem.length mc)->Below w.heap.size w X->(X.cell? ⟨O,0,ak⟩=au (aj A.ma R.length A.mc)/\X.cell? ⟨w.heap.size,0,ak⟩=au (aj (au ⟨b,off,ak⟩) mem.length mc)/\X.cell? ⟨b,off+k*5,ak⟩=au (ah aA m.id)/\X.cell? ⟨b,off+k*5+1,ak⟩=au (ah aA m.n)/\X.cell? ⟨b,off+k*5+2,ak⟩=au (aj Ak.ra m.rows.length Ak.rc)/\X.cell? ⟨b,off+k*5+3,ak⟩=au (aj Ak.sa m.dR.length Ak.sc)/\X.cell? ⟨b,off+k*5+4,ak⟩=au (aF m.done)):=fun X y1 y2 hX=>by
    obtain⟨d0,d1,d2,d3,d4⟩:=hc5;have t:∀ x v,w.cell? x=au v->X.cell? x=au v:=fun x v h=>gy hX h
    exact⟨y1,y2,t _ _ d0,t _ _ d1,t _ _ d2,t _ _ d3,t _ _ d4⟩
   have zJ:=M.below;have KK:=fun X (hX:Below wr.heap.size wr X)=>KS X (gy hX c0) (gy hX p0) (eU zJ hX)
   have hbd:Below wr.heap.size wr wr.drew:=(Same.drewN wr 1).below;have P0:aG (wr.cell? ⟨w.heap.size,0,ak⟩=au (aj (au ⟨b,off,ak⟩) mem.length mc)):=p0;clear M hres hpar hms c0 p1 p2;go_wp2_with fail
   refine lU (S:=fun X:aI=>X.cell? ⟨O,0,ak⟩=au (aj A.ma R.length A.mc)/\X.cell? ⟨w.heap.size,0,ak⟩=au (aj (au ⟨b,off,ak⟩) mem.length mc)/\X.cell? ⟨b,off+k*5,ak⟩=au (ah aA m.id)/\X.cell? ⟨b,off+k*5+1,ak⟩=au (ah aA m.n)/\X.cell? ⟨b,off+k*5+2,ak⟩=au (aj Ak.ra m.rows.length Ak.rc)/\X.cell? ⟨b,off+k*5+3,ak⟩=au (aj Ak.sa m.dR.length Ak.sc)/\X.cell? ⟨b,off+k*5+4,ak⟩=au (aF m.done)) 11 gq ((KK _ hbd)) fun hHeld=>?_
   refine fC (i:=0) rfl hHeld ?_;refine fC (i:=1) rfl hHeld ?_;refine fC (i:=2) rfl hHeld ?_;refine fC (i:=3) rfl hHeld ?_;refine fC (i:=4) rfl hHeld ?_;refine fC (i:=5) rfl hHeld ?_;refine fC (i:=6) rfl hHeld ?_;refine iJ (i:=7) rfl fun K hK=>?_
   go_simp
   go_at_call 75
   refine (VO Ak m wr.drew (HMS.out.below hbd) hlm).mono ?_;rintro e w3 ⟨Am,rfl,fr,hr1,hr2,hr3⟩;have hb3:Below wr.heap.size wr w3:=eU hbd hr3;have hA:=HM.out.ai5 (m:=m) (Am:=Am) hb3 hr1 (fun b hb=>hr2 b hb) hRl
   have hb4:Below wr.heap.size wr (w3.alloc (aH (iq Am m) 47)):=hb3.trans ((dX w3 _).mono hb3.size);refine hK.out _ _ (KK _ hb3) (fun eP=>?_)
   clear hK hHeld;have hHeld:=eP;try simp only[iC]
   unfold iU;unfold iq at hA hb4 ⊢;refine iJ (i:=8) rfl fun K hK=>?_
   go_simp;refine hK.out _ _ (KK _ hb4) (fun eP=>?_)
   clear hK hHeld;have hHeld:=eP;try simp only[iC]
   refine iJ (i:=9) rfl fun K hK=>?_
   refine jH (by rfl) _ _ _ _ (by rfl) (aj A.ma R.length A.mc) _ (by rfl) (by rfl) hA ⟨rfl,rfl,rfl,rfl⟩ ?_
   rintro v9 w4 ⟨a9,c9,rfl,q1,q2,q3,fp9,vY⟩;have hK4:w4.cell? ⟨w.heap.size,0,ak⟩=au (aj (au ⟨b,off,ak⟩) mem.length mc):=(bf (q2.1 w.heap.size (by omega) (by omega))).trans P0.out
   have o0:=q1.at 0 rfl;have oz:=q1.f 0;refine hK.out _ _ (KS _ o0 hK4 q2.2) (fun eP=>?_)
   clear hK hHeld;have hHeld:=eP;try simp only[iC]
   refine fC (i:=10) rfl hHeld ?_;refine oV rfl fun K hK=>?_
   go_simp;refine hK.out _ _ ?_;have jL:aG (GO w (w4.setCell ⟨O,0,ak⟩ (aj a9 (R.length+1) c9)) O ⟨a9,c9,A.ua,A.uc,A.la,A.lc⟩ ⟨R++[m],up,[]⟩ fp9):=vY;have Dv:aG (Bx (w4.setCell ⟨O,0,ak⟩ (aj a9 (R.length+1) c9)) (w.heap.size+1) 28 #[aj ak 0 0,aj ak 0 0,aj ak 0 0]):=(q3 (w.heap.size+1) (by omega) (by omega)).trans BF.out
   have IV:aG (Bx (w4.setCell ⟨O,0,ak⟩ (aj a9 (R.length+1) c9)) w.heap.size 28 #[aj (au ⟨b,off,ak⟩) mem.length mc,aj ua up.length uc,aj la dS.length lc]):=(q3 w.heap.size (by omega) (by omega)).trans Oj.out
   have EF:aG (R++[m]=mem.take (k+1)):=by rw[aG,hR.out,hgk]
   clear vY hA hr1 hr2 hr3 KS KK hgk;generalize w4.setCell ⟨O,0,ak⟩ (aj a9 (R.length+1) c9)=W9 at *;clear hb3 hb4 hbd q1 q2 q3 hHeld hK4 o0 oz hc5 p0 P0;go_wp2;go_roundw
   case rel=>exact⟨k+1,by omega,by go_num,_,_,_,EF,jL.out,IV.out,Dv.out⟩
   case measure=>simp[dG];omega
  ·have k1:¬ ((k:Int)<mem.length):=by omega
   have HRm:aG (R=mem):=by rw[aG,hR.out,aY (by omega)]
   have jk:aG (GO w wr O A ⟨R,up,[]⟩ fp):=M;have Oj:aG (Bx wr w.heap.size 28 #[aj ma mem.length mc,aj ua up.length uc,aj la dS.length lc]):=hpar;have BF:aG (Bx wr (w.heap.size+1) 28 #[aj ak 0 0,aj ak 0 0,aj ak 0 0]):=hres;clear M hpar hres hR;generalize wr=V at *;go_wp2;clear p0 p1 p2
   go_loopw [5] (fun i wr=>∃ k:Nat,k<=dS.length/\i=ah aA (k:Int)/\∃ A L fp,aG (L=dS.take k)/\GO w wr O A ⟨R,up,L⟩ fp/\Bx wr w.heap.size 28 #[aj ma mem.length mc,aj ua up.length uc,aj la dS.length lc]/\Bx wr (w.heap.size+1) 28 #[aj ak 0 0,aj ak 0 0,aj ak 0 0]) (fun i _=>dS.length-(dG i).toNat)
   case atStart=>exact⟨0,cZ _,rfl,_,[],_,rfl,jk.out,Oj.out,BF.out⟩
   case round =>
    obtain⟨q,hq,rfl,A2,L,fp2,hL,M,hpar,hres⟩:=hrel;have hll:dS.length<=1000000:=hln.2.2.1;obtain⟨p0,p1,p2⟩:=Bx.g3 hpar;by_cases hlq:q<dS.length
    ·have j1:(q:Int)<dS.length:=by omega
     have j0:(0:Int)<=q:=by omega
     have hLl:L.length<=1000000:=by rw[hL.out,bM];omega
     obtain⟨b,off,Ak,hla,d0,d1,hc8,hrs⟩:=HV.out.letter (k:=q) hlq;have hlr:VN (fF ⟨mem,up,dS⟩ q).row:=hln.2.2.2.2 _ (List.mem_of_getElem? (nH (g:=⟨mem,up,dS⟩) hlq))
     have hgk:dS.take (q+1)=dS.take q++[fF ⟨mem,up,dS⟩ q]:=by
      rw[aQ hlq];simp[fF,List.getD,hlq]
     simp only at hla
     subst hla;generalize fF ⟨mem,up,dS⟩ q=y at *;obtain⟨yf,yt,r⟩:=y;simp only at d0 d1 hc8 hrs hlr
     have IU:=dP (hrs.below M.below);have aF0:=dP hres;have aF1:=dP hpar;have HM:=dP M;have c2:wr.cell? ⟨O,2,ak⟩=au (aj A2.la L.length A2.lc):=M.own.at 2 rfl
     have KS:∀ X,X.cell? ⟨O,2,ak⟩=au (aj A2.la L.length A2.lc)->X.cell? ⟨w.heap.size,2,ak⟩=au (aj (au ⟨b,off,ak⟩) dS.length lc)->Below w.heap.size w X->(X.cell? ⟨O,2,ak⟩=au (aj A2.la L.length A2.lc)/\X.cell? ⟨w.heap.size,2,ak⟩=au (aj (au ⟨b,off,ak⟩) dS.length lc)/\X.cell? ⟨b,off+q*10,ak⟩=au (ah aA yf)/\X.cell? ⟨b,off+q*10+1,ak⟩=au (ah aA yt)/\X.cell? ⟨b,off+q*10+2,ak⟩=au (ah aA r.ver)/\X.cell? ⟨b,off+q*10+2+1,ak⟩=au (aj Ak.ta r.txt.length Ak.tc)/\X.cell? ⟨b,off+q*10+2+2,ak⟩=au (aj Ak.ga r.got.length Ak.gc)/\X.cell? ⟨b,off+q*10+2+3,ak⟩=au (aj Ak.sa r.dQ.length Ak.sc)/\X.cell? ⟨b,off+q*10+2+4,ak⟩=au (aF r.wed)/\X.cell? ⟨b,off+q*10+2+5,ak⟩=au (aF r.dV)/\X.cell? ⟨b,off+q*10+2+6,ak⟩=au (ah aA r.dW)/\X.cell? ⟨b,off+q*10+2+7,ak⟩=au (aj Ak.ma r.dU.length Ak.mc)):=fun X y1 y2 hX=>by
      obtain⟨⟨t0,t1,t2,t3⟩,t4,t5,t6,t7⟩:=hc8;have t:∀ x v,w.cell? x=au v->X.cell? x=au v:=fun x v h=>gy hX h
      exact⟨y1,y2,t _ _ d0,t _ _ d1,t _ _ t0,t _ _ t1,t _ _ t2,t _ _ t3,t _ _ t4,t _ _ t5,t _ _ t6,t _ _ t7⟩
     have zJ:=M.below;have KK:=fun X (hX:Below wr.heap.size wr X)=>KS X (gy hX c2) (gy hX p2) (eU zJ hX)
     have hbd:Below wr.heap.size wr wr.drew:=(Same.drewN wr 1).below;have P2:=dP p2;clear M hres hpar hrs c2 p0 p1;go_wp2_with fail
     refine lU (S:=fun X:aI=>X.cell? ⟨O,2,ak⟩=au (aj A2.la L.length A2.lc)/\X.cell? ⟨w.heap.size,2,ak⟩=au (aj (au ⟨b,off,ak⟩) dS.length lc)/\X.cell? ⟨b,off+q*10,ak⟩=au (ah aA yf)/\X.cell? ⟨b,off+q*10+1,ak⟩=au (ah aA yt)/\X.cell? ⟨b,off+q*10+2,ak⟩=au (ah aA r.ver)/\X.cell? ⟨b,off+q*10+2+1,ak⟩=au (aj Ak.ta r.txt.length Ak.tc)/\X.cell? ⟨b,off+q*10+2+2,ak⟩=au (aj Ak.ga r.got.length Ak.gc)/\X.cell? ⟨b,off+q*10+2+3,ak⟩=au (aj Ak.sa r.dQ.length Ak.sc)/\X.cell? ⟨b,off+q*10+2+4,ak⟩=au (aF r.wed)/\X.cell? ⟨b,off+q*10+2+5,ak⟩=au (aF r.dV)/\X.cell? ⟨b,off+q*10+2+6,ak⟩=au (ah aA r.dW)/\X.cell? ⟨b,off+q*10+2+7,ak⟩=au (aj Ak.ma r.dU.length Ak.mc)) 25 gq ((KK _ hbd)) fun hHeld=>?_
     refine fC (i:=0) rfl hHeld ?_;refine fC (i:=1) rfl hHeld ?_;refine fC (i:=2) rfl hHeld ?_;refine fC (i:=3) rfl hHeld ?_;refine fC (i:=4) rfl hHeld ?_;refine fC (i:=5) rfl hHeld ?_;refine fC (i:=6) rfl hHeld ?_;refine fC (i:=7) rfl hHeld ?_;refine fC (i:=8) rfl hHeld ?_;refine fC (i:=9) rfl hHeld ?_;refine fC (i:=10) rfl hHeld ?_;refine fC (i:=11) rfl hHeld ?_;refine fC (i:=12) rfl hHeld ?_;refine fC (i:=13) rfl hHeld ?_;refine fC (i:=14) rfl hHeld ?_;refine fC (i:=15) rfl hHeld ?_;refine fC (i:=16) rfl hHeld ?_;refine fC (i:=17) rfl hHeld ?_;refine fC (i:=18) rfl hHeld ?_;refine fC (i:=19) rfl hHeld ?_;refine iJ (i:=20) rfl fun K hK=>?_
     go_simp
     go_at_call 76
     refine (yG Ak r wr.drew (IU.out.below hbd) hlr.1 hlr.2.1 hlr.2.2.1 hlr.2.2.2).mono ?_;rintro e w3 ⟨Ar,rfl,fr,hr1,hr2,hr3⟩;have hb3:Below wr.heap.size wr w3:=eU hbd hr3;have hA:=HM.out.aE8 (x:=⟨yf,yt,r⟩) (Ar:=Ar) hb3 hr1 (fun b hb=>hr2 b hb) hLl
     have hb4:Below wr.heap.size wr (w3.alloc (aH (yU ⟨yf,yt,r⟩ Ar) 68)):=hb3.trans ((dX w3 _).mono hb3.size);refine hK.out _ _ (KK _ hb3) (fun eP=>?_)
     clear hK hHeld;have hHeld:=eP;try simp only[iC]
     unfold iK;unfold fQ;unfold yU at hA hb4;refine fE (i:=21) rfl ?_;refine iJ (i:=22) rfl fun K hK=>?_
     go_simp;refine hK.out _ _ (KK _ hb4) (fun eP=>?_)
     clear hK hHeld;have hHeld:=eP;try simp only[iC]
     refine iJ (i:=23) rfl fun K hK=>?_
     refine jH (by rfl) _ _ _ _ (by rfl) (aj A2.la L.length A2.lc) _ (by rfl) (by rfl) hA ⟨rfl,rfl,rfl,rfl⟩ ?_
     rintro v9 w4 ⟨a9,c9,rfl,q1,q2,q3,fp9,vY⟩;have hK4:w4.cell? ⟨w.heap.size,2,ak⟩=au (aj (au ⟨b,off,ak⟩) dS.length lc):=(bf (q2.1 w.heap.size (by omega) (by omega))).trans P2.out
     have o2:=q1.at 2 rfl;have oz:=q1.f 2;refine hK.out _ _ (KS _ o2 hK4 q2.2) (fun eP=>?_)
     clear hK hHeld;have hHeld:=eP;try simp only[iC]
     refine fC (i:=24) rfl hHeld ?_;refine oV rfl fun K hK=>?_
     go_simp;refine hK.out _ _ ?_;have jL:=dP vY;have Dv:aG (Bx (w4.setCell ⟨O,2,ak⟩ (aj a9 (L.length+1) c9)) (w.heap.size+1) 28 #[aj ak 0 0,aj ak 0 0,aj ak 0 0]):=(q3 (w.heap.size+1) (by omega) (by omega)).trans aF0.out
     have IV:aG (Bx (w4.setCell ⟨O,2,ak⟩ (aj a9 (L.length+1) c9)) w.heap.size 28 #[aj ma mem.length mc,aj ua up.length uc,aj (au ⟨b,off,ak⟩) dS.length lc]):=(q3 w.heap.size (by omega) (by omega)).trans aF1.out
     have HL9:aG (L++[⟨yf,yt,r⟩]=dS.take (q+1)):=by rw[aG,hL.out,hgk]
     clear vY hA hr1 hr2 hr3 KS KK hgk;generalize w4.setCell ⟨O,2,ak⟩ (aj a9 (L.length+1) c9)=W9 at *;clear hb3 hb4 hbd q1 q2 q3 hHeld hK4 o2 oz hc8 p2 P2 d0 d1;go_wp2;go_roundw
     case rel=>exact⟨q+1,by omega,by go_num,_,_,_,HL9,jL.out,IV.out,Dv.out⟩
     case measure=>simp[dG];omega
    ·have j1:¬ ((q:Int)<dS.length):=by omega
     have V8:aG (L=dS):=by rw[aG,hL.out,aY (by omega)]
     obtain⟨o0,o1,o2⟩:=Bx.g3 M.own;obtain⟨r0,r1,r2⟩:=Bx.g3 hres;obtain⟨f0,f1,f2⟩:=hres.f3;have HA:aG (kE w (((wr.setCell ⟨w.heap.size+1,0,ak⟩ (aj A2.ma R.length A2.mc)).setCell ⟨w.heap.size+1,1,ak⟩ (aj A2.ua up.length A2.uc)).setCell ⟨w.heap.size+1,2,ak⟩ (aj A2.la L.length A2.lc)) (fZ ⟨R,up,L⟩) (jm A2 ⟨R,up,L⟩)):=M.ans (by omega) (by omega)
     simp only at o0 o1 o2
     clear M hres hpar hL;go_wp2;refine bY (v:=gX A2 ⟨R,up,L⟩) (by simp[results,Tryz.results38,go_sem,gX,iW, *]) rfl ?_
     exact⟨A2,by rw[HRm.out,V8.out],by have:=HA.out;rw[HRm.out,V8.out] at this;rw[HRm.out,V8.out];exact this⟩
section
variable {P:Program} {ops:Array Oper} {md:Region.Mode} {C:aI->Prop}
def I8 (P:Program) (md:Region.Mode) (ops:Array Oper) (C:aI->Prop) (n:Nat) (L:Array Bool->Act->Prop):Nat->Array Bool->Act->Prop
 | 0,listed,a=>L listed a
 | f+1,listed,a=>Region.ready md ops listed≠[]/\∀ i∈Region.ready md ops listed,i<n/\qOp P ops C i (I8 P md ops C n L f (listed.setIfInBounds i aB)) a
theorem Ox {n g:Nat} {L:Array Bool->Act->Prop} {Q:Exit->Act->aI->Prop} (hL:∀ listed a w,C w->L listed a->wpAny P md ops Q g listed a w) (f:Nat) :
  ∀ (listed:Array Bool) (a:Act) (w:aI),C w->I8 P md ops C n L f listed a->wpAny P md ops Q (f+g) listed a w:=by
 induction f with
 | zero=>intro listed a w hw h;rw[Nat.zero_add];exact hL _ _ _ hw h
 | succ f ih =>
  intro listed a w hw h;rw[show f+1+g=(f+g)+1 by omega]
  exact⟨fun h0=>absurd h0 h.1,fun i hi=>wpOp_of_qOp hw (fun a' w' hw' h'=>ih _ a' w' hw' h') (h.2 i hi).2⟩
theorem QN {n i:Nat} {oi:Oper} {v:aJ} {L:Array Bool->Act->Prop} (hi:ops[i]?=au oi) (hsel:∀ (j:Nat) (o:Oper) cs b,ops[j]?=au o->o.op≠.select cs b)
  (hs:Region.sinkB md ops n=aB) (hc:Region.chainB md ops n=aB) (hn:n<ops.size) (hin:i<n) (hdone:∀ listed a,L listed a->∀ j∈Region.ready md ops listed,n<=j) (f:Nat) :
  ∀ (listed:Array Bool) (a:Act),HeadInv md ops n listed ->
   (∀ j oj,ops[j]?=au oj->j≠i->listed.getD j aB=aC->(∀ e∈oj.after,Region.binds md e=aB->e.on≠i)->oi.apart ops oj=aB) ->
   i∈Region.ready md ops listed->YieldsIn P ops C oi v a ->
   I8 P md ops C n L f (listed.setIfInBounds i aB) (a.put oi.dst v)->I8 P md ops C n L (f+1) listed a:=by
 induction f with
 | zero =>
  intro listed a inv _ hr hy H;have hun:=(mem_ready.1 hr).1;refine⟨fun h=>(by rw[h] at hr;cases hr),fun j hj=>?_⟩
  have hjn:j<n:=Nat.lt_of_not_le fun h=>absurd hj (tail_waits hs hc hn inv _ i rfl hin hun j h)
  refine⟨hjn, ?_⟩;by_cases hji:j=i
  ·subst hji;exact hy.qOp hi H
  ·have:=hdone _ _ H j (ready_mono hj hji)
   omega
 | succ f ih =>
  intro listed a inv hfree hr hy H;have hun:=(mem_ready.1 hr).1;refine⟨fun h=>(by rw[h] at hr;cases hr),fun j hj=>?_⟩
  have hjn:j<n:=Nat.lt_of_not_le fun h=>absurd hj (tail_waits hs hc hn inv _ i rfl hin hun j h)
  refine⟨hjn, ?_⟩;by_cases hji:j=i
  ·subst hji;exact hy.qOp hi H
  ·have h1:=(H.2 j (ready_mono hj hji)).2
   obtain⟨hjun,oj,hoj,hall⟩:=mem_ready.1 hj
   have hnot:∀ e∈oj.after,Region.binds md e=aB->e.on≠i:=fun e he hb heq=>by
    have h3:=hall e he hb;rw[heq,getD_both hun] at h3
    cases h3
   have h2:=qOp_put hoj (hfree j oj hoj hji hjun hnot) (fun cs b=>hsel i oi cs b hi) (fun cs b=>hsel j oj cs b hoj) hy h1
   refine qOp_mono (fun a' h3=>ih (listed.setIfInBounds j aB) a' (inv.set hj hjn) (fun k ok hk hki hu hno=>hfree k ok hk hki ?_ hno) (ready_mono hr (Ne.symm hji)) h3.1 ?_) h2
   ·by_cases hjk:j=k
    ·subst hjk;exact hjun
    ·rw[getD_set_ne aB hjk] at hu;exact hu
   ·rw[Array.setIfInBounds_comm _ _ hji]
    exact h3.2
theorem Le {n g:Nat} {Lq:Act->Prop} (hsel:Region.noSelect ops=aB) (hs:Region.sinkB md ops n=aB) (hc:Region.chainB md ops n=aB) (hn:n<ops.size) :
  ∀ (l:List Oper) (k:Nat) (listed:Array Bool) (a:Act),(∀ j,j<l.length->l[j]?=ops[k+j]?)->k+l.length=n->HeadInv md ops n listed ->
  Region.lexHead md ops g l.length k listed=aB->wpQuiet P ops C Lq l a->I8 P md ops C n (fun listed' a'=>Region.seqB md ops g n listed'=aB/\Lq a') l.length listed a
 | [],k,listed,a,_,hk,_,hB,h=>by
  have:k=n:=by simpa using hk
  subst this;exact⟨by simpa[Region.lexHead] using hB,h⟩
 | o::l,k,listed,a,hl,hk,inv,hB,h=>by
  have h0:ops[k]?=au o:=by simpa using (hl 0 (by simp)).symm
  simp only[bP,Region.lexHead,bI] at hB;obtain⟨⟨hr,hf⟩,hB'⟩:=hB;have hkn:k<n:=by simp only[bP] at hk;omega
  have hr':k∈Region.ready md ops listed:=by simpa using hr
  have hst:qOp P ops C k (wpQuiet P ops C Lq l) a:=by unfold qOp;simp only[h0];exact h
  obtain⟨v,hy,hK⟩:=yieldsIn_of_qOp h0 hst
  exact QN h0 (Region.noSelect_spec hsel) hs hc hn hkn (fun listed' a' hL=>seqB_ready hL.1) l.length listed a inv (Region.free_spec h0 hf) hr' hy
   (Le hsel hs hc hn l (k+1) _ _ (fun j hj=>by have:=hl (j+1) (by simp;omega);simpa[Nat.add_assoc,Nat.add_comm 1 j] using this) (by simp only[bP] at hk;omega) (inv.set hr' hkn) hB' hK)
end
theorem gK {P: Program} {C: aI -> Prop} {id: Nat} {Q: Exit -> Act -> aI -> Prop} {a: Act} {l: List Oper} (n : Nat) (hm : P.follows .mixedOrders = aB) (hB : Region.lexTailB .any l.toArray n = aB) (hC : C (w.drewN 1))
    (h:wpQuiet P l.toArray C (fun a'=>∀ w', C w'->wpList P l.toArray Q (l.drop n) a' w') (l.take n) a):(Code.region id l.toArray aB).wp P Q a w:=by
  simp only[Region.lexTailB, bI, decide_eq_true_eq] at hB;obtain⟨⟨⟨⟨hsel, hn⟩, hs⟩, hc⟩, hlex⟩:=hB
  have htl : (l.take n).length = n := by have : n < l.length := by simpa using hn
                                         simp; omega
  have hdl:(l.drop n).length=l.toArray.size-n:=by simp
  have inv0:HeadInv .any l.toArray n (Array.replicate l.toArray.size aC) :=
    ⟨by simp, fun j oj _ hl=>(by rw[getD_replicate_false] at hl; cases hl), fun t _ ht=>getD_in (by simpa using ht) (getD_replicate_false _ _)⟩
  have H := Le (md := .any) (g := l.toArray.size - n) hsel hs hc hn (l.take n) 0 _ a (fun j hj => by
    have hj':j<n:=by rw[htl] at hj; exact hj
    simp[hj']) (by simpa using htl) inv0 (by rw[htl]; exact hlex) h
  refine wp_region_any hm ?_
  have := Ox (C := C) (Q := Q) (g := l.toArray.size - n) (fun listed a' w' hw' hL => by
    have:=wpAny_of_seq (md:=.any) (Q':=Q) (l.drop n) n listed a' w' (fun j=>by simp[List.getElem?_drop]) (by rw[hdl]; exact hL.1) (hL.2 w' hw')
    rwa [hdl] at this) _ _ _ (w.drewN 1) hC H
  rw[htl, show n+(l.toArray.size-n)=l.toArray.size by have:n<l.toArray.size:=hn; omega] at this
  exact this
section
theorem iY {R: List Rw} {i: Nat} {r: Rw} (h:i<R.length):dO (R.set i r) i=r:=by rw[gY h,if_pos rfl]
attribute [local irreducible] sv
theorem EM (B o:Nat) (m:Mb) (i n:Nat) (t:List UInt8) (fp:Fp) (w:aI) (h:iP w B o (jY m) fp) (ok:iO m i n) (ht:t.length<=1000000000) :
  dF dA 98 #[aO (au ⟨B,o,ak⟩),aN (sv t)] w fun e w'=>e=aK (aF (jD m t).2)/\fH w w' B o (jY (jD m t).1) fp:=by
 have gq:=iD;have hil:i<m.rows.length:=by rw[ok.len];exact ok.lt
 obtain⟨g,off,c,M0⟩:=Mw.start h (by omega)
 obtain⟨c0,c1,c4⟩:=M0.id';have c2:=M0.rws;rw[ok.hid] at c0;have i0:(0:Int)<=i:=by omega
 have i1:(i:Int)<m.rows.length:=by omega
 have p0:∀ q:Bk w,q.w.cell? ⟨B,o,ak⟩=_:=fun q=>gy q.h c0
 have p2:∀ q:Bk w,q.w.cell? ⟨B,o+2,ak⟩=_:=fun q=>gy q.h c2
 have kQ:=dP M0;clear c0 c1 c4 c2 M0 h;go_enter Tryz.func98,Tryz.ntmps98
 go_wp2_with fail
 refine jg ?_;repeat (go_big_quiet_step ((first|rfl)))
 refine dh (iL fun wE eG=>?_)
 clear p0 p2;have M1:=kQ.out.step eG;have fU:=dP M1;obtain⟨c0,c1,c4⟩:=M1.id';rw[ok.hid] at c0;obtain⟨Ak,⟨⟨d0,d1,d2,d3⟩,d4,d5,d6,d7⟩,hrs⟩:=M1.row ok.fit hil;have hr:=ok.ok i ok.lt;have aH1:=BP t
 have Zo:aG (jD m t=if (dO m.rows i).wed=aB\/m.done=aB\/(dO m.rows i).txt.length=12\/20<t.length\/(dO m.rows i).ver=1000000 then (m,aC) else ({ m with rows:=m.rows.set i { dO m.rows i with txt:=(dO m.rows i).txt++[t],got:=(dO m.rows i).got.set i (el (dO m.rows i).got i+1),ver:=(dO m.rows i).ver+1 } },aB)):=by
  have e:m.i=i:=by unfold Mb.i;rw[ok.hid];rfl
  rw[aG,jD,Mb.put,Mb.own,e]
 have kP:aG (((dO m.rows i).wed=aB\/m.done=aB\/(dO m.rows i).txt.length=12\/20<t.length\/(dO m.rows i).ver=1000000)->jD m t=(m,aC)):=fun h=>by rw[Zo.out,if_pos h]
 have BI:aG (¬ ((dO m.rows i).wed=aB\/m.done=aB\/(dO m.rows i).txt.length=12\/20<t.length\/(dO m.rows i).ver=1000000)->jD m t=({ m with rows:=m.rows.set i { dO m.rows i with txt:=(dO m.rows i).txt++[t],got:=(dO m.rows i).got.set i (el (dO m.rows i).got i+1),ver:=(dO m.rows i).ver+1 } },aB)):=fun h=>by rw[Zo.out,if_neg h]
 have htl:=hr.tl;clear Zo hrs d2 d3 d5 d6 d7 c1 eG kQ M1
 cases hwd:(dO m.rows i).wed with
 | true =>
  have HZ:=dP (kP.out (.inl hwd));rw[hwd] at d4;go_wp2;go_ret
  exact⟨dZ (by rw[HZ.out]),by rw[HZ.out];exact fU.out.iw⟩
 | false =>
 rw[hwd] at d4
 cases hdn:m.done with
 | true =>
  have HZ:=dP (kP.out (.inr (.inl hdn)));rw[hdn] at c4;go_wp2;go_ret
  exact⟨dZ (by rw[HZ.out]),by rw[HZ.out];exact fU.out.iw⟩
 | false =>
 rw[hdn] at c4;by_cases h12:(dO m.rows i).txt.length=12
 ·have HZ:aG (jD m t=(m,aC)):=kP.out (.inr (.inr (.inl h12)))
  have e12:(((dO m.rows i).txt.length:Int)==12)=aB:=by rw[h12];rfl
  clear h12;go_wp2;go_ret
  exact⟨dZ (by rw[HZ.out]),by rw[HZ.out];exact fU.out.iw⟩
 have e12:(((dO m.rows i).txt.length:Int)==12)=aC:=by simp;omega
 by_cases h20:20<t.length
 ·have HZ:aG (jD m t=(m,aC)):=kP.out (.inr (.inr (.inr (.inl h20))))
  have e20:(20:Int)<t.length:=by omega
  go_wp2;go_ret
  exact⟨dZ (by rw[HZ.out]),by rw[HZ.out];exact fU.out.iw⟩
 have e20:¬ ((20:Int)<t.length):=by omega
 by_cases kC:(dO m.rows i).ver=1000000
 ·have HZ:aG (jD m t=(m,aC)):=kP.out (.inr (.inr (.inr (.inr kC))))
  have ev:((dO m.rows i).ver==1000000)=aB:=by rw[kC];rfl
  clear kC;go_wp2;go_ret
  exact⟨dZ (by rw[HZ.out]),by rw[HZ.out];exact fU.out.iw⟩
 have ev:((dO m.rows i).ver==1000000)=aC:=by simpa using kC
 have HZ:aG (jD m t=_):=BI.out (by rw[hwd,hdn];simp;omega)
 obtain⟨u,f,hu,hfz,how,hlt,hset⟩:=fU.out.at hil (j:=1) rfl;obtain⟨ta,tc,rfl,hA⟩:=IZ t how (by omega)
 have HS:=dP hset;clear d1 hset kP BI how hlt;go_wp2_with (at_builtin;refine fG (by rfl) _ _ _ _ (by rfl) _ _ (by rfl) (by rfl) hA ⟨rfl,rfl,rfl,rfl⟩ ?_;rintro v1 w1 ⟨a1,e1,f1,rfl,k1,k2,k3⟩;obtain⟨q1,q2,M2,_⟩:=HS.out w1 _ _ f1 { dO m.rows i with txt:=(dO m.rows i).txt++[t] } rfl k3 k1 k2;have jk:aG (Mw w (w1.setCell ⟨g,off+i*8+1,ak⟩ (aj a1 ((dO m.rows i).txt.length+1) e1)) B o { m with rows:=m.rows.set i { dO m.rows i with txt:=(dO m.rows i).txt++[t] } } fp g off c):=M2;clear M2 k1 k2 k3 hA HS)
 clear q1 q2 hu hfz d0 d4 c0 c4;generalize w1.setCell ⟨g,off+i*8+1,ak⟩ (aj a1 ((dO m.rows i).txt.length+1) e1)=W5 at *;generalize hr1:({ dO m.rows i with txt:=(dO m.rows i).txt++[t] }:Rw)=r1 at *
 have hgl:r1.got=(dO m.rows i).got:=by rw[<- hr1]
 have hvl:r1.ver=(dO m.rows i).ver:=by rw[<- hr1]
 have Uz:dO (m.rows.set i r1) i=r1:=iY hil;have yQ:i<(m.rows.set i r1).length:=by rw[bQ];exact hil
 have hgi:i<r1.got.length:=by rw[hgl,hr.gl];exact ok.lt
 obtain⟨u,f,hu,hfz,how,hlt,hset⟩:=jk.out.at yQ (j:=2) (cl:=gJ r1.got) (by rw[Uz];rfl)
 obtain⟨gb,go,gc,rfl,hfg,hge,hgz,hgs⟩:=nR how hgi;obtain⟨c0,c1,c4⟩:=jk.out.id';simp only at c0
 rw[ok.hid] at c0;have i2:(i:Int)<r1.got.length:=by omega
 have p0:∀ q:Bk W5,q.w.cell? ⟨B,o,ak⟩=_:=fun q=>gy q.h c0
 have p2:∀ q:Bk W5,q.w.cell? ⟨g,off+i*8+2,ak⟩=_:=fun q=>gy q.h hu
 have p3:∀ q:Bk W5,q.w.cell? ⟨gb,go+i,ak⟩=_:=fun q=>gy q.h hge
 have aH8:-1000<=el r1.got i/\el r1.got i<=1000:=by
  have:=hr.g12 (el r1.got i) (by rw[hgl];exact kK (by rw[<- hgl];exact hgi))
  have h0:=hr.fit;have hg:=(jF hr.n5 hr.gl).1 ⟨hr.got,hr.g12⟩ i ok.lt;rw[hgl];omega
 have hwx:wrap64 (el r1.got i+1)=el r1.got i+1:=by unfold wrap64;omega
 have HH:=dP how;have HEL:aG (el r1.got i=el (dO m.rows i).got i):=by rw[aG,hgl]
 have HGL:=dP hgl;have HVL:=dP hvl;have HS1:=dP Uz;have HR1:=dP hr1;clear hu hfz hge hgz hgs how hset c0 c1 c4 aH8 hgl hvl Uz hr1;generalize el r1.got i=x at *;refine gK (C:=fun w'=>∃ p:Bk W5,w'=p.w) 20 gq (by kernel_rfl) ⟨⟨W5.drewN 1,fO (dw _ _)⟩,rfl⟩ ?_
 simp only[List.take_succ_cons,List.take_zero]
 repeat (go_big_quiet_step ((first|rfl)))
 refine dh (iL fun wE eG=>?_)
 simp only[List.drop_succ_cons,List.drop_zero]
 have hu3:=p2 ⟨wE,eG⟩;simp only at hu3
 have M3:=jk.out.step eG;obtain⟨u,f3,hu,hfz,how,hlt3,hset⟩:=M3.at yQ (j:=2) (cl:=gJ r1.got) (by rw[HS1.out];rfl)
 obtain rfl:=bT (hu.symm.trans hu3);obtain⟨gb',go',gc',e4,Zp,hge,hgz,hgs⟩:=nR how hgi
 cases e4
 obtain⟨k1,k2⟩:=hgs (x+1);obtain⟨_,_,_,zL⟩:=hset _ (gJ (r1.got.set i (x+1))) _ f3 { r1 with got:=r1.got.set i (x+1) } (by rw[HS1.out];rfl) k2 k1 (fun b hb=>.inl hb)
 have mG:=dP (zL rfl);clear zL hgs k1 k2 hset M3 how hu hu3 hfz p0 p2 p3 hlt3 hlt;go_upto_region 6 with fail
 generalize wE.setCell ⟨gb,go+i,ak⟩ (ah aA (x+1))=W7 at *;clear hge hgz;rw[List.set_set] at mG;generalize hr2:({ r1 with got:=r1.got.set i (x+1) }:Rw)=r2 at *
 have tH:i<(m.rows.set i r2).length:=by rw[bQ];exact hil
 have hv2:r2.ver=(dO m.rows i).ver:=by rw[<- hr2];exact HVL.out
 have hs2:dO (m.rows.set i r2) i=r2:=iY hil;obtain⟨v1,v2,qQ⟩:=mG.out.put tH (j:=0) (x:=ah aA r2.ver) (y:=ah aA (r2.ver+1)) (r':={ r2 with ver:=r2.ver+1 }) (by rw[hs2];rfl) (by rw[hs2];rfl)
 have hvb:=hr.ver;have hwv:wrap64 (r2.ver+1)=r2.ver+1:=by rw[hv2];unfold wrap64;omega
 simp only[Nat.add_zero] at v1 v2 qQ;rw[List.set_set] at qQ;have iM:=dP qQ
 have HFin:aG (({ m with rows:=m.rows.set i { r2 with ver:=r2.ver+1 } }:Mb)=(jD m t).1/\(jD m t).2=aB):=by
  rw[aG,HZ.out];refine⟨?_,rfl⟩;rw[<- hr2,<- HR1.out,HEL.out]
 clear qQ hr2 hs2 hv2 HZ hvb;go_wp2;go_ret
 exact⟨dZ (by rw[HFin.out.2]),by rw[<- HFin.out.1];exact iM.out.iw⟩
end
theorem Lh (B o:Nat) (m:Mb) (i n:Nat) (who:Int) (fp:Fp) (w:aI) (h:iP w B o (jY m) fp) (ok:iO m i n) :
  dF dA 100 #[aO (au ⟨B,o,ak⟩),ah aA who] w fun e w'=>e=aK (aF (fJ m who).2)/\fH w w' B o (jY (fJ m who).1) fp:=by
 have gq:=iD;have hil:i<m.rows.length:=by rw[ok.len];exact ok.lt
 obtain⟨g,off,c,M0⟩:=Mw.start h (by omega)
 obtain⟨c0,c1,c4⟩:=M0.id';have c2:=M0.rws;rw[ok.hid] at c0;have i0:(0:Int)<=i:=by omega
 have i1:(i:Int)<m.rows.length:=by omega
 have p0:∀ q:Bk w,q.w.cell? ⟨B,o,ak⟩=_:=fun q=>gy q.h c0
 have p2:∀ q:Bk w,q.w.cell? ⟨B,o+2,ak⟩=_:=fun q=>gy q.h c2
 have kQ:=dP M0;clear c0 c1 c4 c2 M0 h;go_enter Tryz.func100,Tryz.ntmps100
 go_wp2_with fail
 refine jg ?_;repeat (go_big_quiet_step ((first|rfl)))
 refine dh (iL fun wE eG=>?_)
 clear p0 p2;have M1:=kQ.out.step eG;have fU:=dP M1;obtain⟨c0,c1,c4⟩:=M1.id';rw[ok.hid] at c0;rw[ok.hn] at c1;obtain⟨Ak,⟨⟨d0,d1,d2,d3⟩,d4,d5,d6,d7⟩,hrs⟩:=M1.row ok.fit hil;have hr:=ok.ok i ok.lt;have hH:=qL Ak.sa (dO m.rows i).dQ.length Ak.sc who (dO m.rows i).dQ wE hrs.dQ hrs.ms
 have HD:aG (fJ m who=if inB who 0 ((n:Int)-1)=aC\/who=(i:Int)\/who∈(dO m.rows i).dQ\/m.done=aB\/(dO m.rows i).ver=1000000 then (m,aC) else ({ m with rows:=m.rows.set i { dO m.rows i with dQ:=gV (dO m.rows i).dQ who,wed:=aB,ver:=(dO m.rows i).ver+1 } },aB)):=by
  have e:m.i=i:=by unfold Mb.i;rw[ok.hid];rfl
  rw[aG,fJ,Mb.put,Mb.own,e,ok.hid,ok.hn]
 have kP:aG ((inB who 0 ((n:Int)-1)=aC\/who=(i:Int)\/who∈(dO m.rows i).dQ\/m.done=aB\/(dO m.rows i).ver=1000000)->fJ m who=(m,aC)):=fun h=>by rw[HD.out,if_pos h]
 have BI:aG (¬ (inB who 0 ((n:Int)-1)=aC\/who=(i:Int)\/who∈(dO m.rows i).dQ\/m.done=aB\/(dO m.rows i).ver=1000000)->fJ m who=({ m with rows:=m.rows.set i { dO m.rows i with dQ:=gV (dO m.rows i).dQ who,wed:=aB,ver:=(dO m.rows i).ver+1 } },aB)):=fun h=>by rw[HD.out,if_neg h]
 have jq:=hr.n5;have wn:wrap64 ((n:Int)-1)=(n:Int)-1:=by unfold wrap64;omega
 have hsl:=hr.sl;have hfs:=hr.fit.2.1;clear HD hrs d1 d2 d5 d6 d7 eG kQ M1
 cases e1:inB who 0 ((n:Int)-1) with
 | false =>
  have HZ:=dP (kP.out (.inl e1));go_wp2_with (first|(go_at_call 40;refine fV (gI _ _ _ _) ?_))
  go_ret
  exact⟨dZ (by rw[HZ.out]),by rw[HZ.out];exact fU.out.iw⟩
 | true =>
 by_cases h2:who=(i:Int)
 ·have HZ:aG (fJ m who=(m,aC)):=kP.out (.inr (.inl h2))
  have e2:(who==(i:Int))=aB:=by rw[h2];simp
  clear h2;go_wp2_with (first|(go_at_call 40;refine fV (gI _ _ _ _) ?_))
  go_ret
  exact⟨dZ (by rw[HZ.out]),by rw[HZ.out];exact fU.out.iw⟩
 have e2:(who==(i:Int))=aC:=by simpa using h2
 by_cases h3:who∈(dO m.rows i).dQ
 ·have HZ:aG (fJ m who=(m,aC)):=kP.out (.inr (.inr (.inl h3)))
  rw[decide_eq_true h3] at hH;clear h3;go_wp2_with (first|(go_at_call 40;refine fV (gI _ _ _ _) ?_)|(go_at_call 113;refine fV hH ?_))
  go_ret
  exact⟨dZ (by rw[HZ.out]),by rw[HZ.out];exact fU.out.iw⟩
 rw[decide_eq_false h3] at hH
 cases hdn:m.done with
 | true =>
  have HZ:=dP (kP.out (.inr (.inr (.inr (.inl hdn)))));rw[hdn] at c4;go_wp2_with (first|(go_at_call 40;refine fV (gI _ _ _ _) ?_)|(go_at_call 113;refine fV hH ?_))
  go_ret
  exact⟨dZ (by rw[HZ.out]),by rw[HZ.out];exact fU.out.iw⟩
 | false =>
 rw[hdn] at c4;by_cases kC:(dO m.rows i).ver=1000000
 ·have HZ:aG (fJ m who=(m,aC)):=kP.out (.inr (.inr (.inr (.inr kC))))
  have ev:((dO m.rows i).ver==1000000)=aB:=by rw[kC];rfl
  clear kC;go_wp2_with (first|(go_at_call 40;refine fV (gI _ _ _ _) ?_)|(go_at_call 113;refine fV hH ?_))
  go_ret
  exact⟨dZ (by rw[HZ.out]),by rw[HZ.out];exact fU.out.iw⟩
 have ev:((dO m.rows i).ver==1000000)=aC:=by simpa using kC
 have HZ:aG (fJ m who=_):=BI.out (by rw[e1,hdn];simp;exact⟨h2,h3,kC⟩)
 obtain⟨u,f,hu,hfz,how,hlt,hset⟩:=fU.out.at hil (j:=3) rfl;have how':=how;obtain⟨sa,sc,G,rfl,_,_⟩:=je.1 how';have hP:=NR sa sc (dO m.rows i).dQ who wE f how hfs (by omega)
 have HS:=dP hset;have e3:=bT (d3.symm.trans hu);rw[e3] at d3 hH;clear e3;clear hu hset kP BI how how' hlt h2 h3 kC;go_wp2_with (first|(go_at_call 40;refine fV (gI _ _ _ _) ?_)|(go_at_call 113;refine fV hH ?_))
 refine hP.mono ?_;rintro e w1 ⟨a1,e1',f1,rfl,k1,k2,k3⟩;obtain⟨q1,q2,M2,_⟩:=HS.out w1 _ _ f1 { dO m.rows i with dQ:=gV (dO m.rows i).dQ who } rfl (eX.of_below k3) k1 k2
 have jk:=dP M2;clear M2 k1 k2 k3 hP HS hH d0 d3 d4 c0 c1 c4 hfz;go_upto_region 5 with fail
 generalize w1.setCell ⟨g,off+i*8+3,ak⟩ (aj a1 (gV (dO m.rows i).dQ who).length e1')=W5 at *;clear q1 q2;generalize hr1:({ dO m.rows i with dQ:=gV (dO m.rows i).dQ who }:Rw)=r1 at *
 have hs1:dO (m.rows.set i r1) i=r1:=iY hil;have yQ:i<(m.rows.set i r1).length:=by rw[bQ];exact hil
 obtain⟨v1,v2,F8⟩:=jk.out.put yQ (j:=4) (x:=aF r1.wed) (y:=aF aB) (r':={ r1 with wed:=aB }) (by rw[hs1];rfl) (by rw[hs1];rfl)
 rw[List.set_set] at F8;have lC:=dP F8;have HR1:=dP hr1;clear F8 hs1 hr1;go_upto_region 6 with fail
 generalize W5.setCell ⟨g,off+i*8+4,ak⟩ (aF aB)=W7 at *;clear v1 v2;generalize hr2:({ r1 with wed:=aB }:Rw)=r2 at *
 have tH:i<(m.rows.set i r2).length:=by rw[bQ];exact hil
 have hv2:r2.ver=(dO m.rows i).ver:=by rw[<- hr2,<- HR1.out]
 have hs2:dO (m.rows.set i r2) i=r2:=iY hil;obtain⟨v1,v2,qQ⟩:=lC.out.put tH (j:=0) (x:=ah aA r2.ver) (y:=ah aA (r2.ver+1)) (r':={ r2 with ver:=r2.ver+1 }) (by rw[hs2];rfl) (by rw[hs2];rfl)
 have hvb:=hr.ver;have hwv:wrap64 (r2.ver+1)=r2.ver+1:=by rw[hv2];unfold wrap64;omega
 simp only[Nat.add_zero] at v1 v2 qQ;rw[List.set_set] at qQ;have iM:=dP qQ
 have HFin:aG (({ m with rows:=m.rows.set i { r2 with ver:=r2.ver+1 } }:Mb)=(fJ m who).1/\(fJ m who).2=aB):=by
  rw[aG,HZ.out];refine⟨?_,rfl⟩;rw[<- hr2,<- HR1.out]
 clear qQ hr2 hs2 hv2 HZ hvb;go_wp2;go_ret
 exact⟨dZ (by rw[HFin.out.2]),by rw[<- HFin.out.1];exact iM.out.iw⟩
end Go.Proofs.YtafimeakbdmkjaaGreat