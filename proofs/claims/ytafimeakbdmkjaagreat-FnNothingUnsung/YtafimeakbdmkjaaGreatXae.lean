/-
  Texts in one.
-/
import Derived.Test.YtafimeakbdmkjaaGreatXad
import Derived.Test.YtafimeakbdmkjaaGreatXab
import Derived.Test.YtafimeakbdmkjaaGreatXac
import Derived.Test.YtafimeakbdmkjaaGreatXaa
import Derived.BigQuiet
import Derived.StillTail
import Derived.OrdersHeld
import Derived.Deep.RegionHeld
namespace Go.Proofs.YtafimeakbdmkjaaGreat
open Bool renaming and_eq_true->bI,false->aC,true->aB
open Go renaming Addr->dH,Calls->dF,Value->aJ,World->aI,maxLen->dD,wpQuiet_nil->dh
open Go.Ending renaming returned->aK
open Go.IntKind renaming i64->aA
open Go.Obj renaming cells->aH
open Go.Proofs.Tryz renaming prog->dA
open Go.RowKit renaming Hid->aG,intOf->dG
open Go.RowKit.Below renaming refl->dw
open Go.Value renaming bool->aF,int->ah,slice->aj
open List renaming all_eq_true->bJ,getD_eq_getElem?_getD->aS,getElem?_append_left->aU,getElem?_append_right->aT,getElem?_eq_getElem->aV,getElem?_eq_none->aZ,length_append->bD,length_set->bQ,length_take->bM,mem_cons_of_mem->bC,mem_cons_self->bF,mem_iff_getElem->bg,replicate->bV
open Nat renaming le_refl->cO,lt_succ_iff_lt_or_eq->aW,zero_le->cZ
open Option renaming none->ak,some->au
open Option.some renaming inj->bT
set_option linter.unusedVariables false
set_option linter.unusedSimpArgs false
open Go.RowKit Go.Sort
set_option maxRecDepth 100000
set_option maxHeartbeats 12800000
variable {B i k o:Nat} {x:Int} {l:List Int} {r:Rw}
structure Ml where
 fr:Int
 «to»:Int
 row:Rw
structure Ac where
 kind:Int
 a:Int
 b:Int
 txt:List UInt8
structure Gr where
 mem:List Mb
 up:List Bool
 dS:List Ml
def jG:Gr:=⟨[],[],[]⟩
def eF (g:Gr) (i:Nat):Mb:=g.mem.getD i kY
def ou (g:Gr) (i:Nat):Bool:=g.up.getD i aC
def jf (n:Int):Gr×Bool:=if inB n 1 5=aB then (⟨(List.range n.toNat).map (fun (i:Nat)=>(kM (i:Int) n).1),bV n.toNat aB,[]⟩,aB) else (jG,aC)
def pI (x:Ml) (n:Int):Bool:=inB x.fr 0 (n-1)&&(inB x.to 0 (n-1)&&(decide (x.fr≠x.to)&&gu x.row n))
def jA (g:Gr):Bool :=
 decide (1 <= g.mem.length) && (decide (g.mem.length <= 5) && (decide (g.up.length = g.mem.length) && (decide (g.dS.length <= 200) &&
  ((List.range g.mem.length).all (fun i=>iG (eF g i)&&(decide ((eF g i).id=(i:Int))&&decide ((eF g i).n=(g.mem.length:Int))))&&g.dS.all (fun x=>pI x (g.mem.length:Int))))))
def Gr.set (g:Gr) (i:Nat) (m:Mb):Gr:={ g with mem:=g.mem.set i m }
def jT (g:Gr) (a b:Int):Gr:=if g.dS.length<200 then { g with dS:=g.dS++[⟨a,b,dO (eF g a.toNat).rows a.toNat⟩] } else g
def fF (g:Gr) (i:Nat):Ml:=g.dS.getD i ⟨0,0,nJ⟩
def ku (g:Gr) (i:Nat):Gr :=
 if ou g (fF g i).to.toNat=aB then { mem:=g.mem.set (fF g i).to.toNat (fK (eF g (fF g i).to.toNat) (fF g i).fr (fF g i).row).1,up:=g.up,dS:=g.dS.take i++g.dS.drop (i+1) }
 else { g with dS:=g.dS.take i++g.dS.drop (i+1) }
def oC (g:Gr) (a:Int):Gr:=(List.range g.mem.length).foldl (fun g (i:Nat)=>if (i:Int)=a then g else jT g a (i:Int)) g
def mV (g:Gr) (x:Ac):Bool:=inB x.a 0 ((g.mem.length:Int)-1)&&(inB x.b 0 ((g.mem.length:Int)-1)&&decide (x.a≠x.b))
def gQ (g:Gr) (x:Ac):Gr×Bool :=
 if x.kind=3 then (if mV g x=aB then (match g.dS.findIdx? (fun y=>decide (y.fr=x.a/\y.to=x.b)) with|some i=>(ku g i,aB)|none=>(g,aC)) else (g,aC))
 else if inB x.a 0 ((g.mem.length:Int)-1)=aC\/ou g x.a.toNat=aC then (g,aC)
 else if x.kind=1 then (g.set x.a.toNat (jD (eF g x.a.toNat) x.txt).1,(jD (eF g x.a.toNat) x.txt).2)
 else if x.kind=2 then (if mV g x=aB then (jT g x.a x.b,aB) else (g,aC))
 else if x.kind=4 then (g.set x.a.toNat (fM (eF g x.a.toNat)),aB)
 else if x.kind=5 then (if mV g x=aB then (g.set x.a.toNat (fJ (eF g x.a.toNat) x.b).1,(fJ (eF g x.a.toNat) x.b).2) else (g,aC))
 else if x.kind=6 then ({ g with up:=g.up.set x.a.toNat aC },aB)
 else if x.kind=7 then (oC g x.a,aB)
 else (g,aC)
def oU (g:Gr) (l:List Ac):Gr:=l.foldl (fun g x=>(gQ g x).1) g
def drain:Nat->Gr->Gr
 | 0,g=>g
 | f+1,g=>if 0<g.dS.length then drain f (ku g 0) else g
def qx (g:Gr) (i:Nat):Gr:=if ou g i=aB then oC (g.set i (fM (eF g i))) (i:Int) else g
def pW (g:Gr):Gr:=(fun g=>drain g.dS.length g) ((List.range g.mem.length).foldl qx g)
def vC (g:Gr):Gr:=pW (pW (pW (pW (pW (pW (pW (pW g)))))))
structure GInv (n:Nat) (g:Gr) (h:Hs) (log:List Pp):Prop where
 S:kX n h log
 n5:1<=n/\n<=5
 ml:g.mem.length=n
 ul:g.up.length=n
 mem:∀ i,i<n->MInv n h i (eF g i)
 kU:∀ x∈g.dS,∃ a b:Nat,x.fr=(a:Int)/\x.to=(b:Int)/\a<n/\b<n/\a≠b/\x.row∈h a/\iR x.row n
 pJ:g.dS.length<=200
def qO (n:Nat) (g:Gr):Prop:=∃ h log,GInv n g h log
theorem vJ {g: Gr} {j: Nat} {m: Mb} (hi:i<g.mem.length):eF (g.set i m) j=if j=i then m else eF g j:=by
 unfold eF Gr.set;simp only
 rw[aS,aS,List.getElem?_set];by_cases e:i=j
 ·subst e;simp[hi]
 ·rw[if_neg e,if_neg (Ne.symm e)]
theorem GInv.goes {n: Nat} {g: Gr} {h: Hs} {log: List Pp} (G:GInv n g h log) (hi:i<n) {m': Mb} (hg:Goes n h log i m'):qO n (g.set i m'):=by
 obtain⟨h',wK,S',M',hne,hm⟩:=hg;have hil:i<g.mem.length:=by rw[G.ml];exact hi
 refine⟨h',wK,S',G.n5,by simp only[Gr.set,bQ];exact G.ml,G.ul,fun j hj=>?_,fun x hx=>?_,G.pJ⟩
 ·rw[vJ hil]
  split
  ·rename_i e;rw[e];exact M'
  ·rename_i e;exact (G.mem j hj).more hm (hne j e)
 ·obtain⟨a,b,h1,h2,h3,h4,h5,h6,h7⟩:=G.kU x hx
  exact⟨a,b,h1,h2,h3,h4,h5,hm a _ h6,h7⟩
theorem GInv.push {n: Nat} {g: Gr} {h: Hs} {log: List Pp} (G:GInv n g h log) {a b: Nat} (ha:a<n) (hb:b<n) (hab:a≠b):GInv n (jT g (a:Int) (b:Int)) h log/\(jT g (a:Int) (b:Int)).mem=g.mem:=by
 unfold jT
 split
 ·rename_i hl
  refine⟨⟨G.S,G.n5,G.ml,G.ul,G.mem,fun x hx=>?_,by simp only[bD,List.length_singleton];omega⟩,rfl⟩
  rcases List.mem_append.1 hx with hx|hx
  ·exact G.kU x hx
  ·have:=List.mem_singleton.1 hx
   subst this;refine⟨a,b,rfl,rfl,ha,hb,hab, ?_, ?_⟩
   ·simp only[Int.toNat_natCast];exact (G.mem a ha).view a ha
   ·simp only[Int.toNat_natCast];exact (G.mem a ha).ok a ha
 ·exact⟨G,rfl⟩
theorem GInv.all {n:Nat} {h:Hs} {log:List Pp} {a:Nat} (ha:a<n):∀ (L:List Nat) {g:Gr},GInv n g h log->(∀ x∈L,x<n)->GInv n (L.foldl (fun g (i:Nat)=>if (i:Int)=(a:Int) then g else jT g (a:Int) (i:Int)) g) h log
 | [],g,G,_=>G
 | i::L,g,G,hL=>by
  rw[List.foldl_cons];refine GInv.all ha L ?_ (fun x hx=>hL x (bC _ hx))
  split
  ·exact G
  ·rename_i e
   exact (G.push ha (hL i bF) (fun e2=>e (by rw[e2]))).1
theorem GInv.land {n: Nat} {g: Gr} {h: Hs} {log: List Pp} (G:GInv n g h log) (hi:i<g.dS.length):GInv n (ku g i) h log:=by
 have hx:fF g i∈g.dS:=by
  unfold fF;rw[aS,aV hi];exact List.getElem_mem hi
 obtain⟨a,b,h1,h2,h3,h4,h5,h6,h7⟩:=G.kU _ hx
 have hsub:∀ x∈g.dS.take i++g.dS.drop (i+1),x∈g.dS:=fun x hx=>by
  rcases List.mem_append.1 hx with hx|hx
  ·exact List.mem_of_mem_take hx
  ·exact List.mem_of_mem_drop hx
 have hlen:(g.dS.take i++g.dS.drop (i+1)).length<=200:=by
  have:=G.pJ;simp only[bD,bM,List.length_drop]
  omega
 unfold ku
 split
 ·rw[h2,h1]
  simp only[Int.toNat_natCast]
  have hbl:b<g.mem.length:=by rw[G.ml];exact h4
  refine⟨G.S,G.n5,by simp only[bQ];exact G.ml,G.ul,fun j hj=>?_,fun x hx=>G.kU x (hsub x hx),hlen⟩
  have:=vJ (g:=g) (i:=b) (j:=j) (m:=(fK (eF g b) (a:Int) (fF g i).row).1) hbl;have e:eF { mem:=g.mem.set b (fK (eF g b) (a:Int) (fF g i).row).1,up:=g.up,dS:=g.dS.take i++g.dS.drop (i+1) } j=eF (g.set b (fK (eF g b) (a:Int) (fF g i).row).1) j:=rfl;rw[e,this]
  split
  ·rename_i e2;rw[e2];exact Us G.S (G.mem b h4) h6 h3
  ·exact G.mem j hj
 ·exact⟨G.S,G.n5,G.ml,G.ul,G.mem,fun x hx=>G.kU x (hsub x hx),hlen⟩
theorem qE {n: Nat} (h:inB x 0 ((n:Int)-1)=aB):∃ a:Nat,x=(a:Int)/\a<n:=by
 have:=iZ.1 h;exact⟨x.toNat,by omega,by omega⟩
theorem Oa {n: Nat} {g: Gr} (hg:qO n g) (x:Ac):qO n (gQ g x).1:=by
 obtain⟨h,log,G⟩:=hg;have hself:qO n g:=⟨h,log,G⟩
 have Ob:mV g x=aB->∃ a b:Nat,x.a=(a:Int)/\x.b=(b:Int)/\a<n/\b<n/\a≠b:=fun ht=>by
  simp only[mV,bI,decide_eq_true_eq] at ht;rw[G.ml] at ht;obtain⟨a,e1,h1⟩:=qE ht.1;obtain⟨b,e2,h2⟩:=qE ht.2.1;exact⟨a,b,e1,e2,h1,h2,fun e=>ht.2.2 (by rw[e1,e2,e])⟩
 unfold gQ;by_cases c3:x.kind=3
 ·rw[if_pos c3]
  by_cases c2:mV g x=aB
  ·rw[if_pos c2]
   cases e:g.dS.findIdx? (fun y=>decide (y.fr=x.a/\y.to=x.b)) with
   | none=>exact hself
   | some i=>exact⟨h,log,G.land (List.findIdx?_eq_some_iff_getElem.1 e).1⟩
  ·rw[if_neg c2];exact hself
 ·rw[if_neg c3]
  by_cases c0:inB x.a 0 ((g.mem.length:Int)-1)=aC\/ou g x.a.toNat=aC
  ·rw[if_pos c0];exact hself
  ·rw[if_neg c0]
   simp only[not_or] at c0;rw[G.ml] at c0;obtain⟨a,ea,ha⟩:=qE (by simpa using c0.1)
   have M:=G.mem a ha;have et:x.a.toNat=a:=by rw[ea];rfl
   rw[et];by_cases c1:x.kind=1
   ·rw[if_pos c1];exact G.goes ha (YX G.S M x.txt)
   ·rw[if_neg c1]
    by_cases c2:x.kind=2
    ·rw[if_pos c2]
     by_cases c4:mV g x=aB
     ·rw[if_pos c4]
      obtain⟨a',b,e1,e2,h1,h2,h3⟩:=Ob c4;rw[e1,e2];exact⟨h,log,(G.push h1 h2 h3).1⟩
     ·rw[if_neg c4];exact hself
    ·rw[if_neg c2]
     by_cases c4:x.kind=4
     ·rw[if_pos c4];exact G.goes ha (KR G.S M)
     ·rw[if_neg c4]
      by_cases c5:x.kind=5
      ·rw[if_pos c5]
       by_cases c6:mV g x=aB
       ·rw[if_pos c6];exact G.goes ha (Ur G.S M x.b)
       ·rw[if_neg c6];exact hself
      ·rw[if_neg c5]
       by_cases c6:x.kind=6
       ·rw[if_pos c6];exact⟨h,log,G.S,G.n5,G.ml,by simp only[bQ];exact G.ul,G.mem,G.kU,G.pJ⟩
       ·rw[if_neg c6]
        by_cases c7:x.kind=7
        ·rw[if_pos c7,ea]
         exact⟨h,log,GInv.all ha (List.range g.mem.length) G (fun y hy=>by rw[G.ml] at hy;exact List.mem_range.1 hy)⟩
        ·rw[if_neg c7];exact hself
theorem Rq {n:Nat}:∀ (l:List Ac) {g:Gr},qO n g->qO n (oU g l)
 | [],g,h=>h
 | x::l,g,h=>Rq l (Oa h x)
theorem Oc {n:Nat}:∀ (f:Nat) {g:Gr},qO n g->qO n (drain f g)
 | 0,g,h=>h
 | f+1,g,h=>by
  unfold drain
  split
  ·rename_i hl
   obtain⟨hh,log,G⟩:=h;exact Oc f ⟨hh,log,G.land hl⟩
  ·exact h
theorem Uu {n: Nat} {g: Gr} (hg:qO n g) (hi:i<n):qO n (qx g i):=by
 unfold qx
 split
 ·obtain⟨h,log,G⟩:=hg
  obtain⟨h',wK,G'⟩:=G.goes hi (KR G.S (G.mem i hi));exact⟨h',wK,GInv.all hi (List.range (g.set i (fM (eF g i))).mem.length) G' (fun y hy=>by rw[G'.ml] at hy;exact List.mem_range.1 hy)⟩
 ·exact hg
theorem sU {n: Nat} {g: Gr} (hg:qO n g):qO n (pW g):=by
 have hl:g.mem.length=n:=by obtain⟨_,_,G⟩:=hg;exact G.ml
 have key:∀ (L:List Nat) {g:Gr},qO n g->(∀ x∈L,x<n)->qO n (L.foldl qx g):=by
  intro L
  induction L with
  | nil=>intro g h _;exact h
  | cons i L ih=>intro g h hL;exact ih (Uu h (hL i bF)) (fun x hx=>hL x (bC _ hx))
 unfold pW;exact Oc _ (key _ hg (fun x hx=>by rw[hl] at hx;exact List.mem_range.1 hx))
theorem al0 {n: Nat} {g: Gr} (hg:qO n g):qO n (vC g):=sU (sU (sU (sU (sU (sU (sU (sU hg)))))))
theorem Hl {n: Nat} (hn:1<=n/\n<=5):iR (jS (n:Int)) n/\jS (n:Int)=⟨0,[],bV n 0,[],aC,aC,0,[]⟩:=by
 have e:jS (n:Int)=⟨0,[],bV n 0,[],aC,aC,0,[]⟩:=by rw[jS,if_pos (iZ.2 (by omega))];simp
 rw[e];have hg:=(jF (v:=bV n 0) hn (by simp)).2 (fun j hj=>by simp[el,List.getElem?_replicate,hj])
 exact⟨⟨hn,by simp,by simp,fun t ht=>(by cases ht),hg.1,by simp,hg.2,fun x hx=>(by cases hx),by simp[sK],fun h=>(by cases h),fun _=>⟨rfl,rfl⟩⟩,rfl⟩
theorem Du {n: Nat} (hn:1<=n/\n<=5):qO n (jf (n:Int)).1:=by
 obtain⟨ok,e⟩:=Hl hn;have hb:inB (n:Int) 1 5=aB:=iZ.2 (by omega)
 have hmN:∀ i,i<n->eF (jf (n:Int)).1 i=⟨(i:Int),(n:Int),bV n (jS (n:Int)),[],aC⟩:=fun i hi=>by
  rw[jf,if_pos hb];unfold eF;simp only[Int.toNat_natCast]
  rw[aS,List.getElem?_map,List.getElem?_range hi];simp only[Option.map_some,Option.getD_some]
  rw[kM,if_pos ⟨hb,iZ.2 (by omega)⟩]
  simp
 have hrow:∀ j,j<n->dO (bV n (jS (n:Int))) j=jS (n:Int):=fun j hj=>by simp[dO,List.getElem?_replicate,hj]
 refine⟨fun _=>[jS (n:Int)],[],⟨fun j=>List.pairwise_singleton _ _,fun j r hr hrd=>?_,fun j r hr hrd=>?_,trivial⟩,hn, ?_, ?_,fun i hi=>?_, ?_, ?_⟩
 ·rw[List.mem_singleton.1 hr,e] at hrd;cases hrd
 ·rw[List.mem_singleton.1 hr,e] at hrd;cases hrd
 ·rw[jf,if_pos hb];simp
 ·rw[jf,if_pos hb];simp
 ·rw[hmN i hi]
  refine⟨rfl,rfl,hi,by simp,⟨[],by simp only[hrow i hi]⟩,fun j hj=>by simp only[hrow j hj];exact List.mem_singleton.2 rfl,fun j hj=>by simp only[hrow j hj];exact ok,by simp only[hrow i hi];rw[e];simp,fun j hj=>?_, ?_,fun _=>⟨by simp,fun q hq=>by simp at hq⟩,fun h=>by cases h⟩
  ·simp only[hrow i hi,hrow j hj];rw[e];simp[el,List.getElem?_replicate,hj]
  ·simp only[hrow i hi];rw[e];simp[el,List.getElem?_replicate,hi]
 ·rw[jf,if_pos hb];intro x hx;cases hx
 ·rw[jf,if_pos hb];simp
theorem IC {W:List Int} (hp:W.Pairwise (·<·)) (h0:∀ x∈W,0<=x):∀ {m:Nat},(∀ q,q<m->(q:Int)∈W)->m<=W.length/\∀ q,q<m->el W q=(q:Int)
 | 0,_=>⟨cZ _,fun q hq=>absurd hq (Nat.not_lt_zero _)⟩
 | m+1,hm=>by
  obtain⟨h1,h2⟩:=IC hp h0 (m:=m) (fun q hq=>hm q (by omega))
  obtain⟨j,hj,he⟩:=bg.1 (hm m (by omega))
  have hej:el W j=(m:Int):=by simp[el,hj,he]
  have hjm:m<=j:=by
   refine Nat.le_of_not_lt fun hlt=>?_
   have:=h2 j hlt;omega
  have hr:=xE.2 hp
  have hlt:∀ a b,a<b->b<W.length->el W a<el W b:=fun a b hab hb=>by
   have:=List.pairwise_iff_getElem.1 hp a b (by omega) hb hab
   simpa[el,hb,show a<W.length by omega] using this
  refine⟨by omega,fun q hq=>?_⟩
  by_cases c:q<m
  ·exact h2 q c
  ·have eq:q=m:=by omega
   subst eq;by_cases c2:j=q
   ·rw[<- c2];rw[c2] at hej ⊢;exact hej
   ·have k1:=hlt q j (by omega) hj
    by_cases c3:q=0
    ·subst c3
     have:=h0 (el W 0) (kK (by omega))
     omega
    ·have k2:=hlt (q-1) q (by omega) (by omega)
     have k3:=h2 (q-1) (by omega)
     omega
theorem Oe {T: List Int} {n: Nat} (hl:T.length=n) (hn:n<=5) (hx:x∈gZ T 12):∃ q:Nat,x=(q:Int)/\q<12*n:=by
 obtain⟨k,i,h1,h2,h3,h4⟩:=xG.1 hx;rw[hl] at h2 h4;refine⟨n*k+i,by rw[h4];push_cast;rfl, ?_⟩
 have:n*k<=n*11:=Nat.mul_le_mul_left n (by omega)
 omega
theorem GInv.fin {n:Nat} {g:Gr} {h:Hs} {log:List Pp} (G:GInv n g h log) {i:Nat} (hi:i<n) (hd:(eF g i).done=aB):BU n h (dO (eF g i).rows i).dW (dO (eF g i).rows i).dU (fA n (dO (eF g i).rows i).dQ):=by
 obtain⟨h1,h2,h3,_⟩:=(G.mem i hi).fin hd;exact⟨Iy h2,fun j hj=>by obtain⟨q,q1,q2,q3,q4,_⟩:=h3 j hj;exact⟨q,q1,q2,q3,q4⟩⟩
theorem GInv.av2 {n: Nat} {g: Gr} {h: Hs} {log: List Pp} (G:GInv n g h log) (hi:i<n) (hk:k<n) (di:(eF g i).done=aB) (dk:(eF g k).done=aB):(dO (eF g i).rows i).dU=(dO (eF g k).rows k).dU:=G.S.one (G.fin hi di) (G.fin hk dk)
theorem GInv.begins {n: Nat} {g: Gr} {h: Hs} {log: List Pp} (G:GInv n g h log) (hi:i<n) (hk:k<n) (di:(eF g i).done=aB):(eF g k).dR.length<=(eF g i).dR.length/\∀ q,q<(eF g k).dR.length->el (eF g k).dR q=el (eF g i).dR q:=by
 obtain⟨h1,h2,h3,h4⟩:=(G.mem i hi).fin di;have ok:=(G.mem i hi).ok i hi;obtain⟨a1,a2,a3,a4,a5⟩:=ok.dV h1;have n5:=G.n5
 cases dk:(eF g k).done with
 | true =>
  obtain⟨k1,k2,k3,k4⟩:=(G.mem k hk).fin dk;rw[k4,h4,G.av2 hi hk di dk];exact⟨cO _,fun q _=>rfl⟩
 | false =>
  obtain⟨s1,s2⟩:=(G.mem k hk).vI dk
  have hc:∀ q,q<(eF g k).dR.length->(q:Int)∈gZ (dO (eF g i).rows i).dU 12:=fun q hq=>by
   refine (KQ a4 (by omega) (fun j hj=>(ok.t h1 j hj).2)).2 ?_
   obtain⟨P,p1,p2,p3⟩:=G.S.prop i _ ((G.mem i hi).view i hi) h1;rw[<- p3];exact G.S.covers (by omega) p1 (s2 q hq).2
  obtain⟨f1,f2⟩:=IC (wI (dO (eF g i).rows i).dU 12) (fun x hx=>by obtain⟨q,e,_⟩:=Oe a4 n5.2 hx;omega) hc
  rw[h4];exact⟨f1,fun q hq=>by rw[(s2 q hq).1,f2 q hq]⟩
theorem VI:∀ {l:List Int} {a:Int},l.Pairwise (·<·)->(∀ x∈l,a<=x)->∀ q,q<l.length->a+(q:Int)<=el l q
 | x::l,a,h,hx,0,_=>by
  have:=hx x bF;simpa[el] using this
 | x::l,a,h,hx,q+1,hq=>by
  have h1:=List.pairwise_cons.1 h;have hxa:=hx x bF;have ih:=VI (l:=l) (a:=a+1) h1.2 (fun y hy=>by have:=h1.1 y hy;omega) q (by simp at hq;omega)
  have e:el (x::l) (q+1)=el l q:=by simp[el]
  rw[e]
  push_cast
  omega
theorem AU (h:l.Pairwise (·<·)) (hx:∀ x∈l,0<=x/\x<(k:Int)):l.length<=k:=by
 refine Classical.byContradiction fun hn=>?_
 have h1:=VI h (fun x hx2=>(hx x hx2).1) (l.length-1) (by omega)
 have h2:=(hx _ (kK (i:=l.length-1) (xs:=l) (by omega))).2
 omega
theorem Za (h:x∈l):∃ q,q<l.length/\el l q=x:=by
 obtain⟨j,hj,rfl⟩:=bg.1 h;exact⟨j,hj,by simp[el,hj]⟩
theorem iO.elem {m: Mb} {n: Nat} (M:iO m i n) (hx:x∈m.dR):0<=x/\x<=59:=by
 obtain⟨q,hq,rfl⟩:=Za hx;exact (M.sg q hq).1
theorem iO.to {m: Mb} {n: Nat} (M:iO m i n) {o': Rw} (ok:iR o' n) (self:(i:Int)∉o'.dQ) (nO:el o'.got i=(o'.txt.length:Int)) {lZ: List Int} {done': Bool}
  (sl:lZ.length<=60) (oL:lZ.Pairwise (·<·)) (sg:∀ q,q<lZ.length->(0<=el lZ q/\el lZ q<=59)/\(done'=aC->el lZ q=(q:Int))) (dn:done'=aB->o'.dV=aB) :
  iO { m with rows:=m.rows.set i o',dR:=lZ,done:=done' } i n:=by
 have hi:i<m.rows.length:=by rw[M.len];exact M.lt
 have e1:dO (m.rows.set i o') i=o':=by rw[gY hi,if_pos rfl]
 refine⟨M.hid,M.hn,M.n5,M.lt,by simp only[bQ];exact M.len,sl,oL,fun j hj=>?_,sg,by simp only[e1];exact nO,by simp only[e1];exact self,by simp only[e1];exact dn⟩
 simp only[gY hi]
 split
 ·exact ok
 ·exact M.ok j hj
theorem al1 {id n: Int} (h:(kM id n).2=aB):iG (kM id n).1=aB:=by
 unfold kM at h ⊢
 split at h
 ·rename_i hc
  rw[if_pos hc];have h1:=iZ.1 hc.1;have h2:=iZ.1 hc.2;have hid:id=((id.toNat:Nat):Int):=by omega
  have hn:n=((n.toNat:Nat):Int):=by omega
  have hlt:id.toNat<n.toNat:=by omega
  obtain⟨ok,e⟩:=Hl (n:=n.toNat) (by omega)
  rw[<- hn] at ok e;have hr:∀ j,j<n.toNat->dO (bV n.toNat (jS n)) j=jS n:=fun j hj=>by simp[dO,List.getElem?_replicate,hj]
  refine nD.2 ⟨id.toNat,n.toNat,hid,hn,by omega,hlt,by simp,by simp,List.Pairwise.nil,fun j hj=>?_,fun q hq=>(by simp at hq), ?_, ?_,fun h=>(by cases h)⟩
  ·simp only[hr j hj];exact ok
  ·simp only[hr _ hlt]
   rw[e];simp[el,List.getElem?_replicate,hlt]
  ·simp only[hr _ hlt]
   rw[e];simp
 ·cases h
theorem JR {m: Mb} {n: Nat} (M:iO m i n) (t:List UInt8):iO (jD m t).1 i n/\((jD m t).2=aC->(jD m t).1=m)/\((jD m t).2=aB->(dO (jD m t).1.rows i).txt=(dO m.rows i).txt++[t])/\Nx (dO m.rows i) (dO (jD m t).1.rows i)/\(jD m t).1.dR=m.dR/\(jD m t).1.done=m.done/\(∀ j,j≠i->dO (jD m t).1.rows j=dO m.rows j):=by
 unfold jD
 split
 ·exact⟨M,fun _=>rfl,fun h=>(by cases h),Nx.refl _,rfl,rfl,fun _ _=>rfl⟩
 ·rename_i hn
  simp only[not_or] at hn;obtain⟨h1,h2,h3,h4,h5⟩:=hn;rw[M.own] at h1 h3 h5 ⊢;have hd:m.done=aC:=by simpa using h2
  have hw:(dO m.rows i).wed=aC:=by simpa using h1
  have ok:=M.ok i M.lt;have hr:=ok.VE hw;have hgi:=M.nO;have htl:=ok.tl;have hov:=ok.ver;have hi:i<m.rows.length:=by rw[M.len];exact M.lt
  have hlen:i<(dO m.rows i).got.length:=by rw[ok.gl];exact M.lt
  have hx:Nx (dO m.rows i) { dO m.rows i with txt:=(dO m.rows i).txt++[t],got:=(dO m.rows i).got.set i (el (dO m.rows i).got i+1),ver:=(dO m.rows i).ver+1 }:=by
   refine⟨by simp only;omega,List.prefix_append _ _,fun j=>?_,fun x hx=>hx,fun hw2=>(by rw[hw] at hw2;cases hw2),fun hr2=>(by rw[hr] at hr2;cases hr2)⟩
   simp only[zI hlen]
   split
   ·rename_i e;rw[e];omega
   ·exact Int.le_refl _
  simp only[Mb.put,M.i]
  refine⟨?_,fun h=>(by cases h),fun _=>by rw[gY hi,if_pos rfl],by rw[gY hi,if_pos rfl];exact hx,trivial,trivial,fun j hj=>by rw[gY hi,if_neg hj]⟩
  refine M.to (o':={ dO m.rows i with txt:=(dO m.rows i).txt++[t],got:=(dO m.rows i).got.set i (el (dO m.rows i).got i+1),ver:=(dO m.rows i).ver+1 }) (lZ:=m.dR) (done':=m.done) ?_ M.self ?_ M.sl M.oL M.sg (fun h=>(by rw[hd] at h;cases h))
  ·have hg:∀ j,j<n->0<=el ((dO m.rows i).got.set i (el (dO m.rows i).got i+1)) j/\el ((dO m.rows i).got.set i (el (dO m.rows i).got i+1)) j<=12:=fun j hj=>by
    rw[zI hlen]
    split
    ·omega
    ·exact ok.g j hj
   have hgl:((dO m.rows i).got.set i (el (dO m.rows i).got i+1)).length=n:=by rw[bQ];exact ok.gl
   have:=(jF ok.n5 hgl).2 hg;refine⟨ok.n5,by simp only;omega,by simp only[bD,List.length_singleton];omega,fun x hx=>?_,this.1,hgl,this.2,ok.dQ,ok.oL,fun h=>(by simp only at h;rw[hr] at h;cases h),fun h=>ok.not hr⟩
   rcases List.mem_append.1 hx with hx|hx
   ·exact ok.ts x hx
   ·have:=List.mem_singleton.1 hx;rw[this];omega
  ·simp only[zI hlen,if_pos,bD,List.length_singleton]
   omega
theorem Ew {m: Mb} {n: Nat} (M:iO m i n) (who:Int):iO (fJ m who).1 i n/\((fJ m who).2=aC->(fJ m who).1=m)/\((fJ m who).2=aB->who∈(dO (fJ m who).1.rows i).dQ/\(dO (fJ m who).1.rows i).wed=aB)/\Nx (dO m.rows i) (dO (fJ m who).1.rows i)/\(fJ m who).1.dR=m.dR/\(fJ m who).1.done=m.done/\(∀ j,j≠i->dO (fJ m who).1.rows j=dO m.rows j):=by
 unfold fJ
 split
 ·exact⟨M,fun _=>rfl,fun h=>(by cases h),Nx.refl _,rfl,rfl,fun _ _=>rfl⟩
 ·rename_i hn
  simp only[not_or] at hn;obtain⟨h1,h2,h3,h4,h5⟩:=hn;rw[M.own] at h3 h5 ⊢;rw[M.hid] at h2;rw[M.hn] at h1;have h1:=iZ.1 (by simpa using h1)
  have hd:m.done=aC:=by simpa using h4
  have ok:=M.ok i M.lt;have hov:=ok.ver;have hi:i<m.rows.length:=by rw[M.len];exact M.lt
  have hx:Nx (dO m.rows i) { dO m.rows i with dQ:=gV (dO m.rows i).dQ who,wed:=aB,ver:=(dO m.rows i).ver+1 } :=
   ⟨by simp only;omega,List.prefix_refl _,fun j=>Int.le_refl _,fun x hx=>nC.2 (.inr hx),fun _=>⟨rfl,rfl,rfl⟩,fun hr=>⟨hr,Int.le_refl _,fun _=>rfl⟩⟩
  simp only[Mb.put,M.i]
  refine⟨?_,fun h=>(by cases h),fun _=>by rw[gY hi,if_pos rfl];exact⟨nC.2 (.inl rfl),rfl⟩,by rw[gY hi,if_pos rfl];exact hx,trivial,trivial,fun j hj=>by rw[gY hi,if_neg hj]⟩
  refine M.to (o':={ dO m.rows i with dQ:=gV (dO m.rows i).dQ who,wed:=aB,ver:=(dO m.rows i).ver+1 }) (lZ:=m.dR) (done':=m.done) ?_ (fun hm=>?_) M.nO M.sl M.oL M.sg (fun h=>(by rw[hd] at h;cases h))
  ·refine⟨ok.n5,by simp only;omega,ok.tl,ok.ts,ok.got,ok.gl,ok.g12,fun x hx=>?_,kZ.2 (wG (kZ.1 ok.oL)),fun hr=>⟨rfl,(ok.dV hr).2⟩,ok.not⟩
   rcases nC.1 hx with e|hx
   ·rw[e];omega
   ·exact ok.dQ x hx
  ·rcases nC.1 hm with e|hx
   ·exact h2 e.symm
   ·exact M.self hx
theorem sV {m: Mb} {n: Nat} (M:iO m i n) (fr:Int) (r:Rw):iO (fK m fr r).1 i n/\((fK m fr r).2=aC->(fK m fr r).1=m)/\((fK m fr r).2=aB->dO (fK m fr r).1.rows fr.toNat=r)/\dO (fK m fr r).1.rows i=dO m.rows i/\(fK m fr r).1.dR=m.dR/\(fK m fr r).1.done=m.done:=by
 unfold fK
 split
 ·exact⟨M,fun _=>rfl,fun h=>(by cases h),rfl,rfl,rfl⟩
 ·rename_i hn
  simp only[not_or] at hn;obtain⟨h1,h2,h3,h4,h5,h6⟩:=hn;rw[M.hid] at h2;rw[M.hn] at h5 h1;have h1:=iZ.1 (by simpa using h1)
  have hne:i≠fr.toNat:=fun e=>h2 (by omega)
  have IB:iR r n:=rC.1 (by simpa using h5)
  have hfl:fr.toNat<m.rows.length:=by rw[M.len];omega
  have e1:dO (m.rows.set fr.toNat r) i=dO m.rows i:=by rw[gY hfl,if_neg hne]
  refine⟨⟨M.hid,M.hn,M.n5,M.lt,by simp only[bQ];exact M.len,M.sl,M.oL,fun j hj=>?_,M.sg,by simp only[e1];exact M.nO,by simp only[e1];exact M.self,by simp only[e1];exact M.dn⟩,fun h=>(by cases h),fun _=>by rw[gY hfl,if_pos rfl],e1,rfl,rfl⟩
  simp only[gY hfl]
  split
  ·exact IB
  ·exact M.ok j hj
structure aH5 (m:Mb) (i n:Nat):Prop where
 ok:iO (fM m) i n
 nx:Nx (dO m.rows i) (dO (fM m).rows i)
 oth:∀ j,j≠i->dO (fM m).rows j=dO m.rows j
 sub:∀ x∈m.dR,x∈(fM m).dR
 pre:(fM m).done=aC->m.dR <+: (fM m).dR
 dn:m.done=aB->fM m=m
 wed:(dO m.rows i).wed=aB->(fM m).done=aC->(fM m).dR=m.dR
 dU:(fM m).done=aB->∀ x∈(fM m).dR,x∈m.dR\/(m.done=aC/\x∈gZ (dO (fM m).rows i).dU 12)
theorem Zb {a b: List Int} (ha:∀ q,q<a.length->el a q=(q:Int)) (hb:∀ q,q<b.length->el b q=(q:Int)) (hl:a.length<=b.length):a <+: b:=by
 rw[List.prefix_iff_eq_take];refine List.ext_getElem (by rw[bM];omega) (fun q h1 h2=>?_)
 have e1:=ha q h1;have e2:=hb q (by omega)
 simp only[List.getElem_take]
 have k1:el a q=a[q]:=by simp[el,h1]
 have k2:el b q=b[q]:=by simp[el,show q<b.length by omega]
 rw[<- k1,<- k2,e1,e2]
theorem stepM {m: Mb} {n: Nat} (M:iO m i n):aH5 m i n:=by
 by_cases c:m.done=aB\/m.own.ver=1000000
 ·have e:fM m=m:=by rw[fM,if_pos c]
  refine⟨by rw[e];exact M,by rw[e];exact Nx.refl _,fun j _=>by rw[e],fun x hx=>by rw[e];exact hx,fun _=>by rw[e];exact List.prefix_refl _,fun _=>e,fun _ _=>by rw[e],fun _ x hx=>?_⟩
  rw[e] at hx;exact .inl hx
 ·have hd:m.done=aC:=by
   cases e:m.done with
   | false=>rfl
   | true=>exact absurd (.inl e) c
  have hv:(dO m.rows i).ver≠1000000:=fun e=>c (.inr (by rw[M.own];exact e))
  have T:=Y0 M hv;have hi:i<m.rows.length:=by rw[M.len];exact M.lt
  have hs0:∀ q,q<m.dR.length->el m.dR q=(q:Int):=fun q hq=>(M.sg q hq).2 hd
  have e:fM m={ m with rows:=m.rows.set i (kN m),dR:=if jK m=aB then jJ (iT m) (fB m).dU else iT m,done:=jK m }:=by rw[fM,if_neg c,M.i]
  have e1:dO (m.rows.set i (kN m)) i=kN m:=by rw[gY hi,if_pos rfl]
  have hoth:∀ j,j≠i->dO (m.rows.set i (kN m)) j=dO m.rows j:=fun j hj=>by rw[gY hi,if_neg hj]
  have hl1:=M.sl
  cases hE:jK m with
  | true =>
   have hw1:(fD m).wed=aB:=by
    cases h:(fD m).wed with
    | true=>rfl
    | false=>rw[T.dry h] at hE;cases hE
   have hS:=T.av1 hw1
   have hr:(fB m).dV=aB:=by
    rw[jK,bI] at hE;exact hE.1
   have hrd:=T.qp.dV hr;have e2:fM m={ m with rows:=m.rows.set i (kN m),dR:=jJ m.dR (fB m).dU,done:=aB }:=by rw[e,hE,if_pos rfl,hS]
   have hris:(jJ m.dR (fB m).dU).Pairwise (·<·):=Eu M.oL
   have hel:∀ x∈jJ m.dR (fB m).dU,0<=x/\x<60:=fun x hx=>by
    rcases sS.1 hx with h|h
    ·have:=M.elem h;omega
    ·obtain⟨q,rfl,hq⟩:=Oe hrd.2.2.2.1 M.n5.2 h
     have:=M.n5.2;omega
   have hsl:=AU (k:=60) hris hel;have T':iO { m with rows:=m.rows.set i (kN m),dR:=jJ m.dR (fB m).dU,done:=aB } i n:=M.to (o':=kN m) (lZ:=jJ m.dR (fB m).dU) (done':=aB) T.ok T.self T.nO hsl hris (fun q hq=>⟨by have:=hel _ (kK hq);omega,fun h=>(by cases h)⟩) (fun _=>by rw[T.dV];exact hr)
   refine⟨by rw[e2];exact T',by rw[e2];simp only[e1];exact T.nx,fun j hj=>by rw[e2];exact hoth j hj,fun x hx=>by rw[e2];exact sS.2 (.inl hx),fun h=>(by rw[e2] at h;cases h),fun h=>(by rw[hd] at h;cases h),fun _ h=>(by rw[e2] at h;cases h),fun _ x hx=>?_⟩
   rw[e2] at hx ⊢;simp only[e1,T.dU]
   rcases sS.1 hx with h|h
   ·exact .inl h
   ·exact .inr ⟨hd,h⟩
  | false =>
   have e2:fM m={ m with rows:=m.rows.set i (kN m),dR:=iT m,done:=aC }:=by rw[e,hE,if_neg (by simp)]
   obtain⟨s1,s2,s3⟩:(iT m).length<=60/\(∀ q,q<(iT m).length->el (iT m) q=(q:Int))/\m.dR.length<=(iT m).length:=by
    unfold iT
    split
    ·exact⟨M.sl,hs0,cO _⟩
    ·obtain⟨q1,q2,q3,q4⟩:=AB (m.rows.set m.i (gW m)) m.k (60-m.dR.length) m.dR hs0
     exact⟨by omega,q3,q2⟩
   have hpre:=Zb hs0 s2 s3;have T':iO { m with rows:=m.rows.set i (kN m),dR:=iT m,done:=aC } i n:=M.to (o':=kN m) (lZ:=iT m) (done':=aC) T.ok T.self T.nO s1 (zl s2) (fun q hq=>⟨by rw[s2 q hq];omega,fun _=>s2 q hq⟩) (fun h=>(by cases h))
   refine⟨by rw[e2];exact T',by rw[e2];simp only[e1];exact T.nx,fun j hj=>by rw[e2];exact hoth j hj,fun x hx=>by rw[e2];exact hpre.subset hx,fun _=>by rw[e2];exact hpre,fun h=>(by rw[hd] at h;cases h),fun hw _=>?_,fun h=>(by rw[e2] at h;cases h)⟩
   rw[e2];refine T.av1 ?_;have e3:fD m=learn m.rows i (dO m.rows i) (fA n (dO m.rows i).dQ):=by rw[fD,M.i,M.k,M.own]
   rw[e3];exact (qN _ _ _ _).wed hw
def Pv (w:aI) (B o:Nat) (cs:List dY):Prop:=∃ vs,(∀ j,j<vs.length->w.cell? ⟨B,o+j,ak⟩=vs[j]?)/\Az w cs vs
theorem iP.pv {w: aI} {cs: List dY} {fp: Fp} (h:iP w B o cs fp):Pv w B o cs:=by
 obtain⟨vs,h1,h2,_⟩:=h;exact⟨vs,h1.cell,yj h2⟩
theorem Pv.at {w:aI} {B o:Nat} {cs:List dY} (h:Pv w B o cs) {j:Nat} {c:dY} (hj:cs[j]?=au c):∃ u,w.cell? ⟨B,o+j,ak⟩=au u/\dY.vw w c u:=by
 obtain⟨vs,h1,h2⟩:=h;obtain⟨u,hu,hv⟩:=Vr h2 hj;refine⟨u,(h1 j ?_).trans hu,hv⟩;rcases Nat.lt_or_ge j vs.length with h|h
 ·exact h
 ·rw[aZ h] at hu;cases hu
theorem Ey {w:aI}:∀ {cs ds:List dY} {ws:List aJ},Az w (cs++ds) ws->∃ us vs,ws=us++vs/\Az w cs us/\Az w ds vs
 | [],ds,ws,h=>⟨[],ws,rfl,rfl,h⟩
 | c::cs,ds,ws,h=>by
  obtain⟨u,us',rfl,h1,h2⟩:=h;obtain⟨us,vs,rfl,h3,h4⟩:=Ey h2;exact⟨u::us,vs,rfl,⟨u,us,rfl,h1,h3⟩,h4⟩
theorem IE {α: Type} {F: α->List dY} {s: Nat} (hF:∀ x,(F x).length=s) {w: aI} {a: Option dH} {c: Nat} {L: List α} (h:dY.vw w (iH s F L) (aj a L.length c)) {x: α} (hk:L[k]?=au x):∃ g off,a=au ⟨g,off,ak⟩/\Pv w g (off+k*s) (F x):=by
 obtain⟨a0,c0,us,e0,h1,h2,h3,h4,h5⟩:=h
 cases e0
 have hkl:k<L.length:=by
  rcases Nat.lt_or_ge k L.length with h|h
  ·exact h
  ·rw[aZ h] at hk;cases hk
 rcases h4 with h4|⟨b,off,rfl,hc⟩
 ·omega
 have hks:k*s+s<=L.length*s:=by
  have:(k+1)*s<=L.length*s:=Nat.mul_le_mul_right s hkl;rw[Nat.add_mul,Nat.one_mul] at this;exact this
 have e1:L.flatMap F=(L.flatMap F).take (k*s)++(((L.flatMap F).drop (k*s)).take s++(L.flatMap F).drop (k*s+s)):=by
  rw[<- List.drop_drop,List.take_append_drop,List.take_append_drop]
 rw[e1] at h5;obtain⟨u1,u23,rfl,l1,l23⟩:=Ey h5;obtain⟨u2,u3,rfl,l2,l3⟩:=Ey l23;rw[yw hF hk] at l2;have hd:=xC hF L;have n1:u1.length=k*s:=by rw[JH l1,bM];omega
 have n2:u2.length=s:=by rw[JH l2,hF]
 refine⟨b,off,rfl,u2,fun j hj=>?_,l2⟩
 rw[Nat.add_assoc,hc (k*s+j) (by omega),aT (by omega),aU (by omega),n1]
 congr 1
 omega
def jo (r:Rw):List dY:=[.v (ah aA r.ver),pO r.txt,gJ r.got,gJ r.dQ,.v (aF r.wed),.v (aF r.dV),.v (ah aA r.dW),gJ r.dU]
theorem jU (r:Rw):(jo r).length=8:=rfl
def C8 (w:aI) (g o:Nat) (x0 x1 x2 x3 x4 x5 x6 x7:aJ):Prop:=(w.cell? ⟨g,o,ak⟩=au x0/\w.cell? ⟨g,o+1,ak⟩=au x1/\w.cell? ⟨g,o+2,ak⟩=au x2/\w.cell? ⟨g,o+3,ak⟩=au x3)/\w.cell? ⟨g,o+4,ak⟩=au x4/\w.cell? ⟨g,o+5,ak⟩=au x5/\w.cell? ⟨g,o+6,ak⟩=au x6/\w.cell? ⟨g,o+7,ak⟩=au x7
theorem Pv.row {w: aI} {g: Nat} (h:Pv w g o (jo r)) (hf:qo r):∃ A:Ra,C8 w g o (ah aA r.ver) (aj A.ta r.txt.length A.tc) (aj A.ga r.got.length A.gc) (aj A.sa r.dQ.length A.sc) (aF r.wed) (aF r.dV) (ah aA r.dW) (aj A.ma r.dU.length A.mc)/\qj w A r:=by
 obtain⟨u0,c0,rfl⟩:=h.at (j:=0) rfl;obtain⟨u1,c1,v1⟩:=h.at (j:=1) rfl;obtain⟨u2,c2,v2⟩:=h.at (j:=2) rfl;obtain⟨u3,c3,v3⟩:=h.at (j:=3) rfl;obtain⟨u4,c4,rfl⟩:=h.at (j:=4) rfl;obtain⟨u5,c5,rfl⟩:=h.at (j:=5) rfl;obtain⟨u6,c6,rfl⟩:=h.at (j:=6) rfl;obtain⟨u7,c7,v7⟩:=h.at (j:=7) rfl;obtain⟨ta,tc,rfl,t1,t2,t3⟩:=Vt v1;obtain⟨ga,gc,rfl,g1,g2,g3⟩:=l7 v2 hf.1;obtain⟨sa,sc,rfl,s1,s2,s3⟩:=l7 v3 hf.2.1;obtain⟨ma,mc,rfl,m1,m2,m3⟩:=l7 v7 hf.2.2;exact⟨⟨ta,tc,ga,gc,sa,sc,ma,mc⟩,⟨⟨c0,c1,c2,c3⟩,c4,c5,c6,c7⟩,t1,g1,s1,m1,by omega,by omega,by omega,by omega⟩
structure Ma where
 ra:Option dH
 rc:Nat
 sa:Option dH
 sc:Nat
def iq (A:Ma) (m:Mb):Array aJ:=#[ah aA m.id,ah aA m.n,aj A.ra m.rows.length A.rc,aj A.sa m.dR.length A.sc,aF m.done]
def iU (A:Ma) (m:Mb):aJ:=.agg (iq A m)
def jB (m:Mb):List dY:=[iH 8 jo m.rows,gJ m.dR]
def jC (A:Ma) (m:Mb):List aJ:=[aj A.ra m.rows.length A.rc,aj A.sa m.dR.length A.sc]
def jY (m:Mb):List dY:=[.v (ah aA m.id),.v (ah aA m.n),iH 8 jo m.rows,gJ m.dR,.v (aF m.done)]
theorem uz (m:Mb):(jY m).length=5:=rfl
def nG (m:Mb):Prop:=(∀ r∈m.rows,qo r)/\Fits m.dR
structure yF (w:aI) (A:Ma) (m:Mb):Prop where
 rows:dY.vw w (iH 8 jo m.rows) (aj A.ra m.rows.length A.rc)
 dR:Vec w A.sa m.dR.length m.dR
 mr:m.rows.length<=dD
 ms:m.dR.length<=dD
 fit:∀ r∈m.rows,qo r
theorem yF.below {w w': aI} {A: Ma} {m: Mb} (h:yF w A m) (hb:Below w.heap.size w w'):yF w' A m:=⟨dY.Dn h.rows hb,h.dR.below hb (cO _),h.mr,h.ms,h.fit⟩
theorem av3 {w: aI} {A: Ma} {m: Mb} (h:Az w (jB m) (jC A m)) (hf:nG m):yF w A m:=by
 obtain⟨u1,vW,e1,h1,h2⟩:=h
 cases e1
 obtain⟨u2,wY,e2,h3,_⟩:=h2
 cases e2
 obtain⟨a,c,e,h4,h5,h6⟩:=l7 h3 hf.2
 cases e
 have k:=h1;obtain⟨_,_,_,e,k1,k2,_⟩:=k
 cases e
 exact⟨h1,h4,by omega,by omega,hf.1⟩
theorem yF.row {w:aI} {A:Ma} {m:Mb} (h:yF w A m) {k:Nat} (hk:k<m.rows.length):∃ g off Ak,A.ra=au ⟨g,off,ak⟩/\C8 w g (off+k*8) (ah aA (dO m.rows k).ver) (aj Ak.ta (dO m.rows k).txt.length Ak.tc) (aj Ak.ga (dO m.rows k).got.length Ak.gc) (aj Ak.sa (dO m.rows k).dQ.length Ak.sc) (aF (dO m.rows k).wed) (aF (dO m.rows k).dV) (ah aA (dO m.rows k).dW) (aj Ak.ma (dO m.rows k).dU.length Ak.mc)/\qj w Ak (dO m.rows k):=by
 have e:m.rows[k]?=au (dO m.rows k):=by simp[dO,List.getD,hk]
 obtain⟨g,off,h1,h2⟩:=IE jU h.rows e;obtain⟨Ak,h3,h4⟩:=h2.row (h.fit _ (List.mem_of_getElem? e));exact⟨g,off,Ak,h1,h3,h4⟩
theorem Bx.r5 {w: aI} {T: TypeId} {x0 x1 x2 x3 x4: aJ} (h:Bx w B T #[x0,x1,x2,x3,x4]):w.cell? ⟨B,0,ak⟩=au x0/\w.cell? ⟨B,1,ak⟩=au x1/\w.cell? ⟨B,2,ak⟩=au x2/\w.cell? ⟨B,3,ak⟩=au x3/\w.cell? ⟨B,4,ak⟩=au x4 :=
 ⟨h.at 0 rfl,h.at 1 rfl,h.at 2 rfl,h.at 3 rfl,h.at 4 rfl⟩
theorem iV {R: List Rw} (hk:k<R.length):R[k]?=au (dO R k):=by simp[dO,List.getD,hk]
theorem Zc {m: Mb} (hk:k<m.rows.length) (h:gu (dO m.rows k) m.n=aC):iG m=aC:=by
 have:m.rows.all (fun r=>gu r m.n)=aC:=by
  rw[List.all_eq_false];exact⟨dO m.rows k,List.mem_of_getElem? (iV hk),by simp[h]⟩
 simp only[iG,this,Bool.false_and,Bool.and_false]
theorem al2 {m: Mb} (hk:k<m.dR.length) (h:(inB (el m.dR k) 0 59&&(m.done||decide (el m.dR k=(k:Int))))=aC):iG m=aC:=by
 have:Et m=aC:=by
  rw[Et,List.all_eq_false];exact⟨k,List.mem_range.2 hk,by simp[h]⟩
 simp only[iG,this,Bool.false_and,Bool.and_false]
theorem Zd {m: Mb} (h1:inB m.n 1 5=aB) (h2:inB m.id 0 (m.n-1)=aB) (h3:(m.rows.length:Int)=m.n) (h4:m.dR.length<=60) (h5:sK m.dR=aB) (h6:∀ j,j<m.rows.length->gu (dO m.rows j) m.n=aB) (h7:∀ j,j<m.dR.length->(inB (el m.dR j) 0 59&&(m.done||decide (el m.dR j=(j:Int))))=aB) :
  iG m=(decide (el m.own.got m.i=(m.own.txt.length:Int))&&(decide (m.id∉m.own.dQ)&&(!m.done||m.own.dV))):=by
 have e6:m.rows.all (fun r=>gu r m.n)=aB:=by
  rw[bJ];intro r hr;obtain⟨j,hj,rfl⟩:=bg.1 hr;have:=h6 j hj;simpa[dO,List.getD,hj] using this
 have e7:Et m=aB:=by
  rw[Et,bJ];intro j hj;exact h7 j (List.mem_range.1 hj)
 simp only[iG,h1,h2,h3,h4,h5,e6,e7,decide_true,Bool.true_and]
theorem Ze {n: Int} (h:gu r n=aB):(r.got.length:Int)=n:=by
 simp only[gu,lG,bI,decide_eq_true_eq] at h;exact h.2.2.2.1.2.1
theorem Zf (A : Ma) (m : Mb) (w : aI) (hv : yF w A m) :
    dF dA 73 #[iU A m] w fun e w'=>e=aK (aF (iG m))/\Below w.heap.size w w':=by
  have hB0:=dX w (aH (iq A m) 47);have hx:=Bx.new w 47 (iq A m);have h0:=hv.below hB0;generalize hW:w.alloc (aH (iq A m) 47)=W at *;obtain⟨id, n, rows, dR, done⟩:=m;obtain⟨ra, rc, sa, sc⟩:=A;have hw0:w.alloc (aH #[ah aA id, ah aA n, aj ra rows.length rc, aj sa dR.length sc, aF done] 47)=W:=hW;obtain⟨c0, c1, c2, c3, c4⟩:=Bx.r5 hx;have HX:=dP hx;have HV:=dP h0;have hsu:=h0.dR;have mr:=h0.mr;have ms:=h0.ms;simp only at hsu mr ms c0 c1 c2 c3 c4
  have HB0:=dP hB0;have hR:=FY sa dR.length sc dR W hsu ms;unfold iU iq;clear hv hx hW hB0 h0;simp only
  cases e1:inB n 1 5 with
  | false =>
    have HZ:aG (iG ⟨id, n, rows, dR, done⟩=aC):=by rw[aG]; simp only[iG, e1, Bool.false_and]
    go_enter Tryz.func73, Tryz.ntmps73
    go_wp2_with (first|(go_at_call 40; refine fV (gI _ _ _ _) ?_))
    go_ret
    exact⟨dZ (by rw[HZ.out]), HB0.out⟩
  | true =>
  have jq:=iZ.1 e1;have wn:wrap64 (n-1)=n-1:=by unfold wrap64; omega
  have Rt:=dP e1
  cases e2:inB id 0 (n-1) with
  | false =>
    have HZ:aG (iG ⟨id, n, rows, dR, done⟩=aC):=by rw[aG]; simp only[iG, e2, Bool.false_and, Bool.and_false]
    go_enter Tryz.func73, Tryz.ntmps73
    go_wp2_with (first|(go_at_call 40; refine fV (gI _ _ _ _) ?_))
    go_ret
    exact⟨dZ (by rw[HZ.out]), HB0.out⟩
  | true =>
  have HE2:=dP e2;have hid:=iZ.1 e2;by_cases h3:(rows.length:Int)=n;rotate_left
  · have g3:((rows.length:Int) != n)=aB:=by simpa using h3
    have HZ:aG (iG ⟨id, n, rows, dR, done⟩=aC):=by rw[aG]; simp only[iG, decide_eq_false h3, Bool.false_and, Bool.and_false]
    clear h3;go_enter Tryz.func73, Tryz.ntmps73
    go_wp2_with (first|(go_at_call 40; refine fV (gI _ _ _ _) ?_))
    go_ret
    exact⟨dZ (by rw[HZ.out]), HB0.out⟩
  have g3:((rows.length:Int) != n)=aC:=by simpa using h3
  have KU:=dP h3;clear h3;by_cases h4:dR.length<=60;rotate_left
  · have g4:(60:Int)<dR.length:=by omega
    have HZ:aG (iG ⟨id, n, rows, dR, done⟩=aC):=by rw[aG]; simp only[iG, decide_eq_false h4, Bool.false_and, Bool.and_false]
    go_enter Tryz.func73, Tryz.ntmps73
    go_wp2_with (first|(go_at_call 40; refine fV (gI _ _ _ _) ?_))
    go_ret
    exact⟨dZ (by rw[HZ.out]), HB0.out⟩
  have g4:¬ ((60:Int)<dR.length):=by omega
  cases e5:sK dR with
  | false =>
    rw[e5] at hR;have HZ:aG (iG ⟨id, n, rows, dR, done⟩=aC):=by rw[aG]; simp only[iG, e5, Bool.false_and, Bool.and_false]
    go_enter Tryz.func73, Tryz.ntmps73
    go_wp2_with (first|(go_at_call 40; refine fV (gI _ _ _ _) ?_)|(go_at_call 112; refine hR.mono ?_; rintro e w2 ⟨rfl, q, hw2⟩; have hb2:Below W.heap.size W w2:=(by rw[hw2]; exact fO (dw _ _)); clear hw2))
    go_ret
    exact⟨dZ (by rw[HZ.out]), eU HB0.out hb2⟩
  | true =>
  rw[e5] at hR;have HE5:=dP e5;clear e5;go_enter Tryz.func73, Tryz.ntmps73
  go_wp2_with (first|(go_at_call 40; refine fV (gI _ _ _ _) ?_)|(go_at_call 112; refine hR.mono ?_; rintro e w2 ⟨rfl, q, hw2⟩; have hb2:Below W.heap.size W w2:=(by rw[hw2]; exact fO (dw _ _)); clear hw2))
  have HB2:=dP (eU HB0.out hb2);have l9:=dP (HX.out.below hb2);have Ru:=dP (HV.out.below hb2);unfold dD at mr ms;clear hR hb2 c0 c1 c2 c3 c4 hw0 g3 e1 e2 HX HV HB0 hsu
  go_loopw [3] (fun i wr=>∃ k:Nat, k<=rows.length/\i=ah aA k/\(∀ j, j<k->gu (dO rows j) n=aB)/\Below w2.heap.size w2 wr) (fun i _=>rows.length-(dG i).toNat)
  case atStart=>exact⟨0, cZ _, rfl, fun j hj=>by omega, dw _ _⟩
  case round =>
    obtain⟨k, hk, rfl, hall, hgr⟩:=hrel;have HA:=dP hall;have HG:=dP hgr;obtain⟨c0, c1, c2, c3, c4⟩:=Bx.r5 (l9.out.below hgr);clear hall;by_cases hlt:k<rows.length
    · have k1:(k:Int)<rows.length:=by omega
      have k0:(0:Int)<=k:=by omega
      obtain⟨g, off, Ak, hra, ⟨⟨d0, d1, d2, d3⟩, d4, d5, d6, d7⟩, hrs⟩:=(Ru.out.below hgr).row (k:=k) hlt;simp only at hra hrs d0 d1 d2 d3 d4 d5 d6 d7
      subst hra;have C:∀ q:Bk wr, dF dA 74 #[iK Ak (dO rows k), ah aA n] q.w fun e w'=>e=aK (aF (gu (dO rows k) n))/\Below q.w.heap.size q.w w':=fun q=>G8 Ak _ n q.w (hrs.below q.h)
      have HY:aG (gu (dO rows k) n=aB->∀ j, j<k+1->gu (dO rows j) n=aB):=fun h1 j hj=>by
        rcases aW.1 hj with h|h
        · exact HA.out j h
        · rw[h]; exact h1
      have kP:aG (gu (dO rows k) n=aC->iG ⟨id, n, rows, dR, done⟩=aC):=fun h=>Zc (k:=k) hlt h
      have p2:∀ q:Bk wr, q.w.cell? ⟨w.heap.size, 2, ak⟩=_:=fun q=>gy q.h c2
      have p1:∀ q:Bk wr, q.w.cell? ⟨w.heap.size, 1, ak⟩=_:=fun q=>gy q.h c1
      have r0:∀ q:Bk wr, q.w.cell? ⟨g, off+k*8, ak⟩=_:=fun q=>gy q.h d0
      have r1:∀ q:Bk wr, q.w.cell? ⟨g, off+k*8+1, ak⟩=_:=fun q=>gy q.h d1
      have r2:∀ q:Bk wr, q.w.cell? ⟨g, off+k*8+2, ak⟩=_:=fun q=>gy q.h d2
      have r3:∀ q:Bk wr, q.w.cell? ⟨g, off+k*8+3, ak⟩=_:=fun q=>gy q.h d3
      have r4:∀ q:Bk wr, q.w.cell? ⟨g, off+k*8+4, ak⟩=_:=fun q=>gy q.h d4
      have r5:∀ q:Bk wr, q.w.cell? ⟨g, off+k*8+5, ak⟩=_:=fun q=>gy q.h d5
      have r6:∀ q:Bk wr, q.w.cell? ⟨g, off+k*8+6, ak⟩=_:=fun q=>gy q.h d6
      have r7:∀ q:Bk wr, q.w.cell? ⟨g, off+k*8+7, ak⟩=_:=fun q=>gy q.h d7
      unfold iK fQ at C;generalize gu (dO rows k) n=ob at *;generalize dO rows k=r at *;clear hrs d0 d1 d2 d3 d4 d5 d6 d7 hgr;go_wp2_with fail
      refine jg ?_;repeat (go_big_quiet_step ((first|(go_at_call 74; exact eY _ (C _))|rfl)))
      refine dh ?_;intro wE hw';obtain⟨⟨w11, eG⟩, hw''⟩:=hw';have hwe:wE=w11:=hw'';clear hw'';subst hwe;have vX:=dP (eU HG.out eG);clear p1 p2 r0 r1 r2 r3 r4 r5 r6 r7 C eG c0 c1 c2 c3 c4
      cases ob
      · have HZ:aG (iG ⟨id, n, rows, dR, done⟩=aC):=kP.out rfl
        go_wp2;go_ret
        exact⟨dZ (by rw[HZ.out]), eU HB2.out vX.out⟩
      · have yT:=HY.out rfl
        go_wp2;go_roundw
        case rel=>exact⟨k+1, by omega, by go_num, yT, vX.out⟩
        case measure=>simp[dG]; omega
    · have k1:¬ ((k:Int)<rows.length):=by omega
      have BA:aG (∀ j, j<rows.length->gu (dO rows j) n=aB):=fun j hj=>HA.out j (by omega)
      have HV3:=dP (Ru.out.below hgr);have HB3:=dP (eU HB2.out hgr);have hsu:=HV3.out.dR;simp only at hsu
      clear HA hgr HG l9 Ru HB2;go_wp2
      go_loop [4] (fun i=>∃ k:Nat, k<=dR.length/\i=ah aA k/\∀ j, j<k->(inB (el dR j) 0 59&&(done||decide (el dR j=(j:Int))))=true) (fun i=>dR.length-(dG i).toNat)
      case atStart=>exact⟨0, cZ _, rfl, fun j hj=>by omega⟩
      case round =>
        obtain⟨k, hk, rfl, hall⟩:=hrel;have HA:=dP hall;clear hall;by_cases hlt:k<dR.length
        · have kP:aG ((inB (el dR k) 0 59&&(done||decide (el dR k=(k:Int))))=false->iG ⟨id, n, rows, dR, done⟩=false):=fun h=>al2 (m:=⟨id, n, rows, dR, done⟩) (k:=k) hlt h
          have HY:aG ((inB (el dR k) 0 59&&(done||decide (el dR k=(k:Int))))=aB->∀ j, j<k+1->(inB (el dR j) 0 59&&(done||decide (el dR j=(j:Int))))=true):=fun h1 j hj=>by
            rcases aW.1 hj with h|h
            · exact HA.out j h
            · rw[h]; exact h1
          rcases hsu.2.2 with h0|⟨b, off, rfl, hc⟩
          · omega
          have hck:=hc k hlt;have k1:(k:Int)<dR.length:=by omega
          have k0:(0:Int)<=k:=by omega
          clear hc;generalize el dR k=x at *
          cases e1:inB x 0 59 with
          | false =>
            have HZ:aG (iG ⟨id, n, rows, dR, done⟩=aC):=kP.out (by rw[e1]; rfl)
            go_wp2_with (first|(go_at_call 40; refine fV (gI _ _ _ _) ?_))
            go_ret
            exact⟨dZ (by rw[HZ.out]), HB3.out⟩
          | true =>
          cases done with
          | true =>
            have HN:=HY.out (by rw[e1]; rfl)
            have sF:=dP HN;clear HN HY kP;go_wp2_with (first|(go_at_call 40; refine fV (gI _ _ _ _) ?_))
            go_round
            case rel=>exact⟨k+1, by omega, by go_num, sF.out⟩
            case measure=>simp[dG]; omega
          | false =>
          by_cases hxk:x=(k:Int)
          · have g:(x != (k:Int))=aC:=by simpa using hxk
            have HN:=HY.out (by rw[e1]; simp[hxk])
            have sF:=dP HN;clear HN HY kP hxk;go_wp2_with (first|(go_at_call 40; refine fV (gI _ _ _ _) ?_))
            go_round
            case rel=>exact⟨k+1, by omega, by go_num, sF.out⟩
            case measure=>simp[dG]; omega
          · have g:(x != (k:Int))=aB:=by simpa using hxk
            have HZ:aG (iG ⟨id, n, rows, dR, aC⟩=aC):=kP.out (by rw[e1]; simp[hxk])
            clear hxk HY kP;go_wp2_with (first|(go_at_call 40; refine fV (gI _ _ _ _) ?_))
            go_ret
            exact⟨dZ (by rw[HZ.out]), HB3.out⟩
        · have k1:¬ ((k:Int)<dR.length):=by omega
          obtain⟨I, rfl⟩:∃ I:Nat, id=(I:Int):=⟨id.toNat, by omega⟩
          have aH6:aG (iG ⟨(I:Int), n, rows, dR, done⟩=(decide (el (dO rows I).got I=((dO rows I).txt.length:Int))&&(decide ((I:Int)∉(dO rows I).dQ)&&(!done||(dO rows I).dV)))):=Zd (m:=⟨(I:Int), n, rows, dR, done⟩) Rt.out HE2.out KU.out h4 HE5.out BA.out (fun j hj=>HA.out j (by have:j<dR.length:=hj; omega))
          have hil:I<rows.length:=by have:=KU.out; omega
          have i0:=hid.1;have i1:(I:Int)<rows.length:=by have:=KU.out; omega
          have hgl:=Ze (BA.out I hil);obtain⟨g, off, Ak, hra, ⟨⟨d0, d1, d2, d3⟩, d4, d5, d6, d7⟩, hrs⟩:=HV3.out.row (k:=I) hil;simp only at hra hrs d0 d1 d2 d3 d4 d5 d6 d7
          subst hra;have hH:=fun X (h:Below wr.heap.size wr X)=>qL Ak.sa (dO rows I).dQ.length Ak.sc (I:Int) (dO rows I).dQ X (hrs.dQ.below h (cO _)) hrs.ms
          rcases hrs.got.2.2 with h0|⟨gb, go, hga, hgc⟩
          · omega
          have hge:=hgc I (by omega)
          have i2:(I:Int)<((dO rows I).got.length:Int):=by omega
          rw[hga] at d2;have Rx:=dX wr (aH #[ah aA (dO rows I).ver, aj Ak.ta (dO rows I).txt.length Ak.tc, aj (au ⟨gb, go, ak⟩) (dO rows I).got.length Ak.gc, aj Ak.sa (dO rows I).dQ.length Ak.sc, aF (dO rows I).wed, aF (dO rows I).dV, ah aA (dO rows I).dW, aj Ak.ma (dO rows I).dU.length Ak.mc] 44);have hxo:=Bx.new wr 44 #[ah aA (dO rows I).ver, aj Ak.ta (dO rows I).txt.length Ak.tc, aj (au ⟨gb, go, ak⟩) (dO rows I).got.length Ak.gc, aj Ak.sa (dO rows I).dQ.length Ak.sc, aF (dO rows I).wed, aF (dO rows I).dV, ah aA (dO rows I).dW, aj Ak.ma (dO rows I).dU.length Ak.mc];generalize dO rows I=r at *;generalize hWo:wr.alloc (aH #[ah aA r.ver, aj Ak.ta r.txt.length Ak.tc, aj (au ⟨gb, go, ak⟩) r.got.length Ak.gc, aj Ak.sa r.dQ.length Ak.sc, aF r.wed, aF r.dV, ah aA r.dW, aj Ak.ma r.dU.length Ak.mc] 44)=Wo at *;have C:∀ q:Bk Wo, dF dA 113 #[aj Ak.sa r.dQ.length Ak.sc, ah aA (I:Int)] q.w fun e w'=>e=aK (aF (decide ((I:Int)∈r.dQ)))/\Below q.w.heap.size q.w w':=fun q=>(hH q.w (eU Rx q.h)).mono (fun e w' h=>⟨h.1, by rw[h.2]; exact dw _ _⟩)
          obtain⟨⟨y0, y1, y2, y3⟩, y4, y5, y6, y7⟩:=Bx.r8 hxo;have z0:=gy Rx c0;have z4:=gy Rx c4;have hgo:=gy Rx hge;have x1:∀ q:Bk Wo, q.w.cell? ⟨wr.heap.size, 1, ak⟩=_:=fun q=>gy q.h y1
          have x2:∀ q:Bk Wo, q.w.cell? ⟨wr.heap.size, 2, ak⟩=_:=fun q=>gy q.h y2
          have x3:∀ q:Bk Wo, q.w.cell? ⟨wr.heap.size, 3, ak⟩=_:=fun q=>gy q.h y3
          have x5:∀ q:Bk Wo, q.w.cell? ⟨wr.heap.size, 5, ak⟩=_:=fun q=>gy q.h y5
          have v0:∀ q:Bk Wo, q.w.cell? ⟨w.heap.size, 0, ak⟩=_:=fun q=>gy q.h z0
          have v4:∀ q:Bk Wo, q.w.cell? ⟨w.heap.size, 4, ak⟩=_:=fun q=>gy q.h z4
          have vg:∀ q:Bk Wo, q.w.cell? ⟨gb, go+I, ak⟩=_:=fun q=>gy q.h hgo
          have oM:=dP (eU HB3.out Rx);clear hgc hge hH hxo Rx HA hrs BA HV3 hsu y0 y1 y2 y3 y4 y5 y6 y7 z0 z4 hgo
          have HEq:aG (((el r.got I==(r.txt.length:Int))&&(!(decide ((I:Int)∈r.dQ))&&(!done||r.dV)))=iG ⟨(I:Int), n, rows, dR, done⟩):=by
            rw[aG, aH6.out];simp only[decide_not]
            rfl
          generalize hrd:r.dV=rd at *;generalize hel:el r.got I=eg at *
          cases e7:(eg==(r.txt.length:Int))<;>cases e8:decide ((I:Int)∈r.dQ)<;>cases done<;>rw[e7, e8] at HEq<;>rw[e8] at C <;>
           (go_wp2_with fail
            refine jg ?_;repeat (go_big_quiet_step ((first|(go_at_call 113; exact eY _ (C _))|rfl)))
            refine dh ?_;intro wE hw';obtain⟨⟨w11, eG⟩, hw''⟩:=hw';have hwe:wE=w11:=hw'';clear hw'';subst hwe;have HBE:=dP (eU oM.out eG);go_wp2;go_ret
            exact⟨dZ (by rw[<- HEq.out]; try rfl), HBE.out⟩)
section
variable {P:Program} {ops:Array Oper} {Q:Exit->Act->aI->Prop} {md:Region.Mode} {S:aI->Prop}
def wO (P:Program) (md:Region.Mode) (ops:Array Oper) (Q:Exit->Act->aI->Prop) (S:aI->Prop) (z:Nat):Nat->Array Bool->Act->aI->Prop
 | 0,listed,a,w=>Region.ready md ops listed=[]/\Q .normal a w
 | fuel+1,listed,a,w =>
  (Region.ready md ops listed=[]->Q .normal a w) /\
  ∀ i∈Region.ready md ops listed,wpOp P ops Q i (fun a' w'=>(i≠z->S w->S w')/\wO P md ops Q S z fuel (listed.setIfInBounds i aB) a' w') a w
theorem IG {z:Nat}:∀ (fuel:Nat) (listed:Array Bool) (a:Act) (w:aI),wO P md ops Q S z fuel listed a w->wpAny P md ops Q fuel listed a w
 | 0,_,_,_,h=>h
 | fuel+1,_,_,_,h=>⟨h.1,fun i hi=>wpOp_mono (fun a' w' h'=>IG fuel _ a' w' h'.2) (h.2 i hi)⟩
theorem Og {i z:Nat} {oi:Oper} {v:aJ} (hi:ops[i]?=au oi) (hsel:∀ (j:Nat) (o:Oper) cs b,ops[j]?=au o->o.op≠.select cs b)
  (hQ:∀ c a w,Q (.panic c) (a.put oi.dst v) w->Q (.panic c) a w) (hz:Region.waitsFor md ops z i=aB) (hiz:i≠z) :
  ∀ (fuel:Nat) (listed:Array Bool) (a:Act) (w:aI),
   (∀ j oj,ops[j]?=au oj->j≠i->listed.getD j aB=aC->(∀ e∈oj.after,Region.binds md e=aB->e.on≠i)->oi.apart ops oj=aB) ->
   i∈Region.ready md ops listed->YieldsIf P ops S oi v a->S w ->
   wO P md ops Q S z fuel (listed.setIfInBounds i aB) (a.put oi.dst v) w->wO P md ops Q S z (fuel+1) listed a w:=by
 intro fuel
 induction fuel with
 | zero =>
  intro listed a w _ hr hy hS H;refine⟨fun h=>(by rw[h] at hr;cases hr),fun j hj=>?_⟩
  by_cases hji:j=i
  ·subst hji;exact hy.wpOp hi hS ⟨fun _ h=>h,H⟩
  ·have:=ready_mono hj hji
   rw[H.1] at this
   cases this
 | succ fuel ih =>
  intro listed a w hfree hr hy hS H;have hun:=(mem_ready.1 hr).1;refine⟨fun h=>(by rw[h] at hr;cases hr),fun j hj=>?_⟩
  by_cases hji:j=i
  ·subst hji;exact hy.wpOp hi hS ⟨fun _ h=>h,H⟩
  ·obtain⟨hjun,oj,hoj,hall⟩:=mem_ready.1 hj
   have hnot:∀ e∈oj.after,Region.binds md e=aB->e.on≠i:=fun e he hb heq=>by
    have h3:=hall e he hb;rw[heq,getD_both hun] at h3
    cases h3
   have hjz:j≠z:=fun e=>by
    subst e;obtain⟨o',ho',e,he,hb,hon⟩:=Region.waitsFor_spec hz;have:o'=oj:=bT (ho'.symm.trans hoj);subst this;exact hnot e he hb hon
   have h1:=H.2 j (ready_mono hj hji);have h2:=wpOp_putIf hoj (hfree j oj hoj hji hjun hnot) (fun cs b=>hsel i oi cs b hi) (fun cs b=>hsel j oj cs b hoj) hQ hy h1
   have hfree':∀ k ok,ops[k]?=au ok->k≠i->(listed.setIfInBounds j aB).getD k aB=aC ->
     (∀ e∈ok.after,Region.binds md e=aB->e.on≠i)->oi.apart ops ok=aB:=fun k ok hk hki hun hno=>by
    refine hfree k ok hk hki ?_ hno;by_cases hjk:j=k
    ·subst hjk;exact hjun
    ·rw[getD_set_ne aB hjk] at hun;exact hun
   refine wpOp_mono (fun a' w' h3=>⟨h3.2.1,ih (listed.setIfInBounds j aB) a' w' hfree' (ready_mono hr (Ne.symm hji)) h3.1 (h3.2.1 hjz hS) ?_⟩) h2
   rw[Array.setIfInBounds_comm _ _ hji];exact h3.2.2
theorem QL {i z:Nat} {oi:Oper} {v:aJ} (hi:ops[i]?=au oi) (hsel:∀ (j:Nat) (o:Oper) cs b,ops[j]?=au o->o.op≠.select cs b)
  (hQ:∀ c a w,Q (.panic c) (a.put oi.dst v) w->Q (.panic c) a w) :
  ∀ (fuel:Nat) (listed:Array Bool) (a:Act) (w:aI),
   (∀ j oj,ops[j]?=au oj->j≠i->listed.getD j aB=aC->(∀ e∈oj.after,Region.binds md e=aB->e.on≠i)->oi.apart ops oj=aB) ->
   i∈Region.ready md ops listed->Yields P ops oi v a ->
   wO P md ops Q S z fuel (listed.setIfInBounds i aB) (a.put oi.dst v) w->wO P md ops Q S z (fuel+1) listed a w:=by
 intro fuel
 induction fuel with
 | zero =>
  intro listed a w _ hr hy H;refine⟨fun h=>(by rw[h] at hr;cases hr),fun j hj=>?_⟩
  by_cases hji:j=i
  ·subst hji;exact hy.wpOp hi ⟨fun _ h=>h,H⟩
  ·have:=ready_mono hj hji
   rw[H.1] at this
   cases this
 | succ fuel ih =>
  intro listed a w hfree hr hy H;have hun:=(mem_ready.1 hr).1;refine⟨fun h=>(by rw[h] at hr;cases hr),fun j hj=>?_⟩
  by_cases hji:j=i
  ·subst hji;exact hy.wpOp hi ⟨fun _ h=>h,H⟩
  ·obtain⟨hjun,oj,hoj,hall⟩:=mem_ready.1 hj
   have hnot:∀ e∈oj.after,Region.binds md e=aB->e.on≠i:=fun e he hb heq=>by
    have h3:=hall e he hb;rw[heq,getD_both hun] at h3
    cases h3
   have h1:=H.2 j (ready_mono hj hji);have h2:=wpOp_put hoj (hfree j oj hoj hji hjun hnot) (fun cs b=>hsel i oi cs b hi) (fun cs b=>hsel j oj cs b hoj) hQ hy h1
   have hfree':∀ k ok,ops[k]?=au ok->k≠i->(listed.setIfInBounds j aB).getD k aB=aC ->
     (∀ e∈ok.after,Region.binds md e=aB->e.on≠i)->oi.apart ops ok=aB:=fun k ok hk hki hun hno=>by
    refine hfree k ok hk hki ?_ hno;by_cases hjk:j=k
    ·subst hjk;exact hjun
    ·rw[getD_set_ne aB hjk] at hun;exact hun
   refine wpOp_mono (fun a' w' h3=>⟨h3.2.1,ih (listed.setIfInBounds j aB) a' w' hfree' (ready_mono hr (Ne.symm hji)) h3.1 ?_⟩) h2
   rw[Array.setIfInBounds_comm _ _ hji];exact h3.2.2
end
section
variable {P:Program} {l:List Oper} {Q:Exit->Act->aI->Prop} {S:aI->Prop}
def GT (P:Program) (l:List Oper) (Q:Exit->Act->aI->Prop) (S:aI->Prop) (z fuel:Nat) (listed:Array Bool) (a:Act) (w:aI):Prop:=wO P .any l.toArray Q S z fuel listed a w
theorem Zg {id:Nat} {a:Act} {w:aI} (z:Nat) (hm:P.follows .mixedOrders=aB) (hlen:(l.length==l.length)=aB)
  (h:GT P l Q S z l.length (Array.replicate l.length aC) a w.drew):(Code.region id l.toArray aB).wp P Q a w:=by
 refine wp_region_any hm (IG (z:=z) (S:=S) _ _ _ _ ?_);unfold GT at h;simpa using h
theorem al3 {i z:Nat} {oi:Oper} {v:aJ} {fuel:Nat} {listed:Array Bool} {a:Act} {w:aI} (hi:l[i]?=au oi) (hs:Region.noSelect l.toArray=aB)
  (hsk:(Region.waitsFor .any l.toArray z i&&(i != z))=aB) (hf:Region.free .any l.toArray listed i=aB) (hr:(Region.ready .any l.toArray listed).contains i=aB)
  (hQ:∀ c a w,Q (.panic c) (a.put oi.dst v) w->Q (.panic c) a w) (hy:YieldsIf P l.toArray S oi v a) (hS:S w)
  (h:GT P l Q S z fuel (listed.setIfInBounds i aB) (a.put oi.dst v) w):GT P l Q S z (fuel+1) listed a w:=by
 simp only[bI,bne_iff_ne] at hsk;have hi':l.toArray[i]?=au oi:=by simpa using hi
 exact Og hi' (Region.noSelect_spec hs) hQ hsk.1 hsk.2 fuel listed a w (Region.free_spec hi' hf) (by simpa using hr) hy hS h
theorem al4 {i z:Nat} {oi:Oper} {v:aJ} {fuel:Nat} {listed:Array Bool} {a:Act} {w:aI} (hi:l[i]?=au oi) (hs:Region.noSelect l.toArray=aB)
  (hf:Region.free .any l.toArray listed i=aB) (hr:(Region.ready .any l.toArray listed).contains i=aB)
  (hQ:∀ c a w,Q (.panic c) (a.put oi.dst v) w->Q (.panic c) a w) (hy:Yields P l.toArray oi v a)
  (h:GT P l Q S z fuel (listed.setIfInBounds i aB) (a.put oi.dst v) w):GT P l Q S z (fuel+1) listed a w:=by
 have hi':l.toArray[i]?=au oi:=by simpa using hi
 exact QL hi' (Region.noSelect_spec hs) hQ fuel listed a w (Region.free_spec hi' hf) (by simpa using hr) hy h
theorem av4 {i z:Nat} {o:Oper} {fuel:Nat} {listed:Array Bool} {a:Act} {w:aI} (hi:l[i]?=au o) (hr:Region.ready .any l.toArray listed=[i]) (hiz:(i != z)=aB)
  (h:∀ K':Act->aI->Prop,Shut (∀ a w,S w->(S w->GT P l Q S z fuel (listed.setIfInBounds i aB) a w)->K' a w)->if Region.wanted o (yielded l.toArray a.tmps)=aB then Oper.wp P o a w K' Q else K' (a.put o.dst undef) w):GT P l Q S z (fuel+1) listed a w:=by
 have hi':l.toArray[i]?=au o:=by simpa using hi
 refine⟨fun h0=>(by rw[hr] at h0;cases h0),fun j hj=>?_⟩
 rw[hr] at hj;simp at hj
 subst hj;exact wpOp_step hi' (fun K' hK=>h K' (fun a w hS hW=>hK a w ⟨fun _ _=>hS,hW hS⟩))
theorem al5 {z:Nat} {o:Oper} {fuel:Nat} {listed:Array Bool} {a:Act} {w:aI} (hi:l[z]?=au o) (hr:Region.ready .any l.toArray listed=[z]) (hr2:Region.ready .any l.toArray (listed.setIfInBounds z aB)=[])
  (h:∀ K':Act->aI->Prop,Shut (∀ a w,Q .normal a w->K' a w)->if Region.wanted o (yielded l.toArray a.tmps)=aB then Oper.wp P o a w K' Q else K' (a.put o.dst undef) w):GT P l Q S z (fuel+1) listed a w:=by
 have hi':l.toArray[z]?=au o:=by simpa using hi
 refine⟨fun h0=>(by rw[hr] at h0;cases h0),fun j hj=>?_⟩
 rw[hr] at hj;simp at hj
 subst hj;refine wpOp_step hi' (fun K' hK=>h K' (fun a w hq=>hK a w ⟨fun h=>absurd rfl h, ?_⟩))
 cases fuel with
 | zero=>exact⟨hr2,hq⟩
 | succ f=>exact⟨fun _=>hq,by rw[hr2];simp⟩
end
theorem iC:(∀ (a:Act) (d:Nat) (v:aJ), a.put (au d) v={ a with tmps:=a.tmps.setIfInBounds d v })/\(∀ (a:Act) (v:aJ), a.put ak v=a)/\(∀ (l:List aJ) (i:Nat) (v:aJ), l.toArray.setIfInBounds i v=(l.set i v).toArray)/\(∀ (x v:aJ) (l:List aJ), (x::l).set 0 v=v::l)/\(∀ (x v:aJ) (l:List aJ) (i:Nat), (x::l).set (i+1) v=x::l.set i v):=⟨fun _ _ _=>rfl, fun _ _=>rfl, fun l i v=>List.setIfInBounds_toArray l i v, fun _ _ _=>rfl, fun _ _ _ _=>rfl⟩
section
variable {P:Program} {l:List Oper} {Q:Exit->Act->aI->Prop} {S:aI->Prop}
theorem lU {id : Nat} {a : Act} {w : aI} (z : Nat) (hm : P.follows .mixedOrders = aB) (hS : S w.drew)
    (h:S w.drew->GT P l Q S z l.length (Array.replicate l.length aC) a w.drew) (hlen:(l.length==l.length)=aB:=by kernel_rfl):(Code.region id l.toArray aB).wp P Q a w :=
  Zg z hm hlen (h hS)
theorem fC {i z : Nat} {oi : Oper} {v : aJ} {fuel : Nat} {listed : Array Bool} {a a' : Act} {w : aI} (hi : l[i]? = au oi) (hS : S w)
    (h:GT P l Q S z fuel (listed.setIfInBounds i aB) a' w)
    (hy:∀ w, S w->(execOp a.eval oi).run P w=.ok (.value v) w:=by intro X Oh; (try dsimp only at Oh); (repeat (obtain⟨g, Oh⟩:=Oh)); go_simp; try with_reducible rfl) (ha:a.put oi.dst v=a':=by (try simp only[iC]); rfl)
    (hs:Region.noSelect l.toArray=aB:=by kernel_rfl)
    (hsk:(Region.waitsFor .any l.toArray z i&&(i != z))=aB:=by kernel_rfl) (hf:Region.free .any l.toArray listed i=aB:=by kernel_rfl) (hr:(Region.ready .any l.toArray listed).contains i=aB:=by kernel_rfl)
    (hQ:∀ c a w, Q (.panic c) (a.put oi.dst v) w->Q (.panic c) a w:=by exact fun _ _ _ h=>h) (hw:Region.wanted oi (yielded l.toArray a.tmps)=aB:=by rfl):GT P l Q S z (fuel+1) listed a w :=
  al3 hi hs hsk hf hr hQ (Or.inl ⟨hw, hy⟩) hS (ha ▸ h)
theorem fE {i z : Nat} {oi : Oper} {v : aJ} {fuel : Nat} {listed : Array Bool} {a a' : Act} {w : aI} (hi : l[i]? = au oi)
    (h:GT P l Q S z fuel (listed.setIfInBounds i aB) a' w)
    (hy:∀ w, (execOp a.eval oi).run P w=.ok (.value v) w:=by intro X; go_simp; try with_reducible rfl) (ha:a.put oi.dst v=a':=by (try simp only[iC]); rfl)
    (hs:Region.noSelect l.toArray=aB:=by kernel_rfl)
    (hf:Region.free .any l.toArray listed i=aB:=by kernel_rfl) (hr:(Region.ready .any l.toArray listed).contains i=aB:=by kernel_rfl)
    (hQ:∀ c a w, Q (.panic c) (a.put oi.dst v) w->Q (.panic c) a w:=by exact fun _ _ _ h=>h) (hw:Region.wanted oi (yielded l.toArray a.tmps)=aB:=by rfl):GT P l Q S z (fuel+1) listed a w :=
  al4 hi hs hf hr hQ (Or.inl ⟨hw, hy⟩) (ha ▸ h)
theorem iJ {i z : Nat} {o : Oper} {fuel : Nat} {listed : Array Bool} {a : Act} {w : aI} (hi : l[i]? = au o)
    (h:∀ K':Act->aI->Prop, Shut (∀ a w, S w->(S w->GT P l Q S z fuel (listed.setIfInBounds i aB) a w)->K' a w)->if Region.wanted o (yielded l.toArray a.tmps)=aB then Oper.wp P o a w K' Q else K' (a.put o.dst undef) w)
    (hr:Region.ready .any l.toArray listed=[i]:=by kernel_rfl) (hiz:(i != z)=aB:=by kernel_rfl):GT P l Q S z (fuel+1) listed a w:=av4 hi hr hiz h
theorem oV {z : Nat} {o : Oper} {fuel : Nat} {listed : Array Bool} {a : Act} {w : aI} (hi : l[z]? = au o)
    (h:∀ K':Act->aI->Prop, Shut (∀ a w, Q .normal a w->K' a w)->if Region.wanted o (yielded l.toArray a.tmps)=aB then Oper.wp P o a w K' Q else K' (a.put o.dst undef) w)
    (hr:Region.ready .any l.toArray listed=[z]:=by kernel_rfl) (hr2:Region.ready .any l.toArray (listed.setIfInBounds z aB)=[]:=by kernel_rfl):GT P l Q S z (fuel+1) listed a w:=al5 hi hr hr2 h
end
section
variable {P:Program} {l:List Oper} {Q:Exit->Act->aI->Prop} {S:aI->Prop}
theorem av5 {i j z:Nat} {o o':Oper} {fuel:Nat} {listed:Array Bool} {a:Act} {w:aI} (hi:l[i]?=au o) (hj:l[j]?=au o') (hr:Region.ready .any l.toArray listed=[i,j]) (hiz:(i != z&&j != z)=aB)
  (h:∀ K':Act->aI->Prop,Shut (∀ a w,S w->(S w->GT P l Q S z fuel (listed.setIfInBounds i aB) a w)->K' a w)->if Region.wanted o (yielded l.toArray a.tmps)=aB then Oper.wp P o a w K' Q else K' (a.put o.dst undef) w)
  (h':∀ K':Act->aI->Prop,Shut (∀ a w,S w->(S w->GT P l Q S z fuel (listed.setIfInBounds j aB) a w)->K' a w)->if Region.wanted o' (yielded l.toArray a.tmps)=aB then Oper.wp P o' a w K' Q else K' (a.put o'.dst undef) w):GT P l Q S z (fuel+1) listed a w:=by
 have hi':l.toArray[i]?=au o:=by simpa using hi
 have hj':l.toArray[j]?=au o':=by simpa using hj
 refine⟨fun h0=>(by rw[hr] at h0;cases h0),fun k hk=>?_⟩
 rw[hr] at hk;simp at hk
 rcases hk with rfl|rfl
 ·exact wpOp_step hi' (fun K' hK=>h K' (fun a w hS hW=>hK a w ⟨fun _ _=>hS,hW hS⟩))
 ·exact wpOp_step hj' (fun K' hK=>h' K' (fun a w hS hW=>hK a w ⟨fun _ _=>hS,hW hS⟩))
end
section
variable {P:Program} {ops:Array Oper} {Q:Exit->Act->aI->Prop} {md:Region.Mode} {S:aI->Prop}
theorem MX {i z:Nat} {oi:Oper} {v:aJ} (hi:ops[i]?=au oi) (hsel:∀ (j:Nat) (o:Oper) cs b,ops[j]?=au o->o.op≠.select cs b)
  (hQ:∀ c a w,Q (.panic c) (a.put oi.dst v) w->Q (.panic c) a w) (hz:ops.size<=z) :
  ∀ (fuel:Nat) (listed:Array Bool) (a:Act) (w:aI),
   (∀ j oj,ops[j]?=au oj->j≠i->listed.getD j aB=aC->(∀ e∈oj.after,Region.binds md e=aB->e.on≠i)->oi.apart ops oj=aB) ->
   i∈Region.ready md ops listed->YieldsIf P ops S oi v a->S w ->
   wO P md ops Q S z fuel (listed.setIfInBounds i aB) (a.put oi.dst v) w->wO P md ops Q S z (fuel+1) listed a w:=by
 intro fuel
 induction fuel with
 | zero =>
  intro listed a w _ hr hy hS H;refine⟨fun h=>(by rw[h] at hr;cases hr),fun j hj=>?_⟩
  by_cases hji:j=i
  ·subst hji;exact hy.wpOp hi hS ⟨fun _ h=>h,H⟩
  ·have:=ready_mono hj hji
   rw[H.1] at this
   cases this
 | succ fuel ih =>
  intro listed a w hfree hr hy hS H;have hun:=(mem_ready.1 hr).1;refine⟨fun h=>(by rw[h] at hr;cases hr),fun j hj=>?_⟩
  by_cases hji:j=i
  ·subst hji;exact hy.wpOp hi hS ⟨fun _ h=>h,H⟩
  ·obtain⟨hjun,oj,hoj,hall⟩:=mem_ready.1 hj
   have hnot:∀ e∈oj.after,Region.binds md e=aB->e.on≠i:=fun e he hb heq=>by
    have h3:=hall e he hb;rw[heq,getD_both hun] at h3
    cases h3
   have hjz:j≠z:=fun e=>by
    have:=(Array.getElem?_eq_some_iff.1 hoj).1;omega
   have h1:=H.2 j (ready_mono hj hji);have h2:=wpOp_putIf hoj (hfree j oj hoj hji hjun hnot) (fun cs b=>hsel i oi cs b hi) (fun cs b=>hsel j oj cs b hoj) hQ hy h1
   have hfree':∀ k ok,ops[k]?=au ok->k≠i->(listed.setIfInBounds j aB).getD k aB=aC ->
     (∀ e∈ok.after,Region.binds md e=aB->e.on≠i)->oi.apart ops ok=aB:=fun k ok hk hki hun hno=>by
    refine hfree k ok hk hki ?_ hno;by_cases hjk:j=k
    ·subst hjk;exact hjun
    ·rw[getD_set_ne aB hjk] at hun;exact hun
   refine wpOp_mono (fun a' w' h3=>⟨h3.2.1,ih (listed.setIfInBounds j aB) a' w' hfree' (ready_mono hr (Ne.symm hji)) h3.1 (h3.2.1 hjz hS) ?_⟩) h2
   rw[Array.setIfInBounds_comm _ _ hji];exact h3.2.2
end
section
variable {P:Program} {l:List Oper} {Q:Exit->Act->aI->Prop} {S:aI->Prop}
theorem Zh {i z:Nat} {oi:Oper} {v:aJ} {fuel:Nat} {listed:Array Bool} {a:Act} {w:aI} (hi:l[i]?=au oi) (hs:Region.noSelect l.toArray=aB)
  (hsk:decide (l.length<=z)=aB) (hf:Region.free .any l.toArray listed i=aB) (hr:(Region.ready .any l.toArray listed).contains i=aB)
  (hQ:∀ c a w,Q (.panic c) (a.put oi.dst v) w->Q (.panic c) a w) (hy:YieldsIf P l.toArray S oi v a) (hS:S w)
  (h:GT P l Q S z fuel (listed.setIfInBounds i aB) (a.put oi.dst v) w):GT P l Q S z (fuel+1) listed a w:=by
 have hi':l.toArray[i]?=au oi:=by simpa using hi
 exact MX hi' (Region.noSelect_spec hs) hQ (by simpa using hsk) fuel listed a w (Region.free_spec hi' hf) (by simpa using hr) hy hS h
theorem uO {z:Nat} {fuel:Nat} {listed:Array Bool} {a:Act} {w:aI} (hr:Region.ready .any l.toArray listed=[]) (h:Q .normal a w):GT P l Q S z fuel listed a w:=by
 cases fuel with
 | zero=>exact⟨hr,h⟩
 | succ f=>exact⟨fun _=>h,by rw[hr];simp⟩
end
section
variable {P:Program} {l:List Oper} {Q:Exit->Act->aI->Prop} {S:aI->Prop}
theorem ni {i z : Nat} {oi : Oper} {v : aJ} {fuel : Nat} {listed : Array Bool} {a a' : Act} {w : aI} (hi : l[i]? = au oi) (hS : S w)
    (h:GT P l Q S z fuel (listed.setIfInBounds i aB) a' w)
    (hy:∀ w, S w->(execOp a.eval oi).run P w=.ok (.value v) w:=by intro X Oh; (try dsimp only at Oh); (repeat (obtain⟨g, Oh⟩:=Oh)); go_simp; try with_reducible rfl) (ha:a.put oi.dst v=a':=by (try simp only[iC]); rfl)
    (hs:Region.noSelect l.toArray=aB:=by kernel_rfl)
    (hsk:decide (l.length<=z)=aB:=by kernel_rfl) (hf:Region.free .any l.toArray listed i=aB:=by kernel_rfl) (hr:(Region.ready .any l.toArray listed).contains i=aB:=by kernel_rfl)
    (hQ:∀ c a w, Q (.panic c) (a.put oi.dst v) w->Q (.panic c) a w:=by exact fun _ _ _ h=>h) (hw:Region.wanted oi (yielded l.toArray a.tmps)=aB:=by rfl):GT P l Q S z (fuel+1) listed a w :=
  Zh hi hs hsk hf hr hQ (Or.inl ⟨hw, hy⟩) hS (ha ▸ h)
end
end Go.Proofs.YtafimeakbdmkjaaGreat