/-
  Texts in one.
-/
import Derived.Test.YtafimeakbdmkjaaGreatWab
import Derived.Test.YtafimeakbdmkjaaGreatWaa
import Derived.BigQuiet
import Derived.StillTail
import Derived.OrdersHeld
import Derived.Deep.RegionHeld
import Derived.Deep.Cut
import Derived.Deep.CutRange
namespace Go.Proofs.YtafimeakbdmkjaaGreat
open _root_.Array renaming setIfInBounds_comm->bF
open Bool renaming and_eq_true->aU2,and_false->aW6,false->aC,false_and->aW7,true->aB,true_and->aX7
open Classical renaming byContradiction->aZ
open Go renaming Addr->ba5,Calls->ba3,Value->aJ,World->aI,maxLen->ba2
open Go.Addr.mk renaming injEq->aX6
open Go.Builtin renaming append_->aV5
open Go.Ending renaming returned->aK
open Go.IntKind renaming i64->aA
open Go.Obj renaming cells->aH
open Go.Proofs.Tryz renaming prog->aZ8,underlying41->dK
open Go.Region renaming binds->aY8,noSelect->aW4,ready->aY9,wanted->aY0
open Go.RowKit renaming Hid->aG,intOf->ba4
open Go.RowKit.Below renaming refl->aZ5
open Go.Value renaming bool->aF,int->ah,slice->aj,string->aN
open Go.World renaming block_lt_of_cell?->bG,cell?_of_block->bT,cell?_setCell_other->bg,size_alloc->aU1
open Int renaming le_refl->aZ3,toNat_natCast->dM
open List renaming all_eq_false->dN,all_eq_true->aU3,flatMap_append->dh,getD->ba0,getElem?_append_left->aY,getElem?_append_right->aW,getElem?_eq_getElem->bC,getElem?_eq_none->bK,getElem?_replicate->bH,length_append->dB,length_drop->aU8,length_set->aV3,length_singleton->bP,length_take->aU5,mem_append->aW0,mem_cons->aX5,mem_cons_of_mem->bV,mem_cons_self->dD,mem_iff_getElem->bU,mem_of_getElem?->bW,mem_range->aX1,mem_singleton->dH,not_mem_nil->aU9,pairwise_cons->dI,prefix_refl->aV1,range->aZ6,take_append_drop->bQ
open Nat renaming add_assoc->aX9,add_mul->aZ4,le_refl->aZ0,lt_or_ge->aY6,lt_succ_iff_lt_or_eq->bD,zero_le->aZ1
open Option renaming none->ak,some->au
open Option.some renaming inj->aV4
set_option linter.unusedVariables false
set_option linter.unusedSimpArgs false
open Go.RowKit Go.Sort
set_option maxRecDepth 100000
set_option maxHeartbeats 12800000
variable {l:List Int} {B i j k off s:Nat} {d e u x x0 x1 x2 x3 x4:aJ} {r:Rw} {X' w':aI} {T:TypeId} {P:Program} {us:List aJ} {f:Fp} {α:Type} {L:List Bool} {h:Hs}
theorem Wu:∀ {l:List Int} {a:Int},l.Pairwise (·<·)->(∀ x∈l,a<=x)->∀ q,q<l.length->a+(q:Int)<=el l q
 | x::l,a,h,hx,0,_=>by
  have:=hx x dD;simpa[el] using this
 | x::l,a,h,hx,q+1,hq=>by
  have h1:=dI.1 h;have hxa:=hx x dD;have ih:=Wu (l:=l) (a:=a+1) h1.2 (fun y hy=>by have:=h1.1 y hy;omega) q (by simp at hq;omega)
  have e:el (x::l) (q+1)=el l q:=by simp[el]
  rw[e]
  push_cast
  omega
theorem Bv (h:l.Pairwise (·<·)) (hx:∀ x∈l,0<=x/\x<(k:Int)):l.length<=k:=by
 refine aZ fun hn=>?_
 have h1:=Wu h (fun x hx2=>(hx x hx2).1) (l.length-1) (by omega)
 have h2:=(hx _ (kM (i:=l.length-1) (xs:=l) (by omega))).2
 omega
theorem ZG {x: Int} (h:x∈l):∃ q,q<l.length/\el l q=x:=by
 obtain⟨j,hj,rfl⟩:=bU.1 h;exact⟨j,hj,by simp[el,hj]⟩
theorem iP.elem {m: Mb} {n: Nat} (M:iP m i n) {x: Int} (hx:x∈m.dR):0<=x/\x<=59:=by
 obtain⟨q,hq,rfl⟩:=ZG hx;exact (M.sg q hq).1
theorem iP.to {m: Mb} {n: Nat} (M:iP m i n) {o': Rw} (ok:iR o' n) (self:(i:Int)∉o'.dQ) (oD:el o'.got i=(o'.txt.length:Int)) {mY: List Int} {done': Bool}
  (sl:mY.length<=60) (pq:mY.Pairwise (·<·)) (sg:∀ q,q<mY.length->(0<=el mY q/\el mY q<=59)/\(done'=aC->el mY q=(q:Int))) (dn:done'=aB->o'.dV=aB) :
  iP { m with rows:=m.rows.set i o',dR:=mY,done:=done' } i n:=by
 have hi:i<m.rows.length:=by rw[M.len];exact M.lt
 have e1:dO (m.rows.set i o') i=o':=by rw[gB hi,if_pos rfl]
 refine⟨M.hid,M.hn,M.n5,M.lt,by simp only[aV3];exact M.len,sl,pq,fun j hj=>?_,sg,by simp only[e1];exact oD,by simp only[e1];exact self,by simp only[e1];exact dn⟩
 simp only[gB hi]
 split
 ·exact ok
 ·exact M.ok j hj
theorem ao3 {id n: Int} (h:(kN id n).2=aB):gZ (kN id n).1=aB:=by
 unfold kN at h ⊢
 split at h
 ·rename_i hc
  rw[if_pos hc];have h1:=iQ.1 hc.1;have h2:=iQ.1 hc.2;have hid:id=((id.toNat:Nat):Int):=by omega
  have hn:n=((n.toNat:Nat):Int):=by omega
  have hlt:id.toNat<n.toNat:=by omega
  obtain⟨ok,e⟩:=Ic (n:=n.toNat) (by omega)
  rw[<- hn] at ok e;have hr:∀ j,j<n.toNat->dO (List.replicate n.toNat (jV n)) j=jV n:=fun j hj=>by simp[dO,bH,hj]
  refine lH.2 ⟨id.toNat,n.toNat,hid,hn,by omega,hlt,by simp,by simp,List.Pairwise.nil,fun j hj=>?_,fun q hq=>(by simp at hq), ?_, ?_,fun h=>(by cases h)⟩
  ·simp only[hr j hj];exact ok
  ·simp only[hr _ hlt]
   rw[e];simp[el,bH,hlt]
  ·simp only[hr _ hlt]
   rw[e];simp
 ·cases h
theorem Gf {m: Mb} {n: Nat} (M:iP m i n) (t:List UInt8):iP (gX m t).1 i n/\((gX m t).2=aC->(gX m t).1=m)/\((gX m t).2=aB->(dO (gX m t).1.rows i).txt=(dO m.rows i).txt++[t])/\Nx (dO m.rows i) (dO (gX m t).1.rows i)/\(gX m t).1.dR=m.dR/\(gX m t).1.done=m.done/\(∀ j,j≠i->dO (gX m t).1.rows j=dO m.rows j):=by
 unfold gX
 split
 ·exact⟨M,fun _=>rfl,fun h=>(by cases h),Nx.refl _,rfl,rfl,fun _ _=>rfl⟩
 ·rename_i hn
  simp only[not_or] at hn;obtain⟨h1,h2,h3,h4,h5⟩:=hn;rw[M.own] at h1 h3 h5 ⊢;have hd:m.done=aC:=by simpa using h2
  have hw:(dO m.rows i).wed=aC:=by simpa using h1
  have ok:=M.ok i M.lt;have hr:=ok.RY hw;have hgi:=M.oD;have htl:=ok.tl;have hov:=ok.ver;have hi:i<m.rows.length:=by rw[M.len];exact M.lt
  have hlen:i<(dO m.rows i).got.length:=by rw[ok.gl];exact M.lt
  have hx:Nx (dO m.rows i) { dO m.rows i with txt:=(dO m.rows i).txt++[t],got:=(dO m.rows i).got.set i (el (dO m.rows i).got i+1),ver:=(dO m.rows i).ver+1 }:=by
   refine⟨by simp only;omega,List.prefix_append _ _,fun j=>?_,fun x hx=>hx,fun hw2=>(by rw[hw] at hw2;cases hw2),fun hr2=>(by rw[hr] at hr2;cases hr2)⟩
   simp only[zX hlen]
   split
   ·rename_i e;rw[e];omega
   ·exact aZ3 _
  simp only[Mb.put,M.i]
  refine⟨?_,fun h=>(by cases h),fun _=>by rw[gB hi,if_pos rfl],by rw[gB hi,if_pos rfl];exact hx,trivial,trivial,fun j hj=>by rw[gB hi,if_neg hj]⟩
  refine M.to (o':={ dO m.rows i with txt:=(dO m.rows i).txt++[t],got:=(dO m.rows i).got.set i (el (dO m.rows i).got i+1),ver:=(dO m.rows i).ver+1 }) (mY:=m.dR) (done':=m.done) ?_ M.self ?_ M.sl M.pq M.sg (fun h=>(by rw[hd] at h;cases h))
  ·have hg:∀ j,j<n->0<=el ((dO m.rows i).got.set i (el (dO m.rows i).got i+1)) j/\el ((dO m.rows i).got.set i (el (dO m.rows i).got i+1)) j<=12:=fun j hj=>by
    rw[zX hlen]
    split
    ·omega
    ·exact ok.g j hj
   have hgl:((dO m.rows i).got.set i (el (dO m.rows i).got i+1)).length=n:=by rw[aV3];exact ok.gl
   have:=(jG ok.n5 hgl).2 hg;refine⟨ok.n5,by simp only;omega,by simp only[dB,bP];omega,fun x hx=>?_,this.1,hgl,this.2,ok.dQ,ok.pq,fun h=>(by simp only at h;rw[hr] at h;cases h),fun h=>ok.not hr⟩
   rcases aW0.1 hx with hx|hx
   ·exact ok.ts x hx
   ·have:=dH.1 hx;rw[this];omega
  ·simp only[zX hlen,if_pos,dB,bP]
   omega
theorem Wx {m: Mb} {n: Nat} (M:iP m i n) (who:Int):iP (iJ m who).1 i n/\((iJ m who).2=aC->(iJ m who).1=m)/\((iJ m who).2=aB->who∈(dO (iJ m who).1.rows i).dQ/\(dO (iJ m who).1.rows i).wed=aB)/\Nx (dO m.rows i) (dO (iJ m who).1.rows i)/\(iJ m who).1.dR=m.dR/\(iJ m who).1.done=m.done/\(∀ j,j≠i->dO (iJ m who).1.rows j=dO m.rows j):=by
 unfold iJ
 split
 ·exact⟨M,fun _=>rfl,fun h=>(by cases h),Nx.refl _,rfl,rfl,fun _ _=>rfl⟩
 ·rename_i hn
  simp only[not_or] at hn;obtain⟨h1,h2,h3,h4,h5⟩:=hn;rw[M.own] at h3 h5 ⊢;rw[M.hid] at h2;rw[M.hn] at h1;have h1:=iQ.1 (by simpa using h1)
  have hd:m.done=aC:=by simpa using h4
  have ok:=M.ok i M.lt;have hov:=ok.ver;have hi:i<m.rows.length:=by rw[M.len];exact M.lt
  have hx:Nx (dO m.rows i) { dO m.rows i with dQ:=gY (dO m.rows i).dQ who,wed:=aB,ver:=(dO m.rows i).ver+1 } :=
   ⟨by simp only;omega,aV1 _,fun j=>aZ3 _,fun x hx=>nV.2 (.inr hx),fun _=>⟨rfl,rfl,rfl⟩,fun hr=>⟨hr,aZ3 _,fun _=>rfl⟩⟩
  simp only[Mb.put,M.i]
  refine⟨?_,fun h=>(by cases h),fun _=>by rw[gB hi,if_pos rfl];exact⟨nV.2 (.inl rfl),rfl⟩,by rw[gB hi,if_pos rfl];exact hx,trivial,trivial,fun j hj=>by rw[gB hi,if_neg hj]⟩
  refine M.to (o':={ dO m.rows i with dQ:=gY (dO m.rows i).dQ who,wed:=aB,ver:=(dO m.rows i).ver+1 }) (mY:=m.dR) (done':=m.done) ?_ (fun hm=>?_) M.oD M.sl M.pq M.sg (fun h=>(by rw[hd] at h;cases h))
  ·refine⟨ok.n5,by simp only;omega,ok.tl,ok.ts,ok.got,ok.gl,ok.g12,fun x hx=>?_,lK.2 (wH (lK.1 ok.pq)),fun hr=>⟨rfl,(ok.dV hr).2⟩,ok.not⟩
   rcases nV.1 hx with e|hx
   ·rw[e];omega
   ·exact ok.dQ x hx
  ·rcases nV.1 hm with e|hx
   ·exact h2 e.symm
   ·exact M.self hx
theorem tJ {m: Mb} {n: Nat} (M:iP m i n) (fr:Int) (r:Rw):iP (fG m fr r).1 i n/\((fG m fr r).2=aC->(fG m fr r).1=m)/\((fG m fr r).2=aB->dO (fG m fr r).1.rows fr.toNat=r)/\dO (fG m fr r).1.rows i=dO m.rows i/\(fG m fr r).1.dR=m.dR/\(fG m fr r).1.done=m.done:=by
 unfold fG
 split
 ·exact⟨M,fun _=>rfl,fun h=>(by cases h),rfl,rfl,rfl⟩
 ·rename_i hn
  simp only[not_or] at hn;obtain⟨h1,h2,h3,h4,h5,h6⟩:=hn;rw[M.hid] at h2;rw[M.hn] at h5 h1;have h1:=iQ.1 (by simpa using h1)
  have hne:i≠fr.toNat:=fun e=>h2 (by omega)
  have IX:iR r n:=qh.1 (by simpa using h5)
  have hfl:fr.toNat<m.rows.length:=by rw[M.len];omega
  have e1:dO (m.rows.set fr.toNat r) i=dO m.rows i:=by rw[gB hfl,if_neg hne]
  refine⟨⟨M.hid,M.hn,M.n5,M.lt,by simp only[aV3];exact M.len,M.sl,M.pq,fun j hj=>?_,M.sg,by simp only[e1];exact M.oD,by simp only[e1];exact M.self,by simp only[e1];exact M.dn⟩,fun h=>(by cases h),fun _=>by rw[gB hfl,if_pos rfl],e1,rfl,rfl⟩
  simp only[gB hfl]
  split
  ·exact IX
  ·exact M.ok j hj
structure aM1 (m:Mb) (i n:Nat):Prop where
 ok:iP (fB m) i n
 nx:Nx (dO m.rows i) (dO (fB m).rows i)
 oth:∀ j,j≠i->dO (fB m).rows j=dO m.rows j
 sub:∀ x∈m.dR,x∈(fB m).dR
 pre:(fB m).done=aC->m.dR <+: (fB m).dR
 dn:m.done=aB->fB m=m
 wed:(dO m.rows i).wed=aB->(fB m).done=aC->(fB m).dR=m.dR
 dU:(fB m).done=aB->∀ x∈(fB m).dR,x∈m.dR\/(m.done=aC/\x∈iC (dO (fB m).rows i).dU 12)
theorem ZH {a b: List Int} (ha:∀ q,q<a.length->el a q=(q:Int)) (hb:∀ q,q<b.length->el b q=(q:Int)) (hl:a.length<=b.length):a <+: b:=by
 rw[List.prefix_iff_eq_take];refine List.ext_getElem (by rw[aU5];omega) (fun q h1 h2=>?_)
 have e1:=ha q h1;have e2:=hb q (by omega)
 simp only[List.getElem_take]
 have k1:el a q=a[q]:=by simp[el,h1]
 have k2:el b q=b[q]:=by simp[el,show q<b.length by omega]
 rw[<- k1,<- k2,e1,e2]
theorem stepM {m: Mb} {n: Nat} (M:iP m i n):aM1 m i n:=by
 by_cases c:m.done=aB\/m.own.ver=1000000
 ·have e:fB m=m:=by rw[fB,if_pos c]
  refine⟨by rw[e];exact M,by rw[e];exact Nx.refl _,fun j _=>by rw[e],fun x hx=>by rw[e];exact hx,fun _=>by rw[e];exact aV1 _,fun _=>e,fun _ _=>by rw[e],fun _ x hx=>?_⟩
  rw[e] at hx;exact .inl hx
 ·have hd:m.done=aC:=by
   cases e:m.done with
   | false=>rfl
   | true=>exact absurd (.inl e) c
  have hv:(dO m.rows i).ver≠1000000:=fun e=>c (.inr (by rw[M.own];exact e))
  have T:=ZE M hv;have hi:i<m.rows.length:=by rw[M.len];exact M.lt
  have hs0:∀ q,q<m.dR.length->el m.dR q=(q:Int):=fun q hq=>(M.sg q hq).2 hd
  have e:fB m={ m with rows:=m.rows.set i (kG m),dR:=if jJ m=aB then jO (iU m) (fD m).dU else iU m,done:=jJ m }:=by rw[fB,if_neg c,M.i]
  have e1:dO (m.rows.set i (kG m)) i=kG m:=by rw[gB hi,if_pos rfl]
  have hoth:∀ j,j≠i->dO (m.rows.set i (kG m)) j=dO m.rows j:=fun j hj=>by rw[gB hi,if_neg hj]
  have hl1:=M.sl
  cases hE:jJ m with
  | true =>
   have hw1:(fF m).wed=aB:=by
    cases h:(fF m).wed with
    | true=>rfl
    | false=>rw[T.dry h] at hE;cases hE
   have hS:=T.aA2 hw1
   have hr:(fD m).dV=aB:=by
    rw[jJ,aU2] at hE;exact hE.1
   have hrd:=T.qL.dV hr;have e2:fB m={ m with rows:=m.rows.set i (kG m),dR:=jO m.dR (fD m).dU,done:=aB }:=by rw[e,hE,if_pos rfl,hS]
   have hris:(jO m.dR (fD m).dU).Pairwise (·<·):=EM M.pq
   have hel:∀ x∈jO m.dR (fD m).dU,0<=x/\x<60:=fun x hx=>by
    rcases tH.1 hx with h|h
    ·have:=M.elem h;omega
    ·obtain⟨q,rfl,hq⟩:=OA hrd.2.2.2.1 M.n5.2 h
     have:=M.n5.2;omega
   have hsl:=Bv (k:=60) hris hel;have T':iP { m with rows:=m.rows.set i (kG m),dR:=jO m.dR (fD m).dU,done:=aB } i n:=M.to (o':=kG m) (mY:=jO m.dR (fD m).dU) (done':=aB) T.ok T.self T.oD hsl hris (fun q hq=>⟨by have:=hel _ (kM hq);omega,fun h=>(by cases h)⟩) (fun _=>by rw[T.dV];exact hr)
   refine⟨by rw[e2];exact T',by rw[e2];simp only[e1];exact T.nx,fun j hj=>by rw[e2];exact hoth j hj,fun x hx=>by rw[e2];exact tH.2 (.inl hx),fun h=>(by rw[e2] at h;cases h),fun h=>(by rw[hd] at h;cases h),fun _ h=>(by rw[e2] at h;cases h),fun _ x hx=>?_⟩
   rw[e2] at hx ⊢;simp only[e1,T.dU]
   rcases tH.1 hx with h|h
   ·exact .inl h
   ·exact .inr ⟨hd,h⟩
  | false =>
   have e2:fB m={ m with rows:=m.rows.set i (kG m),dR:=iU m,done:=aC }:=by rw[e,hE,if_neg (by simp)]
   obtain⟨s1,s2,s3⟩:(iU m).length<=60/\(∀ q,q<(iU m).length->el (iU m) q=(q:Int))/\m.dR.length<=(iU m).length:=by
    unfold iU
    split
    ·exact⟨M.sl,hs0,aZ0 _⟩
    ·obtain⟨q1,q2,q3,q4⟩:=yI (m.rows.set m.i (gV m)) m.k (60-m.dR.length) m.dR hs0
     exact⟨by omega,q3,q2⟩
   have hpre:=ZH hs0 s2 s3;have T':iP { m with rows:=m.rows.set i (kG m),dR:=iU m,done:=aC } i n:=M.to (o':=kG m) (mY:=iU m) (done':=aC) T.ok T.self T.oD s1 (zF s2) (fun q hq=>⟨by rw[s2 q hq];omega,fun _=>s2 q hq⟩) (fun h=>(by cases h))
   refine⟨by rw[e2];exact T',by rw[e2];simp only[e1];exact T.nx,fun j hj=>by rw[e2];exact hoth j hj,fun x hx=>by rw[e2];exact hpre.subset hx,fun _=>by rw[e2];exact hpre,fun h=>(by rw[hd] at h;cases h),fun hw _=>?_,fun h=>(by rw[e2] at h;cases h)⟩
   rw[e2];refine T.aA2 ?_;have e3:fF m=learn m.rows i (dO m.rows i) (fA n (dO m.rows i).dQ):=by rw[fF,M.i,M.k,M.own]
   rw[e3];exact (qY _ _ _ _).wed hw
def Pv (w:aI) (B o:Nat) (cs:List eF):Prop:=∃ vs,(∀ j,j<vs.length->w.cell? ⟨B,o+j,ak⟩=vs[j]?)/\Bh w cs vs
theorem iO.pv {w: aI} {o: Nat} {cs: List eF} {fp: Fp} (h:iO w B o cs fp):Pv w B o cs:=by
 obtain⟨vs,h1,h2,_⟩:=h;exact⟨vs,h1.cell,yC h2⟩
theorem Pv.at {w:aI} {B o:Nat} {cs:List eF} (h:Pv w B o cs) {j:Nat} {c:eF} (hj:cs[j]?=au c):∃ u,w.cell? ⟨B,o+j,ak⟩=au u/\eF.vw w c u:=by
 obtain⟨vs,h1,h2⟩:=h;obtain⟨u,hu,hv⟩:=VU h2 hj;refine⟨u,(h1 j ?_).trans hu,hv⟩;rcases aY6 j vs.length with h|h
 ·exact h
 ·rw[bK h] at hu;cases hu
theorem EO {w:aI}:∀ {cs ds:List eF} {ws:List aJ},Bh w (cs++ds) ws->∃ us vs,ws=us++vs/\Bh w cs us/\Bh w ds vs
 | [],ds,ws,h=>⟨[],ws,rfl,rfl,h⟩
 | c::cs,ds,ws,h=>by
  obtain⟨u,us',rfl,h1,h2⟩:=h;obtain⟨us,vs,rfl,h3,h4⟩:=EO h2;exact⟨u::us,vs,rfl,⟨u,us,rfl,h1,h3⟩,h4⟩
theorem IY {α: Type} {F: α->List eF} (hF:∀ x,(F x).length=s) {w: aI} {a: Option ba5} {c: Nat} {L: List α} (h:eF.vw w (iF s F L) (aj a L.length c)) {x: α} (hk:L[k]?=au x):∃ g off,a=au ⟨g,off,ak⟩/\Pv w g (off+k*s) (F x):=by
 obtain⟨a0,c0,us,e0,h1,h2,h3,h4,h5⟩:=h
 cases e0
 have hkl:k<L.length:=by
  rcases aY6 k L.length with h|h
  ·exact h
  ·rw[bK h] at hk;cases hk
 rcases h4 with h4|⟨b,off,rfl,hc⟩
 ·omega
 have hks:k*s+s<=L.length*s:=by
  have:(k+1)*s<=L.length*s:=Nat.mul_le_mul_right s hkl;rw[aZ4,Nat.one_mul] at this;exact this
 have e1:L.flatMap F=(L.flatMap F).take (k*s)++(((L.flatMap F).drop (k*s)).take s++(L.flatMap F).drop (k*s+s)):=by
  rw[<- List.drop_drop,bQ,bQ]
 rw[e1] at h5;obtain⟨u1,u23,rfl,l1,Wy⟩:=EO h5;obtain⟨u2,u3,rfl,l2,l3⟩:=EO Wy;rw[yD hF hk] at l2;have hd:=sV hF L;have n1:u1.length=k*s:=by rw[J4 l1,aU5];omega
 have n2:u2.length=s:=by rw[J4 l2,hF]
 refine⟨b,off,rfl,u2,fun j hj=>?_,l2⟩
 rw[aX9,hc (k*s+j) (by omega),aW (by omega),aY (by omega),n1]
 congr 1
 omega
def jr (r:Rw):List eF:=[.v (ah aA r.ver),ny r.txt,gQ r.got,gQ r.dQ,.v (aF r.wed),.v (aF r.dV),.v (ah aA r.dW),gQ r.dU]
theorem jW (r:Rw):(jr r).length=8:=rfl
def C8 (w:aI) (g o:Nat) (x0 x1 x2 x3 x4 x5 x6 x7:aJ):Prop:=(w.cell? ⟨g,o,ak⟩=au x0/\w.cell? ⟨g,o+1,ak⟩=au x1/\w.cell? ⟨g,o+2,ak⟩=au x2/\w.cell? ⟨g,o+3,ak⟩=au x3)/\w.cell? ⟨g,o+4,ak⟩=au x4/\w.cell? ⟨g,o+5,ak⟩=au x5/\w.cell? ⟨g,o+6,ak⟩=au x6/\w.cell? ⟨g,o+7,ak⟩=au x7
theorem Pv.row {w: aI} {g o: Nat} (h:Pv w g o (jr r)) (hf:qK r):∃ A:Ra,C8 w g o (ah aA r.ver) (aj A.ta r.txt.length A.tc) (aj A.ga r.got.length A.gc) (aj A.sa r.dQ.length A.sc) (aF r.wed) (aF r.dV) (ah aA r.dW) (aj A.ma r.dU.length A.mc)/\qJ w A r:=by
 obtain⟨u0,c0,rfl⟩:=h.at (j:=0) rfl;obtain⟨u1,c1,v1⟩:=h.at (j:=1) rfl;obtain⟨u2,c2,v2⟩:=h.at (j:=2) rfl;obtain⟨u3,c3,v3⟩:=h.at (j:=3) rfl;obtain⟨u4,c4,rfl⟩:=h.at (j:=4) rfl;obtain⟨u5,c5,rfl⟩:=h.at (j:=5) rfl;obtain⟨u6,c6,rfl⟩:=h.at (j:=6) rfl;obtain⟨u7,c7,v7⟩:=h.at (j:=7) rfl;obtain⟨ta,tc,rfl,t1,t2,t3⟩:=VY v1;obtain⟨ga,gc,rfl,g1,g2,g3⟩:=nI v2 hf.1;obtain⟨sa,sc,rfl,s1,s2,s3⟩:=nI v3 hf.2.1;obtain⟨ma,mc,rfl,m1,m2,m3⟩:=nI v7 hf.2.2;exact⟨⟨ta,tc,ga,gc,sa,sc,ma,mc⟩,⟨⟨c0,c1,c2,c3⟩,c4,c5,c6,c7⟩,t1,g1,s1,m1,by omega,by omega,by omega,by omega⟩
structure Ma where
 ra:Option ba5
 rc:Nat
 sa:Option ba5
 sc:Nat
def ig (A:Ma) (m:Mb):Array aJ:=#[ah aA m.id,ah aA m.n,aj A.ra m.rows.length A.rc,aj A.sa m.dR.length A.sc,aF m.done]
def iL (A:Ma) (m:Mb):aJ:=.agg (ig A m)
def jA (m:Mb):List eF:=[iF 8 jr m.rows,gQ m.dR]
def jB (A:Ma) (m:Mb):List aJ:=[aj A.ra m.rows.length A.rc,aj A.sa m.dR.length A.sc]
def kC (m:Mb):List eF:=[.v (ah aA m.id),.v (ah aA m.n),iF 8 jr m.rows,gQ m.dR,.v (aF m.done)]
theorem uF (m:Mb):(kC m).length=5:=rfl
def nY (m:Mb):Prop:=(∀ r∈m.rows,qK r)/\Fits m.dR
structure wO (w:aI) (A:Ma) (m:Mb):Prop where
 rows:eF.vw w (iF 8 jr m.rows) (aj A.ra m.rows.length A.rc)
 dR:Vec w A.sa m.dR.length m.dR
 mr:m.rows.length<=ba2
 ms:m.dR.length<=ba2
 fit:∀ r∈m.rows,qK r
theorem wO.below {w: aI} {A: Ma} {m: Mb} (h:wO w A m) (hb:Below w.heap.size w w'):wO w' A m:=⟨eF.Hw h.rows hb,h.dR.below hb (aZ0 _),h.mr,h.ms,h.fit⟩
theorem aA3 {w: aI} {A: Ma} {m: Mb} (h:Bh w (jA m) (jB A m)) (hf:nY m):wO w A m:=by
 obtain⟨u1,vU,e1,h1,h2⟩:=h
 cases e1
 obtain⟨u2,xu,e2,h3,_⟩:=h2
 cases e2
 obtain⟨a,c,e,h4,h5,h6⟩:=nI h3 hf.2
 cases e
 have k:=h1;obtain⟨_,_,_,e,k1,k2,_⟩:=k
 cases e
 exact⟨h1,h4,by omega,by omega,hf.1⟩
theorem wO.row {w:aI} {A:Ma} {m:Mb} (h:wO w A m) {k:Nat} (hk:k<m.rows.length):∃ g off Ak,A.ra=au ⟨g,off,ak⟩/\C8 w g (off+k*8) (ah aA (dO m.rows k).ver) (aj Ak.ta (dO m.rows k).txt.length Ak.tc) (aj Ak.ga (dO m.rows k).got.length Ak.gc) (aj Ak.sa (dO m.rows k).dQ.length Ak.sc) (aF (dO m.rows k).wed) (aF (dO m.rows k).dV) (ah aA (dO m.rows k).dW) (aj Ak.ma (dO m.rows k).dU.length Ak.mc)/\qJ w Ak (dO m.rows k):=by
 have e:m.rows[k]?=au (dO m.rows k):=by simp[dO,ba0,hk]
 obtain⟨g,off,h1,h2⟩:=IY jW h.rows e;obtain⟨Ak,h3,h4⟩:=h2.row (h.fit _ (bW e));exact⟨g,off,Ak,h1,h3,h4⟩
theorem Bx.r5 {w: aI} (h:Bx w B T #[x0,x1,x2,x3,x4]):w.cell? ⟨B,0,ak⟩=au x0/\w.cell? ⟨B,1,ak⟩=au x1/\w.cell? ⟨B,2,ak⟩=au x2/\w.cell? ⟨B,3,ak⟩=au x3/\w.cell? ⟨B,4,ak⟩=au x4 :=
 ⟨h.at 0 rfl,h.at 1 rfl,h.at 2 rfl,h.at 3 rfl,h.at 4 rfl⟩
theorem iZ {R: List Rw} (hk:k<R.length):R[k]?=au (dO R k):=by simp[dO,ba0,hk]
theorem ZI {m: Mb} (hk:k<m.rows.length) (h:gu (dO m.rows k) m.n=aC):gZ m=aC:=by
 have:m.rows.all (fun r=>gu r m.n)=aC:=by
  rw[dN];exact⟨dO m.rows k,bW (iZ hk),by simp[h]⟩
 simp only[gZ,this,aW7,aW6]
theorem ao4 {m: Mb} (hk:k<m.dR.length) (h:(inB (el m.dR k) 0 59&&(m.done||decide (el m.dR k=(k:Int))))=aC):gZ m=aC:=by
 have:EK m=aC:=by
  rw[EK,dN];exact⟨k,aX1.2 hk,by simp[h]⟩
 simp only[gZ,this,aW7,aW6]
theorem ZJ {m: Mb} (h1:inB m.n 1 5=aB) (h2:inB m.id 0 (m.n-1)=aB) (h3:(m.rows.length:Int)=m.n) (h4:m.dR.length<=60) (h5:sZ m.dR=aB) (h6:∀ j,j<m.rows.length->gu (dO m.rows j) m.n=aB) (h7:∀ j,j<m.dR.length->(inB (el m.dR j) 0 59&&(m.done||decide (el m.dR j=(j:Int))))=aB) :
  gZ m=(decide (el m.own.got m.i=(m.own.txt.length:Int))&&(decide (m.id∉m.own.dQ)&&(!m.done||m.own.dV))):=by
 have e6:m.rows.all (fun r=>gu r m.n)=aB:=by
  rw[aU3];intro r hr;obtain⟨j,hj,rfl⟩:=bU.1 hr;have:=h6 j hj;simpa[dO,ba0,hj] using this
 have e7:EK m=aB:=by
  rw[EK,aU3];intro j hj;exact h7 j (aX1.1 hj)
 simp only[gZ,h1,h2,h3,h4,h5,e6,e7,decide_true,aX7]
theorem ZK {n: Int} (h:gu r n=aB):(r.got.length:Int)=n:=by
 simp only[gu,lZ,aU2,decide_eq_true_eq] at h;exact h.2.2.2.1.2.1
theorem ZL (A : Ma) (m : Mb) (w : aI) (hv : wO w A m) :
    ba3 aZ8 73 #[iL A m] w fun e w'=>e=aK (aF (gZ m))/\Below w.heap.size w w':=by
  have hB0:=dX w (aH (ig A m) 47);have hx:=Bx.new w 47 (ig A m);have h0:=hv.below hB0;generalize hW:w.alloc (aH (ig A m) 47)=W at *;obtain⟨id, n, rows, dR, done⟩:=m;obtain⟨ra, rc, sa, sc⟩:=A;have hw0:w.alloc (aH #[ah aA id, ah aA n, aj ra rows.length rc, aj sa dR.length sc, aF done] 47)=W:=hW;obtain⟨c0, c1, c2, c3, c4⟩:=Bx.r5 hx;have HX:=dP hx;have HV:=dP h0;have hsu:=h0.dR;have mr:=h0.mr;have ms:=h0.ms;simp only at hsu mr ms c0 c1 c2 c3 c4
  have HB0:=dP hB0;have hR:=Gp sa dR.length sc dR W hsu ms;unfold iL ig;clear hv hx hW hB0 h0;simp only
  cases e1:inB n 1 5 with
  | false =>
    have HZ:aG (gZ ⟨id, n, rows, dR, done⟩=aC):=by rw[aG]; simp only[gZ, e1, aW7]
    go_enter Tryz.func73, Tryz.ntmps73
    go_wp2_with (first|(go_at_call 40; refine fV (gG _ _ _ _) ?_))
    go_ret
    exact⟨dZ (by rw[HZ.out]), HB0.out⟩
  | true =>
  have jy:=iQ.1 e1;have wn:wrap64 (n-1)=n-1:=by unfold wrap64; omega
  have Ls:=dP e1
  cases e2:inB id 0 (n-1) with
  | false =>
    have HZ:aG (gZ ⟨id, n, rows, dR, done⟩=aC):=by rw[aG]; simp only[gZ, e2, aW7, aW6]
    go_enter Tryz.func73, Tryz.ntmps73
    go_wp2_with (first|(go_at_call 40; refine fV (gG _ _ _ _) ?_))
    go_ret
    exact⟨dZ (by rw[HZ.out]), HB0.out⟩
  | true =>
  have HE2:=dP e2;have hid:=iQ.1 e2;by_cases h3:(rows.length:Int)=n;rotate_left
  · have g3:((rows.length:Int) != n)=aB:=by simpa using h3
    have HZ:aG (gZ ⟨id, n, rows, dR, done⟩=aC):=by rw[aG]; simp only[gZ, decide_eq_false h3, aW7, aW6]
    clear h3;go_enter Tryz.func73, Tryz.ntmps73
    go_wp2_with (first|(go_at_call 40; refine fV (gG _ _ _ _) ?_))
    go_ret
    exact⟨dZ (by rw[HZ.out]), HB0.out⟩
  have g3:((rows.length:Int) != n)=aC:=by simpa using h3
  have Lu:=dP h3;clear h3;by_cases h4:dR.length<=60;rotate_left
  · have g4:(60:Int)<dR.length:=by omega
    have HZ:aG (gZ ⟨id, n, rows, dR, done⟩=aC):=by rw[aG]; simp only[gZ, decide_eq_false h4, aW7, aW6]
    go_enter Tryz.func73, Tryz.ntmps73
    go_wp2_with (first|(go_at_call 40; refine fV (gG _ _ _ _) ?_))
    go_ret
    exact⟨dZ (by rw[HZ.out]), HB0.out⟩
  have g4:¬ ((60:Int)<dR.length):=by omega
  cases e5:sZ dR with
  | false =>
    rw[e5] at hR;have HZ:aG (gZ ⟨id, n, rows, dR, done⟩=aC):=by rw[aG]; simp only[gZ, e5, aW7, aW6]
    go_enter Tryz.func73, Tryz.ntmps73
    go_wp2_with (first|(go_at_call 40; refine fV (gG _ _ _ _) ?_)|(go_at_call 112; refine hR.mono ?_; rintro e w2 ⟨rfl, q, hw2⟩; have hb2:Below W.heap.size W w2:=(by rw[hw2]; exact fO (aZ5 _ _)); clear hw2))
    go_ret
    exact⟨dZ (by rw[HZ.out]), eP HB0.out hb2⟩
  | true =>
  rw[e5] at hR;have HE5:=dP e5;clear e5;go_enter Tryz.func73, Tryz.ntmps73
  go_wp2_with (first|(go_at_call 40; refine fV (gG _ _ _ _) ?_)|(go_at_call 112; refine hR.mono ?_; rintro e w2 ⟨rfl, q, hw2⟩; have hb2:Below W.heap.size W w2:=(by rw[hw2]; exact fO (aZ5 _ _)); clear hw2))
  have HB2:=dP (eP HB0.out hb2);have lM:=dP (HX.out.below hb2);have RZ:=dP (HV.out.below hb2);unfold ba2 at mr ms;clear hR hb2 c0 c1 c2 c3 c4 hw0 g3 e1 e2 HX HV HB0 hsu
  go_loopw [3] (fun i wr=>∃ k:Nat, k<=rows.length/\i=ah aA k/\(∀ j, j<k->gu (dO rows j) n=aB)/\Below w2.heap.size w2 wr) (fun i _=>rows.length-(ba4 i).toNat)
  case atStart=>exact⟨0, aZ1 _, rfl, fun j hj=>by omega, aZ5 _ _⟩
  case round =>
    obtain⟨k, hk, rfl, hall, hgr⟩:=hrel;have HA:=dP hall;have HG:=dP hgr;obtain⟨c0, c1, c2, c3, c4⟩:=Bx.r5 (lM.out.below hgr);clear hall;by_cases hlt:k<rows.length
    · have k1:(k:Int)<rows.length:=by omega
      have k0:(0:Int)<=k:=by omega
      obtain⟨g, off, Ak, hra, ⟨⟨d0, d1, d2, d3⟩, d4, d5, d6, d7⟩, hrs⟩:=(RZ.out.below hgr).row (k:=k) hlt;simp only at hra hrs d0 d1 d2 d3 d4 d5 d6 d7
      subst hra;have C:∀ q:Bk wr, ba3 aZ8 74 #[iK Ak (dO rows k), ah aA n] q.w fun e w'=>e=aK (aF (gu (dO rows k) n))/\Below q.w.heap.size q.w w':=fun q=>H8 Ak _ n q.w (hrs.below q.h)
      have HY:aG (gu (dO rows k) n=aB->∀ j, j<k+1->gu (dO rows j) n=aB):=fun h1 j hj=>by
        rcases bD.1 hj with h|h
        · exact HA.out j h
        · rw[h]; exact h1
      have jY:aG (gu (dO rows k) n=aC->gZ ⟨id, n, rows, dR, done⟩=aC):=fun h=>ZI (k:=k) hlt h
      have p2:∀ q:Bk wr, q.w.cell? ⟨w.heap.size, 2, ak⟩=_:=fun q=>fM q.h c2
      have p1:∀ q:Bk wr, q.w.cell? ⟨w.heap.size, 1, ak⟩=_:=fun q=>fM q.h c1
      have r0:∀ q:Bk wr, q.w.cell? ⟨g, off+k*8, ak⟩=_:=fun q=>fM q.h d0
      have r1:∀ q:Bk wr, q.w.cell? ⟨g, off+k*8+1, ak⟩=_:=fun q=>fM q.h d1
      have r2:∀ q:Bk wr, q.w.cell? ⟨g, off+k*8+2, ak⟩=_:=fun q=>fM q.h d2
      have r3:∀ q:Bk wr, q.w.cell? ⟨g, off+k*8+3, ak⟩=_:=fun q=>fM q.h d3
      have r4:∀ q:Bk wr, q.w.cell? ⟨g, off+k*8+4, ak⟩=_:=fun q=>fM q.h d4
      have r5:∀ q:Bk wr, q.w.cell? ⟨g, off+k*8+5, ak⟩=_:=fun q=>fM q.h d5
      have r6:∀ q:Bk wr, q.w.cell? ⟨g, off+k*8+6, ak⟩=_:=fun q=>fM q.h d6
      have r7:∀ q:Bk wr, q.w.cell? ⟨g, off+k*8+7, ak⟩=_:=fun q=>fM q.h d7
      unfold iK fP at C;generalize gu (dO rows k) n=ob at *;generalize dO rows k=r at *;clear hrs d0 d1 d2 d3 d4 d5 d6 d7 hgr;go_wp2_with fail
      refine jf ?_;repeat (go_big_quiet_step ((first|(go_at_call 74; exact eY _ (C _))|rfl)))
      refine wpQuiet_nil ?_;intro wE hw';obtain⟨⟨w11, eH⟩, hw''⟩:=hw';have hwe:wE=w11:=hw'';clear hw'';subst hwe;have vV:=dP (eP HG.out eH);clear p1 p2 r0 r1 r2 r3 r4 r5 r6 r7 C eH c0 c1 c2 c3 c4
      cases ob
      · have HZ:aG (gZ ⟨id, n, rows, dR, done⟩=aC):=jY.out rfl
        go_wp2;go_ret
        exact⟨dZ (by rw[HZ.out]), eP HB2.out vV.out⟩
      · have xq:=HY.out rfl
        go_wp2;go_roundw
        case rel=>exact⟨k+1, by omega, by go_num, xq, vV.out⟩
        case measure=>simp[ba4]; omega
    · have k1:¬ ((k:Int)<rows.length):=by omega
      have yS:aG (∀ j, j<rows.length->gu (dO rows j) n=aB):=fun j hj=>HA.out j (by omega)
      have HV3:=dP (RZ.out.below hgr);have HB3:=dP (eP HB2.out hgr);have hsu:=HV3.out.dR;simp only at hsu
      clear HA hgr HG lM RZ HB2;go_wp2
      go_loop [4] (fun i=>∃ k:Nat, k<=dR.length/\i=ah aA k/\∀ j, j<k->(inB (el dR j) 0 59&&(done||decide (el dR j=(j:Int))))=true) (fun i=>dR.length-(ba4 i).toNat)
      case atStart=>exact⟨0, aZ1 _, rfl, fun j hj=>by omega⟩
      case round =>
        obtain⟨k, hk, rfl, hall⟩:=hrel;have HA:=dP hall;clear hall;by_cases hlt:k<dR.length
        · have jY:aG ((inB (el dR k) 0 59&&(done||decide (el dR k=(k:Int))))=false->gZ ⟨id, n, rows, dR, done⟩=false):=fun h=>ao4 (m:=⟨id, n, rows, dR, done⟩) (k:=k) hlt h
          have HY:aG ((inB (el dR k) 0 59&&(done||decide (el dR k=(k:Int))))=aB->∀ j, j<k+1->(inB (el dR j) 0 59&&(done||decide (el dR j=(j:Int))))=true):=fun h1 j hj=>by
            rcases bD.1 hj with h|h
            · exact HA.out j h
            · rw[h]; exact h1
          rcases hsu.2.2 with h0|⟨b, off, rfl, hc⟩
          · omega
          have hck:=hc k hlt;have k1:(k:Int)<dR.length:=by omega
          have k0:(0:Int)<=k:=by omega
          clear hc;generalize el dR k=x at *
          cases e1:inB x 0 59 with
          | false =>
            have HZ:aG (gZ ⟨id, n, rows, dR, done⟩=aC):=jY.out (by rw[e1]; rfl)
            go_wp2_with (first|(go_at_call 40; refine fV (gG _ _ _ _) ?_))
            go_ret
            exact⟨dZ (by rw[HZ.out]), HB3.out⟩
          | true =>
          cases done with
          | true =>
            have HN:=HY.out (by rw[e1]; rfl)
            have zZ:=dP HN;clear HN HY jY;go_wp2_with (first|(go_at_call 40; refine fV (gG _ _ _ _) ?_))
            go_round
            case rel=>exact⟨k+1, by omega, by go_num, zZ.out⟩
            case measure=>simp[ba4]; omega
          | false =>
          by_cases hxk:x=(k:Int)
          · have g:(x != (k:Int))=aC:=by simpa using hxk
            have HN:=HY.out (by rw[e1]; simp[hxk])
            have zZ:=dP HN;clear HN HY jY hxk;go_wp2_with (first|(go_at_call 40; refine fV (gG _ _ _ _) ?_))
            go_round
            case rel=>exact⟨k+1, by omega, by go_num, zZ.out⟩
            case measure=>simp[ba4]; omega
          · have g:(x != (k:Int))=aB:=by simpa using hxk
            have HZ:aG (gZ ⟨id, n, rows, dR, aC⟩=aC):=jY.out (by rw[e1]; simp[hxk])
            clear hxk HY jY;go_wp2_with (first|(go_at_call 40; refine fV (gG _ _ _ _) ?_))
            go_ret
            exact⟨dZ (by rw[HZ.out]), HB3.out⟩
        · have k1:¬ ((k:Int)<dR.length):=by omega
          obtain⟨I, rfl⟩:∃ I:Nat, id=(I:Int):=⟨id.toNat, by omega⟩
          have aM2:aG (gZ ⟨(I:Int), n, rows, dR, done⟩=(decide (el (dO rows I).got I=((dO rows I).txt.length:Int))&&(decide ((I:Int)∉(dO rows I).dQ)&&(!done||(dO rows I).dV)))):=ZJ (m:=⟨(I:Int), n, rows, dR, done⟩) Ls.out HE2.out Lu.out h4 HE5.out yS.out (fun j hj=>HA.out j (by have:j<dR.length:=hj; omega))
          have hil:I<rows.length:=by have:=Lu.out; omega
          have i0:=hid.1;have i1:(I:Int)<rows.length:=by have:=Lu.out; omega
          have hgl:=ZK (yS.out I hil);obtain⟨g, off, Ak, hra, ⟨⟨d0, d1, d2, d3⟩, d4, d5, d6, d7⟩, hrs⟩:=HV3.out.row (k:=I) hil;simp only at hra hrs d0 d1 d2 d3 d4 d5 d6 d7
          subst hra;have hH:=fun X (h:Below wr.heap.size wr X)=>qW Ak.sa (dO rows I).dQ.length Ak.sc (I:Int) (dO rows I).dQ X (hrs.dQ.below h (aZ0 _)) hrs.ms
          rcases hrs.got.2.2 with h0|⟨gb, go, hga, hgc⟩
          · omega
          have hge:=hgc I (by omega)
          have i2:(I:Int)<((dO rows I).got.length:Int):=by omega
          rw[hga] at d2;have Si:=dX wr (aH #[ah aA (dO rows I).ver, aj Ak.ta (dO rows I).txt.length Ak.tc, aj (au ⟨gb, go, ak⟩) (dO rows I).got.length Ak.gc, aj Ak.sa (dO rows I).dQ.length Ak.sc, aF (dO rows I).wed, aF (dO rows I).dV, ah aA (dO rows I).dW, aj Ak.ma (dO rows I).dU.length Ak.mc] 44);have hxo:=Bx.new wr 44 #[ah aA (dO rows I).ver, aj Ak.ta (dO rows I).txt.length Ak.tc, aj (au ⟨gb, go, ak⟩) (dO rows I).got.length Ak.gc, aj Ak.sa (dO rows I).dQ.length Ak.sc, aF (dO rows I).wed, aF (dO rows I).dV, ah aA (dO rows I).dW, aj Ak.ma (dO rows I).dU.length Ak.mc];generalize dO rows I=r at *;generalize hWo:wr.alloc (aH #[ah aA r.ver, aj Ak.ta r.txt.length Ak.tc, aj (au ⟨gb, go, ak⟩) r.got.length Ak.gc, aj Ak.sa r.dQ.length Ak.sc, aF r.wed, aF r.dV, ah aA r.dW, aj Ak.ma r.dU.length Ak.mc] 44)=Wo at *;have C:∀ q:Bk Wo, ba3 aZ8 113 #[aj Ak.sa r.dQ.length Ak.sc, ah aA (I:Int)] q.w fun e w'=>e=aK (aF (decide ((I:Int)∈r.dQ)))/\Below q.w.heap.size q.w w':=fun q=>(hH q.w (eP Si q.h)).mono (fun e w' h=>⟨h.1, by rw[h.2]; exact aZ5 _ _⟩)
          obtain⟨⟨y0, y1, y2, y3⟩, y4, y5, y6, y7⟩:=Bx.r8 hxo;have z0:=fM Si c0;have z4:=fM Si c4;have hgo:=fM Si hge;have x1:∀ q:Bk Wo, q.w.cell? ⟨wr.heap.size, 1, ak⟩=_:=fun q=>fM q.h y1
          have x2:∀ q:Bk Wo, q.w.cell? ⟨wr.heap.size, 2, ak⟩=_:=fun q=>fM q.h y2
          have x3:∀ q:Bk Wo, q.w.cell? ⟨wr.heap.size, 3, ak⟩=_:=fun q=>fM q.h y3
          have x5:∀ q:Bk Wo, q.w.cell? ⟨wr.heap.size, 5, ak⟩=_:=fun q=>fM q.h y5
          have v0:∀ q:Bk Wo, q.w.cell? ⟨w.heap.size, 0, ak⟩=_:=fun q=>fM q.h z0
          have v4:∀ q:Bk Wo, q.w.cell? ⟨w.heap.size, 4, ak⟩=_:=fun q=>fM q.h z4
          have vg:∀ q:Bk Wo, q.w.cell? ⟨gb, go+I, ak⟩=_:=fun q=>fM q.h hgo
          have qZ:=dP (eP HB3.out Si);clear hgc hge hH hxo Si HA hrs yS HV3 hsu y0 y1 y2 y3 y4 y5 y6 y7 z0 z4 hgo
          have HEq:aG (((el r.got I==(r.txt.length:Int))&&(!(decide ((I:Int)∈r.dQ))&&(!done||r.dV)))=gZ ⟨(I:Int), n, rows, dR, done⟩):=by
            rw[aG, aM2.out];simp only[decide_not]
            rfl
          generalize hrd:r.dV=rd at *;generalize hel:el r.got I=eg at *
          cases e7:(eg==(r.txt.length:Int))<;>cases e8:decide ((I:Int)∈r.dQ)<;>cases done<;>rw[e7, e8] at HEq<;>rw[e8] at C <;>
           (go_wp2_with fail
            refine jf ?_;repeat (go_big_quiet_step ((first|(go_at_call 113; exact eY _ (C _))|rfl)))
            refine wpQuiet_nil ?_;intro wE hw';obtain⟨⟨w11, eH⟩, hw''⟩:=hw';have hwe:wE=w11:=hw'';clear hw'';subst hwe;have HBE:=dP (eP qZ.out eH);go_wp2;go_ret
            exact⟨dZ (by rw[<- HEq.out]; try rfl), HBE.out⟩)
section
variable {P:Program} {ops:Array Oper} {Q:Exit->Act->aI->Prop} {md:Region.Mode} {S:aI->Prop}
def wP (P:Program) (md:Region.Mode) (ops:Array Oper) (Q:Exit->Act->aI->Prop) (S:aI->Prop) (z:Nat):Nat->Array Bool->Act->aI->Prop
 | 0,listed,a,w=>aY9 md ops listed=[]/\Q .normal a w
 | fuel+1,listed,a,w =>
  (aY9 md ops listed=[]->Q .normal a w) /\
  ∀ i∈aY9 md ops listed,wpOp P ops Q i (fun a' w'=>(i≠z->S w->S w')/\wP P md ops Q S z fuel (listed.setIfInBounds i aB) a' w') a w
theorem IZ {z:Nat}:∀ (fuel:Nat) (listed:Array Bool) (a:Act) (w:aI),wP P md ops Q S z fuel listed a w->wpAny P md ops Q fuel listed a w
 | 0,_,_,_,h=>h
 | fuel+1,_,_,_,h=>⟨h.1,fun i hi=>wpOp_mono (fun a' w' h'=>IZ fuel _ a' w' h'.2) (h.2 i hi)⟩
theorem OC {i z:Nat} {oi:Oper} {v:aJ} (hi:ops[i]?=au oi) (hsel:∀ (j:Nat) (o:Oper) cs b,ops[j]?=au o->o.op≠.select cs b)
  (hQ:∀ c a w,Q (.panic c) (a.put oi.dst v) w->Q (.panic c) a w) (hz:Region.waitsFor md ops z i=aB) (hiz:i≠z) :
  ∀ (fuel:Nat) (listed:Array Bool) (a:Act) (w:aI),
   (∀ j oj,ops[j]?=au oj->j≠i->listed.getD j aB=aC->(∀ e∈oj.after,aY8 md e=aB->e.on≠i)->oi.apart ops oj=aB) ->
   i∈aY9 md ops listed->YieldsIf P ops S oi v a->S w ->
   wP P md ops Q S z fuel (listed.setIfInBounds i aB) (a.put oi.dst v) w->wP P md ops Q S z (fuel+1) listed a w:=by
 intro fuel
 induction fuel with
 | zero =>
  intro listed a w _ hr hy hS H;refine⟨fun h=>(by rw[h] at hr;cases hr),fun j hj=>?_⟩
  by_cases hji:j=i
  ·subst hji;exact hy.wpOp hi hS ⟨fun _ h=>h,H⟩
  ·have:=ready_mono hj hji
   rw[H.1] at this
   cases this
 | succ fuel ih =>
  intro listed a w hfree hr hy hS H;have hun:=(mem_ready.1 hr).1;refine⟨fun h=>(by rw[h] at hr;cases hr),fun j hj=>?_⟩
  by_cases hji:j=i
  ·subst hji;exact hy.wpOp hi hS ⟨fun _ h=>h,H⟩
  ·obtain⟨hjun,oj,hoj,hall⟩:=mem_ready.1 hj
   have hnot:∀ e∈oj.after,aY8 md e=aB->e.on≠i:=fun e he hb heq=>by
    have h3:=hall e he hb;rw[heq,getD_both hun] at h3
    cases h3
   have hjz:j≠z:=fun e=>by
    subst e;obtain⟨o',ho',e,he,hb,hon⟩:=Region.waitsFor_spec hz;have:o'=oj:=aV4 (ho'.symm.trans hoj);subst this;exact hnot e he hb hon
   have h1:=H.2 j (ready_mono hj hji);have h2:=wpOp_putIf hoj (hfree j oj hoj hji hjun hnot) (fun cs b=>hsel i oi cs b hi) (fun cs b=>hsel j oj cs b hoj) hQ hy h1
   have hfree':∀ k ok,ops[k]?=au ok->k≠i->(listed.setIfInBounds j aB).getD k aB=aC ->
     (∀ e∈ok.after,aY8 md e=aB->e.on≠i)->oi.apart ops ok=aB:=fun k ok hk hki hun hno=>by
    refine hfree k ok hk hki ?_ hno;by_cases hjk:j=k
    ·subst hjk;exact hjun
    ·rw[getD_set_ne aB hjk] at hun;exact hun
   refine wpOp_mono (fun a' w' h3=>⟨h3.2.1,ih (listed.setIfInBounds j aB) a' w' hfree' (ready_mono hr (Ne.symm hji)) h3.1 (h3.2.1 hjz hS) ?_⟩) h2
   rw[bF _ _ hji];exact h3.2.2
theorem Q8 {i z:Nat} {oi:Oper} {v:aJ} (hi:ops[i]?=au oi) (hsel:∀ (j:Nat) (o:Oper) cs b,ops[j]?=au o->o.op≠.select cs b)
  (hQ:∀ c a w,Q (.panic c) (a.put oi.dst v) w->Q (.panic c) a w) :
  ∀ (fuel:Nat) (listed:Array Bool) (a:Act) (w:aI),
   (∀ j oj,ops[j]?=au oj->j≠i->listed.getD j aB=aC->(∀ e∈oj.after,aY8 md e=aB->e.on≠i)->oi.apart ops oj=aB) ->
   i∈aY9 md ops listed->Yields P ops oi v a ->
   wP P md ops Q S z fuel (listed.setIfInBounds i aB) (a.put oi.dst v) w->wP P md ops Q S z (fuel+1) listed a w:=by
 intro fuel
 induction fuel with
 | zero =>
  intro listed a w _ hr hy H;refine⟨fun h=>(by rw[h] at hr;cases hr),fun j hj=>?_⟩
  by_cases hji:j=i
  ·subst hji;exact hy.wpOp hi ⟨fun _ h=>h,H⟩
  ·have:=ready_mono hj hji
   rw[H.1] at this
   cases this
 | succ fuel ih =>
  intro listed a w hfree hr hy H;have hun:=(mem_ready.1 hr).1;refine⟨fun h=>(by rw[h] at hr;cases hr),fun j hj=>?_⟩
  by_cases hji:j=i
  ·subst hji;exact hy.wpOp hi ⟨fun _ h=>h,H⟩
  ·obtain⟨hjun,oj,hoj,hall⟩:=mem_ready.1 hj
   have hnot:∀ e∈oj.after,aY8 md e=aB->e.on≠i:=fun e he hb heq=>by
    have h3:=hall e he hb;rw[heq,getD_both hun] at h3
    cases h3
   have h1:=H.2 j (ready_mono hj hji);have h2:=wpOp_put hoj (hfree j oj hoj hji hjun hnot) (fun cs b=>hsel i oi cs b hi) (fun cs b=>hsel j oj cs b hoj) hQ hy h1
   have hfree':∀ k ok,ops[k]?=au ok->k≠i->(listed.setIfInBounds j aB).getD k aB=aC ->
     (∀ e∈ok.after,aY8 md e=aB->e.on≠i)->oi.apart ops ok=aB:=fun k ok hk hki hun hno=>by
    refine hfree k ok hk hki ?_ hno;by_cases hjk:j=k
    ·subst hjk;exact hjun
    ·rw[getD_set_ne aB hjk] at hun;exact hun
   refine wpOp_mono (fun a' w' h3=>⟨h3.2.1,ih (listed.setIfInBounds j aB) a' w' hfree' (ready_mono hr (Ne.symm hji)) h3.1 ?_⟩) h2
   rw[bF _ _ hji];exact h3.2.2
end
section
variable {P:Program} {l:List Oper} {Q:Exit->Act->aI->Prop} {S:aI->Prop}
def GT (P:Program) (l:List Oper) (Q:Exit->Act->aI->Prop) (S:aI->Prop) (z fuel:Nat) (listed:Array Bool) (a:Act) (w:aI):Prop:=wP P .any l.toArray Q S z fuel listed a w
theorem ZM {id:Nat} {a:Act} {w:aI} (z:Nat) (hm:P.follows .mixedOrders=aB) (hlen:(l.length==l.length)=aB)
  (h:GT P l Q S z l.length (Array.replicate l.length aC) a w.drew):(Code.region id l.toArray aB).wp P Q a w:=by
 refine wp_region_any hm (IZ (z:=z) (S:=S) _ _ _ _ ?_);unfold GT at h;simpa using h
theorem ao5 {i z:Nat} {oi:Oper} {v:aJ} {fuel:Nat} {listed:Array Bool} {a:Act} {w:aI} (hi:l[i]?=au oi) (hs:aW4 l.toArray=aB)
  (hsk:(Region.waitsFor .any l.toArray z i&&(i != z))=aB) (hf:Region.free .any l.toArray listed i=aB) (hr:(aY9 .any l.toArray listed).contains i=aB)
  (hQ:∀ c a w,Q (.panic c) (a.put oi.dst v) w->Q (.panic c) a w) (hy:YieldsIf P l.toArray S oi v a) (hS:S w)
  (h:GT P l Q S z fuel (listed.setIfInBounds i aB) (a.put oi.dst v) w):GT P l Q S z (fuel+1) listed a w:=by
 simp only[aU2,bne_iff_ne] at hsk;have hi':l.toArray[i]?=au oi:=by simpa using hi
 exact OC hi' (Region.noSelect_spec hs) hQ hsk.1 hsk.2 fuel listed a w (Region.free_spec hi' hf) (by simpa using hr) hy hS h
theorem ao6 {i z:Nat} {oi:Oper} {v:aJ} {fuel:Nat} {listed:Array Bool} {a:Act} {w:aI} (hi:l[i]?=au oi) (hs:aW4 l.toArray=aB)
  (hf:Region.free .any l.toArray listed i=aB) (hr:(aY9 .any l.toArray listed).contains i=aB)
  (hQ:∀ c a w,Q (.panic c) (a.put oi.dst v) w->Q (.panic c) a w) (hy:Yields P l.toArray oi v a)
  (h:GT P l Q S z fuel (listed.setIfInBounds i aB) (a.put oi.dst v) w):GT P l Q S z (fuel+1) listed a w:=by
 have hi':l.toArray[i]?=au oi:=by simpa using hi
 exact Q8 hi' (Region.noSelect_spec hs) hQ fuel listed a w (Region.free_spec hi' hf) (by simpa using hr) hy h
theorem aA4 {i z:Nat} {o:Oper} {fuel:Nat} {listed:Array Bool} {a:Act} {w:aI} (hi:l[i]?=au o) (hr:aY9 .any l.toArray listed=[i]) (hiz:(i != z)=aB)
  (h:∀ K':Act->aI->Prop,Shut (∀ a w,S w->(S w->GT P l Q S z fuel (listed.setIfInBounds i aB) a w)->K' a w)->if aY0 o (yielded l.toArray a.tmps)=aB then Oper.wp P o a w K' Q else K' (a.put o.dst undef) w):GT P l Q S z (fuel+1) listed a w:=by
 have hi':l.toArray[i]?=au o:=by simpa using hi
 refine⟨fun h0=>(by rw[hr] at h0;cases h0),fun j hj=>?_⟩
 rw[hr] at hj;simp at hj
 subst hj;exact wpOp_step hi' (fun K' hK=>h K' (fun a w hS hW=>hK a w ⟨fun _ _=>hS,hW hS⟩))
theorem ao7 {z:Nat} {o:Oper} {fuel:Nat} {listed:Array Bool} {a:Act} {w:aI} (hi:l[z]?=au o) (hr:aY9 .any l.toArray listed=[z]) (hr2:aY9 .any l.toArray (listed.setIfInBounds z aB)=[])
  (h:∀ K':Act->aI->Prop,Shut (∀ a w,Q .normal a w->K' a w)->if aY0 o (yielded l.toArray a.tmps)=aB then Oper.wp P o a w K' Q else K' (a.put o.dst undef) w):GT P l Q S z (fuel+1) listed a w:=by
 have hi':l.toArray[z]?=au o:=by simpa using hi
 refine⟨fun h0=>(by rw[hr] at h0;cases h0),fun j hj=>?_⟩
 rw[hr] at hj;simp at hj
 subst hj;refine wpOp_step hi' (fun K' hK=>h K' (fun a w hq=>hK a w ⟨fun h=>absurd rfl h, ?_⟩))
 cases fuel with
 | zero=>exact⟨hr2,hq⟩
 | succ f=>exact⟨fun _=>hq,by rw[hr2];simp⟩
end
theorem gW:(∀ (a:Act) (d:Nat) (v:aJ), a.put (au d) v={ a with tmps:=a.tmps.setIfInBounds d v })/\(∀ (a:Act) (v:aJ), a.put ak v=a)/\(∀ (l:List aJ) (i:Nat) (v:aJ), l.toArray.setIfInBounds i v=(l.set i v).toArray)/\(∀ (x v:aJ) (l:List aJ), (x::l).set 0 v=v::l)/\(∀ (x v:aJ) (l:List aJ) (i:Nat), (x::l).set (i+1) v=x::l.set i v):=⟨fun _ _ _=>rfl, fun _ _=>rfl, fun l i v=>List.setIfInBounds_toArray l i v, fun _ _ _=>rfl, fun _ _ _ _=>rfl⟩
section
variable {P:Program} {l:List Oper} {Q:Exit->Act->aI->Prop} {S:aI->Prop}
theorem lG {id : Nat} {a : Act} {w : aI} (z : Nat) (hm : P.follows .mixedOrders = aB) (hS : S w.drew)
    (h:S w.drew->GT P l Q S z l.length (Array.replicate l.length aC) a w.drew) (hlen:(l.length==l.length)=aB:=by kernel_rfl):(Code.region id l.toArray aB).wp P Q a w :=
  ZM z hm hlen (h hS)
theorem fC {i z : Nat} {oi : Oper} {v : aJ} {fuel : Nat} {listed : Array Bool} {a a' : Act} {w : aI} (hi : l[i]? = au oi) (hS : S w)
    (h:GT P l Q S z fuel (listed.setIfInBounds i aB) a' w)
    (hy:∀ w, S w->(execOp a.eval oi).run P w=.ok (.value v) w:=by intro X OD; (try dsimp only at OD); (repeat (obtain⟨g, OD⟩:=OD)); go_simp; try with_reducible rfl) (ha:a.put oi.dst v=a':=by (try simp only[gW]); rfl)
    (hs:aW4 l.toArray=aB:=by kernel_rfl)
    (hsk:(Region.waitsFor .any l.toArray z i&&(i != z))=aB:=by kernel_rfl) (hf:Region.free .any l.toArray listed i=aB:=by kernel_rfl) (hr:(aY9 .any l.toArray listed).contains i=aB:=by kernel_rfl)
    (hQ:∀ c a w, Q (.panic c) (a.put oi.dst v) w->Q (.panic c) a w:=by exact fun _ _ _ h=>h) (hw:aY0 oi (yielded l.toArray a.tmps)=aB:=by rfl):GT P l Q S z (fuel+1) listed a w :=
  ao5 hi hs hsk hf hr hQ (Or.inl ⟨hw, hy⟩) hS (ha ▸ h)
theorem fE {i z : Nat} {oi : Oper} {v : aJ} {fuel : Nat} {listed : Array Bool} {a a' : Act} {w : aI} (hi : l[i]? = au oi)
    (h:GT P l Q S z fuel (listed.setIfInBounds i aB) a' w)
    (hy:∀ w, (execOp a.eval oi).run P w=.ok (.value v) w:=by intro X; go_simp; try with_reducible rfl) (ha:a.put oi.dst v=a':=by (try simp only[gW]); rfl)
    (hs:aW4 l.toArray=aB:=by kernel_rfl)
    (hf:Region.free .any l.toArray listed i=aB:=by kernel_rfl) (hr:(aY9 .any l.toArray listed).contains i=aB:=by kernel_rfl)
    (hQ:∀ c a w, Q (.panic c) (a.put oi.dst v) w->Q (.panic c) a w:=by exact fun _ _ _ h=>h) (hw:aY0 oi (yielded l.toArray a.tmps)=aB:=by rfl):GT P l Q S z (fuel+1) listed a w :=
  ao6 hi hs hf hr hQ (Or.inl ⟨hw, hy⟩) (ha ▸ h)
theorem iy {i z : Nat} {o : Oper} {fuel : Nat} {listed : Array Bool} {a : Act} {w : aI} (hi : l[i]? = au o)
    (h:∀ K':Act->aI->Prop, Shut (∀ a w, S w->(S w->GT P l Q S z fuel (listed.setIfInBounds i aB) a w)->K' a w)->if aY0 o (yielded l.toArray a.tmps)=aB then Oper.wp P o a w K' Q else K' (a.put o.dst undef) w)
    (hr:aY9 .any l.toArray listed=[i]:=by kernel_rfl) (hiz:(i != z)=aB:=by kernel_rfl):GT P l Q S z (fuel+1) listed a w:=aA4 hi hr hiz h
theorem oH {z : Nat} {o : Oper} {fuel : Nat} {listed : Array Bool} {a : Act} {w : aI} (hi : l[z]? = au o)
    (h:∀ K':Act->aI->Prop, Shut (∀ a w, Q .normal a w->K' a w)->if aY0 o (yielded l.toArray a.tmps)=aB then Oper.wp P o a w K' Q else K' (a.put o.dst undef) w)
    (hr:aY9 .any l.toArray listed=[z]:=by kernel_rfl) (hr2:aY9 .any l.toArray (listed.setIfInBounds z aB)=[]:=by kernel_rfl):GT P l Q S z (fuel+1) listed a w:=ao7 hi hr hr2 h
end
section
variable {P:Program} {l:List Oper} {Q:Exit->Act->aI->Prop} {S:aI->Prop}
theorem aA5 {i j z:Nat} {o o':Oper} {fuel:Nat} {listed:Array Bool} {a:Act} {w:aI} (hi:l[i]?=au o) (hj:l[j]?=au o') (hr:aY9 .any l.toArray listed=[i,j]) (hiz:(i != z&&j != z)=aB)
  (h:∀ K':Act->aI->Prop,Shut (∀ a w,S w->(S w->GT P l Q S z fuel (listed.setIfInBounds i aB) a w)->K' a w)->if aY0 o (yielded l.toArray a.tmps)=aB then Oper.wp P o a w K' Q else K' (a.put o.dst undef) w)
  (h':∀ K':Act->aI->Prop,Shut (∀ a w,S w->(S w->GT P l Q S z fuel (listed.setIfInBounds j aB) a w)->K' a w)->if aY0 o' (yielded l.toArray a.tmps)=aB then Oper.wp P o' a w K' Q else K' (a.put o'.dst undef) w):GT P l Q S z (fuel+1) listed a w:=by
 have hi':l.toArray[i]?=au o:=by simpa using hi
 have hj':l.toArray[j]?=au o':=by simpa using hj
 refine⟨fun h0=>(by rw[hr] at h0;cases h0),fun k hk=>?_⟩
 rw[hr] at hk;simp at hk
 rcases hk with rfl|rfl
 ·exact wpOp_step hi' (fun K' hK=>h K' (fun a w hS hW=>hK a w ⟨fun _ _=>hS,hW hS⟩))
 ·exact wpOp_step hj' (fun K' hK=>h' K' (fun a w hS hW=>hK a w ⟨fun _ _=>hS,hW hS⟩))
end
section
variable {P:Program} {ops:Array Oper} {Q:Exit->Act->aI->Prop} {md:Region.Mode} {S:aI->Prop}
theorem NH {i z:Nat} {oi:Oper} {v:aJ} (hi:ops[i]?=au oi) (hsel:∀ (j:Nat) (o:Oper) cs b,ops[j]?=au o->o.op≠.select cs b)
  (hQ:∀ c a w,Q (.panic c) (a.put oi.dst v) w->Q (.panic c) a w) (hz:ops.size<=z) :
  ∀ (fuel:Nat) (listed:Array Bool) (a:Act) (w:aI),
   (∀ j oj,ops[j]?=au oj->j≠i->listed.getD j aB=aC->(∀ e∈oj.after,aY8 md e=aB->e.on≠i)->oi.apart ops oj=aB) ->
   i∈aY9 md ops listed->YieldsIf P ops S oi v a->S w ->
   wP P md ops Q S z fuel (listed.setIfInBounds i aB) (a.put oi.dst v) w->wP P md ops Q S z (fuel+1) listed a w:=by
 intro fuel
 induction fuel with
 | zero =>
  intro listed a w _ hr hy hS H;refine⟨fun h=>(by rw[h] at hr;cases hr),fun j hj=>?_⟩
  by_cases hji:j=i
  ·subst hji;exact hy.wpOp hi hS ⟨fun _ h=>h,H⟩
  ·have:=ready_mono hj hji
   rw[H.1] at this
   cases this
 | succ fuel ih =>
  intro listed a w hfree hr hy hS H;have hun:=(mem_ready.1 hr).1;refine⟨fun h=>(by rw[h] at hr;cases hr),fun j hj=>?_⟩
  by_cases hji:j=i
  ·subst hji;exact hy.wpOp hi hS ⟨fun _ h=>h,H⟩
  ·obtain⟨hjun,oj,hoj,hall⟩:=mem_ready.1 hj
   have hnot:∀ e∈oj.after,aY8 md e=aB->e.on≠i:=fun e he hb heq=>by
    have h3:=hall e he hb;rw[heq,getD_both hun] at h3
    cases h3
   have hjz:j≠z:=fun e=>by
    have:=(Array.getElem?_eq_some_iff.1 hoj).1;omega
   have h1:=H.2 j (ready_mono hj hji);have h2:=wpOp_putIf hoj (hfree j oj hoj hji hjun hnot) (fun cs b=>hsel i oi cs b hi) (fun cs b=>hsel j oj cs b hoj) hQ hy h1
   have hfree':∀ k ok,ops[k]?=au ok->k≠i->(listed.setIfInBounds j aB).getD k aB=aC ->
     (∀ e∈ok.after,aY8 md e=aB->e.on≠i)->oi.apart ops ok=aB:=fun k ok hk hki hun hno=>by
    refine hfree k ok hk hki ?_ hno;by_cases hjk:j=k
    ·subst hjk;exact hjun
    ·rw[getD_set_ne aB hjk] at hun;exact hun
   refine wpOp_mono (fun a' w' h3=>⟨h3.2.1,ih (listed.setIfInBounds j aB) a' w' hfree' (ready_mono hr (Ne.symm hji)) h3.1 (h3.2.1 hjz hS) ?_⟩) h2
   rw[bF _ _ hji];exact h3.2.2
end
section
variable {P:Program} {l:List Oper} {Q:Exit->Act->aI->Prop} {S:aI->Prop}
theorem ZN {i z:Nat} {oi:Oper} {v:aJ} {fuel:Nat} {listed:Array Bool} {a:Act} {w:aI} (hi:l[i]?=au oi) (hs:aW4 l.toArray=aB)
  (hsk:decide (l.length<=z)=aB) (hf:Region.free .any l.toArray listed i=aB) (hr:(aY9 .any l.toArray listed).contains i=aB)
  (hQ:∀ c a w,Q (.panic c) (a.put oi.dst v) w->Q (.panic c) a w) (hy:YieldsIf P l.toArray S oi v a) (hS:S w)
  (h:GT P l Q S z fuel (listed.setIfInBounds i aB) (a.put oi.dst v) w):GT P l Q S z (fuel+1) listed a w:=by
 have hi':l.toArray[i]?=au oi:=by simpa using hi
 exact NH hi' (Region.noSelect_spec hs) hQ (by simpa using hsk) fuel listed a w (Region.free_spec hi' hf) (by simpa using hr) hy hS h
theorem uT {z:Nat} {fuel:Nat} {listed:Array Bool} {a:Act} {w:aI} (hr:aY9 .any l.toArray listed=[]) (h:Q .normal a w):GT P l Q S z fuel listed a w:=by
 cases fuel with
 | zero=>exact⟨hr,h⟩
 | succ f=>exact⟨fun _=>h,by rw[hr];simp⟩
end
section
variable {P:Program} {l:List Oper} {Q:Exit->Act->aI->Prop} {S:aI->Prop}
theorem nC {i z : Nat} {oi : Oper} {v : aJ} {fuel : Nat} {listed : Array Bool} {a a' : Act} {w : aI} (hi : l[i]? = au oi) (hS : S w)
    (h:GT P l Q S z fuel (listed.setIfInBounds i aB) a' w)
    (hy:∀ w, S w->(execOp a.eval oi).run P w=.ok (.value v) w:=by intro X OD; (try dsimp only at OD); (repeat (obtain⟨g, OD⟩:=OD)); go_simp; try with_reducible rfl) (ha:a.put oi.dst v=a':=by (try simp only[gW]); rfl)
    (hs:aW4 l.toArray=aB:=by kernel_rfl)
    (hsk:decide (l.length<=z)=aB:=by kernel_rfl) (hf:Region.free .any l.toArray listed i=aB:=by kernel_rfl) (hr:(aY9 .any l.toArray listed).contains i=aB:=by kernel_rfl)
    (hQ:∀ c a w, Q (.panic c) (a.put oi.dst v) w->Q (.panic c) a w:=by exact fun _ _ _ h=>h) (hw:aY0 oi (yielded l.toArray a.tmps)=aB:=by rfl):GT P l Q S z (fuel+1) listed a w :=
  ZN hi hs hsk hf hr hQ (Or.inl ⟨hw, hy⟩) hS (ha ▸ h)
end
theorem Tryz.infoRw:(Tryz.prog.info? 44).map (fun i=>(i.zero,i.size,i.bytes))=au (au (.agg #[ah aA 0,aj ak 0 0,aj ak 0 0,aj ak 0 0,aF aC,aF aC,ah aA 0,aj ak 0 0]),8,120):=by kernel_rfl
theorem iq:Tryz.prog.follows .mixedOrders=aB:=by kernel_rfl
theorem sF {t: TypeId} {z: aJ} {b: Nat} (h:(P.info? t).map (fun i=>(i.zero,i.size,i.bytes))=au (au z,s,b)):∃ i,P.info? t=au i/\i.zero=au z/\i.size=s/\i.bytes=b:=by
 cases e:P.info? t with
 | none=>rw[e] at h;cases h
 | some i =>
  rw[e] at h;simp only[Option.map_some,Option.some.injEq,Prod.mk.injEq] at h;exact⟨i,rfl,h.1,h.2.1,h.2.2⟩
theorem vC {w: aI} {cs: List eF} (h:gq w cs us f):gq w (.v x::cs) (x::us) f:=⟨x,us,fun _=>False,f,rfl,⟨rfl,fun _ h=>h⟩,h,fun _ h=>absurd h id,fun b=>by simp⟩
theorem qM {w: aI} {cs: List eF} (h:gq w (.v x::cs) us f):∃ us',us=x::us'/\gq w cs us' f:=by
 obtain⟨u,us',f1,f2,rfl,⟨rfl,h1⟩,h2,hd,hf⟩:=h;exact⟨us',rfl,vO h2 (fun b=>(hf b).trans ⟨fun h=>h.elim (fun h=>absurd h (h1 b)) id,.inr⟩)⟩
theorem qE {w: aI} {c: eF} {cs: List eF} {f1 f2: Fp} (h1:eF.ow w c u f1) (h2:gq w cs us f2) (hd:∀ b,f1 b->¬ f2 b):gq w (c::cs) (u::us) (fun b=>f1 b\/f2 b):=⟨u,us,f1,f2,rfl,h1,h2,hd,fun b=>Iff.rfl⟩
theorem EP {w: aI} {A: Ra} (h:gq w (jL r) (jw A r) f):gq w (jr r) (fP A r).toList f:=by
 obtain⟨u1,vU,f1,g1,e1,o1,h2,d1,i1⟩:=h
 cases e1
 obtain⟨u2,xu,f2,g2,e2,o2,h3,d2,i2⟩:=h2
 cases e2
 obtain⟨u3,EJ,f3,g3,e3,o3,h4,d3,i3⟩:=h3
 cases e3
 exact vC ⟨_,_,f1,g1,rfl,o1,⟨_,_,f2,g2,rfl,o2,⟨_,_,f3,g3,rfl,o3,vC (vC (vC h4)),d3,i3⟩,d2,i2⟩,d1,i1⟩
theorem wQ {w: aI} (h:gq w (jr r) us f):∃ A:Ra,us=(fP A r).toList/\gq w (jL r) (jw A r) f:=by
 obtain⟨us0,rfl,hq0⟩:=qM h;obtain⟨u1,vU,f1,g1,rfl,o1,h2,d1,i1⟩:=hq0;obtain⟨u2,xu,f2,g2,rfl,o2,h3,d2,i2⟩:=h2;obtain⟨u3,EJ,f3,g3,rfl,o3,h4,d3,i3⟩:=h3;obtain⟨Oq,rfl,hq4⟩:=qM h4;obtain⟨us5,rfl,hq5⟩:=qM hq4;obtain⟨us6,rfl,hq6⟩:=qM hq5;obtain⟨u7,us7,f7,g7,rfl,o7,⟨rfl,h8⟩,d7,i7⟩:=hq6;obtain⟨ta,tc,_,rfl,_⟩:=qI.1 o1;obtain⟨ga,gc,_,rfl,_⟩:=jv.1 o2;obtain⟨sa,sc,_,rfl,_⟩:=jv.1 o3;obtain⟨ma,mc,_,rfl,_⟩:=jv.1 o7;exact⟨⟨ta,tc,ga,gc,sa,sc,ma,mc⟩,rfl,⟨_,_,f1,g1,rfl,o1,⟨_,_,f2,g2,rfl,o2,⟨_,_,f3,g3,rfl,o3,⟨_,_,f7,g7,rfl,o7,⟨rfl,h8⟩,d7,i7⟩,d3,i3⟩,d2,i2⟩,d1,i1⟩⟩
theorem I4 {w: aI} {A: Ma} {m: Mb} (h:gq w (jA m) (jB A m) f):gq w (kC m) (ig A m).toList f:=by
 obtain⟨u1,vU,f1,g1,e1,o1,h2,d1,i1⟩:=h
 cases e1
 obtain⟨u2,xu,f2,g2,e2,o2,h3,d2,i2⟩:=h2
 cases e2
 exact vC (vC ⟨_,_,f1,g1,rfl,o1,⟨_,_,f2,g2,rfl,o2,vC h3,d2,i2⟩,d1,i1⟩)
theorem I5 {w: aI} {m: Mb} (h:gq w (kC m) us f):∃ A:Ma,us=(ig A m).toList/\gq w (jA m) (jB A m) f:=by
 obtain⟨us0,rfl,hq0⟩:=qM h;obtain⟨us9,rfl,hq1⟩:=qM hq0;obtain⟨u1,vU,f1,g1,rfl,o1,h2,d1,i1⟩:=hq1;obtain⟨u2,xu,f2,g2,rfl,o2,h3,d2,i2⟩:=h2;obtain⟨Oq,rfl,⟨rfl,h4⟩⟩:=qM h3;have Sj:=o1;obtain⟨ra,rc,_,_,_,rfl,_⟩:=Sj;obtain⟨sa,sc,_,rfl,_⟩:=jv.1 o2;exact⟨⟨ra,rc,sa,sc⟩,rfl,⟨_,_,f1,g1,rfl,o1,⟨_,_,f2,g2,rfl,o2,⟨rfl,h4⟩,d2,i2⟩,d1,i1⟩⟩
theorem tK {F: α->List eF} (hF:∀ x,(F x).length=s) {w: aI} (t ty e:TypeId) (z:aJ) (bytes:Nat) (ht:P.underlying t=au (.slice e)) (hi:(P.info? e).map (fun i=>(i.zero,i.size,i.bytes))=au (au z,s,bytes)) (hzs:z.cells.size=s) (hsz:0<s)
  {a:Option ba5} {c:Nat} {L:List α} {x:α} {fp fd:Fp} (hO:eF.ow w (iF s F L) (aj a L.length c) fp) {vals:List aJ} (hd:gq w (F x) vals fd) (hdis:∀ b,fp b->¬ fd b) (h1:∀ u∈vals,u.oneCell'=aB)
  (nb:Nat) (T:TypeId) (hnb:w.heap[nb]?=au (aH vals.toArray T (0,0))) (h63:L.length+1<=ba2) (hbytes:(L.length+1)*bytes<=140737488355328) :
  ∃ a' c' w' fp',(aV5 #[t,t] ty #[aj a L.length c,aj (au ⟨nb,0,ak⟩) 1 1]).run P w=.ok (aj a' (L.length+1) c') w'/\eF.ow w' (iF s F (L++[x])) (aj a' (L.length+1) c') fp'/\eU fp w w'/\∀ b,fp' b->fp b\/fd b\/b=w.heap.size:=by
 obtain⟨i,hi0,hz,hs,hb⟩:=sF hi;obtain⟨a',c',w',fp',h2,h3,h4,h5⟩:=J5 (P:=P) (w:=w) t ty e i z s bytes ht hi0 hz hs hb hzs hsz hO hd hdis (by rw[jI hd,hF]) h1 nb T hnb h63 hbytes
 refine⟨a',c',w',fp',h2, ?_,h4,h5⟩;unfold iF;rw[dh,dB];simpa using h3
structure MO (w X:aI) (o:Nat) (A:Ma) (m:Mb) (fp:Fp):Prop where
 own:Bx X o 47 (ig A m)
 ls:gq X (jA m) (jB A m) fp
 kJ:∀ b,fp b->o<b
 lo:w.heap.size<=o
 below:Below w.heap.size w X
theorem MO.step {w X: aI} {o: Nat} {A: Ma} {m: Mb} {fp: Fp} (h:MO w X o A m fp) (hb:Below X.heap.size X X'):MO w X' o A m fp:=⟨h.own.below hb,gy h.ls hb,h.kJ,h.lo,eP h.below hb⟩
theorem MO.push {w X X1: aI} {o: Nat} {A: Ma} {m: Mb} {fp: Fp} (h:MO w X o A m fp) (hb:Below X.heap.size X X1) {Ar: Ra} {fr: Fp} (hr:gq X1 (jL r) (jw Ar r) fr) (hfr:∀ b,fr b->X.heap.size<=b) (hl:m.rows.length<=1000000) :
  ∀ Y,Same Y (X1.alloc (aH (fP Ar r) 44))->∃ v' w4,(aV5 #[45,45] 45 #[aj A.ra m.rows.length A.rc,aj (au ⟨X1.heap.size,0,ak⟩) 1 1]).run aZ8 Y=.ok v' w4 /\
   ∃ a' c',v'=aj a' (m.rows.length+1) c'/\w4.cell? ⟨o,2,ak⟩=au (aj A.ra m.rows.length A.rc)/\w4.frozen? ⟨o,2,ak⟩=aC/\Below o X w4/\Below o X (w4.setCell ⟨o,2,ak⟩ (aj a' (m.rows.length+1) c'))/\∃ fp',MO w (w4.setCell ⟨o,2,ak⟩ (aj a' (m.rows.length+1) c')) o ⟨a',c',A.sa,A.sc⟩ { m with rows:=m.rows++[r] } fp':=by
 intro Y hY;have h1:=h.step hb;have lQ:=(dX X1 _).trans (hY.below.mono (dX X1 _).size);have h2:=h1.step lQ;have hls:=h2.ls;obtain⟨u1,vU,f1,g1,e1,o1,l2,d1,i1⟩:=hls
 cases e1
 have uU:=EP (gy hr lQ);have hol:=h.own.lt;have hpl:=jh h.ls;have I7:=hb.size;obtain⟨a',c',w4,fp',k1,k2,k3,k4⟩:=tK (P:=aZ8) jW (w:=Y) 45 45 44 _ 120 Tryz.underlying45 Tryz.infoRw rfl (by omega) (x:=r) o1 uU (fun b hb1 hb2=>by have:=hpl b ((i1 b).2 (.inl hb1));have:=hfr b hb2;omega) (by intro u hu;simp[fP] at hu;rcases hu with h|h|h|h|h|h|h|h<;>rw[h]<;>rfl) X1.heap.size 44 (by rw[hY.heap];exact heap_alloc_new X1 _) (by unfold ba2;omega) (by omega)
 have hf1:∀ b,f1 b->o<b:=fun b hb1=>h.kJ b ((i1 b).2 (.inl hb1))
 have hg1:∀ b,g1 b->o<b:=fun b hb1=>h.kJ b ((i1 b).2 (.inr hb1))
 have hYs:X1.heap.size<Y.heap.size:=by rw[hY.size];simp
 have yF:Bx w4 o 47 (ig A m):=h2.own.wrt k3 (fun hb1=>by have:=hf1 _ hb1;omega)
 have tN:=eP hb lQ;have b4:Below o X w4:=k3.below (tN.mono (by omega:o<=X.heap.size)) (by omega) (fun b hb1=>by have:=hf1 _ hb1;omega)
 have aA6:∀ b,fp' b->o<b:=fun b hb1=>by
  rcases k4 b hb1 with k|k|k
  ·exact hf1 b k
  ·have:=hfr b k;omega
  ·omega
 refine⟨_,w4,k1,a',c',rfl,yF.at 2 rfl,yF.f 2,b4,b4.setCell (p:=⟨o,2,ak⟩) (aZ0 _) _,fun b=>fp' b\/g1 b, ?_, ?_,fun b hb1=>hb1.elim (aA6 b) (hg1 b),h.lo, ?_⟩
 ·have:=yF.lW 2 (aj a' (m.rows.length+1) c')
  have e:(ig A m).setIfInBounds 2 (aj a' (m.rows.length+1) c')=ig ⟨a',c',A.sa,A.sc⟩ { m with rows:=m.rows++[r] }:=by simp[ig]
  rw[e] at this;exact this
 ·have hw:=eU.set w4 o 2 (aj a' (m.rows.length+1) c')
  have k2':eF.ow w4 (iF 8 jr (m.rows++[r])) (aj a' (m.rows++[r]).length c') fp':=by
   rw[dB];exact k2
  exact gU (qE k2' (gU l2 k3 (fun b hb1 hb2 => d1 b hb2 hb1)) (fun b hb1 hb2 => by
   rcases k4 b hb1 with k|k|k
   ·exact d1 b k hb2
   ·have:=hfr b k;have:=hpl b ((i1 b).2 (.inr hb2));omega
   ·have:=hpl b ((i1 b).2 (.inr hb2));omega)) hw (fun b hb1 e=>by have:=hb1.elim (aA6 b) (hg1 b);omega)
 ·have:=h.below
  have hlo:=h.lo;exact ((this.mono (aZ0 _)).trans (b4.mono hlo)).setCell (p:=⟨o,2,ak⟩) hlo _
def UW (w w':aI) (e:Ending) (m:Mb):Prop:=∃ A:Ma,e=aK (iL A m)/\kW w w' (jA m) (jB A m)
def I8 (w w':aI) (e:Ending) (m:Mb) (b:Bool):Prop:=∃ A:Ma,e=aK (.tuple #[iL A m,aF b])/\kW w w' (jA m) (jB A m)
theorem xJ (w:aI) (s:Nat) (F:α->List eF):eF.ow w (iF s F []) (aj ak 0 0) (fun _=>False):=⟨ak,0,[],ak,fun _=>False,rfl,iV.nil _ _ IJ,⟨rfl,fun _ h=>h⟩,fun _ _ h=>h,fun b=>by simp⟩
theorem WA (w:aI):gq w (jA kY) (jB ⟨ak,0,ak,0⟩ kY) (fun _=>False) :=
 vO (qE (xJ w 8 jr) (qE (vT w) (⟨rfl,fun _ h=>h⟩:gq w [] [] (fun _=>False)) (fun _ _ h=>h)) (fun _ h=>absurd h id)) (fun b=>by simp)
theorem ER {w: aI} (hb:Below w.heap.size w w'):kW w w' (jA kY) (jB ⟨ak,0,ak,0⟩ kY):=⟨_,WA w',fun b h=>absurd h id,hb⟩
theorem qN (w:aI) (g:Nat) {a b c: aJ}:eU (fun x=>x=g) w (((((w.setCell ⟨g,0,ak⟩ a).setCell ⟨g,1,ak⟩ b).setCell ⟨g,2,ak⟩ c).setCell ⟨g,3,ak⟩ d).setCell ⟨g,4,ak⟩ e) :=
 ((((eU.set w g 0 a).trans (eU.set _ g 1 b) (fun _ _ h=>h)).trans (eU.set _ g 2 c) (fun _ _ h=>h)).trans (eU.set _ g 3 d) (fun _ _ h=>h)).trans (eU.set _ g 4 e) (fun _ _ h=>h)
theorem Bx.f5 {w: aI} {cs: Array aJ} (h:Bx w B T cs):w.frozen? ⟨B,0,ak⟩=aC/\w.frozen? ⟨B,1,ak⟩=aC/\w.frozen? ⟨B,2,ak⟩=aC/\w.frozen? ⟨B,3,ak⟩=aC/\w.frozen? ⟨B,4,ak⟩=aC:=⟨h.f 0,h.f 1,h.f 2,h.f 3,h.f 4⟩
theorem MO.ans {w X: aI} {o r: Nat} {A: Ma} {m: Mb} {fp: Fp} (h:MO w X o A m fp) (hr:w.heap.size<=r) (hro:r<=o) {a b c: aJ} :
  kW w (((((X.setCell ⟨r,0,ak⟩ a).setCell ⟨r,1,ak⟩ b).setCell ⟨r,2,ak⟩ c).setCell ⟨r,3,ak⟩ d).setCell ⟨r,4,ak⟩ e) (jA m) (jB A m) :=
 ⟨fp,gU h.ls (qN X r) (fun b hb e=>by have:=h.kJ b hb;omega),fun b hb=>by have:=h.kJ b hb;have:=h.lo;omega,(qN X r).below h.below h.below.size (fun b e=>by omega)⟩
section
structure CR (w X:aI) (O:Array aJ) (cs:List eF) (vs:List aJ) (fp:Fp):Prop where
 out:Bx X w.heap.size 44 O
 res:Bx X (w.heap.size+1) 44 #[ah aA 0,aj ak 0 0,aj ak 0 0,aj ak 0 0,aF aC,aF aC,ah aA 0,aj ak 0 0]
 own:gq X cs vs fp
 kJ:∀ b,fp b->w.heap.size+1<b
 below:Below w.heap.size w X
theorem CR.put {w X Z: aI} {O: Array aJ} {cs: List eF} {vs: List aJ} {fp: Fp} {c: eF} {v: aJ} (h:CR w X O cs vs fp) (nO:Below X.heap.size X Z) (hw:eU (fun _=>False) Z X') (ho:eF.ow X' c v f) (hf:∀ b,f b->b=Z.heap.size) (i:Nat) :
  CR w X' O cs vs fp/\∃ fp',CR w (X'.setCell ⟨w.heap.size,i,ak⟩ v) (O.setIfInBounds i v) (cs++[c]) (vs++[v]) fp':=by
 have hb:Below X.heap.size X X':=hw.below nO nO.size (fun b h=>absurd h id)
 have hol:=h.res.lt;have hZ:=nO.size;have h1:CR w X' O cs vs fp:=⟨h.out.below hb,h.res.below hb,gy h.own hb,h.kJ,eP h.below hb⟩;refine⟨h1,fun b=>fp b\/f b,h1.out.lW i v,h1.res.far (by omega) v,gU (pJ h1.own (J6.2 ho) (fun b h2 h3=>by have:=jh h.own b h2;have:=hf b h3;omega)) (eU.set X' w.heap.size i v) (fun b hb e=>?_),fun b hb=>?_,h1.below.setCell (p:=⟨w.heap.size,i,ak⟩) (aZ0 _) v⟩
 ·rcases hb with hb|hb
  ·have:=h.kJ b hb;omega
  ·have:=hf b hb;omega
 ·rcases hb with hb|hb
  ·exact h.kJ b hb
  ·have:=hf b hb;omega
theorem CR.ints {w X: aI} {O: Array aJ} {cs: List eF} {vs: List aJ} {fp: Fp} (h:CR w X O cs vs fp) {x: Option ba5} {c: Nat} (hv:Vec w x l.length l) (hl:l.length<=1000000) (i:Nat) (o:aJ) (hi:O[i]?=au o) (i0:TypeInfo) (hi0:Tryz.prog.info? 2=au i0) (hz0:i0.zero=au (ah aA 0)) (hz1:i0.size=1) (hz2:i0.bytes=8) :
  ∀ Z,Same Z (X.alloc (aH #[] 2))->∃ v' w4,(aV5 #[41,41] 41 #[aj (au ⟨X.heap.size,0,ak⟩) 0 0,aj x l.length c]).run aZ8 Z=.ok v' w4 /\
   ∃ a' c',v'=aj a' l.length c'/\w4.cell? ⟨w.heap.size,i,ak⟩=au o/\w4.frozen? ⟨w.heap.size,i,ak⟩=aC/\∃ fp',CR w (w4.setCell ⟨w.heap.size,i,ak⟩ (aj a' l.length c')) (O.setIfInBounds i (aj a' l.length c')) (cs++[gQ l]) (vs++[aj a' l.length c']) fp':=by
 intro Z hZ;have nO:=(dX X _).trans (hZ.below.mono (dX X _).size);obtain⟨a6,c6,w6,LC,I9,Ja,hw6,D9⟩:=yg (P:=aZ8) (w:=Z) 41 41 2 i0 dK hi0 hz0 hz1 hz2 (kV X.heap.size 0) (x:=x) (c:=c) (hv.below (eP h.below nO) (aZ0 _)) hl;obtain⟨h1,fp',h2⟩:=h.put nO hw6 Ja D9 i;exact⟨_,w6,I9,a6,c6,rfl,h1.out.at i hi,h1.out.f i,fp',h2⟩
theorem CR.aM3 {w X: aI} {O: Array aJ} {cs: List eF} {vs: List aJ} {fp: Fp} (h:CR w X O cs vs fp) {x: Option ba5} {c: Nat} {l: List (List UInt8)} (hv:xg w x l) (hl:l.length<=1000000) (i:Nat) (o:aJ) (hi:O[i]?=au o) (i0:TypeInfo) (hi0:Tryz.prog.info? 9=au i0) (hz0:i0.zero=au (.string ⟨#[]⟩)) (hz1:i0.size=1) (hz2:i0.bytes=16) :
  ∀ Z,Same Z (X.alloc (aH #[] 9))->∃ v' w4,(aV5 #[42,42] 42 #[aj (au ⟨X.heap.size,0,ak⟩) 0 0,aj x l.length c]).run aZ8 Z=.ok v' w4 /\
   ∃ a' c',v'=aj a' l.length c'/\w4.cell? ⟨w.heap.size,i,ak⟩=au o/\w4.frozen? ⟨w.heap.size,i,ak⟩=aC/\∃ fp',CR w (w4.setCell ⟨w.heap.size,i,ak⟩ (aj a' l.length c')) (O.setIfInBounds i (aj a' l.length c')) (cs++[ny l]) (vs++[aj a' l.length c']) fp':=by
 intro Z hZ;have nO:=(dX X _).trans (hZ.below.mono (dX X _).size);obtain⟨a6,c6,w6,LC,I9,Ja,hw6,D9⟩:=UG (P:=aZ8) (w:=Z) 42 42 9 i0 Tryz.underlying42 hi0 hz0 hz1 hz2 (kV X.heap.size 0) (x:=x) (c:=c) (hv.below (eP h.below nO)) (by omega)
 obtain⟨h1,fp',h2⟩:=h.put nO hw6 Ja D9 i;exact⟨_,w6,I9,a6,c6,rfl,h1.out.at i hi,h1.out.f i,fp',h2⟩
attribute [local irreducible] sv
theorem yL (A:Ra) (r:Rw) (w:aI) (hv:qJ w A r) (h1:r.txt.length<=1000000) (h2:r.got.length<=1000000) (h3:r.dQ.length<=1000000) (h4:r.dU.length<=1000000) :
  ba3 aZ8 76 #[iK A r] w fun e w'=>NM w w' e r:=by
 obtain⟨i0,hi0,hz0,hz1,hz2⟩:=yh Tryz.info9;obtain⟨i2,hi2,hy0,hy1,hy2⟩:=ku Tryz.info2n;have HV:=dP hv
 have T0:CR w ((w.alloc (aH (fP A r) 44)).alloc (aH #[ah aA 0,aj ak 0 0,aj ak 0 0,aj ak 0 0,aF aC,aF aC,ah aA 0,aj ak 0 0] 44)) (fP A r) [] [] (fun _=>False):=by
  have x1:=Bx.new (w.alloc (aH (fP A r) 44)) 44 #[ah aA 0,aj ak 0 0,aj ak 0 0,aj ak 0 0,aF aC,aF aC,ah aA 0,aj ak 0 0];rw[aU1] at x1;exact⟨(Bx.new w _ _).alloc _,x1,⟨rfl,fun _ h=>h⟩,fun b h=>absurd h id,(dX w _).trans ((dX _ _).mono (dX w _).size)⟩
 obtain⟨ver,txt,got,dQ,wed,dV,dW,dU⟩:=r;obtain⟨ta,tc,ga,gc,sa,sc,ma,mc⟩:=A;unfold iK;unfold fP at *;simp only at *
 generalize rV:(w.alloc (aH #[ah aA ver,aj ta txt.length tc,aj ga got.length gc,aj sa dQ.length sc,aF wed,aF dV,ah aA dW,aj ma dU.length mc] 44)).alloc (aH #[ah aA 0,aj ak 0 0,aj ak 0 0,aj ak 0 0,aF aC,aF aC,ah aA 0,aj ak 0 0] 44)=W at *;have hA:=T0.aM3 (x:=ta) (c:=tc) (l:=txt) HV.out.txt h1 1 (aj ta txt.length tc) rfl i0 hi0 hz0 hz1 hz2;have c1:W.cell? ⟨w.heap.size,1,ak⟩=au (aj ta txt.length tc):=T0.out.at 1 rfl;have d1:(W.alloc (aH #[] 9)).cell? ⟨w.heap.size,1,ak⟩=au (aj ta txt.length tc):=(T0.out.below (dX W (aH #[] 9))).at 1 rfl;clear T0;clear hv;go_enter Tryz.func76,Tryz.ntmps76
 go_upto_region 1 with fail
 go_upto_region 2 with (at_builtin;refine fJ (by rfl) _ _ _ _ (by rfl) _ _ (by rfl) (by rfl) hA ⟨rfl,rfl,rfl,rfl⟩ ?_;rintro v1 w1 ⟨a1,e1,rfl,q1a,q1b,gI,hR1⟩;have HR1:aG (CR w (w1.setCell ⟨w.heap.size,1,ak⟩ (aj a1 txt.length e1)) (#[ah aA ver,aj ta txt.length tc,aj ga got.length gc,aj sa dQ.length sc,aF wed,aF dV,ah aA dW,aj ma dU.length mc].setIfInBounds 1 (aj a1 txt.length e1)) ([]++[ny txt]) ([]++[aj a1 txt.length e1]) gI):=hR1;clear hR1 hA c1 d1)
 clear q1a q1b;generalize w1.setCell ⟨w.heap.size,1,ak⟩ (aj a1 txt.length e1)=W1 at *;have T1:CR w W1 #[ah aA ver,aj a1 txt.length e1,aj ga got.length gc,aj sa dQ.length sc,aF wed,aF dV,ah aA dW,aj ma dU.length mc] ([]++[ny txt]) ([]++[aj a1 txt.length e1]) gI:=by simpa using HR1.out
 clear HR1;have hA:=T1.ints (x:=ga) (c:=gc) (l:=got) HV.out.got h2 2 (aj ga got.length gc) rfl i2 hi2 hy0 hy1 hy2;have c2:W1.cell? ⟨w.heap.size,2,ak⟩=au (aj ga got.length gc):=T1.out.at 2 rfl;have d2:(W1.alloc (aH #[] 2)).cell? ⟨w.heap.size,2,ak⟩=au (aj ga got.length gc):=(T1.out.below (dX W1 (aH #[] 2))).at 2 rfl;clear T1;go_upto_region 3 with (at_builtin;refine fJ (by rfl) _ _ _ _ (by rfl) _ _ (by rfl) (by rfl) hA ⟨rfl,rfl,rfl,rfl⟩ ?_;rintro v2 w2 ⟨a2,e2,rfl,q2a,q2b,fp2,hR2⟩;have HR2:aG (CR w (w2.setCell ⟨w.heap.size,2,ak⟩ (aj a2 got.length e2)) (#[ah aA ver,aj a1 txt.length e1,aj ga got.length gc,aj sa dQ.length sc,aF wed,aF dV,ah aA dW,aj ma dU.length mc].setIfInBounds 2 (aj a2 got.length e2)) (([]++[ny txt])++[gQ got]) (([]++[aj a1 txt.length e1])++[aj a2 got.length e2]) fp2):=hR2;clear hR2 hA c2 d2)
 clear q2a q2b;generalize w2.setCell ⟨w.heap.size,2,ak⟩ (aj a2 got.length e2)=W2 at *;have T2:CR w W2 #[ah aA ver,aj a1 txt.length e1,aj a2 got.length e2,aj sa dQ.length sc,aF wed,aF dV,ah aA dW,aj ma dU.length mc] (([]++[ny txt])++[gQ got]) (([]++[aj a1 txt.length e1])++[aj a2 got.length e2]) fp2:=by simpa using HR2.out
 clear HR2;have hA:=T2.ints (x:=sa) (c:=sc) (l:=dQ) HV.out.dQ h3 3 (aj sa dQ.length sc) rfl i2 hi2 hy0 hy1 hy2;have c3:W2.cell? ⟨w.heap.size,3,ak⟩=au (aj sa dQ.length sc):=T2.out.at 3 rfl;have d3:(W2.alloc (aH #[] 2)).cell? ⟨w.heap.size,3,ak⟩=au (aj sa dQ.length sc):=(T2.out.below (dX W2 (aH #[] 2))).at 3 rfl;clear T2;go_upto_region 4 with (at_builtin;refine fJ (by rfl) _ _ _ _ (by rfl) _ _ (by rfl) (by rfl) hA ⟨rfl,rfl,rfl,rfl⟩ ?_;rintro v3 w3 ⟨a3,e3,rfl,q3a,q3b,lS,WB⟩;have HR3:aG (CR w (w3.setCell ⟨w.heap.size,3,ak⟩ (aj a3 dQ.length e3)) (#[ah aA ver,aj a1 txt.length e1,aj a2 got.length e2,aj sa dQ.length sc,aF wed,aF dV,ah aA dW,aj ma dU.length mc].setIfInBounds 3 (aj a3 dQ.length e3)) ((([]++[ny txt])++[gQ got])++[gQ dQ]) ((([]++[aj a1 txt.length e1])++[aj a2 got.length e2])++[aj a3 dQ.length e3]) lS):=WB;clear WB hA c3 d3)
 clear q3a q3b;generalize w3.setCell ⟨w.heap.size,3,ak⟩ (aj a3 dQ.length e3)=W3 at *;have T3:CR w W3 #[ah aA ver,aj a1 txt.length e1,aj a2 got.length e2,aj a3 dQ.length e3,aF wed,aF dV,ah aA dW,aj ma dU.length mc] ((([]++[ny txt])++[gQ got])++[gQ dQ]) ((([]++[aj a1 txt.length e1])++[aj a2 got.length e2])++[aj a3 dQ.length e3]) lS:=by simpa using HR3.out
 clear HR3;have hA:=T3.ints (x:=ma) (c:=mc) (l:=dU) HV.out.dU h4 7 (aj ma dU.length mc) rfl i2 hi2 hy0 hy1 hy2;have c4:W3.cell? ⟨w.heap.size,7,ak⟩=au (aj ma dU.length mc):=T3.out.at 7 rfl;have d4:(W3.alloc (aH #[] 2)).cell? ⟨w.heap.size,7,ak⟩=au (aj ma dU.length mc):=(T3.out.below (dX W3 (aH #[] 2))).at 7 rfl;clear T3;go_upto_region 5 with (at_builtin;refine fJ (by rfl) _ _ _ _ (by rfl) _ _ (by rfl) (by rfl) hA ⟨rfl,rfl,rfl,rfl⟩ ?_;rintro v4 w4 ⟨a4,e4,rfl,q4a,q4b,ES,WC⟩;have HR4:aG (CR w (w4.setCell ⟨w.heap.size,7,ak⟩ (aj a4 dU.length e4)) (#[ah aA ver,aj a1 txt.length e1,aj a2 got.length e2,aj a3 dQ.length e3,aF wed,aF dV,ah aA dW,aj ma dU.length mc].setIfInBounds 7 (aj a4 dU.length e4)) (((([]++[ny txt])++[gQ got])++[gQ dQ])++[gQ dU]) (((([]++[aj a1 txt.length e1])++[aj a2 got.length e2])++[aj a3 dQ.length e3])++[aj a4 dU.length e4]) ES):=WC;clear WC hA c4 d4)
 clear q4a q4b;generalize w4.setCell ⟨w.heap.size,7,ak⟩ (aj a4 dU.length e4)=W4 at *;have T4:CR w W4 #[ah aA ver,aj a1 txt.length e1,aj a2 got.length e2,aj a3 dQ.length e3,aF wed,aF dV,ah aA dW,aj a4 dU.length e4] (((([]++[ny txt])++[gQ got])++[gQ dQ])++[gQ dU]) (((([]++[aj a1 txt.length e1])++[aj a2 got.length e2])++[aj a3 dQ.length e3])++[aj a4 dU.length e4]) ES:=by simpa using HR4.out
 clear HR4;obtain⟨⟨o0,o1,o2,o3⟩,o4,o5,o6,o7⟩:=Bx.r8 T4.out;obtain⟨⟨r0,r1,r2,r3⟩,r4,r5,r6,r7⟩:=Bx.r8 T4.res;obtain⟨⟨f0,f1,f2,f3⟩,f4,f5,f6,f7⟩:=T4.res.f8;have HT:=dP T4;clear T4;go_wp2;refine bodyPost_ret (v:=.agg #[ah aA ver,aj a1 txt.length e1,aj a2 got.length e2,aj a3 dQ.length e3,aF wed,aF dV,ah aA dW,aj a4 dU.length e4]) (by simp[results,Tryz.results76,go_sem, *]) rfl ?_
 refine⟨⟨a1,e1,a2,e2,a3,e3,a4,e4⟩,rfl,ES,gU HT.out.own (J8 _ (w.heap.size+1)) (fun b hb e=>by have:=HT.out.kJ b hb;omega),fun b hb=>by have:=HT.out.kJ b hb;omega,(J8 _ (w.heap.size+1)).below HT.out.below HT.out.below.size (fun b e=>by rw[e];omega)⟩
end
theorem OE {hi:Int}:∀ {l:List Int} {lo:Int},l.Pairwise (·<·)->(∀ x∈l,lo<=x/\x<hi)->(l.length:Int)<=max 0 (hi-lo)
 | [],lo,_,_=>by simp;omega
 | x::l,lo,hp,h=>by
  have h1:=dI.1 hp;have hx:=h x dD;have:=OE (lo:=x+1) h1.2 (fun y hy=>⟨by have:=h1.1 y hy;omega,(h y (bV _ hy)).2⟩)
  simp only[List.length_cons]
  omega
theorem iR.sl {n: Nat} (h:iR r n):r.dQ.length<=n:=by
 have:=OE (lo:=0) (hi:=(n:Int)) (lK.1 h.pq) h.dQ;omega
theorem iR.ml {n: Nat} (h:iR r n):r.dU.length<=n:=by
 cases e:r.dV with
 | true=>have:=(h.dV e).2.2.2.1;omega
 | false=>rw[(h.not e).2];simp
def WE (r:Rw):Prop:=r.txt.length<=1000000/\r.got.length<=1000000/\r.dQ.length<=1000000/\r.dU.length<=1000000
theorem iR.ln {n: Nat} (h:iR r n):WE r:=⟨by have:=h.tl;omega,by have:=h.gl;have:=h.n5;omega,by have:=h.sl;have:=h.n5;omega,by have:=h.ml;have:=h.n5;omega⟩
def LnM (m:Mb):Prop:=m.rows.length<=1000000/\m.dR.length<=1000000/\∀ r∈m.rows,WE r
theorem iP.rowOk {m: Mb} {n: Nat} (h:iP m i n):∀ r∈m.rows,iR r n:=by
 intro r hr;obtain⟨j,hj,rfl⟩:=bU.1 hr;have:=h.ok j (by rw[<- h.len];exact hj)
 simpa[dO,ba0,hj] using this
theorem iP.ln {m: Mb} {n: Nat} (h:iP m i n):LnM m:=⟨by have:=h.len;have:=h.n5;omega,by have:=h.sl;omega,fun r hr=>(h.rowOk r hr).ln⟩
theorem ZO (w:aI) (A:Ma) (m:Mb):Bx (((w.alloc (aH (ig A m) 47)).alloc (aH #[ah aA 0,ah aA 0,aj ak 0 0,aj ak 0 0,aF aC] 47)).alloc (aH (ig A m) 47)) w.heap.size 47 (ig A m) /\
  Bx (((w.alloc (aH (ig A m) 47)).alloc (aH #[ah aA 0,ah aA 0,aj ak 0 0,aj ak 0 0,aF aC] 47)).alloc (aH (ig A m) 47)) (w.heap.size+1) 47 #[ah aA 0,ah aA 0,aj ak 0 0,aj ak 0 0,aF aC] /\
  Bx (((w.alloc (aH (ig A m) 47)).alloc (aH #[ah aA 0,ah aA 0,aj ak 0 0,aj ak 0 0,aF aC] 47)).alloc (aH (ig A m) 47)) (w.heap.size+1+1) 47 (ig A m) /\
  Below w.heap.size w (((w.alloc (aH (ig A m) 47)).alloc (aH #[ah aA 0,ah aA 0,aj ak 0 0,aj ak 0 0,aF aC] 47)).alloc (aH (ig A m) 47)):=by
 have x0:=((Bx.new w 47 (ig A m)).alloc (aH #[ah aA 0,ah aA 0,aj ak 0 0,aj ak 0 0,aF aC] 47)).alloc (aH (ig A m) 47);have x1:=(Bx.new (w.alloc (aH (ig A m) 47)) 47 #[ah aA 0,ah aA 0,aj ak 0 0,aj ak 0 0,aF aC]).alloc (aH (ig A m) 47);have x2:=Bx.new ((w.alloc (aH (ig A m) 47)).alloc (aH #[ah aA 0,ah aA 0,aj ak 0 0,aj ak 0 0,aF aC] 47)) 47 (ig A m);simp only[aU1] at x1 x2;exact⟨x0,x1,x2,((aZ5 _ _).alloc (aZ0 _) _).alloc (by simp) _ |>.alloc (by simp only[aU1];omega) _⟩
theorem ao8 {w X: aI} {o: Nat} {A: Ma} {m: Mb} (ho:Bx X o 47 (ig A m)) (hlo:w.heap.size<=o) (hb:Below w.heap.size w X) (hv:Vec w A.sa m.dR.length m.dR) (hl:m.dR.length<=1000000) :
  ∀ Z,Same Z (X.alloc (aH #[] 2))->∃ v' w4,(aV5 #[41,41] 41 #[aj (au ⟨X.heap.size,0,ak⟩) 0 0,aj A.sa m.dR.length A.sc]).run aZ8 Z=.ok v' w4 /\
   ∃ a' c',v'=aj a' m.dR.length c'/\w4.cell? ⟨o,3,ak⟩=au (aj A.sa m.dR.length A.sc)/\w4.frozen? ⟨o,3,ak⟩=aC /\
    ∃ W,W=w4.setCell ⟨o,3,ak⟩ (aj a' m.dR.length c')/\Below o X W/\W.cell? ⟨o,2,ak⟩=au (aj A.ra m.rows.length A.rc)/\W.frozen? ⟨o,2,ak⟩=aC/\Below o X ((W.alloc (aH #[] 44)).setCell ⟨o,2,ak⟩ (aj (au ⟨W.heap.size,0,ak⟩) 0 0))/\∃ fp,MO w ((W.alloc (aH #[] 44)).setCell ⟨o,2,ak⟩ (aj (au ⟨W.heap.size,0,ak⟩) 0 0)) o ⟨au ⟨W.heap.size,0,ak⟩,0,a',c'⟩ { m with rows:=[] } fp:=by
 intro Z hZ;obtain⟨i0,hi0,hz0,hz1,hz2⟩:=ku Tryz.info2n;have nO:=(dX X _).trans (hZ.below.mono (dX X _).size);obtain⟨a6,c6,w6,LC,I9,Ja,hw6,D9⟩:=yg (P:=aZ8) (w:=Z) 41 41 2 i0 dK hi0 hz0 hz1 hz2 (kV X.heap.size 0) (x:=A.sa) (c:=A.sc) (hv.below (eP hb nO) (aZ0 _)) hl;have b6:Below X.heap.size X w6:=hw6.below nO nO.size (fun b h=>h.elim)
 have ho1:=ho.below b6;have hol:=ho.lt;have hZs:=nO.size;have ho2:=ho1.lW 3 (aj a6 m.dR.length c6);have b7:Below o X (w6.setCell ⟨o,3,ak⟩ (aj a6 m.dR.length c6)):=(b6.mono (by omega:o<=X.heap.size)).setCell (p:=⟨o,3,ak⟩) (aZ0 _) _
 have k6:=eF.lC Ja (eU.set w6 o 3 (aj a6 m.dR.length c6)) (fun b hb e=>by have:=D9 b hb;omega)
 refine⟨_,w6,I9,a6,c6,rfl,ho1.at 3 rfl,ho1.f 3,_,rfl,b7, ?_⟩;generalize w6.setCell ⟨o,3,ak⟩ (aj a6 m.dR.length c6)=W at *;have ho3:=(ho2.alloc (aH #[] 44)).lW 2 (aj (au ⟨W.heap.size,0,ak⟩) 0 0);have b8:Below o X ((W.alloc (aH #[] 44)).setCell ⟨o,2,ak⟩ (aj (au ⟨W.heap.size,0,ak⟩) 0 0)):=(b7.alloc (by have:=ho2.lt;omega) _).setCell (p:=⟨o,2,ak⟩) (aZ0 _) _
 have k7:=eF.lC (eF.gK k6 (dX W (aH #[] 44))) (eU.set _ o 2 (aj (au ⟨W.heap.size,0,ak⟩) 0 0)) (fun b hb e=>by have:=D9 b hb;omega)
 refine⟨ho2.at 2 rfl,ho2.f 2,b8,LC, ?_, ?_,fun b hb=>by have:=D9 b hb;omega,hlo,(hb.mono (aZ0 _)).trans (b8.mono hlo)⟩
 ·have e:((ig A m).setIfInBounds 3 (aj a6 m.dR.length c6)).setIfInBounds 2 (aj (au ⟨W.heap.size,0,ak⟩) 0 0)=ig ⟨au ⟨W.heap.size,0,ak⟩,0,a6,c6⟩ { m with rows:=[] }:=by simp[ig]
  rw[e] at ho3;exact ho3
 ·refine vO (qE (f1:=fun _=>False) (⟨au ⟨W.heap.size,0,ak⟩,0,[],ak,fun _=>False,rfl,iV.nil _ _ (kV _ _),⟨rfl,fun _ h=>h⟩,fun _ _ h=>h,fun b=>by simp⟩:eF.ow _ (iF 8 jr []) (aj (au ⟨W.heap.size,0,ak⟩) 0 0) (fun _=>False)) (qE k7 (⟨rfl,fun _ h=>h⟩:gq _ [] [] (fun _=>False)) (fun _ _ h=>h)) (fun _ h=>h.elim)) (fun b=>by simp)
theorem WG (A:Ma) (m:Mb) (w:aI) (hv:wO w A m) (hln:LnM m) :
  ba3 aZ8 75 #[iL A m] w fun e w'=>UW w w' e m:=by
 have fU:=iq;obtain⟨x0,x1,x2,hb0⟩:=ZO w A m;have HV:aG (wO w A m):=hv;obtain⟨id,n,rows,dR,done⟩:=m;obtain⟨ra,rc,sa,sc⟩:=A;have hA:=ao8 x2 (by omega) hb0 HV.out.dR hln.2.1
 unfold iL;unfold ig at *;simp only at *
 generalize rV:((w.alloc (aH #[ah aA id,ah aA n,aj ra rows.length rc,aj sa dR.length sc,aF done] 47)).alloc (aH #[ah aA 0,ah aA 0,aj ak 0 0,aj ak 0 0,aF aC] 47)).alloc (aH #[ah aA id,ah aA n,aj ra rows.length rc,aj sa dR.length sc,aF done] 47)=W0 at *;have d3:(W0.alloc (aH #[] 2)).cell? ⟨w.heap.size,3,ak⟩=au (aj sa dR.length sc):=(x0.alloc (aH #[] 2)).at 3 rfl;have HX0:aG (Bx W0 w.heap.size 47 #[ah aA id,ah aA n,aj ra rows.length rc,aj sa dR.length sc,aF done]):=x0;have qO:aG (Bx W0 (w.heap.size+1) 47 #[ah aA 0,ah aA 0,aj ak 0 0,aj ak 0 0,aF aC]):=x1;clear hv x0 x1 x2;go_enter Tryz.func75,Tryz.ntmps75
 go_upto_region 2 with fail
 go_upto_region 3 with (at_builtin;refine fJ (by rfl) _ _ _ _ (by rfl) _ _ (by rfl) (by rfl) hA ⟨rfl,rfl,rfl,rfl⟩ ?_;rintro v1 w1 ⟨a1,e1,rfl,q1,q2,W1,hW1,b7,q3,q4,b8,gI,hM1⟩;have fZ:aG (∃ gI,MO w ((W1.alloc (aH #[] 44)).setCell ⟨w.heap.size+1+1,2,ak⟩ (aj (au ⟨W1.heap.size,0,ak⟩) 0 0)) (w.heap.size+1+1) ⟨au ⟨W1.heap.size,0,ak⟩,0,a1,e1⟩ ⟨id,n,[],dR,done⟩ gI):=⟨gI,hM1⟩;clear hM1 hA d3)
 rw[<- hW1]
 have t2:(W1.alloc (aH #[] 44)).cell? ⟨w.heap.size+1+1,2,ak⟩=au (aj ra rows.length rc):=by
  have:=(dX W1 (aH #[] 44)).cell (bG _ _ q3);exact this.trans q3
 have t3:(W1.alloc (aH #[] 44)).frozen? ⟨w.heap.size+1+1,2,ak⟩=aC:=by
  have e:=(dX W1 (aH #[] 44)).block (w.heap.size+1+1) (bG _ _ q3);simpa only[World.frozen?,e] using q4
 clear hW1 q1 q2;have lM:aG (Bx ((W1.alloc (aH #[] 44)).setCell ⟨w.heap.size+1+1,2,ak⟩ (aj (au ⟨W1.heap.size,0,ak⟩) 0 0)) w.heap.size 47 #[ah aA id,ah aA n,aj ra rows.length rc,aj sa dR.length sc,aF done]):=(b8.block w.heap.size (by omega)).trans HX0.out
 have Aa:aG (Bx ((W1.alloc (aH #[] 44)).setCell ⟨w.heap.size+1+1,2,ak⟩ (aj (au ⟨W1.heap.size,0,ak⟩) 0 0)) (w.heap.size+1) 47 #[ah aA 0,ah aA 0,aj ak 0 0,aj ak 0 0,aF aC]):=(b8.block (w.heap.size+1) (by omega)).trans qO.out
 clear HX0 qO b7 b8 hb0 rV;go_wp2_with fail
 generalize (W1.alloc (aH #[] 44)).setCell ⟨w.heap.size+1+1,2,ak⟩ (aj (au ⟨W1.heap.size,0,ak⟩) 0 0)=W2 at *;clear q3 q4 t2 t3
 go_loopw [4] (fun i wr=>∃ k:Nat,k<=rows.length/\i=ah aA (k:Int)/\∃ A R fp,aG (R=rows.take k)/\MO w wr (w.heap.size+1+1) A ⟨id,n,R,dR,done⟩ fp/\Bx wr w.heap.size 47 #[ah aA id,ah aA n,aj ra rows.length rc,aj sa dR.length sc,aF done]/\Bx wr (w.heap.size+1) 47 #[ah aA 0,ah aA 0,aj ak 0 0,aj ak 0 0,aF aC]) (fun i _=>rows.length-(ba4 i).toNat)
 case atStart =>
  obtain⟨fp2,hM2⟩:=fZ.out;exact⟨0,aZ1 _,rfl,_,[],_,rfl,hM2,lM.out,Aa.out⟩
 case round =>
  obtain⟨k,hk,rfl,A,R,fp,hR,M,hpar,hres⟩:=hrel;have hrl:rows.length<=1000000:=hln.1;obtain⟨p0,p1,p2,p3,p4⟩:=Bx.r5 hpar;by_cases hlt:k<rows.length
  ·have k1:(k:Int)<rows.length:=by omega
   have k0:(0:Int)<=k:=by omega
   have hRl:R.length<=1000000:=by rw[hR.out,aU5];omega
   obtain⟨g,off,Ak,hra,hc8,hrs⟩:=HV.out.row (k:=k) hlt;have hlr:=hln.2.2 _ (bW (iZ hlt));simp only at hra hrs hc8
   subst hra;have Jb:=dP (hrs.below M.below);have Ad:=dP M.below;have BN:=dP hres;have OG:=dP hpar;have HM:=dP M;have c2:wr.cell? ⟨w.heap.size+1+1,2,ak⟩=au (aj A.ra R.length A.rc):=M.own.at 2 rfl
   have KS:∀ X,X.cell? ⟨w.heap.size+1+1,2,ak⟩=au (aj A.ra R.length A.rc)->X.cell? ⟨w.heap.size,2,ak⟩=au (aj (au ⟨g,off,ak⟩) rows.length rc)->Below w.heap.size w X->(X.cell? ⟨w.heap.size+1+1,2,ak⟩=au (aj A.ra R.length A.rc)/\X.cell? ⟨w.heap.size,2,ak⟩=au (aj (au ⟨g,off,ak⟩) rows.length rc)/\X.cell? ⟨g,off+k*8,ak⟩=au (ah aA (dO rows k).ver)/\X.cell? ⟨g,off+k*8+1,ak⟩=au (aj Ak.ta (dO rows k).txt.length Ak.tc)/\X.cell? ⟨g,off+k*8+2,ak⟩=au (aj Ak.ga (dO rows k).got.length Ak.gc)/\X.cell? ⟨g,off+k*8+3,ak⟩=au (aj Ak.sa (dO rows k).dQ.length Ak.sc)/\X.cell? ⟨g,off+k*8+4,ak⟩=au (aF (dO rows k).wed)/\X.cell? ⟨g,off+k*8+5,ak⟩=au (aF (dO rows k).dV)/\X.cell? ⟨g,off+k*8+6,ak⟩=au (ah aA (dO rows k).dW)/\X.cell? ⟨g,off+k*8+7,ak⟩=au (aj Ak.ma (dO rows k).dU.length Ak.mc)):=fun X x1 x2 hX=>by
    obtain⟨⟨d0,d1,d2,d3⟩,d4,d5,d6,d7⟩:=hc8;have t:∀ x v,w.cell? x=au v->X.cell? x=au v:=fun x v h=>fM hX h
    exact⟨x1,x2,t _ _ d0,t _ _ d1,t _ _ d2,t _ _ d3,t _ _ d4,t _ _ d5,t _ _ d6,t _ _ d7⟩
   have KB:∀ X,Below wr.heap.size wr X->X.cell? ⟨w.heap.size+1+1,2,ak⟩=au (aj A.ra R.length A.rc)/\X.cell? ⟨w.heap.size,2,ak⟩=au (aj (au ⟨g,off,ak⟩) rows.length rc)/\Below w.heap.size w X:=fun X hX=>⟨fM hX c2,fM hX p2,eP Ad.out hX⟩
   have KK:=fun X hX=>KS X (KB X hX).1 (KB X hX).2.1 (KB X hX).2.2
   have hbd:=(Same.drewN wr 1).below;generalize hrr:dO rows k=r at *;have hRR:=dP hrr;clear hrr M hres hpar hc8 hrs c2 p0 p1 p3 p4;go_wp2_with fail
   refine lG (S:=fun X:aI=>X.cell? ⟨w.heap.size+1+1,2,ak⟩=au (aj A.ra R.length A.rc)/\X.cell? ⟨w.heap.size,2,ak⟩=au (aj (au ⟨g,off,ak⟩) rows.length rc)/\X.cell? ⟨g,off+k*8,ak⟩=au (ah aA r.ver)/\X.cell? ⟨g,off+k*8+1,ak⟩=au (aj Ak.ta r.txt.length Ak.tc)/\X.cell? ⟨g,off+k*8+2,ak⟩=au (aj Ak.ga r.got.length Ak.gc)/\X.cell? ⟨g,off+k*8+3,ak⟩=au (aj Ak.sa r.dQ.length Ak.sc)/\X.cell? ⟨g,off+k*8+4,ak⟩=au (aF r.wed)/\X.cell? ⟨g,off+k*8+5,ak⟩=au (aF r.dV)/\X.cell? ⟨g,off+k*8+6,ak⟩=au (ah aA r.dW)/\X.cell? ⟨g,off+k*8+7,ak⟩=au (aj Ak.ma r.dU.length Ak.mc)) 11 fU ((KK _ hbd)) fun hHeld=>?_
   refine fC (i:=0) rfl hHeld ?_;refine fC (i:=1) rfl hHeld ?_;refine fC (i:=2) rfl hHeld ?_;refine fC (i:=3) rfl hHeld ?_;refine fC (i:=4) rfl hHeld ?_;refine fC (i:=5) rfl hHeld ?_;refine fC (i:=6) rfl hHeld ?_;refine iy (i:=7) rfl fun K hK=>?_
   go_simp
   go_at_call 76
   refine (yL Ak r wr.drew (Jb.out.below hbd) hlr.1 hlr.2.1 hlr.2.2.1 hlr.2.2.2).mono ?_;rintro e w1 ⟨Ar,rfl,fr,hr1,hr2,hr3⟩;have hb1:=eP hbd hr3;have hA:=HM.out.push hb1 hr1 (fun b hb=>hr2 b hb) hRl
   have hb2:Below wr.heap.size wr (w1.alloc (aH (fP Ar r) 44)):=hb1.trans ((dX w1 _).mono hb1.size);refine hK.out _ _ (KK _ hb1) (fun eG=>?_)
   clear hK hHeld;have hHeld:=eG;try simp only[gW]
   unfold iK;unfold fP at hA hb2 ⊢;refine iy (i:=8) rfl fun K hK=>?_
   go_simp;refine hK.out _ _ (KK _ hb2) (fun eG=>?_)
   clear hK hHeld;have hHeld:=eG;try simp only[gW]
   refine iy (i:=9) rfl fun K hK=>?_
   refine jm (by rfl) _ _ _ _ (by rfl) (aj A.ra R.length A.rc) _ (by rfl) (by rfl) hA ⟨rfl,rfl,rfl,rfl⟩ ?_
   rintro v9 w4 ⟨a9,c9,rfl,q1,q2,b4,b5,fp9,vW⟩;have hK4:w4.cell? ⟨w.heap.size,2,ak⟩=au (aj (au ⟨g,off,ak⟩) rows.length rc):=(b4.cell (p:=⟨w.heap.size,2,ak⟩) (by show w.heap.size<w.heap.size+1+1;omega)).trans p2
   refine hK.out _ _ (KS _ q1 hK4 (Ad.out.trans (b4.mono (by omega)))) (fun eG=>?_)
   clear hK hHeld;have hHeld:=eG;try simp only[gW]
   refine fC (i:=10) rfl hHeld ?_;refine oH rfl fun K hK=>?_
   go_simp;refine hK.out _ _ ?_;have jK:=dP vW;have Dv:aG (Bx (w4.setCell ⟨w.heap.size+1+1,2,ak⟩ (aj a9 (R.length+1) c9)) (w.heap.size+1) 47 #[ah aA 0,ah aA 0,aj ak 0 0,aj ak 0 0,aF aC]):=(b5.block (w.heap.size+1) (Nat.lt_succ_self _)).trans BN.out;have Jc:aG (Bx (w4.setCell ⟨w.heap.size+1+1,2,ak⟩ (aj a9 (R.length+1) c9)) w.heap.size 47 #[ah aA id,ah aA n,aj (au ⟨g,off,ak⟩) rows.length rc,aj sa dR.length sc,aF done]):=(b5.block w.heap.size (by omega)).trans OG.out
   have Cj:aG (R++[r]=rows.take (k+1)):=by
    rw[aG,hR.out,<- hRR.out,List.take_succ_eq_append_getElem hlt];simp[dO,ba0,hlt]
   clear vW hA hr1 hr2 hr3 KS KB KK;generalize w4.setCell ⟨w.heap.size+1+1,2,ak⟩ (aj a9 (R.length+1) c9)=W9 at *;clear hb1 hb2 hbd q1 q2 b4 b5 hHeld hK4 p2;go_wp2;go_roundw
   case rel=>exact⟨k+1,by omega,by go_num,_,_,_,Cj,jK.out,Jc.out,Dv.out⟩
   case measure=>simp[ba4];omega
  ·have k1:¬ ((k:Int)<rows.length):=by omega
   have HRN:aG (R=rows):=by rw[aG,hR.out,List.take_of_length_le (by omega)]
   have hRl:aG (R.length=rows.length):=by rw[aG,HRN.out]
   obtain⟨o0,o1,o2,o3,o4⟩:=Bx.r5 M.own;obtain⟨r0,r1,r2,r3,r4⟩:=Bx.r5 hres;obtain⟨f0,f1,f2,f3,f4⟩:=hres.f5;have HA:aG (kW w (((((wr.setCell ⟨w.heap.size+1,0,ak⟩ (ah aA id)).setCell ⟨w.heap.size+1,1,ak⟩ (ah aA n)).setCell ⟨w.heap.size+1,2,ak⟩ (aj A.ra R.length A.rc)).setCell ⟨w.heap.size+1,3,ak⟩ (aj A.sa dR.length A.sc)).setCell ⟨w.heap.size+1,4,ak⟩ (aF done)) (jA ⟨id,n,R,dR,done⟩) (jB A ⟨id,n,R,dR,done⟩)):=M.ans (Nat.le_succ _) (Nat.le_succ _);clear M hres hR hpar;go_wp2;refine bodyPost_ret (v:=iL A ⟨id,n,R,dR,done⟩) (by simp[results,Tryz.results75,go_sem,iL,ig, *]) rfl ?_
   rw[<- HRN.out];exact⟨_,rfl,HA.out⟩
theorem iR.fit {n: Nat} (h:iR r n):qK r:=by
 have h5:=h.n5
 have ok:∀ v,okB v=aB->Fits v:=fun v h1 x hx=>by
  simp only[okB,aU2,decide_eq_true_eq,aU3] at h1;have:=iQ.1 (h1.2 x hx);omega
 refine⟨ok _ h.got,fun x hx=>by have:=h.dQ x hx;omega, ?_⟩
 cases e:r.dV with
 | true=>exact ok _ (h.dV e).2.2.1
 | false=>rw[(h.not e).2];exact fun x hx=>absurd hx aU9
theorem iP.fit {m: Mb} {n: Nat} (h : iP m i n) : nY m := ⟨fun r hr => (h.rowOk r hr).fit,fun x hx => by
 obtain⟨j,hj,rfl⟩:=bU.1 hx;have:=(h.sg j hj).1;simp[el,hj] at this
 omega⟩
def C5 (w:aI) (B o:Nat) (x0 x1 x2 x3 x4:aJ):Prop:=w.cell? ⟨B,o,ak⟩=au x0/\w.cell? ⟨B,o+1,ak⟩=au x1/\w.cell? ⟨B,o+2,ak⟩=au x2/\w.cell? ⟨B,o+3,ak⟩=au x3/\w.cell? ⟨B,o+4,ak⟩=au x4
structure Mw (w X:aI) (B o:Nat) (m:Mb) (fp:Fp) (g off c:Nat):Prop where
 iw:fH w X B o (kC m) fp
 rws:X.cell? ⟨B,o+2,ak⟩=au (aj (au ⟨g,off,ak⟩) m.rows.length c)
theorem Mw.start {w: aI} {o: Nat} {m: Mb} {fp: Fp} (h:iO w B o (kC m) fp) (hn:0<m.rows.length):∃ g off c,Mw w w B o m fp g off c:=by
 obtain⟨g,off,c,f,h1,_⟩:=h.el (F:=jr) jW (by omega) (j:=2) (L:=m.rows) rfl (iZ hn)
 exact⟨g,off,c,fH.refl h,h1⟩
theorem Mw.step {w X: aI} {o: Nat} {m: Mb} {fp: Fp} {g c: Nat} (h:Mw w X B o m fp g off c) (hb:Below X.heap.size X X'):Mw w X' B o m fp g off c:=⟨h.iw.below hb,fM hb h.rws⟩
theorem Mw.box {w X: aI} {o: Nat} {m: Mb} {fp: Fp} {g c: Nat} (h:Mw w X B o m fp g off c) (hf:nY m):∃ sa sc,C5 X B o (ah aA m.id) (ah aA m.n) (aj (au ⟨g,off,ak⟩) m.rows.length c) (aj sa m.dR.length sc) (aF m.done)/\wO X ⟨au ⟨g,off,ak⟩,c,sa,sc⟩ m:=by
 obtain⟨gI,hp,_⟩:=h.iw.next;have hv:=hp.pv;obtain⟨u0,c0,rfl⟩:=hv.at (j:=0) rfl;obtain⟨u1,c1,rfl⟩:=hv.at (j:=1) rfl;obtain⟨u2,c2,v2⟩:=hv.at (j:=2) rfl;obtain⟨u3,c3,v3⟩:=hv.at (j:=3) rfl;obtain⟨u4,c4,rfl⟩:=hv.at (j:=4) rfl;have e2:=aV4 (c2.symm.trans h.rws);subst e2;obtain⟨sa,sc,rfl,s1,s2,s3⟩:=nI v3 hf.2;have k:=v2;obtain⟨_,_,_,e,k1,k2,_⟩:=k
 cases e
 exact⟨sa,sc,⟨c0,c1,c2,c3,c4⟩,v2,s1,by omega,by omega,hf.1⟩
theorem Mw.id' {w X: aI} {o: Nat} {m: Mb} {fp: Fp} {g c: Nat} (h:Mw w X B o m fp g off c):X.cell? ⟨B,o,ak⟩=au (ah aA m.id)/\X.cell? ⟨B,o+1,ak⟩=au (ah aA m.n)/\X.cell? ⟨B,o+4,ak⟩=au (aF m.done):=by
 obtain⟨gI,hp,_⟩:=h.iw.next;have hv:=hp.pv;obtain⟨u0,c0,rfl⟩:=hv.at (j:=0) rfl;obtain⟨u1,c1,rfl⟩:=hv.at (j:=1) rfl;obtain⟨u4,c4,rfl⟩:=hv.at (j:=4) rfl;exact⟨c0,c1,c4⟩
theorem Mw.row {w X:aI} {B o:Nat} {m:Mb} {fp:Fp} {g off c:Nat} (h:Mw w X B o m fp g off c) (hf:nY m) {k:Nat} (hk:k<m.rows.length):∃ Ak:Ra,C8 X g (off+k*8) (ah aA (dO m.rows k).ver) (aj Ak.ta (dO m.rows k).txt.length Ak.tc) (aj Ak.ga (dO m.rows k).got.length Ak.gc) (aj Ak.sa (dO m.rows k).dQ.length Ak.sc) (aF (dO m.rows k).wed) (aF (dO m.rows k).dV) (ah aA (dO m.rows k).dW) (aj Ak.ma (dO m.rows k).dU.length Ak.mc)/\qJ X Ak (dO m.rows k):=by
 obtain⟨sa,sc,_,h2⟩:=h.box hf;obtain⟨g',off',Ak,e,h3,h4⟩:=h2.row hk
 cases e
 exact⟨Ak,h3,h4⟩
theorem Mw.at {w X:aI} {B o:Nat} {m:Mb} {fp:Fp} {g off c:Nat} (h:Mw w X B o m fp g off c) {k:Nat} (hk:k<m.rows.length) {j:Nat} {cl:eF} (hj:(jr (dO m.rows k))[j]?=au cl):∃ u f,X.cell? ⟨g,off+k*8+j,ak⟩=au u/\X.frozen? ⟨g,off+k*8+j,ak⟩=aC/\eF.ow X cl u f/\(∀ b,f b->b<X.heap.size) /\
  ∀ (X1:aI) (c':eF) (u':aJ) (f':Fp) (r':Rw),(jr (dO m.rows k)).set j c'=jr r'->eU f X X1->eF.ow X1 c' u' f'->(∀ b,f' b->f b\/X.heap.size<=b)->X1.cell? ⟨g,off+k*8+j,ak⟩=au u/\X1.frozen? ⟨g,off+k*8+j,ak⟩=aC/\Mw w (X1.setCell ⟨g,off+k*8+j,ak⟩ u') B o { m with rows:=m.rows.set k r' } fp g off c/\(u'=u->Mw w X1 B o { m with rows:=m.rows.set k r' } fp g off c):=by
 obtain⟨gI,hp,hf1,hgo⟩:=h.iw.next;obtain⟨g',off',c',f,h1,hgB,hfg,hfs,hpl,hput⟩:=hp.el (F:=jr) jW (by omega) (j:=2) (L:=m.rows) rfl (iZ hk)
 have e:=aV4 (h1.symm.trans h.rws)
 cases e
 obtain⟨u,fj,hu,hfz,hc,hsub,hnB,hset⟩:=hpl.at hj;have Cm:=hp.lt;refine⟨u,fj,hu,hfz,hc,eF.lg hc,fun X1 c' u' f' r' er hw hc' hf'=>?_⟩
 obtain⟨k1,k2,k3,k4⟩:=hset X1 c' u' f' hw hc' hf';rw[er] at k3 k4;have WH:¬ fj B:=fun hb=>hp.nB (hfs B (hsub B hb))
 have hr1:X1.cell? ⟨B,o+2,ak⟩=au (aj (au ⟨g,off,ak⟩) m.rows.length c):=(bT (hw.block B Cm WH)).trans h.rws;have key:∀ Z,fH X Z g (off+k*8) (jr r') f->fH w Z B o (kC { m with rows:=m.rows.set k r' }) fp:=fun Z hZ=>hgo Z _ rfl (hput Z r' hZ)
 refine⟨k1,k2,⟨key _ k3, ?_⟩,fun e=>⟨key _ (k4 e), ?_⟩⟩
 ·rw[bg _ _ _ _ (by simp only[ne_eq,aX6,not_and];intro e;exact absurd e hgB),hr1]
  simp
 ·rw[hr1];simp
theorem Mw.put {w X: aI} {o: Nat} {m: Mb} {fp: Fp} {g c: Nat} (h:Mw w X B o m fp g off c) (hk:k<m.rows.length) {y: aJ} (hj:(jr (dO m.rows k))[j]?=au (.v x)) {r': Rw} (er:(jr (dO m.rows k)).set j (.v y)=jr r') :
  X.cell? ⟨g,off+k*8+j,ak⟩=au x/\X.frozen? ⟨g,off+k*8+j,ak⟩=aC/\Mw w (X.setCell ⟨g,off+k*8+j,ak⟩ y) B o { m with rows:=m.rows.set k r' } fp g off c:=by
 obtain⟨u,f,h1,h2,⟨rfl,h3⟩,_,h4⟩:=h.at hk hj;exact⟨h1,h2,(h4 X (.v y) y (fun _=>False) r' er (eU.refl _ _) ⟨rfl,fun _ h=>h⟩ (fun b hb=>hb.elim)).2.2.1⟩
theorem Mw.LD {w X: aI} {o: Nat} {m: Mb} {fp: Fp} {g c: Nat} (h:Mw w X B o m fp g off c) {cl: eF} (hj:(kC m)[j]?=au cl) (hj2:j≠2):∃ u f,X.cell? ⟨B,o+j,ak⟩=au u/\X.frozen? ⟨B,o+j,ak⟩=aC/\eF.ow X cl u f/\(∀ b,f b->b<X.heap.size) /\
  ∀ (X1:aI) (c':eF) (u':aJ) (f':Fp) (m':Mb),(kC m).set j c'=kC m'->m'.rows.length=m.rows.length->eU f X X1->eF.ow X1 c' u' f'->(∀ b,f' b->f b\/X.heap.size<=b)->X1.cell? ⟨B,o+j,ak⟩=au u/\X1.frozen? ⟨B,o+j,ak⟩=aC/\Mw w (X1.setCell ⟨B,o+j,ak⟩ u') B o m' fp g off c:=by
 obtain⟨gI,hp,hf1,hgo⟩:=h.iw.next;obtain⟨u,fj,hu,hfz,hc,hsub,hnB,hset⟩:=hp.at hj;refine⟨u,fj,hu,hfz,hc,eF.lg hc,fun X1 c' u' f' m' er hl hw hc' hf'=>?_⟩
 obtain⟨k1,k2,k3,k4⟩:=hset X1 c' u' f' hw hc' hf';rw[er] at k3;refine⟨k1,k2,hgo _ _ rfl k3, ?_⟩;rw[bg _ _ _ _ (by simp only[ne_eq,aX6,not_and];intro _ e;omega),bT (hw.block B hp.lt hnB),h.rws,hl]
def vX (L:List Bool):eF:=.sl 1 L.length (pl (L.map Value.bool))
def Jd (w:aI) (a:Option ba5) (L:List Bool):Prop:=L.length=0\/∃ b off,a=au ⟨b,off,ak⟩/\∀ i,i<L.length->w.cell? ⟨b,off+i,ak⟩=au (aF (L.getD i aC))
theorem Jd.below {w: aI} {a: Option ba5} (h:Jd w a L) (hb:Below w.heap.size w w'):Jd w' a L:=by
 rcases h with h|⟨b,off,ha,hc⟩
 ·exact .inl h
 ·exact .inr ⟨b,off,ha,fun i hi=>(hb.cell (bG _ _ (hc i hi))).trans (hc i hi)⟩
theorem Je {w: aI} {fp: Fp}:eF.ow w (vX L) u fp↔∃ a c G,u=aj a L.length c/\iV w 1 a L.length c (L.map Value.bool) G/\∀ b,fp b↔G=au b:=by
 constructor
 ·rintro⟨a,c,us,G,f,rfl,ho,hl,hn,hf⟩
  obtain⟨rfl,h0⟩:=rP.1 hl;exact⟨a,c,G,rfl,ho,fun b=>(hf b).trans ⟨fun h=>h.elim id (fun h=>absurd h (h0 b)),.inl⟩⟩
 ·rintro⟨a,c,G,rfl,ho,hf⟩
  exact⟨a,c,_,G,fun _=>False,rfl,ho,rP.2 ⟨rfl,fun _ h=>h⟩,fun _ _ h=>h,fun b=>(hf b).trans ⟨.inl,fun h=>h.elim id False.elim⟩⟩
theorem WI {w: aI} (h:eF.vw w (vX L) u):∃ a c,u=aj a L.length c/\Jd w a L/\L.length<=c/\c<=ba2:=by
 obtain⟨a,c,us,rfl,h1,h2,h3,h,hl⟩:=h;have e:=ED.1 hl;subst e;refine⟨a,c,rfl, ?_,h1,h2⟩;rcases h with h|⟨b,off,ha,hc⟩
 ·exact .inl h
 ·refine .inr ⟨b,off,ha,fun i hi=>?_⟩
  rw[hc i (by omega)]
  simp[ba0,hi]
def jU (x:Ml):List eF:=.v (ah aA x.fr)::.v (ah aA x.to)::jr x.row
theorem ng (x:Ml):(jU x).length=10:=rfl
structure Ga where
 ma:Option ba5
 mc:Nat
 ua:Option ba5
 uc:Nat
 la:Option ba5
 lc:Nat
def jH (A:Ga) (g:Gr):Array aJ:=#[aj A.ma g.mem.length A.mc,aj A.ua g.up.length A.uc,aj A.la g.dS.length A.lc]
def jc (A:Ga) (g:Gr):aJ:=.agg (jH A g)
def fK (g:Gr):List eF:=[iF 5 kC g.mem,vX g.up,iF 10 jU g.dS]
def jC (A:Ga) (g:Gr):List aJ:=[aj A.ma g.mem.length A.mc,aj A.ua g.up.length A.uc,aj A.la g.dS.length A.lc]
def Dw (g:Gr):Prop:=(∀ m∈g.mem,nY m)/\∀ x∈g.dS,qK x.row
structure zh (w:aI) (A:Ga) (g:Gr):Prop where
 mem:eF.vw w (iF 5 kC g.mem) (aj A.ma g.mem.length A.mc)
 up:Jd w A.ua g.up
 dS:eF.vw w (iF 10 jU g.dS) (aj A.la g.dS.length A.lc)
 lm:g.mem.length<=ba2
 lu:g.up.length<=ba2
 ll:g.dS.length<=ba2
 fit:Dw g
theorem zh.below {w: aI} {A: Ga} {g: Gr} (h:zh w A g) (hb:Below w.heap.size w w'):zh w' A g:=⟨eF.Hw h.mem hb,h.up.below hb,eF.Hw h.dS hb,h.lm,h.lu,h.ll,h.fit⟩
theorem OH {w: aI} {A: Ga} {g: Gr} (h:Bh w (fK g) (jC A g)) (hf:Dw g):zh w A g:=by
 obtain⟨u1,vU,e1,h1,h2⟩:=h
 cases e1
 obtain⟨u2,xu,e2,h3,h4⟩:=h2
 cases e2
 obtain⟨u3,EJ,e3,h5,_⟩:=h4
 cases e3
 obtain⟨a,c,e,k1,k2,k3⟩:=WI h3
 cases e
 have l1:=h1;obtain⟨_,_,_,e,m1,m2,_⟩:=l1
 cases e
 have l5:=h5;obtain⟨_,_,_,e,n1,n2,_⟩:=l5
 cases e
 exact⟨h1,k1,h5,by omega,by omega,by omega,hf⟩
theorem Pv.mem {w: aI} {b o: Nat} {m: Mb} (h:Pv w b o (kC m)) (hf:nY m):∃ A:Ma,C5 w b o (ah aA m.id) (ah aA m.n) (aj A.ra m.rows.length A.rc) (aj A.sa m.dR.length A.sc) (aF m.done)/\wO w A m:=by
 obtain⟨u0,c0,rfl⟩:=h.at (j:=0) rfl;obtain⟨u1,c1,rfl⟩:=h.at (j:=1) rfl;obtain⟨u2,c2,v2⟩:=h.at (j:=2) rfl;obtain⟨u3,c3,v3⟩:=h.at (j:=3) rfl;obtain⟨u4,c4,rfl⟩:=h.at (j:=4) rfl;have k2:=v2;obtain⟨ra,rc,_,rfl,r1,r2,_⟩:=k2;obtain⟨sa,sc,rfl,s1,s2,s3⟩:=nI v3 hf.2;exact⟨⟨ra,rc,sa,sc⟩,⟨c0,c1,c2,c3,c4⟩,v2,s1,by omega,by omega,hf.1⟩
theorem sG {g: Gr} (hk:k<g.mem.length):g.mem[k]?=au (dY g k):=by simp[dY,ba0,hk]
theorem zh.member {w: aI} {A: Ga} {g: Gr} (h:zh w A g) (hk:k<g.mem.length):∃ b off Ak,A.ma=au ⟨b,off,ak⟩/\C5 w b (off+k*5) (ah aA (dY g k).id) (ah aA (dY g k).n) (aj Ak.ra (dY g k).rows.length Ak.rc) (aj Ak.sa (dY g k).dR.length Ak.sc) (aF (dY g k).done)/\wO w Ak (dY g k):=by
 obtain⟨b,off,h1,h2⟩:=IY uF h.mem (sG hk);obtain⟨Ak,h3,h4⟩:=h2.mem (h.fit.1 _ (bW (sG hk)));exact⟨b,off,Ak,h1,h3,h4⟩
theorem lI {g: Gr} (hk:k<g.dS.length):g.dS[k]?=au (eX g k):=by simp[eX,ba0,hk]
theorem Pv.dS {w: aI} {b o: Nat} {x: Ml} (h:Pv w b o (jU x)) (hf:qK x.row):∃ A:Ra,w.cell? ⟨b,o,ak⟩=au (ah aA x.fr)/\w.cell? ⟨b,o+1,ak⟩=au (ah aA x.to)/\C8 w b (o+2) (ah aA x.row.ver) (aj A.ta x.row.txt.length A.tc) (aj A.ga x.row.got.length A.gc) (aj A.sa x.row.dQ.length A.sc) (aF x.row.wed) (aF x.row.dV) (ah aA x.row.dW) (aj A.ma x.row.dU.length A.mc)/\qJ w A x.row:=by
 obtain⟨u0,c0,rfl⟩:=h.at (j:=0) rfl;obtain⟨u1,c1,rfl⟩:=h.at (j:=1) rfl
 have hp:Pv w b (o+2) (jr x.row):=by
  obtain⟨vs,h1,h2⟩:=h;obtain⟨v0,vs0,rfl,_,h3⟩:=h2;obtain⟨v1,vs1,rfl,_,h4⟩:=h3;refine⟨vs1,fun j hj=>?_,h4⟩
  have:=h1 (j+2) (by simp;omega)
  rw[show o+2+j=o+(j+2) by omega,this]
  rfl
 obtain⟨A,h3,h4⟩:=hp.row hf;exact⟨A,c0,c1,h3,h4⟩
theorem zh.letter {w: aI} {A: Ga} {g: Gr} (h:zh w A g) (hk:k<g.dS.length):∃ b off Ak,A.la=au ⟨b,off,ak⟩/\w.cell? ⟨b,off+k*10,ak⟩=au (ah aA (eX g k).fr)/\w.cell? ⟨b,off+k*10+1,ak⟩=au (ah aA (eX g k).to)/\C8 w b (off+k*10+2) (ah aA (eX g k).row.ver) (aj Ak.ta (eX g k).row.txt.length Ak.tc) (aj Ak.ga (eX g k).row.got.length Ak.gc) (aj Ak.sa (eX g k).row.dQ.length Ak.sc) (aF (eX g k).row.wed) (aF (eX g k).row.dV) (ah aA (eX g k).row.dW) (aj Ak.ma (eX g k).row.dU.length Ak.mc)/\qJ w Ak (eX g k).row:=by
 obtain⟨b,off,h1,h2⟩:=IY ng h.dS (lI hk);obtain⟨Ak,h3,h4,h5,h6⟩:=h2.dS (h.fit.2 _ (bW (lI hk)));exact⟨b,off,Ak,h1,h3,h4,h5,h6⟩
structure Gw (w X:aI) (B o:Nat) (g:Gr) (fp:Fp) (b off c:Nat):Prop where
 iw:fH w X B o (fK g) fp
 mem:X.cell? ⟨B,o,ak⟩=au (aj (au ⟨b,off,ak⟩) g.mem.length c)
theorem Gw.start {w: aI} {o: Nat} {g: Gr} {fp: Fp} (h:iO w B o (fK g) fp) (hn:0<g.mem.length):∃ b off c,Gw w w B o g fp b off c:=by
 obtain⟨b,off,c,f,h1,_⟩:=h.el (F:=kC) uF (by omega) (j:=0) (L:=g.mem) rfl (sG hn)
 exact⟨b,off,c,fH.refl h,h1⟩
theorem Gw.step {w X: aI} {o: Nat} {g: Gr} {fp: Fp} {b c: Nat} (h:Gw w X B o g fp b off c) (hb:Below X.heap.size X X'):Gw w X' B o g fp b off c:=⟨h.iw.below hb,fM hb h.mem⟩
theorem Gw.mb {w X: aI} {o: Nat} {g: Gr} {fp: Fp} {b c: Nat} (h:Gw w X B o g fp b off c) (hk:k<g.mem.length):∃ f,iO X b (off+k*5) (kC (dY g k)) f /\
  ∀ (X1:aI) (m':Mb),fH X X1 b (off+k*5) (kC m') f->Gw w X1 B o { g with mem:=g.mem.set k m' } fp b off c:=by
 obtain⟨gI,hp,hf1,hgo⟩:=h.iw.next;obtain⟨b',off',c',f,h1,hgB,hfg,hfs,hpl,hput⟩:=hp.el (F:=kC) uF (by omega) (j:=0) (L:=g.mem) rfl (sG hk)
 have e:=aV4 (h1.symm.trans h.mem)
 cases e
 refine⟨f,hpl,fun X1 m' hb=>⟨hgo _ (fK { g with mem:=g.mem.set k m' }) rfl (hput X1 m' hb), ?_⟩⟩
 have hn:¬ (f B\/B=b):=by
  rintro (h2|h2)
  ·obtain⟨_,_,_,h3⟩:=hp
   exact h3 (hfs B h2)
  ·exact hgB h2.symm
 have hbk:=hb.wrt.block B hp.lt hn;simp only[aV3]
 exact (bT hbk).trans h.mem
theorem Gw.rd {w X: aI} {o: Nat} {g: Gr} {fp: Fp} {b c: Nat} (h:Gw w X B o g fp b off c) (hf:Dw g):∃ ua uc la lc,X.cell? ⟨B,o+1,ak⟩=au (aj ua g.up.length uc)/\X.cell? ⟨B,o+2,ak⟩=au (aj la g.dS.length lc)/\zh X ⟨au ⟨b,off,ak⟩,c,ua,uc,la,lc⟩ g:=by
 obtain⟨gI,hp,_⟩:=h.iw.next;have hv:=hp.pv;obtain⟨u0,c0,v0⟩:=hv.at (j:=0) rfl;obtain⟨u1,c1,v1⟩:=hv.at (j:=1) rfl;obtain⟨u2,c2,v2⟩:=hv.at (j:=2) rfl;have e0:=aV4 (c0.symm.trans h.mem);subst e0;obtain⟨ua,uc,rfl,s1,s2,s3⟩:=WI v1;have k:=v0;obtain⟨_,_,_,e,k1,k2,_⟩:=k
 cases e
 have l:=v2;obtain⟨la,lc,_,rfl,l1,l2,_⟩:=l;exact⟨ua,uc,la,lc,c1,c2,v0,s1,v2,by omega,by omega,by omega,hf⟩
theorem zG {w: aI} {T: List (List UInt8)} (t:List UInt8) (h:eF.ow w (ny T) u f) (hl:T.length<=1000000):∃ a c,u=aj a T.length c/\∀ Y,Same Y (w.alloc (aH #[aN (sv t)] 9)) ->
  ∃ v' w4,(aV5 #[42,42] 42 #[u,aj (au ⟨w.heap.size,0,ak⟩) 1 1]).run aZ8 Y=.ok v' w4/\∃ a' c' f',v'=aj a' (T.length+1) c'/\eF.ow w4 (ny (T++[t])) v' f'/\(∀ b,f' b->f b\/w.heap.size<=b)/\eU f w w4:=by
 obtain⟨i0,hi0,hz0,hz1,hz2⟩:=yh Tryz.info9;have h':=h;obtain⟨a,c,G,rfl,ho,hf⟩:=qI.1 h';refine⟨a,c,rfl,fun Y hY=>?_⟩
 have lQ:=(dX w _).trans (hY.below.mono (dX w _).size);have hlt:=eF.lg h;obtain⟨a',c',w4,fp',k1,k2,k3,k4⟩:=J5 (P:=aZ8) (w:=Y) 42 42 9 i0 _ 1 16 Tryz.underlying42 hi0 hz0 hz1 hz2 rfl (by omega) (eF.gK h lQ) (rP (vs:=[aN (sv t)]).2 ⟨rfl,fun (b:Nat) (h:False)=>h⟩:gq Y (pl [aN (sv t)]) [aN (sv t)] (fun _=>False)) (fun _ _ h=>h) rfl (by intro u hu;simp at hu;rw[hu];rfl) w.heap.size 9 (by rw[hY.heap];exact heap_alloc_new w _) (by unfold ba2;omega) (by omega)
 refine⟨_,w4,k1,a',c',fp',rfl, ?_,fun b hb=>?_,(eU.of_below (f:=f) lQ).trans k3 (fun _ _ h=>h)⟩
 ·have e:ny (T++[t])=.sl 1 (T.length+1) (pl (sO T)++pl [aN (sv t)]):=by simp[ny,sO,pl]
  rw[e];exact k2
 ·rcases k4 b hb with k|k|k
  ·exact .inl k
  ·exact k.elim
  ·exact .inr (by have:=lQ.size;omega)
theorem pO {w: aI} {T: List Int} (t:Int) (h:eF.ow w (gQ T) u f) (hl:T.length<=1000000):∃ a c,u=aj a T.length c/\∀ Y,Same Y (w.alloc (aH #[ah aA t] 2)) ->
  ∃ v' w4,(aV5 #[41,41] 41 #[u,aj (au ⟨w.heap.size,0,ak⟩) 1 1]).run aZ8 Y=.ok v' w4/\∃ a' c' f',v'=aj a' (T.length+1) c'/\eF.ow w4 (gQ (T++[t])) v' f'/\(∀ b,f' b->f b\/w.heap.size<=b)/\eU f w w4:=by
 obtain⟨i0,hi0,hz0,hz1,hz2⟩:=ku Tryz.info2n;have h':=h;obtain⟨a,c,G,rfl,ho,hf⟩:=jv.1 h';refine⟨a,c,rfl,fun Y hY=>?_⟩
 have lQ:=(dX w _).trans (hY.below.mono (dX w _).size);obtain⟨a',c',w4,fp',k1,k2,k3,k4⟩:=J5 (P:=aZ8) (w:=Y) 41 41 2 i0 _ 1 8 dK hi0 hz0 hz1 hz2 rfl (by omega) (eF.gK h lQ) (rP (vs:=[ah aA t]).2 ⟨rfl,fun (b:Nat) (h:False)=>h⟩:gq Y (pl [ah aA t]) [ah aA t] (fun _=>False)) (fun _ _ h=>h) rfl (by intro u hu;simp at hu;rw[hu];rfl) w.heap.size 2 (by rw[hY.heap];exact heap_alloc_new w _) (by unfold ba2;omega) (by omega)
 refine⟨_,w4,k1,a',c',fp',rfl, ?_,fun b hb=>?_,(eU.of_below (f:=f) lQ).trans k3 (fun _ _ h=>h)⟩
 ·have e:gQ (T++[t])=.sl 1 (T.length+1) (pl (T.map (Value.int aA))++pl [ah aA t]):=by simp[gQ,pl]
  rw[e];exact k2
 ·rcases k4 b hb with k|k|k
  ·exact .inl k
  ·exact k.elim
  ·exact .inr (by have:=lQ.size;omega)
theorem l9 {w: aI} {T: List Int} (h:eF.ow w (gQ T) u f) (hk:k<T.length):∃ g o c,u=aj (au ⟨g,o,ak⟩) T.length c/\f g/\w.cell? ⟨g,o+k,ak⟩=au (ah aA (el T k))/\w.frozen? ⟨g,o+k,ak⟩=aC/\∀ (y:Int),eF.ow (w.setCell ⟨g,o+k,ak⟩ (ah aA y)) (gQ (T.set k y)) u f/\eU f w (w.setCell ⟨g,o+k,ak⟩ (ah aA y)):=by
 obtain⟨a,c,G,rfl,ho,hf⟩:=jv.1 h;rcases ho with ⟨h0,_⟩|⟨g,off,rfl,hs,rfl⟩
 ·omega
 have hc:w.cell? ⟨g,off+k,ak⟩=au (ah aA (el T k)):=by
  rw[hs.cell k (by omega)]
  simp[el,hk]
 refine⟨g,off,c,rfl,(hf g).2 rfl,hc,hs.free k (by have:=hs.le;omega),fun y=>⟨?_,(eU.set w g (off+k) _).mono (fun b _ hb=>(hf b).2 (by rw[hb]))⟩⟩
 refine jv.2 ⟨au ⟨g,off,ak⟩,c,au g,by rw[aV3],.inr ⟨g,off,rfl, ?_,rfl⟩,hf⟩
 have:=J3 hs (j:=k) (by omega) (ah aA y)
 rw[aV3,List.map_set];exact this
theorem Q9 {w: aI} {T: List Bool} (h:eF.ow w (vX T) u f) (hk:k<T.length):∃ g o c,u=aj (au ⟨g,o,ak⟩) T.length c/\f g/\w.cell? ⟨g,o+k,ak⟩=au (aF (T.getD k aC))/\w.frozen? ⟨g,o+k,ak⟩=aC/\∀ (y:Bool),eF.ow (w.setCell ⟨g,o+k,ak⟩ (aF y)) (vX (T.set k y)) u f/\eU f w (w.setCell ⟨g,o+k,ak⟩ (aF y)):=by
 obtain⟨a,c,G,rfl,ho,hf⟩:=Je.1 h;rcases ho with ⟨h0,_⟩|⟨g,off,rfl,hs,rfl⟩
 ·omega
 have hc:w.cell? ⟨g,off+k,ak⟩=au (aF (T.getD k aC)):=by
  rw[hs.cell k (by omega)]
  simp[ba0,hk]
 refine⟨g,off,c,rfl,(hf g).2 rfl,hc,hs.free k (by have:=hs.le;omega),fun y=>⟨?_,(eU.set w g (off+k) _).mono (fun b _ hb=>(hf b).2 (by rw[hb]))⟩⟩
 refine Je.2 ⟨au ⟨g,off,ak⟩,c,au g,by rw[aV3],.inr ⟨g,off,rfl, ?_,rfl⟩,hf⟩
 have:=J3 hs (j:=k) (by omega) (aF y)
 rw[aV3,List.map_set];exact this
theorem Gw.bit {w X: aI} {o: Nat} {g: Gr} {fp: Fp} {b c: Nat} (h:Gw w X B o g fp b off c) (hk:k<g.up.length):∃ ub uo uc,X.cell? ⟨B,o+1,ak⟩=au (aj (au ⟨ub,uo,ak⟩) g.up.length uc)/\X.cell? ⟨ub,uo+k,ak⟩=au (aF (nM g k))/\X.frozen? ⟨ub,uo+k,ak⟩=aC /\
  ∀ y:Bool,Gw w (X.setCell ⟨ub,uo+k,ak⟩ (aF y)) B o { g with up:=g.up.set k y } fp b off c:=by
 obtain⟨gI,hp,hf1,hgo⟩:=h.iw.next;obtain⟨u,f,h1,_,h2,h3,h4,h5⟩:=hp.at (j:=1) rfl;obtain⟨ub,uo,uc,rfl,k1,k2,k3,k4⟩:=Q9 h2 hk;refine⟨ub,uo,uc,h1,k2,k3,fun y=>⟨?_, ?_⟩⟩
 ·exact hgo _ (fK { g with up:=g.up.set k y }) rfl ((h5 _ (vX (g.up.set k y)) (aj (au ⟨ub,uo,ak⟩) g.up.length uc) f (k4 y).2 (k4 y).1 (fun b hb=>.inl hb)).2.2.2 rfl)
 ·exact (bT ((k4 y).2.block B hp.lt h4)).trans h.mem
def eF.one:eF->Prop
 | .v x=>x.oneCell'=aB
 | .sl _ _ _=>True
theorem rH {w:aI}:∀ {cs:List eF} {us:List aJ} {f:Fp},gq w cs us f->(∀ c∈cs,c.one)->∀ u∈us,u.oneCell'=aB
 | [],us,f,h,_,u,hu=>by
  obtain⟨rfl,_⟩:=h
  cases hu
 | c::cs,us,f,h,h1,u,hu=>by
  obtain⟨u0,us',f1,f2,rfl,h2,h3,_⟩:=h;rcases aX5.1 hu with e|e
  ·subst e
   have:=h1 c dD
   cases c with
   | v x =>
    obtain⟨rfl,_⟩:=h2;exact this
   | sl s n cs =>
    obtain⟨a,c,us,G,f,rfl,_⟩:=h2
    rfl
  ·exact rH h3 (fun c hc=>h1 c (bV _ hc)) u e
theorem ao9 (r:Rw):∀ c∈jr r,c.one:=by
 intro c hc;simp only[jr,aX5,aU9,or_false] at hc;rcases hc with h|h|h|h|h|h|h|h<;>subst h<;>first|rfl|trivial
theorem Sl (m:Mb):∀ c∈kC m,c.one:=by
 intro c hc;simp only[kC,aX5,aU9,or_false] at hc;rcases hc with h|h|h|h|h<;>subst h<;>first|rfl|trivial
theorem xK (x:Ml):∀ c∈jU x,c.one:=by
 intro c hc;simp only[jU,aX5] at hc;rcases hc with h|h|h
 ·subst h;rfl
 ·subst h;rfl
 ·exact ao9 _ c h
theorem OJ {F: α->List eF} (hF:∀ x,∀ c∈F x,c.one) (L:List α):∀ c∈L.flatMap F,c.one:=by
 intro c hc;obtain⟨x,_,h⟩:=List.mem_flatMap.1 hc;exact hF x c h
theorem Kr {F: α->List eF} (hF:∀ x,(F x).length=s) (hF1:∀ x,∀ c∈F x,c.one) {w: aI} (t ty e:TypeId) (z:aJ) (bytes:Nat) (ht:P.underlying t=au (.slice e)) (hi:(P.info? e).map (fun i=>(i.zero,i.size,i.bytes))=au (au z,s,bytes)) (hzs:z.cells.size=s) (hsz:0<s)
  {a:Option ba5} {c:Nat} {L M:List α} {fp fd:Fp} (hO:eF.ow w (iF s F L) (aj a L.length c) fp) {vals:List aJ} (hd:gq w (M.flatMap F) vals fd) (hdis:∀ b,fp b->¬ fd b)
  (x:Option ba5) (cx:Nat) (hnews:M.length=0\/∃ ad,x=au ad/\∀ j u,vals[j]?=au u->w.cell? (ad.add j)=au u) (h63:L.length+M.length<=ba2) (hbytes:(L.length+M.length)*bytes<=140737488355328) :
  ∃ a' c' w' fp',(aV5 #[t,t] ty #[aj a L.length c,aj x M.length cx]).run P w=.ok (aj a' (L.length+M.length) c') w'/\eF.ow w' (iF s F (L++M)) (aj a' (L.length+M.length) c') fp'/\eU fp w w'/\∀ b,fp' b->fp b\/fd b\/b=w.heap.size:=by
 obtain⟨i,hi0,hz,hs,hb⟩:=sF hi;obtain⟨a0,c0,us,G,f,e0,ho,hcs,hn,hf⟩:=hO
 cases e0
 have hl:vals.length=M.length*s:=by rw[jI hd,sV hF]
 obtain⟨a',c',G',w',hr,ho',hg,hat⟩:=nU (P:=P) w t ty e i z s bytes ht hi0 hz hs hb hzs hsz a L.length c us G ho x M.length cx vals hl hnews (rH hd (OJ hF1 M)) h63 hbytes;refine⟨a',c',w',fun b=>G'=au b\/f b\/fd b,hr, ?_,(eU.l7 hg).mono (fun b _ hb=>(hf b).2 (.inl hb)),fun b hb=>?_⟩
 ·have:=Gm hcs hd hn (fun b hb=>hdis b ((hf b).2 (.inl hb))) (fun b hb=>hdis b ((hf b).2 (.inr hb))) ho' hg hat
  unfold iF;rw[dh,dB];exact this
 ·rcases hb with hb|hb|hb
  ·rcases hat with h|h
   ·exact .inl ((hf b).2 (.inl (h ▸ hb)))
   ·rw[h] at hb;cases hb;exact .inr (.inr rfl)
  ·exact .inl ((hf b).2 (.inr hb))
  ·exact .inr (.inl hb)
theorem Kt {α: Type} {F: α->List eF} (hF:∀ x,(F x).length=s) {w: aI} {L: List α} {fp: Fp} (h:eF.ow w (iF s F L) u fp) {x: α} (hk:L[k]?=au x) :
  ∃ g off c u1 u2 u3 f1 f2 f3,u=aj (au ⟨g,off,ak⟩) L.length c/\fp g/\L.length<=c/\c<=ba2/\(∀ b,f1 b->fp b/\b≠g)/\(∀ b,f2 b->fp b/\b≠g)/\(∀ b,f3 b->fp b/\b≠g) /\
   gq w ((L.take k).flatMap F) u1 f1/\gq w (F x) u2 f2/\gq w ((L.drop (k+1)).flatMap F) u3 f3/\(∀ b,f1 b->¬ f2 b)/\(∀ b,f1 b->¬ f3 b)/\(∀ b,f2 b->¬ f3 b) /\
   (∀ j y,u1[j]?=au y->w.cell? ⟨g,off+j,ak⟩=au y)/\(∀ j y,u2[j]?=au y->w.cell? ⟨g,off+k*s+j,ak⟩=au y)/\(∀ j y,u3[j]?=au y->w.cell? ⟨g,off+(k+1)*s+j,ak⟩=au y):=by
 have hkl:k<L.length:=by
  rcases aY6 k L.length with h|h
  ·exact h
  ·rw[bK h] at hk;cases hk
 obtain⟨a,c,us,G,f,rfl,ho,hcs,hn,hf⟩:=h;have hle:=ho.le;have WJ:=ho.len
 have e1:L=L.take k++([x]++L.drop (k+1)):=by
  have hx:L[k]=x:=by rw[bC hkl] at hk;exact aV4 hk
  rw[<- hx,List.singleton_append,List.getElem_cons_drop,bQ]
 have e2:L.flatMap F=(L.take k).flatMap F++(F x++(L.drop (k+1)).flatMap F):=by
  conv=>lhs;rw[e1]
  rw[dh,dh,List.flatMap_singleton]
 rw[e2] at hcs;obtain⟨u1,u23,f1,f23,rfl,l1,Wy,d1,i1⟩:=mO hcs;obtain⟨u2,u3,f2,f3,rfl,l2,l3,d2,i2⟩:=mO Wy;have n1:u1.length=k*s:=by rw[jI l1,sV hF,aU5];congr 1;omega
 have n2:u2.length=s:=by rw[jI l2,hF]
 have n3:u3.length=(L.length-(k+1))*s:=by rw[jI l3,sV hF,aU8]
 rcases ho with ⟨h0,_⟩|⟨g,off,rfl,hs,rfl⟩
 ·omega
 have hg:fp g:=(hf g).2 (.inl rfl);have Ae:¬ f g:=hn g rfl
 have cell:∀ j y,(u1++(u2++u3))[j]?=au y->w.cell? ⟨g,off+j,ak⟩=au y:=fun j y hy=>by
  have hj:j<(u1++(u2++u3)).length:=by
   rcases aY6 j (u1++(u2++u3)).length with h|h
   ·exact h
   ·rw[bK h] at hy;cases hy
  rw[hs.cell j (by omega)]
  exact hy
 have s1:∀ b,f1 b->f b:=fun b hb=>(i1 b).2 (.inl hb)
 have s2:∀ b,f2 b->f b:=fun b hb=>(i1 b).2 (.inr ((i2 b).2 (.inl hb)))
 have s3:∀ b,f3 b->f b:=fun b hb=>(i1 b).2 (.inr ((i2 b).2 (.inr hb)))
 refine⟨g,off,c,u1,u2,u3,f1,f2,f3,rfl,hg,hle.1,hle.2,fun b hb=>⟨(hf b).2 (.inr (s1 b hb)),fun e=>Ae (e ▸ s1 b hb)⟩,fun b hb=>⟨(hf b).2 (.inr (s2 b hb)),fun e=>Ae (e ▸ s2 b hb)⟩,fun b hb=>⟨(hf b).2 (.inr (s3 b hb)),fun e=>Ae (e ▸ s3 b hb)⟩,l1,l2,l3,fun b hb h2=>d1 b hb ((i2 b).2 (.inl h2)),fun b hb h2=>d1 b hb ((i2 b).2 (.inr h2)),fun b hb h2=>d2 b hb h2,fun j y hy=>?_,fun j y hy=>?_,fun j y hy=>?_⟩
 ·refine cell j y ?_
  have hj:j<u1.length:=by
   rcases aY6 j u1.length with h|h
   ·exact h
   ·rw[bK h] at hy;cases hy
  rw[aY hj];exact hy
 ·rw[aX9]
  refine cell _ y ?_
  have hj:j<u2.length:=by
   rcases aY6 j u2.length with h|h
   ·exact h
   ·rw[bK h] at hy;cases hy
  rw[aW (by omega),aY (by omega),n1,Nat.add_sub_cancel_left]
  exact hy
 ·rw[aX9]
  refine cell _ y ?_;have e:(k+1)*s=k*s+s:=by rw[aZ4,Nat.one_mul]
  rw[aW (by omega),aW (by omega),n1,n2,e,show k*s+s+j-k*s-s=j by omega]
  exact hy
theorem iO.atR {w: aI} {o: Nat} {cs: List eF} {fp: Fp} (h:iO w B o cs fp) {c: eF} (hj:cs[j]?=au c):∃ u f,w.cell? ⟨B,o+j,ak⟩=au u/\w.frozen? ⟨B,o+j,ak⟩=aC/\eF.ow w c u f/\(∀ b,f b->fp b)/\¬ f B/\(∀ (i:Nat) (ci:eF),i≠j->cs[i]?=au ci->∃ ui fi,w.cell? ⟨B,o+i,ak⟩=au ui/\eF.ow w ci ui fi/\∀ b,fi b->fp b/\¬ f b) /\
  ∀ (w1:aI) (c':eF) (u':aJ) (f':Fp),eU f w w1->eF.ow w1 c' u' f'->(∀ b,f' b->f b\/w.heap.size<=b)->w1.cell? ⟨B,o+j,ak⟩=au u/\w1.frozen? ⟨B,o+j,ak⟩=aC/\fH w (w1.setCell ⟨B,o+j,ak⟩ u') B o (cs.set j c') fp/\(u'=u->fH w w1 B o (cs.set j c') fp):=by
 obtain⟨vs,h1,h2,h3⟩:=h;have hlen:=jI h2
 have hjl:j<cs.length:=by
  rcases aY6 j cs.length with h|h
  ·exact h
  ·rw[bK h] at hj;cases hj
 obtain⟨u,f,hu,hc,hs,hp⟩:=zT h2 hj;have hfB:¬ f B:=fun k=>h3 (hs B k)
 have hB:=h1.lt
 have hrest:∀ (i:Nat) (ci:eF),i≠j->cs[i]?=au ci->∃ ui fi,w.cell? ⟨B,o+i,ak⟩=au ui/\eF.ow w ci ui fi/\∀ b,fi b->fp b/\¬ f b:=fun i ci hne hci=>by
  have hk:=hp w (.v (aF aC)) (aF aC) (fun _=>False) (aZ0 _) ⟨rfl,fun _ h=>h⟩ (fun _ _ _=>rfl) (fun _ h=>h.elim)
  obtain⟨ui,fi,hui,hoi,hsi,_⟩:=zT hk (j:=i) (c:=ci) (by rw[List.getElem?_set_ne (Ne.symm hne)];exact hci)
  rw[List.getElem?_set_ne (Ne.symm hne)] at hui
  have hil:i<vs.length:=by
   rcases aY6 i vs.length with h|h
   ·exact h
   ·rw[bK h] at hui;cases hui
  exact⟨ui,fi,(h1.cell i hil).trans hui,hoi,fun b hb=>(hsi b hb).elim (fun h=>h.elim) id⟩
 refine⟨u,f,(h1.cell j (by omega)).trans hu,h1.free j (by omega),hc,hs,hfB,hrest,fun w1 c' u' f' hw hc' hf'=>?_⟩
 have e1:=hw.block B hB hfB;have hP1:=h1.of_block e1 hw.size;have hlt:=jh h2;have BK:¬ f' B:=fun k=>by rcases hf' B k with k|k;exact hfB k;omega
 have hc1:w1.cell? ⟨B,o+j,ak⟩=au u:=(hP1.cell j (by omega)).trans hu
 refine⟨hc1,hP1.free j (by omega),⟨⟨fun b=>f' b\/fp b/\¬ f b,⟨vs.set j u',⟨fun k hk=>?_,fun k hk=>?_,by simp[World.setCell];exact hP1.lt⟩, ?_, ?_⟩, ?_⟩,fun k hk=>?_,fun k=>?_, ?_⟩,fun e=>⟨⟨fun b=>f' b\/fp b/\¬ f b,⟨vs,hP1, ?_, ?_⟩, ?_⟩,fun k hk=>bT e1,fun k=>by simp only[World.frozen?,e1],hw.mono (fun b _ hb=>.inl (hs b hb))⟩⟩
 ·by_cases ek:j=k
  ·subst ek
   rw[World.cell?_setCell_same _ _ _ hc1];simp at hk
   simp[hk]
  ·rw[bg _ _ _ _ (by simp[ek]),hP1.cell k (by simpa using hk)]
   simp[ek]
 ·rw[World.frozen?_setCell];exact hP1.free k (by simpa using hk)
 ·have hw2:=eU.set w1 B (o+j) u'
  exact hp _ c' u' f' (Nat.le_trans hw.size hw2.size) (eF.lC hc' hw2 (fun b hb e => BK (e ▸ hb))) (fun b hb hn => (hw2.block b (Nat.lt_of_lt_of_le (hlt b hb) hw.size) (fun e => h3 (e ▸ hb))).trans (hw.block b (hlt b hb) hn)) (fun b hb hb2 => by
   rcases hf' b hb with k|k
   ·exact k
   ·have:=hlt b hb2;omega)
 ·rintro (k|⟨k,_⟩)
  ·exact BK k
  ·exact h3 k
 ·rintro b (k|⟨k,_⟩)
  ·exact (hf' b k).imp (hs b) id
  ·exact .inl k
 ·have hk2:=hk
  rw[aV3] at hk2;rw[bg _ _ _ _ (by simp only[ne_eq,aX6,not_and];omega)]
  exact bT e1
 ·rw[World.frozen?_setCell];simp only[World.frozen?,e1]
 ·exact (hw.mono (fun b _ hb=>Or.inl (hs b hb))).trans (eU.set w1 B (o+j) u') (fun b _ hb=>.inr hb)
 ·subst e
  have := hp w1 c' u' f' hw.size hc' (fun b hb hn => hw.block b (hlt b hb) hn) (fun b hb hb2 => by
   rcases hf' b hb with k|k
   ·exact k
   ·have:=hlt b hb2;omega)
  have e2:vs.set j u'=vs:=by
   apply List.ext_getElem? ;intro i
   by_cases ei:j=i
   ·subst ei;rw[hu,List.getElem?_set_self (by omega)]
   ·simp[ei]
  rwa [e2] at this
 ·rintro (k|⟨k,_⟩)
  ·exact BK k
  ·exact h3 k
 ·rintro b (k|⟨k,_⟩)
  ·exact (hf' b k).imp (hs b) id
  ·exact .inl k
theorem Gw.full {w X: aI} {o: Nat} {g: Gr} {fp: Fp} {b c: Nat} (h:Gw w X B o g fp b off c):∃ u f f0,X.cell? ⟨B,o+2,ak⟩=au u/\X.frozen? ⟨B,o+2,ak⟩=aC/\eF.ow X (iF 10 jU g.dS) u f/\¬ f B/\B<X.heap.size/\(∀ b,f b->b<X.heap.size)/\eF.ow X (iF 5 kC g.mem) (aj (au ⟨b,off,ak⟩) g.mem.length c) f0/\(∀ b,f0 b->¬ f b/\b≠B) /\
  ∀ (X1:aI) (L:List Ml) (u':aJ) (f':Fp),eU f X X1->eF.ow X1 (iF 10 jU L) u' f'->(∀ b,f' b->f b\/X.heap.size<=b)->X1.cell? ⟨B,o+2,ak⟩=au u/\X1.frozen? ⟨B,o+2,ak⟩=aC/\Gw w (X1.setCell ⟨B,o+2,ak⟩ u') B o { g with dS:=L } fp b off c:=by
 obtain⟨gI,hp,hf1,hgo⟩:=h.iw.next;obtain⟨u,f,h1,hz,h2,h3,h4,hr,h5⟩:=hp.atR (j:=2) rfl;obtain⟨u0,f0,r1,r2,r3⟩:=hr 0 (iF 5 kC g.mem) (by omega) rfl
 have e0:=aV4 (r1.symm.trans h.mem);subst e0;refine⟨u,f,f0,h1,hz,h2,h4,hp.lt,fun b hb=>eF.lg h2 b hb,r2,fun b hb=>⟨(r3 b hb).2,fun e=>hp.nB (e ▸ (r3 b hb).1)⟩,fun X1 L u' f' hw ho hn=>?_⟩
 obtain⟨q1,q2,q3,_⟩:=h5 X1 (iF 10 jU L) u' f' hw ho hn;refine⟨q1,q2,hgo _ (fK { g with dS:=L }) rfl q3, ?_⟩
 have e1:X1.cell? ⟨B,o,ak⟩=au (aj (au ⟨b,off,ak⟩) g.mem.length c):=(bT (hw.block B hp.lt h4)).trans h.mem;have e2:=World.cell?_setCells_out B [u'] (o+2) X1 ⟨B,o,ak⟩ (fun _ _=>by first|exact Or.inl (by show o<o+2;omega)|(simp;done))
 exact e2.trans e1
theorem ap0 {X: aI} {b c: Nat} {L: List Mb} {f0: Fp} (h:eF.ow X (iF 5 kC L) (aj (au ⟨b,off,ak⟩) L.length c) f0) {a: Nat} {m: Mb} (ha:L[a]?=au m) (hk:k<m.rows.length) (hf:qK (dO m.rows k)):∃ rb ro rc Ak,f0 b/\f0 rb/\X.cell? ⟨b,off+a*5+2,ak⟩=au (aj (au ⟨rb,ro,ak⟩) m.rows.length rc) /\
  C8 X rb (ro+k*8) (ah aA (dO m.rows k).ver) (aj Ak.ta (dO m.rows k).txt.length Ak.tc) (aj Ak.ga (dO m.rows k).got.length Ak.gc) (aj Ak.sa (dO m.rows k).dQ.length Ak.sc) (aF (dO m.rows k).wed) (aF (dO m.rows k).dV) (ah aA (dO m.rows k).dW) (aj Ak.ma (dO m.rows k).dU.length Ak.mc)/\qJ X Ak (dO m.rows k):=by
 obtain⟨g',off',f,e,h1,h2,h3,_⟩:=yE uF (by omega) h ha
 cases e
 obtain⟨rb,ro,rc,f',r1,_,r3,r4,r5,_⟩:=h3.el (F:=jr) jW (by omega) (j:=2) (L:=m.rows) rfl (iZ hk)
 obtain⟨Ak,c8,rs⟩:=r5.pv.row hf;exact⟨rb,ro,rc,Ak,h1,h2 _ r3,r1,c8,rs⟩
structure OkG (g:Gr) (n:Nat):Prop where
 n5:1<=n/\n<=5
 ml:g.mem.length=n
 ul:g.up.length=n
 pF:g.dS.length<=200
 mem:∀ i,i<n->iP (dY g i) i n
 jZ:∀ x∈g.dS,∃ a b:Nat,x.fr=(a:Int)/\x.to=(b:Int)/\a<n/\b<n/\a≠b/\iR x.row n
theorem xM {g: Gr}:jQ g=aB↔∃ n,OkG g n:=by
 constructor
 ·intro h
  simp only[jQ,qj,aU2,decide_eq_true_eq,aU3,aX1] at h;obtain⟨h1,h2,h3,h4,h5,h6⟩:=h;refine⟨g.mem.length,⟨h1,h2⟩,rfl,h3,h4,fun i hi=>?_,fun x hx=>?_⟩
  ·obtain⟨k1,k2,k3⟩:=h5 i hi
   obtain⟨i',n',M⟩:=lH.1 k1;have e1:i'=i:=by have:=M.hid;omega
   have e2:n'=g.mem.length:=by have:=M.hn;omega
   rw[e1,e2] at M;exact M
  ·obtain⟨k1,k2,k3,k4⟩:=h6 x hx
   obtain⟨a,ea,ha⟩:=sD k1;obtain⟨b,eb,hb⟩:=sD k2;exact⟨a,b,ea,eb,ha,hb,fun e=>k3 (by rw[ea,eb,e]),qh.1 k4⟩
 ·rintro⟨n,G⟩
  have jy:=G.n5;simp only[jQ,qj,aU2,decide_eq_true_eq,aU3,aX1]
  rw[G.ml];refine⟨jy.1,jy.2,G.ul,G.pF,fun i hi=>⟨lH.2 ⟨i,n,G.mem i hi⟩,(G.mem i hi).hid,(G.mem i hi).hn⟩,fun x hx=>?_⟩
  obtain⟨a,b,h1,h2,h3,h4,h5,h6⟩:=G.jZ x hx;exact⟨iQ.2 (by rw[h1];omega),iQ.2 (by rw[h2];omega),by rw[h1,h2];omega,qh.2 h6⟩
theorem MInv.okM {n: Nat} {m: Mb} (M:MInv n h i m) (n5:1<=n/\n<=5):iP m i n:=by
 have ok:=M.ok i M.lt
 obtain⟨s1,s2,s3⟩:m.dR.length<=60/\m.dR.Pairwise (·<·)/\∀ q,q<m.dR.length->(0<=el m.dR q/\el m.dR q<=59)/\(m.done=aC->el m.dR q=(q:Int)):=by
  cases hd:m.done with
  | false =>
   obtain⟨h1,h2⟩:=M.uO hd;exact⟨h1,zF (fun q hq=>(h2 q hq).1),fun q hq=>⟨by rw[(h2 q hq).1];omega,fun _=>(h2 q hq).1⟩⟩
  | true =>
   obtain⟨h1,h2,h3,h4⟩:=M.fin hd
   have hx:∀ x∈m.dR,0<=x/\x<((60:Nat):Int):=fun x hx=>by
    rw[h4] at hx;obtain⟨q,rfl,hq⟩:=OA (ok.dV h1).2.2.2.1 n5.2 hx;have:=n5.2;omega
   have hr:m.dR.Pairwise (·<·):=by rw[h4];exact zC _ _
   exact⟨Bv hr hx,hr,fun q hq=>⟨by have:=hx _ (kM hq);omega,fun h=>(by cases h)⟩⟩
 exact⟨M.hid,M.hn,n5,M.lt,M.len,s1,s2,M.ok,s3,M.oD,M.self,fun hd=>(M.fin hd).1⟩
theorem GInv.qP {n: Nat} {g: Gr} {log: List Pp} (G:GInv n g h log):OkG g n :=
 ⟨G.n5,G.ml,G.ul,G.pF,fun i hi=>(G.mem i hi).okM G.n5,fun x hx=>by obtain⟨a,b,h1,h2,h3,h4,h5,_,h7⟩:=G.jZ x hx;exact⟨a,b,h1,h2,h3,h4,h5,h7⟩⟩
theorem yK.qP {n: Nat} {g: Gr} (h:yK n g):OkG g n:=by obtain⟨_,_,G⟩:=h;exact G.qP
theorem OkG.to {g: Gr} {n: Nat} (G:OkG g n) (hi:i<n) {m': Mb} (M:iP m' i n):OkG (g.set i m') n:=by
 have hil:i<g.mem.length:=by rw[G.ml];exact hi
 refine⟨G.n5,by simp only[Gr.set,aV3];exact G.ml,G.ul,G.pF,fun j hj=>?_,G.jZ⟩
 rw[nX hil]
 split
 ·rename_i e;rw[e];exact M
 ·exact G.mem j hj
theorem OkG.push {g: Gr} {n: Nat} (G:OkG g n) {a b: Nat} (ha:a<n) (hb:b<n) (hab:a≠b):OkG (iT g (a:Int) (b:Int)) n/\(iT g (a:Int) (b:Int)).mem=g.mem/\(iT g (a:Int) (b:Int)).up=g.up:=by
 unfold iT
 split
 ·rename_i hl
  refine⟨⟨G.n5,G.ml,G.ul,by simp only[dB,bP];omega,G.mem,fun x hx=>?_⟩,rfl,rfl⟩
  rcases aW0.1 hx with hx|hx
  ·exact G.jZ x hx
  ·have:=dH.1 hx
   subst this;exact⟨a,b,rfl,rfl,ha,hb,hab,by simp only[dM];exact (G.mem a ha).ok a ha⟩
 ·exact⟨G,rfl,rfl⟩
theorem OkG.all {n:Nat} {a:Nat} (ha:a<n):∀ (L:List Nat) {g:Gr},OkG g n->(∀ x∈L,x<n)->OkG (L.foldl (fun g (i:Nat)=>if (i:Int)=(a:Int) then g else iT g (a:Int) (i:Int)) g) n/\(L.foldl (fun g (i:Nat)=>if (i:Int)=(a:Int) then g else iT g (a:Int) (i:Int)) g).mem=g.mem/\(L.foldl (fun g (i:Nat)=>if (i:Int)=(a:Int) then g else iT g (a:Int) (i:Int)) g).up=g.up
 | [],g,G,_=>⟨G,rfl,rfl⟩
 | i::L,g,G,hL=>by
  rw[List.foldl_cons];by_cases e:(i:Int)=a
  ·rw[if_pos e]
   exact OkG.all ha L G (fun x hx=>hL x (bV _ hx))
  ·rw[if_neg e]
   obtain⟨p1,p2,p3⟩:=G.push ha (hL i dD) (fun e2=>e (by rw[e2]))
   obtain⟨q1,q2,q3⟩:=OkG.all ha L p1 (fun x hx=>hL x (bV _ hx))
   exact⟨q1,q2.trans p2,q3.trans p3⟩
theorem OkG.land {g: Gr} {n: Nat} (G:OkG g n) (hi:i<g.dS.length):OkG (jl g i) n/\(jl g i).up=g.up/\(jl g i).dS=g.dS.take i++g.dS.drop (i+1)/\∀ k,k<n->dY (jl g i) k=dY g k\/∃ r:Rw,∃ a:Nat,iR r n/\dY (jl g i) k=(fG (dY g k) (a:Int) r).1:=by
 have hx:eX g i∈g.dS:=by
  unfold eX;rw[List.getD_eq_getElem?_getD,bC hi];exact List.getElem_mem hi
 obtain⟨a,b,h1,h2,h3,h4,h5,h7⟩:=G.jZ _ hx
 have hsub:∀ x∈g.dS.take i++g.dS.drop (i+1),x∈g.dS:=fun x hx=>by
  rcases aW0.1 hx with hx|hx
  ·exact List.mem_of_mem_take hx
  ·exact List.mem_of_mem_drop hx
 have hlen:(g.dS.take i++g.dS.drop (i+1)).length<=200:=by
  have:=G.pF;simp only[dB,aU5,aU8]
  omega
 unfold jl
 split
 ·rw[h2,h1]
  simp only[dM]
  have hbl:b<g.mem.length:=by rw[G.ml];exact h4
  have key:∀ j,dY { mem:=g.mem.set b (fG (dY g b) (a:Int) (eX g i).row).1,up:=g.up,dS:=g.dS.take i++g.dS.drop (i+1) } j=if j=b then (fG (dY g b) (a:Int) (eX g i).row).1 else dY g j:=fun j=>nX (g:=g) (i:=b) (j:=j) (m:=(fG (dY g b) (a:Int) (eX g i).row).1) hbl
  refine⟨⟨G.n5,by simp only[aV3];exact G.ml,G.ul,hlen,fun j hj=>?_,fun x hx=>G.jZ x (hsub x hx)⟩,trivial,trivial,fun k hk=>?_⟩
  ·rw[key]
   split
   ·rename_i e2;rw[e2];exact (tJ (G.mem b h4) (a:Int) _).1
   ·exact G.mem j hj
  ·rw[key]
   split
   ·rename_i e2;rw[e2];exact .inr ⟨_,a,h7,rfl⟩
   ·exact .inl rfl
 ·exact⟨⟨G.n5,G.ml,G.ul,hlen,G.mem,fun x hx=>G.jZ x (hsub x hx)⟩,rfl,rfl,fun k hk=>.inl rfl⟩
def oW (g:Gr) (k:Nat):Bool:=gZ (dY g k)&&(decide ((dY g k).id=(k:Int))&&decide ((dY g k).n=(g.mem.length:Int)))
theorem WL {g: Gr} (h:¬ 1<=g.mem.length):jQ g=aC:=by simp only[jQ,decide_eq_false h,aW7]
theorem WM {g: Gr} (h:¬ g.mem.length<=5):jQ g=aC:=by simp only[jQ,decide_eq_false h,aW7,aW6]
theorem WO {g: Gr} (h:¬ g.up.length=g.mem.length):jQ g=aC:=by simp only[jQ,decide_eq_false h,aW7,aW6]
theorem WQ {g: Gr} (h:¬ g.dS.length<=200):jQ g=aC:=by simp only[jQ,decide_eq_false h,aW7,aW6]
theorem WR {g: Gr} (hk:k<g.mem.length) (h:oW g k=aC):jQ g=aC:=by
 have:(aZ6 g.mem.length).all (fun i=>gZ (dY g i)&&(decide ((dY g i).id=(i:Int))&&decide ((dY g i).n=(g.mem.length:Int))))=aC:=by
  rw[dN];exact⟨k,aX1.2 hk,by rw[show (gZ (dY g k)&&(decide ((dY g k).id=(k:Int))&&decide ((dY g k).n=(g.mem.length:Int))))=oW g k from rfl,h];simp⟩
 simp only[jQ,this,aW7,aW6]
theorem WS {g: Gr} (hk:k<g.dS.length) (h:qj (eX g k) (g.mem.length:Int)=aC):jQ g=aC:=by
 have:g.dS.all (fun x=>qj x (g.mem.length:Int))=aC:=by
  rw[dN];exact⟨eX g k,bW (lI hk),by simp[h]⟩
 simp only[jQ,this,aW7,aW6]
theorem OL {g: Gr} (h1:1<=g.mem.length) (h2:g.mem.length<=5) (h3:g.up.length=g.mem.length) (h4:g.dS.length<=200) (h5:∀ k,k<g.mem.length->oW g k=aB) (h6:∀ k,k<g.dS.length->qj (eX g k) (g.mem.length:Int)=aB):jQ g=aB:=by
 have e5:(aZ6 g.mem.length).all (fun i=>gZ (dY g i)&&(decide ((dY g i).id=(i:Int))&&decide ((dY g i).n=(g.mem.length:Int))))=aB:=by
  rw[aU3];intro k hk;exact h5 k (aX1.1 hk)
 have e6:g.dS.all (fun x=>qj x (g.mem.length:Int))=aB:=by
  rw[aU3];intro x hx;obtain⟨j,hj,rfl⟩:=bU.1 hx;have:=h6 j hj;simpa[eX,ba0,hj] using this
 simp only[jQ,h1,h2,h3,h4,e5,e6,decide_true,aX7]
theorem Bx.g3 {w: aI} (h:Bx w B T #[x0,x1,x2]):w.cell? ⟨B,0,ak⟩=au x0/\w.cell? ⟨B,1,ak⟩=au x1/\w.cell? ⟨B,2,ak⟩=au x2 :=
 ⟨h.at 0 rfl,h.at 1 rfl,h.at 2 rfl⟩
theorem Bx.r10 {w: aI} {x5 x6 x7 x8 x9: aJ} (h:Bx w B T #[x0,x1,x2,x3,x4,x5,x6,x7,x8,x9]):(w.cell? ⟨B,0,ak⟩=au x0/\w.cell? ⟨B,1,ak⟩=au x1)/\(w.cell? ⟨B,2,ak⟩=au x2/\w.cell? ⟨B,3,ak⟩=au x3/\w.cell? ⟨B,4,ak⟩=au x4/\w.cell? ⟨B,5,ak⟩=au x5)/\w.cell? ⟨B,6,ak⟩=au x6/\w.cell? ⟨B,7,ak⟩=au x7/\w.cell? ⟨B,8,ak⟩=au x8/\w.cell? ⟨B,9,ak⟩=au x9 :=
 ⟨⟨h.at 0 rfl,h.at 1 rfl⟩,⟨h.at 2 rfl,h.at 3 rfl,h.at 4 rfl,h.at 5 rfl⟩,h.at 6 rfl,h.at 7 rfl,h.at 8 rfl,h.at 9 rfl⟩
theorem ZP (A:Ga) (g:Gr) (w:aI) (hv:zh w A g) :
  ba3 aZ8 37 #[jc A g] w fun e w'=>e=aK (aF (jQ g))/\Below w.heap.size w w':=by
 have hB0:=dX w (aH (jH A g) 28);have hx:=Bx.new w 28 (jH A g);have h0:=hv.below hB0;generalize hW:w.alloc (aH (jH A g) 28)=W at *;obtain⟨mem,up,dS⟩:=g;obtain⟨ma,mc,ua,uc,la,lc⟩:=A;have hw0:w.alloc (aH #[aj ma mem.length mc,aj ua up.length uc,aj la dS.length lc] 28)=W:=hW;obtain⟨c0,c1,c2⟩:=Bx.g3 hx;have HX:=dP hx;have HV:=dP h0;have lm:=h0.lm;have lu:=h0.lu;have ll:=h0.ll;simp only at lm lu ll c0 c1 c2
 unfold ba2 at lm lu ll;have HB0:=dP hB0;unfold jc jH;clear hv hx hW hB0 h0;simp only
 by_cases h1:1<=mem.length;rotate_left
 ·have gn:(mem.length:Int)<1:=by omega
  have HZ:aG (jQ ⟨mem,up,dS⟩=aC):=WL (g:=⟨mem,up,dS⟩) h1;go_enter Tryz.func37,Tryz.ntmps37
  go_wp2;go_ret
  exact⟨dZ (by rw[HZ.out]),HB0.out⟩
 have g1:¬ ((mem.length:Int)<1):=by omega
 by_cases h2:mem.length<=5;rotate_left
 ·have gn:(5:Int)<mem.length:=by omega
  have HZ:aG (jQ ⟨mem,up,dS⟩=aC):=WM (g:=⟨mem,up,dS⟩) h2;go_enter Tryz.func37,Tryz.ntmps37
  go_wp2;go_ret
  exact⟨dZ (by rw[HZ.out]),HB0.out⟩
 have g2:¬ ((5:Int)<mem.length):=by omega
 by_cases h3:up.length=mem.length;rotate_left
 ·have gn:((up.length:Int) != (mem.length:Int))=aB:=by simp;omega
  have HZ:aG (jQ ⟨mem,up,dS⟩=aC):=WO (g:=⟨mem,up,dS⟩) h3;clear h3;go_enter Tryz.func37,Tryz.ntmps37
  go_wp2;go_ret
  exact⟨dZ (by rw[HZ.out]),HB0.out⟩
 have g3:((up.length:Int) != (mem.length:Int))=aC:=by simp;omega
 have Lu:=dP h3;clear h3;by_cases h4:dS.length<=200;rotate_left
 ·have gn:(200:Int)<dS.length:=by omega
  have HZ:aG (jQ ⟨mem,up,dS⟩=aC):=WQ (g:=⟨mem,up,dS⟩) h4;go_enter Tryz.func37,Tryz.ntmps37
  go_wp2;go_ret
  exact⟨dZ (by rw[HZ.out]),HB0.out⟩
 have g4:¬ ((200:Int)<dS.length):=by omega
 go_enter Tryz.func37,Tryz.ntmps37
 go_wp2;clear hw0 g1 g2 g3 g4 c0 c1 c2
 go_loopw [4] (fun i wr=>∃ k:Nat,k<=mem.length/\i=ah aA k/\(∀ j,j<k->oW ⟨mem,up,dS⟩ j=aB)/\Below W.heap.size W wr) (fun i _=>mem.length-(ba4 i).toNat)
 case atStart=>exact⟨0,aZ1 _,rfl,fun j hj=>by omega,aZ5 _ _⟩
 case round =>
  obtain⟨k,hk,rfl,hall,hgr⟩:=hrel;have HA:=dP hall;have HG:=dP hgr;obtain⟨c0,c1,c2⟩:=Bx.g3 (HX.out.below hgr);clear hall;by_cases hlt:k<mem.length
  ·have k1:(k:Int)<mem.length:=by omega
   have k0:(0:Int)<=k:=by omega
   obtain⟨b,off,Ak,hma,⟨d0,d1,d2,d3,d4⟩,hms⟩:=(HV.out.below hgr).member (k:=k) hlt;simp only at hma d0 d1 d2 d3 d4
   have HY:aG (oW ⟨mem,up,dS⟩ k=aB->∀ j,j<k+1->oW ⟨mem,up,dS⟩ j=aB):=fun h1 j hj=>by
    rcases bD.1 hj with h|h
    ·exact HA.out j h
    ·rw[h];exact h1
   have jY:aG (oW ⟨mem,up,dS⟩ k=aC->jQ ⟨mem,up,dS⟩=aC):=fun h=>WR (g:=⟨mem,up,dS⟩) hlt h
   have BO:aG (oW ⟨mem,up,dS⟩ k=(gZ (dY ⟨mem,up,dS⟩ k)&&(decide ((dY ⟨mem,up,dS⟩ k).id=(k:Int))&&decide ((dY ⟨mem,up,dS⟩ k).n=(mem.length:Int))))):=rfl;generalize oW ⟨mem,up,dS⟩ k=on at *;generalize dY ⟨mem,up,dS⟩ k=m at *;have hM:∀ X,Below wr.heap.size wr X->ba3 aZ8 73 #[iL Ak m] X fun e w'=>e=aK (aF (gZ m))/\Below X.heap.size X w':=fun X h=>ZL Ak m X (hms.below h)
   have hwn:=dX wr (aH (ig Ak m) 47);have hxn:=Bx.new wr 47 (ig Ak m);subst hma;clear hms hgr;generalize gZ m=ob at *;obtain⟨id,n,rows,dR,done⟩:=m;obtain⟨ra,rc,sa,sc⟩:=Ak;simp only[iL,ig] at d0 d1 d2 d3 d4 hM hwn hxn BO;generalize hWn:wr.alloc (aH #[ah aA id,ah aA n,aj ra rows.length rc,aj sa dR.length sc,aF done] 47)=Wn at *;have hMn:=hM Wn hwn;have tV:=dP (eP HG.out hwn);have HXn:=dP hxn;obtain⟨e0,e1,e2,e3,e4⟩:=Bx.r5 hxn;clear hM hwn hxn;have HB1:aG (∀ X,Below W.heap.size W X->Below w.heap.size w X):=fun X h=>eP HB0.out h
   cases ob with
   | false =>
    have HZ:aG (jQ ⟨mem,up,dS⟩=aC):=jY.out (by rw[BO.out];rfl)
    go_wp2_with (go_at_call 73;refine hMn.mono ?_;rintro e w1 ⟨rfl,hb1⟩;have mP:aG (Below W.heap.size W w1):=(eP tV.out hb1);clear e0 e1 e2 e3 e4;obtain⟨e0,e1,e2,e3,e4⟩:=Bx.r5 (HXn.out.below hb1);clear hb1)
    go_ret
    exact⟨dZ (by rw[HZ.out]),HB1.out _ mP.out⟩
   | true =>
   by_cases hid:id=(k:Int);rotate_left
   ·have gid:(id != (k:Int))=aB:=by simpa using hid
    have HZ:aG (jQ ⟨mem,up,dS⟩=aC):=jY.out (by rw[BO.out,decide_eq_false hid];rfl)
    clear hid;go_wp2_with (go_at_call 73;refine hMn.mono ?_;rintro e w1 ⟨rfl,hb1⟩;have mP:aG (Below W.heap.size W w1):=(eP tV.out hb1);clear e0 e1 e2 e3 e4;obtain⟨e0,e1,e2,e3,e4⟩:=Bx.r5 (HXn.out.below hb1);clear hb1)
    go_ret
    exact⟨dZ (by rw[HZ.out]),HB1.out _ mP.out⟩
   have gid:(id != (k:Int))=aC:=by simpa using hid
   by_cases hn:n=(mem.length:Int);rotate_left
   ·have gn:(n != (mem.length:Int))=aB:=by simpa using hn
    have HZ:aG (jQ ⟨mem,up,dS⟩=aC):=jY.out (by rw[BO.out,decide_eq_false hn];simp)
    clear hn hid;go_wp2_with (go_at_call 73;refine hMn.mono ?_;rintro e w1 ⟨rfl,hb1⟩;have mP:aG (Below W.heap.size W w1):=(eP tV.out hb1);clear e0 e1 e2 e3 e4;obtain⟨e0,e1,e2,e3,e4⟩:=Bx.r5 (HXn.out.below hb1);clear hb1)
    go_ret
    exact⟨dZ (by rw[HZ.out]),HB1.out _ mP.out⟩
   have gn:(n != (mem.length:Int))=aC:=by simpa using hn
   have HN:aG (∀ j,j<k+1->oW ⟨mem,up,dS⟩ j=aB):=HY.out (by rw[BO.out,decide_eq_true hid,decide_eq_true hn];rfl)
   clear hid hn;go_wp2_with (go_at_call 73;refine hMn.mono ?_;rintro e w1 ⟨rfl,hb1⟩;have mP:aG (Below W.heap.size W w1):=(eP tV.out hb1);clear e0 e1 e2 e3 e4;obtain⟨e0,e1,e2,e3,e4⟩:=Bx.r5 (HXn.out.below hb1);clear hb1)
   go_roundw
   case rel=>exact⟨k+1,by omega,by go_num,HN.out,mP.out⟩
   case measure=>simp[ba4];omega
  ·have k1:¬ ((k:Int)<mem.length):=by omega
   have yS:aG (∀ j,j<mem.length->oW ⟨mem,up,dS⟩ j=aB):=fun j hj=>HA.out j (by omega)
   have hwn:wrap64 ((mem.length:Int)-1)=(mem.length:Int)-1:=by unfold wrap64;omega
   clear HA hgr;go_wp2;clear c0 c1 c2;generalize wr=V at *
   go_loopw [6] (fun i wr=>∃ k:Nat,k<=dS.length/\i=ah aA k/\(∀ j,j<k->qj (eX ⟨mem,up,dS⟩ j) (mem.length:Int)=aB)/\Below W.heap.size W wr) (fun i _=>dS.length-(ba4 i).toNat)
   case atStart=>exact⟨0,aZ1 _,rfl,fun j hj=>by omega,HG.out⟩
   case round =>
    obtain⟨q,hq,rfl,hall,hgr⟩:=hrel;have HA:=dP hall;have HG2:=dP hgr;obtain⟨c0,c1,c2⟩:=Bx.g3 (HX.out.below hgr);clear hall;have HB1:aG (∀ X,Below W.heap.size W X->Below w.heap.size w X):=fun X h=>eP HB0.out h
    by_cases hlq:q<dS.length
    ·have q1:(q:Int)<dS.length:=by omega
     have q0:(0:Int)<=q:=by omega
     obtain⟨b,off,Ak,hla,d0,d1,⟨⟨d2,d3,d4,d5⟩,d6,d7,d8,d9⟩,hrs⟩:=(HV.out.below hgr).letter (k:=q) hlq;simp only at hla d0 d1 d2 d3 d4 d5 d6 d7 d8 d9
     rw[aX9] at d3 d4 d5 d6 d7 d8 d9
     have HY:aG (qj (eX ⟨mem,up,dS⟩ q) (mem.length:Int)=aB->∀ j,j<q+1->qj (eX ⟨mem,up,dS⟩ j) (mem.length:Int)=aB):=fun h1 j hj=>by
      rcases bD.1 hj with h|h
      ·exact HA.out j h
      ·rw[h];exact h1
     have jY:aG (qj (eX ⟨mem,up,dS⟩ q) (mem.length:Int)=aC->jQ ⟨mem,up,dS⟩=aC):=fun h=>WS (g:=⟨mem,up,dS⟩) hlq h
     generalize eX ⟨mem,up,dS⟩ q=x at *;obtain⟨fr,tt,r⟩:=x;have BO:aG (qj ⟨fr,tt,r⟩ (mem.length:Int)=(inB fr 0 ((mem.length:Int)-1)&&(inB tt 0 ((mem.length:Int)-1)&&(decide (fr≠tt)&&gu r (mem.length:Int))))):=rfl;generalize qj ⟨fr,tt,r⟩ (mem.length:Int)=on at *;have hR:∀ X,Below wr.heap.size wr X->ba3 aZ8 74 #[iK Ak r,ah aA (mem.length:Int)] X fun e w'=>e=aK (aF (gu r (mem.length:Int)))/\Below X.heap.size X w':=fun X h=>H8 Ak r _ X (hrs.below h)
     have hwN:=dX wr (aH #[ah aA fr,ah aA tt,ah aA r.ver,aj Ak.ta r.txt.length Ak.tc,aj Ak.ga r.got.length Ak.gc,aj Ak.sa r.dQ.length Ak.sc,aF r.wed,aF r.dV,ah aA r.dW,aj Ak.ma r.dU.length Ak.mc] 68);have hxn:=Bx.new wr 68 #[ah aA fr,ah aA tt,ah aA r.ver,aj Ak.ta r.txt.length Ak.tc,aj Ak.ga r.got.length Ak.gc,aj Ak.sa r.dQ.length Ak.sc,aF r.wed,aF r.dV,ah aA r.dW,aj Ak.ma r.dU.length Ak.mc];subst hla;clear hrs hgr;generalize gu r (mem.length:Int)=ob at *;obtain⟨ver,txt,got,dQ,wed,dV,dW,dU⟩:=r;obtain⟨ta,tc,ga,gc,sa,sc,na,nc⟩:=Ak;simp only[iK,fP] at d0 d1 d2 d3 d4 d5 d6 d7 d8 d9 hR hwN hxn;generalize hWn:wr.alloc (aH #[ah aA fr,ah aA tt,ah aA ver,aj ta txt.length tc,aj ga got.length gc,aj sa dQ.length sc,aF wed,aF dV,ah aA dW,aj na dU.length nc] 68)=Wn at *;have ET:=hR Wn hwN;have tV:=dP (eP HG2.out hwN);obtain⟨⟨e0,e1⟩,⟨e2,e3,e4,e5⟩,e6,e7,e8,e9⟩:=Bx.r10 hxn;clear hR hwN hxn
     cases p1:inB fr 0 ((mem.length:Int)-1) with
     | false =>
      have HZ:aG (jQ ⟨mem,up,dS⟩=aC):=jY.out (by rw[BO.out,p1];rfl)
      go_wp2_with (go_at_call 40;refine fV (gG _ _ _ _) ?_)
      go_ret
      exact⟨dZ (by rw[HZ.out]),HB1.out _ tV.out⟩
     | true =>
     cases p2:inB tt 0 ((mem.length:Int)-1) with
     | false =>
      have HZ:aG (jQ ⟨mem,up,dS⟩=aC):=jY.out (by rw[BO.out,p2];simp)
      go_wp2_with (go_at_call 40;refine fV (gG _ _ _ _) ?_)
      go_ret
      exact⟨dZ (by rw[HZ.out]),HB1.out _ tV.out⟩
     | true =>
     by_cases p3:fr=tt
     ·have g3:(fr==tt)=aB:=by simpa using p3
      have HZ:aG (jQ ⟨mem,up,dS⟩=aC):=jY.out (by rw[BO.out,decide_eq_false (fun h=>h p3)];simp)
      clear p3;go_wp2_with (go_at_call 40;refine fV (gG _ _ _ _) ?_)
      go_ret
      exact⟨dZ (by rw[HZ.out]),HB1.out _ tV.out⟩
     have g3:(fr==tt)=aC:=by simpa using p3
     have xw:aG (on=ob):=by rw[aG,BO.out,p1,p2,decide_eq_true p3];rfl
     clear p3
     cases ob with
     | false =>
      have HZ:=dP (jY.out xw.out);go_wp2_with (first|(go_at_call 40;refine fV (gG _ _ _ _) ?_)|(go_at_call 74;refine ET.mono ?_;rintro e w1 ⟨rfl,hb1⟩;have mP:aG (Below W.heap.size W w1):=(eP tV.out hb1);clear hb1))
      go_ret
      exact⟨dZ (by rw[HZ.out]),HB1.out _ mP.out⟩
     | true =>
      have HN:=dP (HY.out xw.out);go_wp2_with (first|(go_at_call 40;refine fV (gG _ _ _ _) ?_)|(go_at_call 74;refine ET.mono ?_;rintro e w1 ⟨rfl,hb1⟩;have mP:aG (Below W.heap.size W w1):=(eP tV.out hb1);clear hb1))
      go_roundw
      case rel=>exact⟨q+1,by omega,by go_num,HN.out,mP.out⟩
      case measure=>simp[ba4];omega
    ·have q1:¬ ((q:Int)<dS.length):=by omega
     have HZ:aG (jQ ⟨mem,up,dS⟩=aB):=OL (g:=⟨mem,up,dS⟩) h1 h2 Lu.out h4 yS.out (fun j hj=>HA.out j (by simp only at hj;omega))
     go_wp2;go_ret
     exact⟨dZ (by rw[HZ.out]),HB1.out _ HG2.out⟩
end Go.Proofs.YtafimeakbdmkjaaGreat