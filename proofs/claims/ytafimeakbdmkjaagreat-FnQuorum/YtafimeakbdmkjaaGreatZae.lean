/-
  Texts in one.
-/
import Derived.Test.YtafimeakbdmkjaaGreatZad
import Derived.Test.YtafimeakbdmkjaaGreatZab
import Derived.Test.YtafimeakbdmkjaaGreatZac
import Derived.Test.YtafimeakbdmkjaaGreatZaa
import Derived.BigQuiet
import Derived.StillTail
import Derived.OrdersHeld
import Derived.Deep.RegionHeld
import Derived.Deep.Cut
import Derived.Deep.CutRange
namespace Go.Proofs.YtafimeakbdmkjaaGreat
set_option linter.unusedVariables false
set_option linter.unusedSimpArgs false
open Go.RowKit Go.Sort
set_option maxRecDepth 100000
set_option maxHeartbeats 12800000
theorem Ec {n:Nat} (hn:1≤n∧n≤5):dL (gB (n:Int)) n∧gB (n:Int)=⟨0,[],List.replicate n 0,[],false,false,0,[]⟩:=by
 have e:gB (n:Int)=⟨0,[],List.replicate n 0,[],false,false,0,[]⟩:=by rw[gB,if_pos (dP.2 (by omega))];simp
 rw[e];have hg:=(fF (v:=List.replicate n 0) hn (by simp)).2 (fun j hj=>by simp[el,List.getElem?_replicate,hj])
 exact⟨⟨hn,by simp,by simp,fun t ht=>(by cases ht),hg.1,by simp,hg.2,fun x hx=>(by cases hx),by simp[qE],fun h=>(by cases h),fun _=>⟨rfl,rfl⟩⟩,rfl⟩
theorem zx {n:Nat} (hn:1≤n∧n≤5):wF n (dV (n:Int)).1:=by
 obtain⟨ok,e⟩:=Ec hn;have hb:inB (n:Int) 1 5=true:=dP.2 (by omega)
 have hmN:∀ i,i<n→aN (dV (n:Int)).1 i=⟨(i:Int),(n:Int),List.replicate n (gB (n:Int)),[],false⟩:=fun i hi=>by
  rw[dV,if_pos hb];unfold aN;simp only[Int.toNat_natCast]
  rw[List.getD_eq_getElem?_getD,List.getElem?_map,List.getElem?_range hi];simp only[Option.map_some,Option.getD_some]
  rw[iE,if_pos ⟨hb,dP.2 (by omega)⟩]
  simp
 have hrow:∀ j,j<n→ah (List.replicate n (gB (n:Int))) j=gB (n:Int):=fun j hj=>by simp[ah,List.getElem?_replicate,hj]
 refine⟨fun _=>[gB (n:Int)],[],⟨fun j=>List.pairwise_singleton _ _,fun j r hr hrd=>?_,fun j r hr hrd=>?_,trivial⟩,hn, ?_, ?_,fun i hi=>?_, ?_, ?_⟩
 ·rw[List.mem_singleton.1 hr,e] at hrd;cases hrd
 ·rw[List.mem_singleton.1 hr,e] at hrd;cases hrd
 ·rw[dV,if_pos hb];simp
 ·rw[dV,if_pos hb];simp
 ·rw[hmN i hi]
  refine⟨rfl,rfl,hi,by simp,⟨[],by simp only[hrow i hi]⟩,fun j hj=>by simp only[hrow j hj];exact List.mem_singleton.2 rfl,fun j hj=>by simp only[hrow j hj];exact ok,by simp only[hrow i hi];rw[e];simp,fun j hj=>?_, ?_,fun _=>⟨by simp,fun q hq=>by simp at hq⟩,fun h=>by cases h⟩
  ·simp only[hrow i hi,hrow j hj];rw[e];simp[el,List.getElem?_replicate,hj]
  ·simp only[hrow i hi];rw[e];simp[el,List.getElem?_replicate,hi]
 ·rw[dV,if_pos hb];intro x hx;cases hx
 ·rw[dV,if_pos hb];simp
theorem EI {W:List Int} (hp:W.Pairwise (·<·)) (h0:∀ x∈W,0≤x):∀ {m:Nat},(∀ q,q<m→(q:Int)∈W)→m≤W.length∧∀ q,q<m→el W q=(q:Int)
 | 0,_=>⟨Nat.zero_le _,fun q hq=>absurd hq (Nat.not_lt_zero _)⟩
 | m+1,hm=>by
  obtain⟨h1,h2⟩:=EI hp h0 (m:=m) (fun q hq=>hm q (by omega))
  obtain⟨j,hj,he⟩:=List.mem_iff_getElem.1 (hm m (by omega))
  have hej:el W j=(m:Int):=by simp[el,hj,he]
  have hjm:m≤j:=by
   refine Nat.le_of_not_lt fun hlt=>?_
   have:=h2 j hlt;omega
  have hr:=sQ.2 hp
  have hlt:∀ a b,a<b→b<W.length→el W a<el W b:=fun a b hab hb=>by
   have:=List.pairwise_iff_getElem.1 hp a b (by omega) hb hab
   simpa[el,hb,show a<W.length by omega] using this
  refine⟨by omega,fun q hq=>?_⟩
  by_cases c:q<m
  ·exact h2 q c
  ·have eq:q=m:=by omega
   subst eq;by_cases c2:j=q
   ·rw[← c2];rw[c2] at hej ⊢;exact hej
   ·have k1:=hlt q j (by omega) hj
    by_cases c3:q=0
    ·subst c3
     have:=h0 (el W 0) (iF (by omega))
     omega
    ·have k2:=hlt (q-1) q (by omega) (by omega)
     have k3:=h2 (q-1) (by omega)
     omega
theorem JE {T:List Int} {n:Nat} (hl:T.length=n) (hn:n≤5) {x:Int} (hx:x∈dh T 12):∃ q:Nat,x=(q:Int)∧q<12*n:=by
 obtain⟨k,i,h1,h2,h3,h4⟩:=sS.1 hx;rw[hl] at h2 h4;refine⟨n*k+i,by rw[h4];push_cast;rfl, ?_⟩
 have:n*k≤n*11:=Nat.mul_le_mul_left n (by omega)
 omega
theorem Ry:∀ {l:List Int} {a:Int},l.Pairwise (·<·)→(∀ x∈l,a≤x)→∀ q,q<l.length→a+(q:Int)≤el l q
 | x::l,a,h,hx,0,_=>by
  have:=hx x List.mem_cons_self;simpa[el] using this
 | x::l,a,h,hx,q+1,hq=>by
  have h1:=List.pairwise_cons.1 h;have hxa:=hx x List.mem_cons_self;have ih:=Ry (l:=l) (a:=a+1) h1.2 (fun y hy=>by have:=h1.1 y hy;omega) q (by simp at hq;omega)
  have e:el (x::l) (q+1)=el l q:=by simp[el]
  rw[e]
  push_cast
  omega
theorem xE {l:List Int} {k:Nat} (h:l.Pairwise (·<·)) (hx:∀ x∈l,0≤x∧x<(k:Int)):l.length≤k:=by
 refine Classical.byContradiction fun hn=>?_
 have h1:=Ry h (fun x hx2=>(hx x hx2).1) (l.length-1) (by omega)
 have h2:=(hx _ (iF (i:=l.length-1) (xs:=l) (by omega))).2
 omega
theorem Vt {l:List Int} {x:Int} (h:x∈l):∃ q,q<l.length∧el l q=x:=by
 obtain⟨j,hj,rfl⟩:=List.mem_iff_getElem.1 h;exact⟨j,hj,by simp[el,hj]⟩
theorem dO.elem {m:Mb} {i n:Nat} (M:dO m i n) {x:Int} (hx:x∈m.au):0≤x∧x≤59:=by
 obtain⟨q,hq,rfl⟩:=Vt hx;exact (M.sg q hq).1
theorem dO.to {m:Mb} {i n:Nat} (M:dO m i n) {o':Rw} (ok:dL o' n) (self:(i:Int)∉o'.ak) (jW:el o'.got i=(o'.txt.length:Int)) {jy:List Int} {done':Bool}
  (sl:jy.length≤60) (kF:jy.Pairwise (·<·)) (sg:∀ q,q<jy.length→(0≤el jy q∧el jy q≤59)∧(done'=false→el jy q=(q:Int))) (dn:done'=true→o'.aB=true) :
  dO { m with rows:=m.rows.set i o',au:=jy,done:=done' } i n:=by
 have hi:i<m.rows.length:=by rw[M.len];exact M.lt
 have e1:ah (m.rows.set i o') i=o':=by rw[bZ hi,if_pos rfl]
 refine⟨M.hid,M.hn,M.n5,M.lt,by simp only[List.length_set];exact M.len,sl,kF,fun j hj=>?_,sg,by simp only[e1];exact jW,by simp only[e1];exact self,by simp only[e1];exact dn⟩
 simp only[bZ hi]
 split
 ·exact ok
 ·exact M.ok j hj
theorem ZY {id n:Int} (h:(iE id n).2=true):fO (iE id n).1=true:=by
 unfold iE at h ⊢
 split at h
 ·rename_i hc
  rw[if_pos hc];have h1:=dP.1 hc.1;have h2:=dP.1 hc.2;have hid:id=((id.toNat:Nat):Int):=by omega
  have hn:n=((n.toNat:Nat):Int):=by omega
  have hlt:id.toNat<n.toNat:=by omega
  obtain⟨ok,e⟩:=Ec (n:=n.toNat) (by omega)
  rw[← hn] at ok e;have hr:∀ j,j<n.toNat→ah (List.replicate n.toNat (gB n)) j=gB n:=fun j hj=>by simp[ah,List.getElem?_replicate,hj]
  refine je.2 ⟨id.toNat,n.toNat,hid,hn,by omega,hlt,by simp,by simp,List.Pairwise.nil,fun j hj=>?_,fun q hq=>(by simp at hq), ?_, ?_,fun h=>(by cases h)⟩
  ·simp only[hr j hj];exact ok
  ·simp only[hr _ hlt]
   rw[e];simp[el,List.getElem?_replicate,hlt]
  ·simp only[hr _ hlt]
   rw[e];simp
 ·cases h
theorem CV {m:Mb} {i n:Nat} (M:dO m i n) (t:List UInt8):dO (bW m t).1 i n∧((bW m t).2=false→(bW m t).1=m)∧((bW m t).2=true→(ah (bW m t).1.rows i).txt=(ah m.rows i).txt++[t])∧Nx (ah m.rows i) (ah (bW m t).1.rows i)∧(bW m t).1.au=m.au∧(bW m t).1.done=m.done∧(∀ j,j≠i→ah (bW m t).1.rows j=ah m.rows j):=by
 unfold bW
 split
 ·exact⟨M,fun _=>rfl,fun h=>(by cases h),Nx.refl _,rfl,rfl,fun _ _=>rfl⟩
 ·rename_i hn
  simp only[not_or] at hn;obtain⟨h1,h2,h3,h4,h5⟩:=hn;rw[M.own] at h1 h3 h5 ⊢;have hd:m.done=false:=by simpa using h2
  have hw:(ah m.rows i).wed=false:=by simpa using h1
  have ok:=M.ok i M.lt;have hr:=ok.Rq hw;have hgi:=M.jW;have htl:=ok.tl;have hov:=ok.ver;have hi:i<m.rows.length:=by rw[M.len];exact M.lt
  have hlen:i<(ah m.rows i).got.length:=by rw[ok.gl];exact M.lt
  have hx:Nx (ah m.rows i) { ah m.rows i with txt:=(ah m.rows i).txt++[t],got:=(ah m.rows i).got.set i (el (ah m.rows i).got i+1),ver:=(ah m.rows i).ver+1 }:=by
   refine⟨by simp only;omega,List.prefix_append _ _,fun j=>?_,fun x hx=>hx,fun hw2=>(by rw[hw] at hw2;cases hw2),fun hr2=>(by rw[hr] at hr2;cases hr2)⟩
   simp only[wz hlen]
   split
   ·rename_i e;rw[e];omega
   ·exact Int.le_refl _
  simp only[Mb.put,M.i]
  refine⟨?_,fun h=>(by cases h),fun _=>by rw[bZ hi,if_pos rfl],by rw[bZ hi,if_pos rfl];exact hx,trivial,trivial,fun j hj=>by rw[bZ hi,if_neg hj]⟩
  refine M.to (o':={ ah m.rows i with txt:=(ah m.rows i).txt++[t],got:=(ah m.rows i).got.set i (el (ah m.rows i).got i+1),ver:=(ah m.rows i).ver+1 }) (jy:=m.au) (done':=m.done) ?_ M.self ?_ M.sl M.kF M.sg (fun h=>(by rw[hd] at h;cases h))
  ·have hg:∀ j,j<n→0≤el ((ah m.rows i).got.set i (el (ah m.rows i).got i+1)) j∧el ((ah m.rows i).got.set i (el (ah m.rows i).got i+1)) j≤12:=fun j hj=>by
    rw[wz hlen]
    split
    ·omega
    ·exact ok.g j hj
   have hgl:((ah m.rows i).got.set i (el (ah m.rows i).got i+1)).length=n:=by rw[List.length_set];exact ok.gl
   have:=(fF ok.n5 hgl).2 hg;refine⟨ok.n5,by simp only;omega,by simp only[List.length_append,List.length_singleton];omega,fun x hx=>?_,this.1,hgl,this.2,ok.ak,ok.kF,fun h=>(by simp only at h;rw[hr] at h;cases h),fun h=>ok.not hr⟩
   rcases List.mem_append.1 hx with hx|hx
   ·exact ok.ts x hx
   ·have:=List.mem_singleton.1 hx;rw[this];omega
  ·simp only[wz hlen,if_pos,List.length_append,List.length_singleton]
   omega
theorem AX {m:Mb} {i n:Nat} (M:dO m i n) (who:Int):dO (aW m who).1 i n∧((aW m who).2=false→(aW m who).1=m)∧((aW m who).2=true→who∈(ah (aW m who).1.rows i).ak∧(ah (aW m who).1.rows i).wed=true)∧Nx (ah m.rows i) (ah (aW m who).1.rows i)∧(aW m who).1.au=m.au∧(aW m who).1.done=m.done∧(∀ j,j≠i→ah (aW m who).1.rows j=ah m.rows j):=by
 unfold aW
 split
 ·exact⟨M,fun _=>rfl,fun h=>(by cases h),Nx.refl _,rfl,rfl,fun _ _=>rfl⟩
 ·rename_i hn
  simp only[not_or] at hn;obtain⟨h1,h2,h3,h4,h5⟩:=hn;rw[M.own] at h3 h5 ⊢;rw[M.hid] at h2;rw[M.hn] at h1;have h1:=dP.1 (by simpa using h1)
  have hd:m.done=false:=by simpa using h4
  have ok:=M.ok i M.lt;have hov:=ok.ver;have hi:i<m.rows.length:=by rw[M.len];exact M.lt
  have hx:Nx (ah m.rows i) { ah m.rows i with ak:=bT (ah m.rows i).ak who,wed:=true,ver:=(ah m.rows i).ver+1 } :=
   ⟨by simp only;omega,List.prefix_refl _,fun j=>Int.le_refl _,fun x hx=>jS.2 (.inr hx),fun _=>⟨rfl,rfl,rfl⟩,fun hr=>⟨hr,Int.le_refl _,fun _=>rfl⟩⟩
  simp only[Mb.put,M.i]
  refine⟨?_,fun h=>(by cases h),fun _=>by rw[bZ hi,if_pos rfl];exact⟨jS.2 (.inl rfl),rfl⟩,by rw[bZ hi,if_pos rfl];exact hx,trivial,trivial,fun j hj=>by rw[bZ hi,if_neg hj]⟩
  refine M.to (o':={ ah m.rows i with ak:=bT (ah m.rows i).ak who,wed:=true,ver:=(ah m.rows i).ver+1 }) (jy:=m.au) (done':=m.done) ?_ (fun hm=>?_) M.jW M.sl M.kF M.sg (fun h=>(by rw[hd] at h;cases h))
  ·refine⟨ok.n5,by simp only;omega,ok.tl,ok.ts,ok.got,ok.gl,ok.g12,fun x hx=>?_,iK.2 (rC (iK.1 ok.kF)),fun hr=>⟨rfl,(ok.aB hr).2⟩,ok.not⟩
   rcases jS.1 hx with e|hx
   ·rw[e];omega
   ·exact ok.ak x hx
  ·rcases jS.1 hm with e|hx
   ·exact h2 e.symm
   ·exact M.self hx
theorem qQ {m:Mb} {i n:Nat} (M:dO m i n) (fr:Int) (r:Rw):dO (aX m fr r).1 i n∧((aX m fr r).2=false→(aX m fr r).1=m)∧((aX m fr r).2=true→ah (aX m fr r).1.rows fr.toNat=r)∧ah (aX m fr r).1.rows i=ah m.rows i∧(aX m fr r).1.au=m.au∧(aX m fr r).1.done=m.done:=by
 unfold aX
 split
 ·exact⟨M,fun _=>rfl,fun h=>(by cases h),rfl,rfl,rfl⟩
 ·rename_i hn
  simp only[not_or] at hn;obtain⟨h1,h2,h3,h4,h5,h6⟩:=hn;rw[M.hid] at h2;rw[M.hn] at h5 h1;have h1:=dP.1 (by simpa using h1)
  have hne:i≠fr.toNat:=fun e=>h2 (by omega)
  have EH:dL r n:=kG.1 (by simpa using h5)
  have hfl:fr.toNat<m.rows.length:=by rw[M.len];omega
  have e1:ah (m.rows.set fr.toNat r) i=ah m.rows i:=by rw[bZ hfl,if_neg hne]
  refine⟨⟨M.hid,M.hn,M.n5,M.lt,by simp only[List.length_set];exact M.len,M.sl,M.kF,fun j hj=>?_,M.sg,by simp only[e1];exact M.jW,by simp only[e1];exact M.self,by simp only[e1];exact M.dn⟩,fun h=>(by cases h),fun _=>by rw[bZ hfl,if_pos rfl],e1,rfl,rfl⟩
  simp only[bZ hfl]
  split
  ·exact EH
  ·exact M.ok j hj
structure ax2 (m:Mb) (i n:Nat):Prop where
 ok:dO (bJ m) i n
 nx:Nx (ah m.rows i) (ah (bJ m).rows i)
 oth:∀ j,j≠i→ah (bJ m).rows j=ah m.rows j
 sub:∀ x∈m.au,x∈(bJ m).au
 pre:(bJ m).done=false→m.au <+: (bJ m).au
 dn:m.done=true→bJ m=m
 wed:(ah m.rows i).wed=true→(bJ m).done=false→(bJ m).au=m.au
 aA:(bJ m).done=true→∀ x∈(bJ m).au,x∈m.au∨(m.done=false∧x∈dh (ah (bJ m).rows i).aA 12)
theorem Vu {a b:List Int} (ha:∀ q,q<a.length→el a q=(q:Int)) (hb:∀ q,q<b.length→el b q=(q:Int)) (hl:a.length≤b.length):a <+: b:=by
 rw[List.prefix_iff_eq_take];refine List.ext_getElem (by rw[List.length_take];omega) (fun q h1 h2=>?_)
 have e1:=ha q h1;have e2:=hb q (by omega)
 simp only[List.getElem_take]
 have k1:el a q=a[q]:=by simp[el,h1]
 have k2:el b q=b[q]:=by simp[el,show q<b.length by omega]
 rw[← k1,← k2,e1,e2]
theorem stepM {m:Mb} {i n:Nat} (M:dO m i n):ax2 m i n:=by
 by_cases c:m.done=true∨m.own.ver=1000000
 ·have e:bJ m=m:=by rw[bJ,if_pos c]
  refine⟨by rw[e];exact M,by rw[e];exact Nx.refl _,fun j _=>by rw[e],fun x hx=>by rw[e];exact hx,fun _=>by rw[e];exact List.prefix_refl _,fun _=>e,fun _ _=>by rw[e],fun _ x hx=>?_⟩
  rw[e] at hx;exact .inl hx
 ·have hd:m.done=false:=by
   cases e:m.done with
   | false=>rfl
   | true=>exact absurd (.inl e) c
  have hv:(ah m.rows i).ver≠1000000:=fun e=>c (.inr (by rw[M.own];exact e))
  have T:=Vs M hv;have hi:i<m.rows.length:=by rw[M.len];exact M.lt
  have hs0:∀ q,q<m.au.length→el m.au q=(q:Int):=fun q hq=>(M.sg q hq).2 hd
  have e:bJ m={ m with rows:=m.rows.set i (iD m),au:=if gK m=true then gG (dX m) (aV m).aA else dX m,done:=gK m }:=by rw[bJ,if_neg c,M.i]
  have e1:ah (m.rows.set i (iD m)) i=iD m:=by rw[bZ hi,if_pos rfl]
  have hoth:∀ j,j≠i→ah (m.rows.set i (iD m)) j=ah m.rows j:=fun j hj=>by rw[bZ hi,if_neg hj]
  have hl1:=M.sl
  cases hE:gK m with
  | true =>
   have hw1:(aT m).wed=true:=by
    cases h:(aT m).wed with
    | true=>rfl
    | false=>rw[T.dry h] at hE;cases hE
   have hS:=T.al1 hw1
   have hr:(aV m).aB=true:=by
    rw[gK,Bool.and_eq_true] at hE;exact hE.1
   have hrd:=T.lW.aB hr;have e2:bJ m={ m with rows:=m.rows.set i (iD m),au:=gG m.au (aV m).aA,done:=true }:=by rw[e,hE,if_pos rfl,hS]
   have hris:(gG m.au (aV m).aA).Pairwise (·<·):=AV M.kF
   have hel:∀ x∈gG m.au (aV m).aA,0≤x∧x<60:=fun x hx=>by
    rcases oN.1 hx with h|h
    ·have:=M.elem h;omega
    ·obtain⟨q,rfl,hq⟩:=JE hrd.2.2.2.1 M.n5.2 h
     have:=M.n5.2;omega
   have hsl:=xE (k:=60) hris hel;have T':dO { m with rows:=m.rows.set i (iD m),au:=gG m.au (aV m).aA,done:=true } i n:=M.to (o':=iD m) (jy:=gG m.au (aV m).aA) (done':=true) T.ok T.self T.jW hsl hris (fun q hq=>⟨by have:=hel _ (iF hq);omega,fun h=>(by cases h)⟩) (fun _=>by rw[T.aB];exact hr)
   refine⟨by rw[e2];exact T',by rw[e2];simp only[e1];exact T.nx,fun j hj=>by rw[e2];exact hoth j hj,fun x hx=>by rw[e2];exact oN.2 (.inl hx),fun h=>(by rw[e2] at h;cases h),fun h=>(by rw[hd] at h;cases h),fun _ h=>(by rw[e2] at h;cases h),fun _ x hx=>?_⟩
   rw[e2] at hx ⊢;simp only[e1,T.aA]
   rcases oN.1 hx with h|h
   ·exact .inl h
   ·exact .inr ⟨hd,h⟩
  | false =>
   have e2:bJ m={ m with rows:=m.rows.set i (iD m),au:=dX m,done:=false }:=by rw[e,hE,if_neg (by simp)]
   obtain⟨s1,s2,s3⟩:(dX m).length≤60∧(∀ q,q<(dX m).length→el (dX m) q=(q:Int))∧m.au.length≤(dX m).length:=by
    unfold dX
    split
    ·exact⟨M.sl,hs0,Nat.le_refl _⟩
    ·obtain⟨q1,q2,q3,q4⟩:=xw (m.rows.set m.i (bY m)) m.k (60-m.au.length) m.au hs0
     exact⟨by omega,q3,q2⟩
   have hpre:=Vu hs0 s2 s3;have T':dO { m with rows:=m.rows.set i (iD m),au:=dX m,done:=false } i n:=M.to (o':=iD m) (jy:=dX m) (done':=false) T.ok T.self T.jW s1 (vK s2) (fun q hq=>⟨by rw[s2 q hq];omega,fun _=>s2 q hq⟩) (fun h=>(by cases h))
   refine⟨by rw[e2];exact T',by rw[e2];simp only[e1];exact T.nx,fun j hj=>by rw[e2];exact hoth j hj,fun x hx=>by rw[e2];exact hpre.subset hx,fun _=>by rw[e2];exact hpre,fun h=>(by rw[hd] at h;cases h),fun hw _=>?_,fun h=>(by rw[e2] at h;cases h)⟩
   rw[e2];refine T.al1 ?_;have e3:aT m=learn m.rows i (ah m.rows i) (aP n (ah m.rows i).ak):=by rw[aT,M.i,M.k,M.own]
   rw[e3];exact (mO _ _ _ _).wed hw
def Pv (w:World) (B o:Nat) (cs:List aI):Prop:=∃ vs,(∀ j,j<vs.length→w.cell? ⟨B,o+j,none⟩=vs[j]?)∧zO w cs vs
theorem dN.pv {w:World} {B o:Nat} {cs:List aI} {fp:Fp} (h:dN w B o cs fp):Pv w B o cs:=by
 obtain⟨vs,h1,h2,_⟩:=h;exact⟨vs,h1.cell,yG h2⟩
theorem Pv.at {w:World} {B o:Nat} {cs:List aI} (h:Pv w B o cs) {j:Nat} {c:aI} (hj:cs[j]?=some c):∃ u,w.cell? ⟨B,o+j,none⟩=some u∧aI.vw w c u:=by
 obtain⟨vs,h1,h2⟩:=h;obtain⟨u,hu,hv⟩:=Q9 h2 hj;refine⟨u,(h1 j ?_).trans hu,hv⟩;rcases Nat.lt_or_ge j vs.length with h|h
 ·exact h
 ·rw[List.getElem?_eq_none h] at hu;cases hu
theorem AY {w:World}:∀ {cs ds:List aI} {ws:List Value},zO w (cs++ds) ws→∃ us vs,ws=us++vs∧zO w cs us∧zO w ds vs
 | [],ds,ws,h=>⟨[],ws,rfl,rfl,h⟩
 | c::cs,ds,ws,h=>by
  obtain⟨u,us',rfl,h1,h2⟩:=h;obtain⟨us,vs,rfl,h3,h4⟩:=AY h2;exact⟨u::us,vs,rfl,⟨u,us,rfl,h1,h3⟩,h4⟩
theorem JF {α:Type} {F:α→List aI} {s:Nat} (hF:∀ x,(F x).length=s) {w:World} {a:Option Addr} {c:Nat} {L:List α} (h:aI.vw w (dA s F L) (.slice a L.length c)) {k:Nat} {x:α} (hk:L[k]?=some x):∃ g off,a=some ⟨g,off,none⟩∧Pv w g (off+k*s) (F x):=by
 obtain⟨a0,c0,us,e0,h1,h2,h3,h4,h5⟩:=h
 cases e0
 have hkl:k<L.length:=by
  rcases Nat.lt_or_ge k L.length with h|h
  ·exact h
  ·rw[List.getElem?_eq_none h] at hk;cases hk
 rcases h4 with h4|⟨b,off,rfl,hc⟩
 ·omega
 have hks:k*s+s≤L.length*s:=by
  have:(k+1)*s≤L.length*s:=Nat.mul_le_mul_right s hkl;rw[Nat.add_mul,Nat.one_mul] at this;exact this
 have e1:L.flatMap F=(L.flatMap F).take (k*s)++(((L.flatMap F).drop (k*s)).take s++(L.flatMap F).drop (k*s+s)):=by
  rw[← List.drop_drop,List.take_append_drop,List.take_append_drop]
 rw[e1] at h5;obtain⟨u1,u23,rfl,l1,Rz⟩:=AY h5;obtain⟨u2,u3,rfl,l2,l3⟩:=AY Rz;rw[uh hF hk] at l2;have hd:=oG hF L;have n1:u1.length=k*s:=by rw[FV l1,List.length_take];omega
 have n2:u2.length=s:=by rw[FV l2,hF]
 refine⟨b,off,rfl,u2,fun j hj=>?_,l2⟩
 rw[Nat.add_assoc,hc (k*s+j) (by omega),List.getElem?_append_right (by omega),List.getElem?_append_left (by omega),n1]
 congr 1
 omega
def eY (r:Rw):List aI:=[.v (.int .i64 r.ver),lM r.txt,bQ r.got,bQ r.ak,.v (.bool r.wed),.v (.bool r.aB),.v (.int .i64 r.aC),bQ r.aA]
theorem gI (r:Rw):(eY r).length=8:=rfl
def C8 (w:World) (g o:Nat) (x0 x1 x2 x3 x4 x5 x6 x7:Value):Prop:=(w.cell? ⟨g,o,none⟩=some x0∧w.cell? ⟨g,o+1,none⟩=some x1∧w.cell? ⟨g,o+2,none⟩=some x2∧w.cell? ⟨g,o+3,none⟩=some x3)∧w.cell? ⟨g,o+4,none⟩=some x4∧w.cell? ⟨g,o+5,none⟩=some x5∧w.cell? ⟨g,o+6,none⟩=some x6∧w.cell? ⟨g,o+7,none⟩=some x7
theorem Pv.row {w:World} {g o:Nat} {r:Rw} (h:Pv w g o (eY r)) (hf:lV r):∃ A:Ra,C8 w g o (.int .i64 r.ver) (.slice A.ta r.txt.length A.tc) (.slice A.ga r.got.length A.gc) (.slice A.sa r.ak.length A.sc) (.bool r.wed) (.bool r.aB) (.int .i64 r.aC) (.slice A.ma r.aA.length A.mc)∧nJ w A r:=by
 obtain⟨u0,c0,rfl⟩:=h.at (j:=0) rfl;obtain⟨u1,c1,v1⟩:=h.at (j:=1) rfl;obtain⟨u2,c2,v2⟩:=h.at (j:=2) rfl;obtain⟨u3,c3,v3⟩:=h.at (j:=3) rfl;obtain⟨u4,c4,rfl⟩:=h.at (j:=4) rfl;obtain⟨u5,c5,rfl⟩:=h.at (j:=5) rfl;obtain⟨u6,c6,rfl⟩:=h.at (j:=6) rfl;obtain⟨u7,c7,v7⟩:=h.at (j:=7) rfl;obtain⟨ta,tc,rfl,t1,t2,t3⟩:=Rh v1;obtain⟨ga,gc,rfl,g1,g2,g3⟩:=jV v2 hf.1;obtain⟨sa,sc,rfl,s1,s2,s3⟩:=jV v3 hf.2.1;obtain⟨ma,mc,rfl,m1,m2,m3⟩:=jV v7 hf.2.2;exact⟨⟨ta,tc,ga,gc,sa,sc,ma,mc⟩,⟨⟨c0,c1,c2,c3⟩,c4,c5,c6,c7⟩,t1,g1,s1,m1,by omega,by omega,by omega,by omega⟩
structure Ma where
 ra:Option Addr
 rc:Nat
 sa:Option Addr
 sc:Nat
def dZ (A:Ma) (m:Mb):Array Value:=#[.int .i64 m.id,.int .i64 m.n,.slice A.ra m.rows.length A.rc,.slice A.sa m.au.length A.sc,.bool m.done]
def eG (A:Ma) (m:Mb):Value:=.agg (dZ A m)
def fD (m:Mb):List aI:=[dA 8 eY m.rows,bQ m.au]
def fE (A:Ma) (m:Mb):List Value:=[.slice A.ra m.rows.length A.rc,.slice A.sa m.au.length A.sc]
def gW (m:Mb):List aI:=[.v (.int .i64 m.id),.v (.int .i64 m.n),dA 8 eY m.rows,bQ m.au,.v (.bool m.done)]
theorem sU (m:Mb):(gW m).length=5:=rfl
def kH (m:Mb):Prop:=(∀ r∈m.rows,lV r)∧Fits m.au
structure NS (w:World) (A:Ma) (m:Mb):Prop where
 rows:aI.vw w (dA 8 eY m.rows) (.slice A.ra m.rows.length A.rc)
 au:Vec w A.sa m.au.length m.au
 mr:m.rows.length≤maxLen
 ms:m.au.length≤maxLen
 fit:∀ r∈m.rows,lV r
theorem al2 {w:World} {A:Ma} {m:Mb} (h:zO w (fD m) (fE A m)) (hf:kH m):NS w A m:=by
 obtain⟨u1,rD,e1,h1,h2⟩:=h
 cases e1
 obtain⟨u2,uy,e2,h3,_⟩:=h2
 cases e2
 obtain⟨a,c,e,h4,h5,h6⟩:=jV h3 hf.2
 cases e
 have k:=h1;obtain⟨_,_,_,e,k1,k2,_⟩:=k
 cases e
 exact⟨h1,h4,by omega,by omega,hf.1⟩
theorem NS.row {w:World} {A:Ma} {m:Mb} (h:NS w A m) {k:Nat} (hk:k<m.rows.length):∃ g off Ak,A.ra=some ⟨g,off,none⟩∧C8 w g (off+k*8) (.int .i64 (ah m.rows k).ver) (.slice Ak.ta (ah m.rows k).txt.length Ak.tc) (.slice Ak.ga (ah m.rows k).got.length Ak.gc) (.slice Ak.sa (ah m.rows k).ak.length Ak.sc) (.bool (ah m.rows k).wed) (.bool (ah m.rows k).aB) (.int .i64 (ah m.rows k).aC) (.slice Ak.ma (ah m.rows k).aA.length Ak.mc)∧nJ w Ak (ah m.rows k):=by
 have e:m.rows[k]?=some (ah m.rows k):=by simp[ah,List.getD,hk]
 obtain⟨g,off,h1,h2⟩:=JF gI h.rows e;obtain⟨Ak,h3,h4⟩:=h2.row (h.fit _ (List.mem_of_getElem? e));exact⟨g,off,Ak,h1,h3,h4⟩
theorem Bx.r5 {w:World} {B:Nat} {T:TypeId} {x0 x1 x2 x3 x4:Value} (h:Bx w B T #[x0,x1,x2,x3,x4]):w.cell? ⟨B,0,none⟩=some x0∧w.cell? ⟨B,1,none⟩=some x1∧w.cell? ⟨B,2,none⟩=some x2∧w.cell? ⟨B,3,none⟩=some x3∧w.cell? ⟨B,4,none⟩=some x4 :=
 ⟨h.at 0 rfl,h.at 1 rfl,h.at 2 rfl,h.at 3 rfl,h.at 4 rfl⟩
theorem dW {R:List Rw} {k:Nat} (hk:k<R.length):R[k]?=some (ah R k):=by simp[ah,List.getD,hk]
section
variable {P:Program} {ops:Array Oper} {Q:Exit→Act→World→Prop} {md:Region.Mode} {S:World→Prop}
def rP (P:Program) (md:Region.Mode) (ops:Array Oper) (Q:Exit→Act→World→Prop) (S:World→Prop) (z:Nat):Nat→Array Bool→Act→World→Prop
 | 0,listed,a,w=>Region.ready md ops listed=[]∧Q .normal a w
 | fuel+1,listed,a,w =>
  (Region.ready md ops listed=[]→Q .normal a w) ∧
  ∀ i∈Region.ready md ops listed,wpOp P ops Q i (fun a' w'=>(i≠z→S w→S w')∧rP P md ops Q S z fuel (listed.setIfInBounds i true) a' w') a w
theorem EJ {z:Nat}:∀ (fuel:Nat) (listed:Array Bool) (a:Act) (w:World),rP P md ops Q S z fuel listed a w→wpAny P md ops Q fuel listed a w
 | 0,_,_,_,h=>h
 | fuel+1,_,_,_,h=>⟨h.1,fun i hi=>wpOp_mono (fun a' w' h'=>EJ fuel _ a' w' h'.2) (h.2 i hi)⟩
theorem JG {i z:Nat} {oi:Oper} {v:Value} (hi:ops[i]?=some oi) (hsel:∀ (j:Nat) (o:Oper) cs b,ops[j]?=some o→o.op≠.select cs b)
  (hQ:∀ c a w,Q (.panic c) (a.put oi.dst v) w→Q (.panic c) a w) (hz:Region.waitsFor md ops z i=true) (hiz:i≠z) :
  ∀ (fuel:Nat) (listed:Array Bool) (a:Act) (w:World),
   (∀ j oj,ops[j]?=some oj→j≠i→listed.getD j true=false→(∀ e∈oj.after,Region.binds md e=true→e.on≠i)→oi.apart ops oj=true) →
   i∈Region.ready md ops listed→YieldsIf P ops S oi v a→S w →
   rP P md ops Q S z fuel (listed.setIfInBounds i true) (a.put oi.dst v) w→rP P md ops Q S z (fuel+1) listed a w:=by
 intro fuel
 induction fuel with
 | zero =>
  intro listed a w _ hr hy hS H;refine⟨fun h=>(by rw[h] at hr;cases hr),fun j hj=>?_⟩
  by_cases hji:j=i
  ·subst hji;exact hy.wpOp hi hS ⟨fun _ h=>h,H⟩
  ·have:=ready_mono hj hji
   rw[H.1] at this
   cases this
 | succ fuel ih =>
  intro listed a w hfree hr hy hS H;have hun:=(mem_ready.1 hr).1;refine⟨fun h=>(by rw[h] at hr;cases hr),fun j hj=>?_⟩
  by_cases hji:j=i
  ·subst hji;exact hy.wpOp hi hS ⟨fun _ h=>h,H⟩
  ·obtain⟨hjun,oj,hoj,hall⟩:=mem_ready.1 hj
   have hnot:∀ e∈oj.after,Region.binds md e=true→e.on≠i:=fun e he hb heq=>by
    have h3:=hall e he hb;rw[heq,getD_both hun] at h3
    cases h3
   have hjz:j≠z:=fun e=>by
    subst e;obtain⟨o',ho',e,he,hb,hon⟩:=Region.waitsFor_spec hz;have:o'=oj:=Option.some.inj (ho'.symm.trans hoj);subst this;exact hnot e he hb hon
   have h1:=H.2 j (ready_mono hj hji);have h2:=wpOp_putIf hoj (hfree j oj hoj hji hjun hnot) (fun cs b=>hsel i oi cs b hi) (fun cs b=>hsel j oj cs b hoj) hQ hy h1
   have hfree':∀ k ok,ops[k]?=some ok→k≠i→(listed.setIfInBounds j true).getD k true=false →
     (∀ e∈ok.after,Region.binds md e=true→e.on≠i)→oi.apart ops ok=true:=fun k ok hk hki hun hno=>by
    refine hfree k ok hk hki ?_ hno;by_cases hjk:j=k
    ·subst hjk;exact hjun
    ·rw[getD_set_ne true hjk] at hun;exact hun
   refine wpOp_mono (fun a' w' h3=>⟨h3.2.1,ih (listed.setIfInBounds j true) a' w' hfree' (ready_mono hr (Ne.symm hji)) h3.1 (h3.2.1 hjz hS) ?_⟩) h2
   rw[Array.setIfInBounds_comm _ _ hji];exact h3.2.2
theorem Nc {i z:Nat} {oi:Oper} {v:Value} (hi:ops[i]?=some oi) (hsel:∀ (j:Nat) (o:Oper) cs b,ops[j]?=some o→o.op≠.select cs b)
  (hQ:∀ c a w,Q (.panic c) (a.put oi.dst v) w→Q (.panic c) a w) :
  ∀ (fuel:Nat) (listed:Array Bool) (a:Act) (w:World),
   (∀ j oj,ops[j]?=some oj→j≠i→listed.getD j true=false→(∀ e∈oj.after,Region.binds md e=true→e.on≠i)→oi.apart ops oj=true) →
   i∈Region.ready md ops listed→Yields P ops oi v a →
   rP P md ops Q S z fuel (listed.setIfInBounds i true) (a.put oi.dst v) w→rP P md ops Q S z (fuel+1) listed a w:=by
 intro fuel
 induction fuel with
 | zero =>
  intro listed a w _ hr hy H;refine⟨fun h=>(by rw[h] at hr;cases hr),fun j hj=>?_⟩
  by_cases hji:j=i
  ·subst hji;exact hy.wpOp hi ⟨fun _ h=>h,H⟩
  ·have:=ready_mono hj hji
   rw[H.1] at this
   cases this
 | succ fuel ih =>
  intro listed a w hfree hr hy H;have hun:=(mem_ready.1 hr).1;refine⟨fun h=>(by rw[h] at hr;cases hr),fun j hj=>?_⟩
  by_cases hji:j=i
  ·subst hji;exact hy.wpOp hi ⟨fun _ h=>h,H⟩
  ·obtain⟨hjun,oj,hoj,hall⟩:=mem_ready.1 hj
   have hnot:∀ e∈oj.after,Region.binds md e=true→e.on≠i:=fun e he hb heq=>by
    have h3:=hall e he hb;rw[heq,getD_both hun] at h3
    cases h3
   have h1:=H.2 j (ready_mono hj hji);have h2:=wpOp_put hoj (hfree j oj hoj hji hjun hnot) (fun cs b=>hsel i oi cs b hi) (fun cs b=>hsel j oj cs b hoj) hQ hy h1
   have hfree':∀ k ok,ops[k]?=some ok→k≠i→(listed.setIfInBounds j true).getD k true=false →
     (∀ e∈ok.after,Region.binds md e=true→e.on≠i)→oi.apart ops ok=true:=fun k ok hk hki hun hno=>by
    refine hfree k ok hk hki ?_ hno;by_cases hjk:j=k
    ·subst hjk;exact hjun
    ·rw[getD_set_ne true hjk] at hun;exact hun
   refine wpOp_mono (fun a' w' h3=>⟨h3.2.1,ih (listed.setIfInBounds j true) a' w' hfree' (ready_mono hr (Ne.symm hji)) h3.1 ?_⟩) h2
   rw[Array.setIfInBounds_comm _ _ hji];exact h3.2.2
end
section
variable {P:Program} {l:List Oper} {Q:Exit→Act→World→Prop} {S:World→Prop}
def GT (P:Program) (l:List Oper) (Q:Exit→Act→World→Prop) (S:World→Prop) (z fuel:Nat) (listed:Array Bool) (a:Act) (w:World):Prop:=rP P .any l.toArray Q S z fuel listed a w
theorem Vx {id:Nat} {a:Act} {w:World} (z:Nat) (hm:P.follows .mixedOrders=true) (hlen:(l.length==l.length)=true)
  (h:GT P l Q S z l.length (Array.replicate l.length false) a w.drew):(Code.region id l.toArray true).wp P Q a w:=by
 refine wp_region_any hm (EJ (z:=z) (S:=S) _ _ _ _ ?_);unfold GT at h;simpa using h
theorem Z4 {i z:Nat} {oi:Oper} {v:Value} {fuel:Nat} {listed:Array Bool} {a:Act} {w:World} (hi:l[i]?=some oi) (hs:Region.noSelect l.toArray=true)
  (hsk:(Region.waitsFor .any l.toArray z i&&(i != z))=true) (hf:Region.free .any l.toArray listed i=true) (hr:(Region.ready .any l.toArray listed).contains i=true)
  (hQ:∀ c a w,Q (.panic c) (a.put oi.dst v) w→Q (.panic c) a w) (hy:YieldsIf P l.toArray S oi v a) (hS:S w)
  (h:GT P l Q S z fuel (listed.setIfInBounds i true) (a.put oi.dst v) w):GT P l Q S z (fuel+1) listed a w:=by
 simp only[Bool.and_eq_true,bne_iff_ne] at hsk;have hi':l.toArray[i]?=some oi:=by simpa using hi
 exact JG hi' (Region.noSelect_spec hs) hQ hsk.1 hsk.2 fuel listed a w (Region.free_spec hi' hf) (by simpa using hr) hy hS h
theorem Z5 {i z:Nat} {oi:Oper} {v:Value} {fuel:Nat} {listed:Array Bool} {a:Act} {w:World} (hi:l[i]?=some oi) (hs:Region.noSelect l.toArray=true)
  (hf:Region.free .any l.toArray listed i=true) (hr:(Region.ready .any l.toArray listed).contains i=true)
  (hQ:∀ c a w,Q (.panic c) (a.put oi.dst v) w→Q (.panic c) a w) (hy:Yields P l.toArray oi v a)
  (h:GT P l Q S z fuel (listed.setIfInBounds i true) (a.put oi.dst v) w):GT P l Q S z (fuel+1) listed a w:=by
 have hi':l.toArray[i]?=some oi:=by simpa using hi
 exact Nc hi' (Region.noSelect_spec hs) hQ fuel listed a w (Region.free_spec hi' hf) (by simpa using hr) hy h
theorem al3 {i z:Nat} {o:Oper} {fuel:Nat} {listed:Array Bool} {a:Act} {w:World} (hi:l[i]?=some o) (hr:Region.ready .any l.toArray listed=[i]) (hiz:(i != z)=true)
  (h:∀ K':Act→World→Prop,Shut (∀ a w,S w→(S w→GT P l Q S z fuel (listed.setIfInBounds i true) a w)→K' a w)→if Region.wanted o (yielded l.toArray a.tmps)=true then Oper.wp P o a w K' Q else K' (a.put o.dst undef) w):GT P l Q S z (fuel+1) listed a w:=by
 have hi':l.toArray[i]?=some o:=by simpa using hi
 refine⟨fun h0=>(by rw[hr] at h0;cases h0),fun j hj=>?_⟩
 rw[hr] at hj;simp at hj
 subst hj;exact wpOp_step hi' (fun K' hK=>h K' (fun a w hS hW=>hK a w ⟨fun _ _=>hS,hW hS⟩))
theorem Z7 {z:Nat} {o:Oper} {fuel:Nat} {listed:Array Bool} {a:Act} {w:World} (hi:l[z]?=some o) (hr:Region.ready .any l.toArray listed=[z]) (hr2:Region.ready .any l.toArray (listed.setIfInBounds z true)=[])
  (h:∀ K':Act→World→Prop,Shut (∀ a w,Q .normal a w→K' a w)→if Region.wanted o (yielded l.toArray a.tmps)=true then Oper.wp P o a w K' Q else K' (a.put o.dst undef) w):GT P l Q S z (fuel+1) listed a w:=by
 have hi':l.toArray[z]?=some o:=by simpa using hi
 refine⟨fun h0=>(by rw[hr] at h0;cases h0),fun j hj=>?_⟩
 rw[hr] at hj;simp at hj
 subst hj;refine wpOp_step hi' (fun K' hK=>h K' (fun a w hq=>hK a w ⟨fun h=>absurd rfl h, ?_⟩))
 cases fuel with
 | zero=>exact⟨hr2,hq⟩
 | succ f=>exact⟨fun _=>hq,by rw[hr2];simp⟩
end
theorem dw:(∀ (a:Act) (d:Nat) (v:Value), a.put (some d) v={ a with tmps:=a.tmps.setIfInBounds d v })∧(∀ (a:Act) (v:Value), a.put none v=a)∧(∀ (l:List Value) (i:Nat) (v:Value), l.toArray.setIfInBounds i v=(l.set i v).toArray)∧(∀ (x v:Value) (l:List Value), (x::l).set 0 v=v::l)∧(∀ (x v:Value) (l:List Value) (i:Nat), (x::l).set (i+1) v=x::l.set i v):=⟨fun _ _ _=>rfl, fun _ _=>rfl, fun l i v=>List.setIfInBounds_toArray l i v, fun _ _ _=>rfl, fun _ _ _ _=>rfl⟩
section
variable {P:Program} {l:List Oper} {Q:Exit→Act→World→Prop} {S:World→Prop}
theorem jE {id : Nat} {a : Act} {w : World} (z : Nat) (hm : P.follows .mixedOrders = true) (hS : S w.drew)
    (h:S w.drew→GT P l Q S z l.length (Array.replicate l.length false) a w.drew) (hlen:(l.length==l.length)=true:=by kernel_rfl):(Code.region id l.toArray true).wp P Q a w :=
  Vx z hm hlen (h hS)
theorem aY {i z : Nat} {oi : Oper} {v : Value} {fuel : Nat} {listed : Array Bool} {a a' : Act} {w : World} (hi : l[i]? = some oi) (hS : S w)
    (h:GT P l Q S z fuel (listed.setIfInBounds i true) a' w)
    (hy:∀ w, S w→(execOp a.eval oi).run P w=.ok (.value v) w:=by intro X JH; (try dsimp only at JH); (repeat (obtain⟨g, JH⟩:=JH)); go_simp; try with_reducible rfl) (ha:a.put oi.dst v=a':=by (try simp only[dw]); rfl)
    (hs:Region.noSelect l.toArray=true:=by kernel_rfl)
    (hsk:(Region.waitsFor .any l.toArray z i&&(i != z))=true:=by kernel_rfl) (hf:Region.free .any l.toArray listed i=true:=by kernel_rfl) (hr:(Region.ready .any l.toArray listed).contains i=true:=by kernel_rfl)
    (hQ:∀ c a w, Q (.panic c) (a.put oi.dst v) w→Q (.panic c) a w:=by exact fun _ _ _ h=>h) (hw:Region.wanted oi (yielded l.toArray a.tmps)=true:=by rfl):GT P l Q S z (fuel+1) listed a w :=
  Z4 hi hs hsk hf hr hQ (Or.inl ⟨hw, hy⟩) hS (ha ▸ h)
theorem aS {i z : Nat} {oi : Oper} {v : Value} {fuel : Nat} {listed : Array Bool} {a a' : Act} {w : World} (hi : l[i]? = some oi)
    (h:GT P l Q S z fuel (listed.setIfInBounds i true) a' w)
    (hy:∀ w, (execOp a.eval oi).run P w=.ok (.value v) w:=by intro X; go_simp; try with_reducible rfl) (ha:a.put oi.dst v=a':=by (try simp only[dw]); rfl)
    (hs:Region.noSelect l.toArray=true:=by kernel_rfl)
    (hf:Region.free .any l.toArray listed i=true:=by kernel_rfl) (hr:(Region.ready .any l.toArray listed).contains i=true:=by kernel_rfl)
    (hQ:∀ c a w, Q (.panic c) (a.put oi.dst v) w→Q (.panic c) a w:=by exact fun _ _ _ h=>h) (hw:Region.wanted oi (yielded l.toArray a.tmps)=true:=by rfl):GT P l Q S z (fuel+1) listed a w :=
  Z5 hi hs hf hr hQ (Or.inl ⟨hw, hy⟩) (ha ▸ h)
theorem dI {i z : Nat} {o : Oper} {fuel : Nat} {listed : Array Bool} {a : Act} {w : World} (hi : l[i]? = some o)
    (h:∀ K':Act→World→Prop, Shut (∀ a w, S w→(S w→GT P l Q S z fuel (listed.setIfInBounds i true) a w)→K' a w)→if Region.wanted o (yielded l.toArray a.tmps)=true then Oper.wp P o a w K' Q else K' (a.put o.dst undef) w)
    (hr:Region.ready .any l.toArray listed=[i]:=by kernel_rfl) (hiz:(i != z)=true:=by kernel_rfl):GT P l Q S z (fuel+1) listed a w:=al3 hi hr hiz h
theorem lQ {z : Nat} {o : Oper} {fuel : Nat} {listed : Array Bool} {a : Act} {w : World} (hi : l[z]? = some o)
    (h:∀ K':Act→World→Prop, Shut (∀ a w, Q .normal a w→K' a w)→if Region.wanted o (yielded l.toArray a.tmps)=true then Oper.wp P o a w K' Q else K' (a.put o.dst undef) w)
    (hr:Region.ready .any l.toArray listed=[z]:=by kernel_rfl) (hr2:Region.ready .any l.toArray (listed.setIfInBounds z true)=[]:=by kernel_rfl):GT P l Q S z (fuel+1) listed a w:=Z7 hi hr hr2 h
end
section
variable {P:Program} {l:List Oper} {Q:Exit→Act→World→Prop} {S:World→Prop}
theorem RF {i j z:Nat} {o o':Oper} {fuel:Nat} {listed:Array Bool} {a:Act} {w:World} (hi:l[i]?=some o) (hj:l[j]?=some o') (hr:Region.ready .any l.toArray listed=[i,j]) (hiz:(i != z&&j != z)=true)
  (h:∀ K':Act→World→Prop,Shut (∀ a w,S w→(S w→GT P l Q S z fuel (listed.setIfInBounds i true) a w)→K' a w)→if Region.wanted o (yielded l.toArray a.tmps)=true then Oper.wp P o a w K' Q else K' (a.put o.dst undef) w)
  (h':∀ K':Act→World→Prop,Shut (∀ a w,S w→(S w→GT P l Q S z fuel (listed.setIfInBounds j true) a w)→K' a w)→if Region.wanted o' (yielded l.toArray a.tmps)=true then Oper.wp P o' a w K' Q else K' (a.put o'.dst undef) w):GT P l Q S z (fuel+1) listed a w:=by
 have hi':l.toArray[i]?=some o:=by simpa using hi
 have hj':l.toArray[j]?=some o':=by simpa using hj
 refine⟨fun h0=>(by rw[hr] at h0;cases h0),fun k hk=>?_⟩
 rw[hr] at hk;simp at hk
 rcases hk with rfl|rfl
 ·exact wpOp_step hi' (fun K' hK=>h K' (fun a w hS hW=>hK a w ⟨fun _ _=>hS,hW hS⟩))
 ·exact wpOp_step hj' (fun K' hK=>h' K' (fun a w hS hW=>hK a w ⟨fun _ _=>hS,hW hS⟩))
end
section
variable {P:Program} {ops:Array Oper} {Q:Exit→Act→World→Prop} {md:Region.Mode} {S:World→Prop}
theorem IV {i z:Nat} {oi:Oper} {v:Value} (hi:ops[i]?=some oi) (hsel:∀ (j:Nat) (o:Oper) cs b,ops[j]?=some o→o.op≠.select cs b)
  (hQ:∀ c a w,Q (.panic c) (a.put oi.dst v) w→Q (.panic c) a w) (hz:ops.size≤z) :
  ∀ (fuel:Nat) (listed:Array Bool) (a:Act) (w:World),
   (∀ j oj,ops[j]?=some oj→j≠i→listed.getD j true=false→(∀ e∈oj.after,Region.binds md e=true→e.on≠i)→oi.apart ops oj=true) →
   i∈Region.ready md ops listed→YieldsIf P ops S oi v a→S w →
   rP P md ops Q S z fuel (listed.setIfInBounds i true) (a.put oi.dst v) w→rP P md ops Q S z (fuel+1) listed a w:=by
 intro fuel
 induction fuel with
 | zero =>
  intro listed a w _ hr hy hS H;refine⟨fun h=>(by rw[h] at hr;cases hr),fun j hj=>?_⟩
  by_cases hji:j=i
  ·subst hji;exact hy.wpOp hi hS ⟨fun _ h=>h,H⟩
  ·have:=ready_mono hj hji
   rw[H.1] at this
   cases this
 | succ fuel ih =>
  intro listed a w hfree hr hy hS H;have hun:=(mem_ready.1 hr).1;refine⟨fun h=>(by rw[h] at hr;cases hr),fun j hj=>?_⟩
  by_cases hji:j=i
  ·subst hji;exact hy.wpOp hi hS ⟨fun _ h=>h,H⟩
  ·obtain⟨hjun,oj,hoj,hall⟩:=mem_ready.1 hj
   have hnot:∀ e∈oj.after,Region.binds md e=true→e.on≠i:=fun e he hb heq=>by
    have h3:=hall e he hb;rw[heq,getD_both hun] at h3
    cases h3
   have hjz:j≠z:=fun e=>by
    have:=(Array.getElem?_eq_some_iff.1 hoj).1;omega
   have h1:=H.2 j (ready_mono hj hji);have h2:=wpOp_putIf hoj (hfree j oj hoj hji hjun hnot) (fun cs b=>hsel i oi cs b hi) (fun cs b=>hsel j oj cs b hoj) hQ hy h1
   have hfree':∀ k ok,ops[k]?=some ok→k≠i→(listed.setIfInBounds j true).getD k true=false →
     (∀ e∈ok.after,Region.binds md e=true→e.on≠i)→oi.apart ops ok=true:=fun k ok hk hki hun hno=>by
    refine hfree k ok hk hki ?_ hno;by_cases hjk:j=k
    ·subst hjk;exact hjun
    ·rw[getD_set_ne true hjk] at hun;exact hun
   refine wpOp_mono (fun a' w' h3=>⟨h3.2.1,ih (listed.setIfInBounds j true) a' w' hfree' (ready_mono hr (Ne.symm hji)) h3.1 (h3.2.1 hjz hS) ?_⟩) h2
   rw[Array.setIfInBounds_comm _ _ hji];exact h3.2.2
end
section
variable {P:Program} {l:List Oper} {Q:Exit→Act→World→Prop} {S:World→Prop}
theorem Vy {i z:Nat} {oi:Oper} {v:Value} {fuel:Nat} {listed:Array Bool} {a:Act} {w:World} (hi:l[i]?=some oi) (hs:Region.noSelect l.toArray=true)
  (hsk:decide (l.length≤z)=true) (hf:Region.free .any l.toArray listed i=true) (hr:(Region.ready .any l.toArray listed).contains i=true)
  (hQ:∀ c a w,Q (.panic c) (a.put oi.dst v) w→Q (.panic c) a w) (hy:YieldsIf P l.toArray S oi v a) (hS:S w)
  (h:GT P l Q S z fuel (listed.setIfInBounds i true) (a.put oi.dst v) w):GT P l Q S z (fuel+1) listed a w:=by
 have hi':l.toArray[i]?=some oi:=by simpa using hi
 exact IV hi' (Region.noSelect_spec hs) hQ (by simpa using hsk) fuel listed a w (Region.free_spec hi' hf) (by simpa using hr) hy hS h
theorem pX {z:Nat} {fuel:Nat} {listed:Array Bool} {a:Act} {w:World} (hr:Region.ready .any l.toArray listed=[]) (h:Q .normal a w):GT P l Q S z fuel listed a w:=by
 cases fuel with
 | zero=>exact⟨hr,h⟩
 | succ f=>exact⟨fun _=>h,by rw[hr];simp⟩
end
section
variable {P:Program} {l:List Oper} {Q:Exit→Act→World→Prop} {S:World→Prop}
theorem kJ {i z : Nat} {oi : Oper} {v : Value} {fuel : Nat} {listed : Array Bool} {a a' : Act} {w : World} (hi : l[i]? = some oi) (hS : S w)
    (h:GT P l Q S z fuel (listed.setIfInBounds i true) a' w)
    (hy:∀ w, S w→(execOp a.eval oi).run P w=.ok (.value v) w:=by intro X JH; (try dsimp only at JH); (repeat (obtain⟨g, JH⟩:=JH)); go_simp; try with_reducible rfl) (ha:a.put oi.dst v=a':=by (try simp only[dw]); rfl)
    (hs:Region.noSelect l.toArray=true:=by kernel_rfl)
    (hsk:decide (l.length≤z)=true:=by kernel_rfl) (hf:Region.free .any l.toArray listed i=true:=by kernel_rfl) (hr:(Region.ready .any l.toArray listed).contains i=true:=by kernel_rfl)
    (hQ:∀ c a w, Q (.panic c) (a.put oi.dst v) w→Q (.panic c) a w:=by exact fun _ _ _ h=>h) (hw:Region.wanted oi (yielded l.toArray a.tmps)=true:=by rfl):GT P l Q S z (fuel+1) listed a w :=
  Vy hi hs hsk hf hr hQ (Or.inl ⟨hw, hy⟩) hS (ha ▸ h)
end
theorem Tryz.infoRw:(Tryz.prog.info? 44).map (fun i=>(i.zero,i.size,i.bytes))=some (some (.agg #[.int .i64 0,.slice none 0 0,.slice none 0 0,.slice none 0 0,.bool false,.bool false,.int .i64 0,.slice none 0 0]),8,120):=by kernel_rfl
theorem dH:Tryz.prog.follows .mixedOrders=true:=by kernel_rfl
theorem nT {P:Program} {t:TypeId} {z:Value} {s b:Nat} (h:(P.info? t).map (fun i=>(i.zero,i.size,i.bytes))=some (some z,s,b)):∃ i,P.info? t=some i∧i.zero=some z∧i.size=s∧i.bytes=b:=by
 cases e:P.info? t with
 | none=>rw[e] at h;cases h
 | some i =>
  rw[e] at h;simp only[Option.map_some,Option.some.injEq,Prod.mk.injEq] at h;exact⟨i,rfl,h.1,h.2.1,h.2.2⟩
theorem qo {w:World} {x:Value} {cs:List aI} {us:List Value} {f:Fp} (h:bG w cs us f):bG w (.v x::cs) (x::us) f:=⟨x,us,fun _=>False,f,rfl,⟨rfl,fun _ h=>h⟩,h,fun _ h=>absurd h id,fun b=>by simp⟩
theorem lZ {w:World} {x:Value} {cs:List aI} {us:List Value} {f:Fp} (h:bG w (.v x::cs) us f):∃ us',us=x::us'∧bG w cs us' f:=by
 obtain⟨u,us',f1,f2,rfl,⟨rfl,h1⟩,h2,hd,hf⟩:=h;exact⟨us',rfl,xq h2 (fun b=>(hf b).trans ⟨fun h=>h.elim (fun h=>absurd h (h1 b)) id,.inr⟩)⟩
theorem rQ {w:World} {c:aI} {u:Value} {cs:List aI} {us:List Value} {f1 f2:Fp} (h1:aI.ow w c u f1) (h2:bG w cs us f2) (hd:∀ b,f1 b→¬ f2 b):bG w (c::cs) (u::us) (fun b=>f1 b∨f2 b):=⟨u,us,f1,f2,rfl,h1,h2,hd,fun b=>Iff.rfl⟩
theorem AZ {w:World} {A:Ra} {r:Rw} {f:Fp} (h:bG w (fM r) (fC A r) f):bG w (eY r) (bD A r).toList f:=by
 obtain⟨u1,rD,f1,g1,e1,o1,h2,d1,i1⟩:=h
 cases e1
 obtain⟨u2,uy,f2,g2,e2,o2,h3,d2,i2⟩:=h2
 cases e2
 obtain⟨u3,Dj,f3,g3,e3,o3,h4,d3,i3⟩:=h3
 cases e3
 exact qo ⟨_,_,f1,g1,rfl,o1,⟨_,_,f2,g2,rfl,o2,⟨_,_,f3,g3,rfl,o3,qo (qo (qo h4)),d3,i3⟩,d2,i2⟩,d1,i1⟩
theorem rU {w:World} {r:Rw} {us:List Value} {f:Fp} (h:bG w (eY r) us f):∃ A:Ra,us=(bD A r).toList∧bG w (fM r) (fC A r) f:=by
 obtain⟨us0,rfl,hq0⟩:=lZ h;obtain⟨u1,rD,f1,g1,rfl,o1,h2,d1,i1⟩:=hq0;obtain⟨u2,uy,f2,g2,rfl,o2,h3,d2,i2⟩:=h2;obtain⟨u3,Dj,f3,g3,rfl,o3,h4,d3,i3⟩:=h3;obtain⟨Ju,rfl,hq4⟩:=lZ h4;obtain⟨us5,rfl,hq5⟩:=lZ hq4;obtain⟨us6,rfl,hq6⟩:=lZ hq5;obtain⟨u7,us7,f7,g7,rfl,o7,⟨rfl,h8⟩,d7,i7⟩:=hq6;obtain⟨ta,tc,_,rfl,_⟩:=oJ.1 o1;obtain⟨ga,gc,_,rfl,_⟩:=fB.1 o2;obtain⟨sa,sc,_,rfl,_⟩:=fB.1 o3;obtain⟨ma,mc,_,rfl,_⟩:=fB.1 o7;exact⟨⟨ta,tc,ga,gc,sa,sc,ma,mc⟩,rfl,⟨_,_,f1,g1,rfl,o1,⟨_,_,f2,g2,rfl,o2,⟨_,_,f3,g3,rfl,o3,⟨_,_,f7,g7,rfl,o7,⟨rfl,h8⟩,d7,i7⟩,d3,i3⟩,d2,i2⟩,d1,i1⟩⟩
theorem EK {w:World} {A:Ma} {m:Mb} {f:Fp} (h:bG w (fD m) (fE A m) f):bG w (gW m) (dZ A m).toList f:=by
 obtain⟨u1,rD,f1,g1,e1,o1,h2,d1,i1⟩:=h
 cases e1
 obtain⟨u2,uy,f2,g2,e2,o2,h3,d2,i2⟩:=h2
 cases e2
 exact qo (qo ⟨_,_,f1,g1,rfl,o1,⟨_,_,f2,g2,rfl,o2,qo h3,d2,i2⟩,d1,i1⟩)
theorem EL {w:World} {m:Mb} {us:List Value} {f:Fp} (h:bG w (gW m) us f):∃ A:Ma,us=(dZ A m).toList∧bG w (fD m) (fE A m) f:=by
 obtain⟨us0,rfl,hq0⟩:=lZ h;obtain⟨us9,rfl,hq1⟩:=lZ hq0;obtain⟨u1,rD,f1,g1,rfl,o1,h2,d1,i1⟩:=hq1;obtain⟨u2,uy,f2,g2,rfl,o2,h3,d2,i2⟩:=h2;obtain⟨Ju,rfl,⟨rfl,h4⟩⟩:=lZ h3;have NT:=o1;obtain⟨ra,rc,_,_,_,rfl,_⟩:=NT;obtain⟨sa,sc,_,rfl,_⟩:=fB.1 o2;exact⟨⟨ra,rc,sa,sc⟩,rfl,⟨_,_,f1,g1,rfl,o1,⟨_,_,f2,g2,rfl,o2,⟨rfl,h4⟩,d2,i2⟩,d1,i1⟩⟩
theorem qI {P:Program} {α:Type} {F:α→List aI} {s:Nat} (hF:∀ x,(F x).length=s) {w:World} (t ty e:TypeId) (z:Value) (bytes:Nat) (ht:P.underlying t=some (.slice e)) (hi:(P.info? e).map (fun i=>(i.zero,i.size,i.bytes))=some (some z,s,bytes)) (hzs:z.cells.size=s) (hsz:0<s)
  {a:Option Addr} {c:Nat} {L:List α} {x:α} {fp fd:Fp} (hO:aI.ow w (dA s F L) (.slice a L.length c) fp) {vals:List Value} (hd:bG w (F x) vals fd) (hdis:∀ b,fp b→¬ fd b) (h1:∀ u∈vals,u.oneCell'=true)
  (nb:Nat) (T:TypeId) (hnb:w.heap[nb]?=some (.cells vals.toArray T (0,0))) (h63:L.length+1≤maxLen) (hbytes:(L.length+1)*bytes≤140737488355328) :
  ∃ a' c' w' fp',(Builtin.append_ #[t,t] ty #[.slice a L.length c,.slice (some ⟨nb,0,none⟩) 1 1]).run P w=.ok (.slice a' (L.length+1) c') w'∧aI.ow w' (dA s F (L++[x])) (.slice a' (L.length+1) c') fp'∧aO fp w w'∧∀ b,fp' b→fp b∨fd b∨b=w.heap.size:=by
 obtain⟨i,hi0,hz,hs,hb⟩:=nT hi;obtain⟨a',c',w',fp',h2,h3,h4,h5⟩:=FW (P:=P) (w:=w) t ty e i z s bytes ht hi0 hz hs hb hzs hsz hO hd hdis (by rw[fJ hd,hF]) h1 nb T hnb h63 hbytes
 refine⟨a',c',w',fp',h2, ?_,h4,h5⟩;unfold dA;rw[List.flatMap_append,List.length_append];simpa using h3
structure MO (w X:World) (o:Nat) (A:Ma) (m:Mb) (fp:Fp):Prop where
 own:Bx X o 47 (dZ A m)
 ls:bG X (fD m) (fE A m) fp
 iq:∀ b,fp b→o<b
 lo:w.heap.size≤o
 below:Below w.heap.size w X
theorem MO.step {w X X':World} {o:Nat} {A:Ma} {m:Mb} {fp:Fp} (h:MO w X o A m fp) (hb:Below X.heap.size X X'):MO w X' o A m fp:=⟨h.own.below hb,bM h.ls hb,h.iq,h.lo,h.below.trans (hb.mono h.below.size)⟩
theorem MO.push {w X X1:World} {o:Nat} {A:Ma} {m:Mb} {fp:Fp} (h:MO w X o A m fp) (hb:Below X.heap.size X X1) {r:Rw} {Ar:Ra} {fr:Fp} (hr:bG X1 (fM r) (fC Ar r) fr) (hfr:∀ b,fr b→X.heap.size≤b) (hl:m.rows.length≤1000000) :
  ∀ Y,Same Y (X1.alloc (.cells (bD Ar r) 44))→∃ v' w4,(Builtin.append_ #[45,45] 45 #[.slice A.ra m.rows.length A.rc,.slice (some ⟨X1.heap.size,0,none⟩) 1 1]).run Tryz.prog Y=.ok v' w4 ∧
   ∃ a' c',v'=.slice a' (m.rows.length+1) c'∧w4.cell? ⟨o,2,none⟩=some (.slice A.ra m.rows.length A.rc)∧w4.frozen? ⟨o,2,none⟩=false∧Below o X w4∧Below o X (w4.setCell ⟨o,2,none⟩ (.slice a' (m.rows.length+1) c'))∧∃ fp',MO w (w4.setCell ⟨o,2,none⟩ (.slice a' (m.rows.length+1) c')) o ⟨a',c',A.sa,A.sc⟩ { m with rows:=m.rows++[r] } fp':=by
 intro Y hY;have h1:=h.step hb;have jg:=(aF X1 _).trans (hY.below.mono (aF X1 _).size);have h2:=h1.step jg;have hls:=h2.ls;obtain⟨u1,rD,f1,g1,e1,o1,l2,d1,i1⟩:=hls
 cases e1
 have sG:=AZ (bM hr jg);have hol:=h.own.lt;have hpl:=eX h.ls;have G8:=hb.size;obtain⟨a',c',w4,fp',k1,k2,k3,k4⟩:=qI (P:=Tryz.prog) gI (w:=Y) 45 45 44 _ 120 Tryz.underlying45 Tryz.infoRw rfl (by omega) (x:=r) o1 sG (fun b hb1 hb2=>by have:=hpl b ((i1 b).2 (.inl hb1));have:=hfr b hb2;omega) (by intro u hu;simp[bD] at hu;rcases hu with h|h|h|h|h|h|h|h<;>rw[h]<;>rfl) X1.heap.size 44 (by rw[hY.heap];exact heap_alloc_new X1 _) (by unfold maxLen;omega) (by omega)
 have hf1:∀ b,f1 b→o<b:=fun b hb1=>h.iq b ((i1 b).2 (.inl hb1))
 have hg1:∀ b,g1 b→o<b:=fun b hb1=>h.iq b ((i1 b).2 (.inr hb1))
 have hYs:X1.heap.size<Y.heap.size:=by rw[hY.size];simp
 have uq:Bx w4 o 47 (dZ A m):=h2.own.wrt k3 (fun hb1=>by have:=hf1 _ hb1;omega)
 have rV:=hb.trans (jg.mono hb.size);have b4:Below o X w4:=k3.below (rV.mono (by omega:o≤X.heap.size)) (by omega) (fun b hb1=>by have:=hf1 _ hb1;omega)
 have al4:∀ b,fp' b→o<b:=fun b hb1=>by
  rcases k4 b hb1 with k|k|k
  ·exact hf1 b k
  ·have:=hfr b k;omega
  ·omega
 refine⟨_,w4,k1,a',c',rfl,uq.at 2 rfl,uq.f 2,b4,b4.setCell (p:=⟨o,2,none⟩) (Nat.le_refl _) _,fun b=>fp' b∨g1 b, ?_, ?_,fun b hb1=>hb1.elim (al4 b) (hg1 b),h.lo, ?_⟩
 ·have:=uq.iV 2 (.slice a' (m.rows.length+1) c')
  have e:(dZ A m).setIfInBounds 2 (.slice a' (m.rows.length+1) c')=dZ ⟨a',c',A.sa,A.sc⟩ { m with rows:=m.rows++[r] }:=by simp[dZ]
  rw[e] at this;exact this
 ·have hw:=aO.set w4 o 2 (.slice a' (m.rows.length+1) c')
  have k2':aI.ow w4 (dA 8 eY (m.rows++[r])) (.slice a' (m.rows++[r]).length c') fp':=by
   rw[List.length_append];exact k2
  exact bP (rQ k2' (bP l2 k3 (fun b hb1 hb2 => d1 b hb2 hb1)) (fun b hb1 hb2 => by
   rcases k4 b hb1 with k|k|k
   ·exact d1 b k hb2
   ·have:=hfr b k;have:=hpl b ((i1 b).2 (.inr hb2));omega
   ·have:=hpl b ((i1 b).2 (.inr hb2));omega)) hw (fun b hb1 e=>by have:=hb1.elim (al4 b) (hg1 b);omega)
 ·have:=h.below
  have hlo:=h.lo;exact ((this.mono (Nat.le_refl _)).trans (b4.mono hlo)).setCell (p:=⟨o,2,none⟩) hlo _
def YO (w w':World) (e:Ending) (m:Mb):Prop:=∃ A:Ma,e=.returned (eG A m)∧iL w w' (fD m) (fE A m)
def CW (w w':World) (e:Ending) (m:Mb) (b:Bool):Prop:=∃ A:Ma,e=.returned (.tuple #[eG A m,.bool b])∧iL w w' (fD m) (fE A m)
theorem CX (w:World) {α:Type} (s:Nat) (F:α→List aI):aI.ow w (dA s F []) (.slice none 0 0) (fun _=>False):=⟨none,0,[],none,fun _=>False,rfl,dR.nil _ _ Ey,⟨rfl,fun _ h=>h⟩,fun _ _ h=>h,fun b=>by simp⟩
theorem RH (w:World):bG w (fD iG) (fE ⟨none,0,none,0⟩ iG) (fun _=>False) :=
 xq (rQ (CX w 8 eY) (rQ (qP w) (⟨rfl,fun _ h=>h⟩:bG w [] [] (fun _=>False)) (fun _ _ h=>h)) (fun _ h=>absurd h id)) (fun b=>by simp)
theorem A8 {w w':World} (hb:Below w.heap.size w w'):iL w w' (fD iG) (fE ⟨none,0,none,0⟩ iG):=⟨_,RH w',fun b h=>absurd h id,hb⟩
theorem kX (w:World) (g:Nat) {a b c d e:Value}:aO (fun x=>x=g) w (((((w.setCell ⟨g,0,none⟩ a).setCell ⟨g,1,none⟩ b).setCell ⟨g,2,none⟩ c).setCell ⟨g,3,none⟩ d).setCell ⟨g,4,none⟩ e) :=
 ((((aO.set w g 0 a).trans (aO.set _ g 1 b) (fun _ _ h=>h)).trans (aO.set _ g 2 c) (fun _ _ h=>h)).trans (aO.set _ g 3 d) (fun _ _ h=>h)).trans (aO.set _ g 4 e) (fun _ _ h=>h)
theorem Bx.f5 {w:World} {B:Nat} {T:TypeId} {cs:Array Value} (h:Bx w B T cs):w.frozen? ⟨B,0,none⟩=false∧w.frozen? ⟨B,1,none⟩=false∧w.frozen? ⟨B,2,none⟩=false∧w.frozen? ⟨B,3,none⟩=false∧w.frozen? ⟨B,4,none⟩=false:=⟨h.f 0,h.f 1,h.f 2,h.f 3,h.f 4⟩
theorem MO.ans {w X:World} {o r:Nat} {A:Ma} {m:Mb} {fp:Fp} (h:MO w X o A m fp) (hr:w.heap.size≤r) (hro:r≤o) {a b c d e:Value} :
  iL w (((((X.setCell ⟨r,0,none⟩ a).setCell ⟨r,1,none⟩ b).setCell ⟨r,2,none⟩ c).setCell ⟨r,3,none⟩ d).setCell ⟨r,4,none⟩ e) (fD m) (fE A m) :=
 ⟨fp,bP h.ls (kX X r) (fun b hb e=>by have:=h.iq b hb;omega),fun b hb=>by have:=h.iq b hb;have:=h.lo;omega,(kX X r).below h.below h.below.size (fun b e=>by omega)⟩
section
structure CR (w X:World) (O:Array Value) (cs:List aI) (vs:List Value) (fp:Fp):Prop where
 out:Bx X w.heap.size 44 O
 res:Bx X (w.heap.size+1) 44 #[.int .i64 0,.slice none 0 0,.slice none 0 0,.slice none 0 0,.bool false,.bool false,.int .i64 0,.slice none 0 0]
 own:bG X cs vs fp
 iq:∀ b,fp b→w.heap.size+1<b
 below:Below w.heap.size w X
theorem CR.put {w X Z X':World} {O:Array Value} {cs:List aI} {vs:List Value} {fp f:Fp} {c:aI} {v:Value} (h:CR w X O cs vs fp) (nN:Below X.heap.size X Z) (hw:aO (fun _=>False) Z X') (ho:aI.ow X' c v f) (hf:∀ b,f b→b=Z.heap.size) (i:Nat) :
  CR w X' O cs vs fp∧∃ fp',CR w (X'.setCell ⟨w.heap.size,i,none⟩ v) (O.setIfInBounds i v) (cs++[c]) (vs++[v]) fp':=by
 have hb:Below X.heap.size X X':=hw.below nN nN.size (fun b h=>absurd h id)
 have hol:=h.res.lt;have hZ:=nN.size;have h1:CR w X' O cs vs fp:=⟨h.out.below hb,h.res.below hb,bM h.own hb,h.iq,h.below.trans (hb.mono h.below.size)⟩;refine⟨h1,fun b=>fp b∨f b,h1.out.iV i v,h1.res.far (by omega) v,bP (kZ h1.own (FX.2 ho) (fun b h2 h3=>by have:=eX h.own b h2;have:=hf b h3;omega)) (aO.set X' w.heap.size i v) (fun b hb e=>?_),fun b hb=>?_,h1.below.setCell (p:=⟨w.heap.size,i,none⟩) (Nat.le_refl _) v⟩
 ·rcases hb with hb|hb
  ·have:=h.iq b hb;omega
  ·have:=hf b hb;omega
 ·rcases hb with hb|hb
  ·exact h.iq b hb
  ·have:=hf b hb;omega
theorem CR.ints {w X:World} {O:Array Value} {cs:List aI} {vs:List Value} {fp:Fp} (h:CR w X O cs vs fp) {x:Option Addr} {c:Nat} {l:List Int} (hv:Vec w x l.length l) (hl:l.length≤1000000) (i:Nat) (o:Value) (hi:O[i]?=some o) (i0:TypeInfo) (hi0:Tryz.prog.info? 2=some i0) (hz0:i0.zero=some (.int .i64 0)) (hz1:i0.size=1) (hz2:i0.bytes=8) :
  ∀ Z,Same Z (X.alloc (.cells #[] 2))→∃ v' w4,(Builtin.append_ #[41,41] 41 #[.slice (some ⟨X.heap.size,0,none⟩) 0 0,.slice x l.length c]).run Tryz.prog Z=.ok v' w4 ∧
   ∃ a' c',v'=.slice a' l.length c'∧w4.cell? ⟨w.heap.size,i,none⟩=some o∧w4.frozen? ⟨w.heap.size,i,none⟩=false∧∃ fp',CR w (w4.setCell ⟨w.heap.size,i,none⟩ (.slice a' l.length c')) (O.setIfInBounds i (.slice a' l.length c')) (cs++[bQ l]) (vs++[.slice a' l.length c']) fp':=by
 intro Z hZ;have nN:=(aF X _).trans (hZ.below.mono (aF X _).size);obtain⟨a6,c6,w6,NU,JI,JJ,hw6,G9⟩:=yg (P:=Tryz.prog) (w:=Z) 41 41 2 i0 Tryz.underlying41 hi0 hz0 hz1 hz2 (jG X.heap.size 0) (x:=x) (c:=c) (hv.below (h.below.trans (nN.mono h.below.size)) (Nat.le_refl _)) hl;obtain⟨h1,fp',h2⟩:=h.put nN hw6 JJ G9 i;exact⟨_,w6,JI,a6,c6,rfl,h1.out.at i hi,h1.out.f i,fp',h2⟩
theorem CR.ax3 {w X:World} {O:Array Value} {cs:List aI} {vs:List Value} {fp:Fp} (h:CR w X O cs vs fp) {x:Option Addr} {c:Nat} {l:List (List UInt8)} (hv:qO w x l) (hl:l.length≤1000000) (i:Nat) (o:Value) (hi:O[i]?=some o) (i0:TypeInfo) (hi0:Tryz.prog.info? 9=some i0) (hz0:i0.zero=some (.string ⟨#[]⟩)) (hz1:i0.size=1) (hz2:i0.bytes=16) :
  ∀ Z,Same Z (X.alloc (.cells #[] 9))→∃ v' w4,(Builtin.append_ #[42,42] 42 #[.slice (some ⟨X.heap.size,0,none⟩) 0 0,.slice x l.length c]).run Tryz.prog Z=.ok v' w4 ∧
   ∃ a' c',v'=.slice a' l.length c'∧w4.cell? ⟨w.heap.size,i,none⟩=some o∧w4.frozen? ⟨w.heap.size,i,none⟩=false∧∃ fp',CR w (w4.setCell ⟨w.heap.size,i,none⟩ (.slice a' l.length c')) (O.setIfInBounds i (.slice a' l.length c')) (cs++[lM l]) (vs++[.slice a' l.length c']) fp':=by
 intro Z hZ;have nN:=(aF X _).trans (hZ.below.mono (aF X _).size);obtain⟨a6,c6,w6,NU,JI,JJ,hw6,G9⟩:=P6 (P:=Tryz.prog) (w:=Z) 42 42 9 i0 Tryz.underlying42 hi0 hz0 hz1 hz2 (jG X.heap.size 0) (x:=x) (c:=c) (hv.below (h.below.trans (nN.mono h.below.size))) (by omega)
 obtain⟨h1,fp',h2⟩:=h.put nN hw6 JJ G9 i;exact⟨_,w6,JI,a6,c6,rfl,h1.out.at i hi,h1.out.f i,fp',h2⟩
attribute [local irreducible] sv
theorem Ba (A:Ra) (r:Rw) (w:World) (hv:nJ w A r) (h1:r.txt.length≤1000000) (h2:r.got.length≤1000000) (h3:r.ak.length≤1000000) (h4:r.aA.length≤1000000) :
  Calls Tryz.prog 76 #[bV A r] w fun e w'=>I4 w w' e r:=by
 obtain⟨i0,hi0,hz0,hz1,hz2⟩:=pW Tryz.info9;obtain⟨i2,hi2,hy0,hy1,hy2⟩:=gX Tryz.info2n;have HV:=aj hv
 have T0:CR w ((w.alloc (.cells (bD A r) 44)).alloc (.cells #[.int .i64 0,.slice none 0 0,.slice none 0 0,.slice none 0 0,.bool false,.bool false,.int .i64 0,.slice none 0 0] 44)) (bD A r) [] [] (fun _=>False):=by
  have x1:=Bx.new (w.alloc (.cells (bD A r) 44)) 44 #[.int .i64 0,.slice none 0 0,.slice none 0 0,.slice none 0 0,.bool false,.bool false,.int .i64 0,.slice none 0 0];rw[World.size_alloc] at x1;exact⟨(Bx.new w _ _).alloc _,x1,⟨rfl,fun _ h=>h⟩,fun b h=>absurd h id,(aF w _).trans ((aF _ _).mono (aF w _).size)⟩
 obtain⟨ver,txt,got,ak,wed,aB,aC,aA⟩:=r;obtain⟨ta,tc,ga,gc,sa,sc,ma,mc⟩:=A;unfold bV;unfold bD at *;simp only at *
 generalize xG:(w.alloc (.cells #[.int .i64 ver,.slice ta txt.length tc,.slice ga got.length gc,.slice sa ak.length sc,.bool wed,.bool aB,.int .i64 aC,.slice ma aA.length mc] 44)).alloc (.cells #[.int .i64 0,.slice none 0 0,.slice none 0 0,.slice none 0 0,.bool false,.bool false,.int .i64 0,.slice none 0 0] 44)=W at *;have hA:=T0.ax3 (x:=ta) (c:=tc) (l:=txt) HV.out.txt h1 1 (.slice ta txt.length tc) rfl i0 hi0 hz0 hz1 hz2;have c1:W.cell? ⟨w.heap.size,1,none⟩=some (.slice ta txt.length tc):=T0.out.at 1 rfl;have d1:(W.alloc (.cells #[] 9)).cell? ⟨w.heap.size,1,none⟩=some (.slice ta txt.length tc):=(T0.out.below (aF W (.cells #[] 9))).at 1 rfl;clear T0;clear hv;go_enter Tryz.func76,Tryz.ntmps76
 go_upto_region 1 with fail
 go_upto_region 2 with (at_builtin;refine aZ (by rfl) _ _ _ _ (by rfl) _ _ (by rfl) (by rfl) hA ⟨rfl,rfl,rfl,rfl⟩ ?_;rintro v1 w1 ⟨a1,e1,rfl,q1a,q1b,dD,hR1⟩;have HR1:Hid (CR w (w1.setCell ⟨w.heap.size,1,none⟩ (.slice a1 txt.length e1)) (#[.int .i64 ver,.slice ta txt.length tc,.slice ga got.length gc,.slice sa ak.length sc,.bool wed,.bool aB,.int .i64 aC,.slice ma aA.length mc].setIfInBounds 1 (.slice a1 txt.length e1)) ([]++[lM txt]) ([]++[.slice a1 txt.length e1]) dD):=hR1;clear hR1 hA c1 d1)
 clear q1a q1b;generalize w1.setCell ⟨w.heap.size,1,none⟩ (.slice a1 txt.length e1)=W1 at *;have T1:CR w W1 #[.int .i64 ver,.slice a1 txt.length e1,.slice ga got.length gc,.slice sa ak.length sc,.bool wed,.bool aB,.int .i64 aC,.slice ma aA.length mc] ([]++[lM txt]) ([]++[.slice a1 txt.length e1]) dD:=by simpa using HR1.out
 clear HR1;have hA:=T1.ints (x:=ga) (c:=gc) (l:=got) HV.out.got h2 2 (.slice ga got.length gc) rfl i2 hi2 hy0 hy1 hy2;have c2:W1.cell? ⟨w.heap.size,2,none⟩=some (.slice ga got.length gc):=T1.out.at 2 rfl;have d2:(W1.alloc (.cells #[] 2)).cell? ⟨w.heap.size,2,none⟩=some (.slice ga got.length gc):=(T1.out.below (aF W1 (.cells #[] 2))).at 2 rfl;clear T1;go_upto_region 3 with (at_builtin;refine aZ (by rfl) _ _ _ _ (by rfl) _ _ (by rfl) (by rfl) hA ⟨rfl,rfl,rfl,rfl⟩ ?_;rintro v2 w2 ⟨a2,e2,rfl,q2a,q2b,fp2,hR2⟩;have HR2:Hid (CR w (w2.setCell ⟨w.heap.size,2,none⟩ (.slice a2 got.length e2)) (#[.int .i64 ver,.slice a1 txt.length e1,.slice ga got.length gc,.slice sa ak.length sc,.bool wed,.bool aB,.int .i64 aC,.slice ma aA.length mc].setIfInBounds 2 (.slice a2 got.length e2)) (([]++[lM txt])++[bQ got]) (([]++[.slice a1 txt.length e1])++[.slice a2 got.length e2]) fp2):=hR2;clear hR2 hA c2 d2)
 clear q2a q2b;generalize w2.setCell ⟨w.heap.size,2,none⟩ (.slice a2 got.length e2)=W2 at *;have T2:CR w W2 #[.int .i64 ver,.slice a1 txt.length e1,.slice a2 got.length e2,.slice sa ak.length sc,.bool wed,.bool aB,.int .i64 aC,.slice ma aA.length mc] (([]++[lM txt])++[bQ got]) (([]++[.slice a1 txt.length e1])++[.slice a2 got.length e2]) fp2:=by simpa using HR2.out
 clear HR2;have hA:=T2.ints (x:=sa) (c:=sc) (l:=ak) HV.out.ak h3 3 (.slice sa ak.length sc) rfl i2 hi2 hy0 hy1 hy2;have c3:W2.cell? ⟨w.heap.size,3,none⟩=some (.slice sa ak.length sc):=T2.out.at 3 rfl;have d3:(W2.alloc (.cells #[] 2)).cell? ⟨w.heap.size,3,none⟩=some (.slice sa ak.length sc):=(T2.out.below (aF W2 (.cells #[] 2))).at 3 rfl;clear T2;go_upto_region 4 with (at_builtin;refine aZ (by rfl) _ _ _ _ (by rfl) _ _ (by rfl) (by rfl) hA ⟨rfl,rfl,rfl,rfl⟩ ?_;rintro v3 w3 ⟨a3,e3,rfl,q3a,q3b,jO,RI⟩;have HR3:Hid (CR w (w3.setCell ⟨w.heap.size,3,none⟩ (.slice a3 ak.length e3)) (#[.int .i64 ver,.slice a1 txt.length e1,.slice a2 got.length e2,.slice sa ak.length sc,.bool wed,.bool aB,.int .i64 aC,.slice ma aA.length mc].setIfInBounds 3 (.slice a3 ak.length e3)) ((([]++[lM txt])++[bQ got])++[bQ ak]) ((([]++[.slice a1 txt.length e1])++[.slice a2 got.length e2])++[.slice a3 ak.length e3]) jO):=RI;clear RI hA c3 d3)
 clear q3a q3b;generalize w3.setCell ⟨w.heap.size,3,none⟩ (.slice a3 ak.length e3)=W3 at *;have T3:CR w W3 #[.int .i64 ver,.slice a1 txt.length e1,.slice a2 got.length e2,.slice a3 ak.length e3,.bool wed,.bool aB,.int .i64 aC,.slice ma aA.length mc] ((([]++[lM txt])++[bQ got])++[bQ ak]) ((([]++[.slice a1 txt.length e1])++[.slice a2 got.length e2])++[.slice a3 ak.length e3]) jO:=by simpa using HR3.out
 clear HR3;have hA:=T3.ints (x:=ma) (c:=mc) (l:=aA) HV.out.aA h4 7 (.slice ma aA.length mc) rfl i2 hi2 hy0 hy1 hy2;have c4:W3.cell? ⟨w.heap.size,7,none⟩=some (.slice ma aA.length mc):=T3.out.at 7 rfl;have d4:(W3.alloc (.cells #[] 2)).cell? ⟨w.heap.size,7,none⟩=some (.slice ma aA.length mc):=(T3.out.below (aF W3 (.cells #[] 2))).at 7 rfl;clear T3;go_upto_region 5 with (at_builtin;refine aZ (by rfl) _ _ _ _ (by rfl) _ _ (by rfl) (by rfl) hA ⟨rfl,rfl,rfl,rfl⟩ ?_;rintro v4 w4 ⟨a4,e4,rfl,q4a,q4b,JK,RJ⟩;have HR4:Hid (CR w (w4.setCell ⟨w.heap.size,7,none⟩ (.slice a4 aA.length e4)) (#[.int .i64 ver,.slice a1 txt.length e1,.slice a2 got.length e2,.slice a3 ak.length e3,.bool wed,.bool aB,.int .i64 aC,.slice ma aA.length mc].setIfInBounds 7 (.slice a4 aA.length e4)) (((([]++[lM txt])++[bQ got])++[bQ ak])++[bQ aA]) (((([]++[.slice a1 txt.length e1])++[.slice a2 got.length e2])++[.slice a3 ak.length e3])++[.slice a4 aA.length e4]) JK):=RJ;clear RJ hA c4 d4)
 clear q4a q4b;generalize w4.setCell ⟨w.heap.size,7,none⟩ (.slice a4 aA.length e4)=W4 at *;have T4:CR w W4 #[.int .i64 ver,.slice a1 txt.length e1,.slice a2 got.length e2,.slice a3 ak.length e3,.bool wed,.bool aB,.int .i64 aC,.slice a4 aA.length e4] (((([]++[lM txt])++[bQ got])++[bQ ak])++[bQ aA]) (((([]++[.slice a1 txt.length e1])++[.slice a2 got.length e2])++[.slice a3 ak.length e3])++[.slice a4 aA.length e4]) JK:=by simpa using HR4.out
 clear HR4;obtain⟨⟨o0,o1,o2,o3⟩,o4,o5,o6,o7⟩:=Bx.r8 T4.out;obtain⟨⟨r0,r1,r2,r3⟩,r4,r5,r6,r7⟩:=Bx.r8 T4.res;obtain⟨⟨f0,f1,f2,f3⟩,f4,f5,f6,f7⟩:=T4.res.f8;have HT:=aj T4;clear T4;go_wp2;refine bodyPost_ret (v:=.agg #[.int .i64 ver,.slice a1 txt.length e1,.slice a2 got.length e2,.slice a3 ak.length e3,.bool wed,.bool aB,.int .i64 aC,.slice a4 aA.length e4]) (by simp[results,Tryz.results76,go_sem, *]) rfl ?_
 refine⟨⟨a1,e1,a2,e2,a3,e3,a4,e4⟩,rfl,JK,bP HT.out.own (FZ _ (w.heap.size+1)) (fun b hb e=>by have:=HT.out.iq b hb;omega),fun b hb=>by have:=HT.out.iq b hb;omega,(FZ _ (w.heap.size+1)).below HT.out.below HT.out.below.size (fun b e=>by rw[e];omega)⟩
end
theorem JL {hi:Int}:∀ {l:List Int} {lo:Int},l.Pairwise (·<·)→(∀ x∈l,lo≤x∧x<hi)→(l.length:Int)≤max 0 (hi-lo)
 | [],lo,_,_=>by simp;omega
 | x::l,lo,hp,h=>by
  have h1:=List.pairwise_cons.1 hp;have hx:=h x List.mem_cons_self;have:=JL (lo:=x+1) h1.2 (fun y hy=>⟨by have:=h1.1 y hy;omega,(h y (List.mem_cons_of_mem _ hy)).2⟩)
  simp only[List.length_cons]
  omega
theorem dL.sl {r:Rw} {n:Nat} (h:dL r n):r.ak.length≤n:=by
 have:=JL (lo:=0) (hi:=(n:Int)) (iK.1 h.kF) h.ak;omega
theorem dL.ml {r:Rw} {n:Nat} (h:dL r n):r.aA.length≤n:=by
 cases e:r.aB with
 | true=>have:=(h.aB e).2.2.2.1;omega
 | false=>rw[(h.not e).2];simp
def LnR (r:Rw):Prop:=r.txt.length≤1000000∧r.got.length≤1000000∧r.ak.length≤1000000∧r.aA.length≤1000000
theorem dL.ln {r:Rw} {n:Nat} (h:dL r n):LnR r:=⟨by have:=h.tl;omega,by have:=h.gl;have:=h.n5;omega,by have:=h.sl;have:=h.n5;omega,by have:=h.ml;have:=h.n5;omega⟩
theorem dO.rowOk {m:Mb} {i n:Nat} (h:dO m i n):∀ r∈m.rows,dL r n:=by
 intro r hr;obtain⟨j,hj,rfl⟩:=List.mem_iff_getElem.1 hr;have:=h.ok j (by rw[← h.len];exact hj)
 simpa[ah,List.getD,hj] using this
theorem dL.fit {r:Rw} {n:Nat} (h:dL r n):lV r:=by
 have h5:=h.n5
 have ok:∀ v,okB v=true→Fits v:=fun v h1 x hx=>by
  simp only[okB,Bool.and_eq_true,decide_eq_true_eq,List.all_eq_true] at h1;have:=dP.1 (h1.2 x hx);omega
 refine⟨ok _ h.got,fun x hx=>by have:=h.ak x hx;omega, ?_⟩
 cases e:r.aB with
 | true=>exact ok _ (h.aB e).2.2.1
 | false=>rw[(h.not e).2];exact fun x hx=>absurd hx List.not_mem_nil
theorem dO.fit {m : Mb} {i n : Nat} (h : dO m i n) : kH m := ⟨fun r hr => (h.rowOk r hr).fit,fun x hx => by
 obtain⟨j,hj,rfl⟩:=List.mem_iff_getElem.1 hx;have:=(h.sg j hj).1;simp[el,hj] at this
 omega⟩
def C5 (w:World) (B o:Nat) (x0 x1 x2 x3 x4:Value):Prop:=w.cell? ⟨B,o,none⟩=some x0∧w.cell? ⟨B,o+1,none⟩=some x1∧w.cell? ⟨B,o+2,none⟩=some x2∧w.cell? ⟨B,o+3,none⟩=some x3∧w.cell? ⟨B,o+4,none⟩=some x4
structure Mw (w X:World) (B o:Nat) (m:Mb) (fp:Fp) (g off c:Nat):Prop where
 bU:bC w X B o (gW m) fp
 rws:X.cell? ⟨B,o+2,none⟩=some (.slice (some ⟨g,off,none⟩) m.rows.length c)
theorem Mw.start {w:World} {B o:Nat} {m:Mb} {fp:Fp} (h:dN w B o (gW m) fp) (hn:0<m.rows.length):∃ g off c,Mw w w B o m fp g off c:=by
 obtain⟨g,off,c,f,h1,_⟩:=h.el (F:=eY) gI (by omega) (j:=2) (L:=m.rows) rfl (dW hn)
 exact⟨g,off,c,bC.refl h,h1⟩
theorem Mw.step {w X X':World} {B o:Nat} {m:Mb} {fp:Fp} {g off c:Nat} (h:Mw w X B o m fp g off c) (hb:Below X.heap.size X X'):Mw w X' B o m fp g off c:=⟨h.bU.below hb,(hb.cell (World.block_lt_of_cell? _ _ h.rws)).trans h.rws⟩
theorem Mw.box {w X:World} {B o:Nat} {m:Mb} {fp:Fp} {g off c:Nat} (h:Mw w X B o m fp g off c) (hf:kH m):∃ sa sc,C5 X B o (.int .i64 m.id) (.int .i64 m.n) (.slice (some ⟨g,off,none⟩) m.rows.length c) (.slice sa m.au.length sc) (.bool m.done)∧NS X ⟨some ⟨g,off,none⟩,c,sa,sc⟩ m:=by
 obtain⟨dD,hp,_⟩:=h.bU.next;have hv:=hp.pv;obtain⟨u0,c0,rfl⟩:=hv.at (j:=0) rfl;obtain⟨u1,c1,rfl⟩:=hv.at (j:=1) rfl;obtain⟨u2,c2,v2⟩:=hv.at (j:=2) rfl;obtain⟨u3,c3,v3⟩:=hv.at (j:=3) rfl;obtain⟨u4,c4,rfl⟩:=hv.at (j:=4) rfl;have e2:=Option.some.inj (c2.symm.trans h.rws);subst e2;obtain⟨sa,sc,rfl,s1,s2,s3⟩:=jV v3 hf.2;have k:=v2;obtain⟨_,_,_,e,k1,k2,_⟩:=k
 cases e
 exact⟨sa,sc,⟨c0,c1,c2,c3,c4⟩,v2,s1,by omega,by omega,hf.1⟩
theorem Mw.id' {w X:World} {B o:Nat} {m:Mb} {fp:Fp} {g off c:Nat} (h:Mw w X B o m fp g off c):X.cell? ⟨B,o,none⟩=some (.int .i64 m.id)∧X.cell? ⟨B,o+1,none⟩=some (.int .i64 m.n)∧X.cell? ⟨B,o+4,none⟩=some (.bool m.done):=by
 obtain⟨dD,hp,_⟩:=h.bU.next;have hv:=hp.pv;obtain⟨u0,c0,rfl⟩:=hv.at (j:=0) rfl;obtain⟨u1,c1,rfl⟩:=hv.at (j:=1) rfl;obtain⟨u4,c4,rfl⟩:=hv.at (j:=4) rfl;exact⟨c0,c1,c4⟩
theorem Mw.row {w X:World} {B o:Nat} {m:Mb} {fp:Fp} {g off c:Nat} (h:Mw w X B o m fp g off c) (hf:kH m) {k:Nat} (hk:k<m.rows.length):∃ Ak:Ra,C8 X g (off+k*8) (.int .i64 (ah m.rows k).ver) (.slice Ak.ta (ah m.rows k).txt.length Ak.tc) (.slice Ak.ga (ah m.rows k).got.length Ak.gc) (.slice Ak.sa (ah m.rows k).ak.length Ak.sc) (.bool (ah m.rows k).wed) (.bool (ah m.rows k).aB) (.int .i64 (ah m.rows k).aC) (.slice Ak.ma (ah m.rows k).aA.length Ak.mc)∧nJ X Ak (ah m.rows k):=by
 obtain⟨sa,sc,_,h2⟩:=h.box hf;obtain⟨g',off',Ak,e,h3,h4⟩:=h2.row hk
 cases e
 exact⟨Ak,h3,h4⟩
theorem Mw.at {w X:World} {B o:Nat} {m:Mb} {fp:Fp} {g off c:Nat} (h:Mw w X B o m fp g off c) {k:Nat} (hk:k<m.rows.length) {j:Nat} {cl:aI} (hj:(eY (ah m.rows k))[j]?=some cl):∃ u f,X.cell? ⟨g,off+k*8+j,none⟩=some u∧X.frozen? ⟨g,off+k*8+j,none⟩=false∧aI.ow X cl u f∧(∀ b,f b→b<X.heap.size) ∧
  ∀ (X1:World) (c':aI) (u':Value) (f':Fp) (r':Rw),(eY (ah m.rows k)).set j c'=eY r'→aO f X X1→aI.ow X1 c' u' f'→(∀ b,f' b→f b∨X.heap.size≤b)→X1.cell? ⟨g,off+k*8+j,none⟩=some u∧X1.frozen? ⟨g,off+k*8+j,none⟩=false∧Mw w (X1.setCell ⟨g,off+k*8+j,none⟩ u') B o { m with rows:=m.rows.set k r' } fp g off c∧(u'=u→Mw w X1 B o { m with rows:=m.rows.set k r' } fp g off c):=by
 obtain⟨dD,hp,hf1,hgo⟩:=h.bU.next;obtain⟨g',off',c',f,h1,hgB,hfg,hfs,hpl,hput⟩:=hp.el (F:=eY) gI (by omega) (j:=2) (L:=m.rows) rfl (dW hk)
 have e:=Option.some.inj (h1.symm.trans h.rws)
 cases e
 obtain⟨u,fj,hu,hfz,hc,hsub,hnB,hset⟩:=hpl.at hj;have EM:=hp.lt;refine⟨u,fj,hu,hfz,hc,aI.iT hc,fun X1 c' u' f' r' er hw hc' hf'=>?_⟩
 obtain⟨k1,k2,k3,k4⟩:=hset X1 c' u' f' hw hc' hf';rw[er] at k3 k4;have RN:¬ fj B:=fun hb=>hp.nB (hfs B (hsub B hb))
 have hr1:X1.cell? ⟨B,o+2,none⟩=some (.slice (some ⟨g,off,none⟩) m.rows.length c):=(World.cell?_of_block (hw.block B EM RN)).trans h.rws;have key:∀ Z,bC X Z g (off+k*8) (eY r') f→bC w Z B o (gW { m with rows:=m.rows.set k r' }) fp:=fun Z hZ=>hgo Z _ rfl (hput Z r' hZ)
 refine⟨k1,k2,⟨key _ k3, ?_⟩,fun e=>⟨key _ (k4 e), ?_⟩⟩
 ·rw[World.cell?_setCell_other _ _ _ _ (by simp only[ne_eq,Addr.mk.injEq,not_and];intro e;exact absurd e hgB),hr1]
  simp
 ·rw[hr1];simp
theorem Mw.put {w X:World} {B o:Nat} {m:Mb} {fp:Fp} {g off c:Nat} (h:Mw w X B o m fp g off c) {k:Nat} (hk:k<m.rows.length) {j:Nat} {x y:Value} (hj:(eY (ah m.rows k))[j]?=some (.v x)) {r':Rw} (er:(eY (ah m.rows k)).set j (.v y)=eY r') :
  X.cell? ⟨g,off+k*8+j,none⟩=some x∧X.frozen? ⟨g,off+k*8+j,none⟩=false∧Mw w (X.setCell ⟨g,off+k*8+j,none⟩ y) B o { m with rows:=m.rows.set k r' } fp g off c:=by
 obtain⟨u,f,h1,h2,⟨rfl,h3⟩,_,h4⟩:=h.at hk hj;exact⟨h1,h2,(h4 X (.v y) y (fun _=>False) r' er (aO.refl _ _) ⟨rfl,fun _ h=>h⟩ (fun b hb=>hb.elim)).2.2.1⟩
theorem Mw.He {w X:World} {B o:Nat} {m:Mb} {fp:Fp} {g off c:Nat} (h:Mw w X B o m fp g off c) {j:Nat} {cl:aI} (hj:(gW m)[j]?=some cl) (hj2:j≠2):∃ u f,X.cell? ⟨B,o+j,none⟩=some u∧X.frozen? ⟨B,o+j,none⟩=false∧aI.ow X cl u f∧(∀ b,f b→b<X.heap.size) ∧
  ∀ (X1:World) (c':aI) (u':Value) (f':Fp) (m':Mb),(gW m).set j c'=gW m'→m'.rows.length=m.rows.length→aO f X X1→aI.ow X1 c' u' f'→(∀ b,f' b→f b∨X.heap.size≤b)→X1.cell? ⟨B,o+j,none⟩=some u∧X1.frozen? ⟨B,o+j,none⟩=false∧Mw w (X1.setCell ⟨B,o+j,none⟩ u') B o m' fp g off c:=by
 obtain⟨dD,hp,hf1,hgo⟩:=h.bU.next;obtain⟨u,fj,hu,hfz,hc,hsub,hnB,hset⟩:=hp.at hj;refine⟨u,fj,hu,hfz,hc,aI.iT hc,fun X1 c' u' f' m' er hl hw hc' hf'=>?_⟩
 obtain⟨k1,k2,k3,k4⟩:=hset X1 c' u' f' hw hc' hf';rw[er] at k3;refine⟨k1,k2,hgo _ _ rfl k3, ?_⟩;rw[World.cell?_setCell_other _ _ _ _ (by simp only[ne_eq,Addr.mk.injEq,not_and];intro _ e;omega),World.cell?_of_block (hw.block B hp.lt hnB),h.rws,hl]
def qR (L:List Bool):aI:=.sl 1 L.length (pl (L.map Value.bool))
def Hf (w:World) (a:Option Addr) (L:List Bool):Prop:=L.length=0∨∃ b off,a=some ⟨b,off,none⟩∧∀ i,i<L.length→w.cell? ⟨b,off+i,none⟩=some (.bool (L.getD i false))
theorem Hf.below {w w':World} {a:Option Addr} {L:List Bool} (h:Hf w a L) (hb:Below w.heap.size w w'):Hf w' a L:=by
 rcases h with h|⟨b,off,ha,hc⟩
 ·exact .inl h
 ·exact .inr ⟨b,off,ha,fun i hi=>(hb.cell (World.block_lt_of_cell? _ _ (hc i hi))).trans (hc i hi)⟩
theorem EN {w:World} {L:List Bool} {u:Value} {fp:Fp}:aI.ow w (qR L) u fp↔∃ a c G,u=.slice a L.length c∧dR w 1 a L.length c (L.map Value.bool) G∧∀ b,fp b↔G=some b:=by
 constructor
 ·rintro⟨a,c,us,G,f,rfl,ho,hl,hn,hf⟩
  obtain⟨rfl,h0⟩:=nH.1 hl;exact⟨a,c,G,rfl,ho,fun b=>(hf b).trans ⟨fun h=>h.elim id (fun h=>absurd h (h0 b)),.inl⟩⟩
 ·rintro⟨a,c,G,rfl,ho,hf⟩
  exact⟨a,c,_,G,fun _=>False,rfl,ho,nH.2 ⟨rfl,fun _ h=>h⟩,fun _ _ h=>h,fun b=>(hf b).trans ⟨.inl,fun h=>h.elim id False.elim⟩⟩
theorem RP {w:World} {L:List Bool} {u:Value} (h:aI.vw w (qR L) u):∃ a c,u=.slice a L.length c∧Hf w a L∧L.length≤c∧c≤maxLen:=by
 obtain⟨a,c,us,rfl,h1,h2,h3,h,hl⟩:=h;have e:=AB.1 hl;subst e;refine⟨a,c,rfl, ?_,h1,h2⟩;rcases h with h|⟨b,off,ha,hc⟩
 ·exact .inl h
 ·refine .inr ⟨b,off,ha,fun i hi=>?_⟩
  rw[hc i (by omega)]
  simp[List.getD,hi]
def gZ (x:Ml):List aI:=.v (.int .i64 x.fr)::.v (.int .i64 x.to)::eY x.row
theorem kK (x:Ml):(gZ x).length=10:=rfl
structure Ga where
 ma:Option Addr
 mc:Nat
 ua:Option Addr
 uc:Nat
 la:Option Addr
 lc:Nat
def jF (A:Ga) (g:Gr):Array Value:=#[.slice A.ma g.mem.length A.mc,.slice A.ua g.up.length A.uc,.slice A.la g.aG.length A.lc]
def iO (A:Ga) (g:Gr):Value:=.agg (jF A g)
def dB (g:Gr):List aI:=[dA 5 gW g.mem,qR g.up,dA 10 gZ g.aG]
def gq (A:Ga) (g:Gr):List Value:=[.slice A.ma g.mem.length A.mc,.slice A.ua g.up.length A.uc,.slice A.la g.aG.length A.lc]
def Bc (g:Gr):Prop:=(∀ m∈g.mem,kH m)∧∀ x∈g.aG,lV x.row
structure RQ (w:World) (A:Ga) (g:Gr):Prop where
 mem:aI.vw w (dA 5 gW g.mem) (.slice A.ma g.mem.length A.mc)
 up:Hf w A.ua g.up
 aG:aI.vw w (dA 10 gZ g.aG) (.slice A.la g.aG.length A.lc)
 lm:g.mem.length≤maxLen
 lu:g.up.length≤maxLen
 ll:g.aG.length≤maxLen
 fit:Bc g
theorem al5 {w:World} {A:Ga} {g:Gr} (h:zO w (dB g) (gq A g)) (hf:Bc g):RQ w A g:=by
 obtain⟨u1,rD,e1,h1,h2⟩:=h
 cases e1
 obtain⟨u2,uy,e2,h3,h4⟩:=h2
 cases e2
 obtain⟨u3,Dj,e3,h5,_⟩:=h4
 cases e3
 obtain⟨a,c,e,k1,k2,k3⟩:=RP h3
 cases e
 have l1:=h1;obtain⟨_,_,_,e,m1,m2,_⟩:=l1
 cases e
 have l5:=h5;obtain⟨_,_,_,e,n1,n2,_⟩:=l5
 cases e
 exact⟨h1,k1,h5,by omega,by omega,by omega,hf⟩
theorem vS {g:Gr} {k:Nat} (hk:k<g.mem.length):g.mem[k]?=some (aN g k):=by simp[aN,List.getD,hk]
theorem lK {g:Gr} {k:Nat} (hk:k<g.aG.length):g.aG[k]?=some (aU g k):=by simp[aU,List.getD,hk]
theorem Pv.aG {w:World} {b o:Nat} {x:Ml} (h:Pv w b o (gZ x)) (hf:lV x.row):∃ A:Ra,w.cell? ⟨b,o,none⟩=some (.int .i64 x.fr)∧w.cell? ⟨b,o+1,none⟩=some (.int .i64 x.to)∧C8 w b (o+2) (.int .i64 x.row.ver) (.slice A.ta x.row.txt.length A.tc) (.slice A.ga x.row.got.length A.gc) (.slice A.sa x.row.ak.length A.sc) (.bool x.row.wed) (.bool x.row.aB) (.int .i64 x.row.aC) (.slice A.ma x.row.aA.length A.mc)∧nJ w A x.row:=by
 obtain⟨u0,c0,rfl⟩:=h.at (j:=0) rfl;obtain⟨u1,c1,rfl⟩:=h.at (j:=1) rfl
 have hp:Pv w b (o+2) (eY x.row):=by
  obtain⟨vs,h1,h2⟩:=h;obtain⟨v0,vs0,rfl,_,h3⟩:=h2;obtain⟨v1,vs1,rfl,_,h4⟩:=h3;refine⟨vs1,fun j hj=>?_,h4⟩
  have:=h1 (j+2) (by simp;omega)
  rw[show o+2+j=o+(j+2) by omega,this]
  rfl
 obtain⟨A,h3,h4⟩:=hp.row hf;exact⟨A,c0,c1,h3,h4⟩
theorem RQ.letter {w:World} {A:Ga} {g:Gr} (h:RQ w A g) {k:Nat} (hk:k<g.aG.length):∃ b off Ak,A.la=some ⟨b,off,none⟩∧w.cell? ⟨b,off+k*10,none⟩=some (.int .i64 (aU g k).fr)∧w.cell? ⟨b,off+k*10+1,none⟩=some (.int .i64 (aU g k).to)∧C8 w b (off+k*10+2) (.int .i64 (aU g k).row.ver) (.slice Ak.ta (aU g k).row.txt.length Ak.tc) (.slice Ak.ga (aU g k).row.got.length Ak.gc) (.slice Ak.sa (aU g k).row.ak.length Ak.sc) (.bool (aU g k).row.wed) (.bool (aU g k).row.aB) (.int .i64 (aU g k).row.aC) (.slice Ak.ma (aU g k).row.aA.length Ak.mc)∧nJ w Ak (aU g k).row:=by
 obtain⟨b,off,h1,h2⟩:=JF kK h.aG (lK hk);obtain⟨Ak,h3,h4,h5,h6⟩:=h2.aG (h.fit.2 _ (List.mem_of_getElem? (lK hk)));exact⟨b,off,Ak,h1,h3,h4,h5,h6⟩
structure Gw (w X:World) (B o:Nat) (g:Gr) (fp:Fp) (b off c:Nat):Prop where
 bU:bC w X B o (dB g) fp
 mem:X.cell? ⟨B,o,none⟩=some (.slice (some ⟨b,off,none⟩) g.mem.length c)
theorem Gw.start {w:World} {B o:Nat} {g:Gr} {fp:Fp} (h:dN w B o (dB g) fp) (hn:0<g.mem.length):∃ b off c,Gw w w B o g fp b off c:=by
 obtain⟨b,off,c,f,h1,_⟩:=h.el (F:=gW) sU (by omega) (j:=0) (L:=g.mem) rfl (vS hn)
 exact⟨b,off,c,bC.refl h,h1⟩
theorem Gw.step {w X X':World} {B o:Nat} {g:Gr} {fp:Fp} {b off c:Nat} (h:Gw w X B o g fp b off c) (hb:Below X.heap.size X X'):Gw w X' B o g fp b off c:=⟨h.bU.below hb,(hb.cell (World.block_lt_of_cell? _ _ h.mem)).trans h.mem⟩
theorem Gw.mb {w X:World} {B o:Nat} {g:Gr} {fp:Fp} {b off c:Nat} (h:Gw w X B o g fp b off c) {k:Nat} (hk:k<g.mem.length):∃ f,dN X b (off+k*5) (gW (aN g k)) f ∧
  ∀ (X1:World) (m':Mb),bC X X1 b (off+k*5) (gW m') f→Gw w X1 B o { g with mem:=g.mem.set k m' } fp b off c:=by
 obtain⟨dD,hp,hf1,hgo⟩:=h.bU.next;obtain⟨b',off',c',f,h1,hgB,hfg,hfs,hpl,hput⟩:=hp.el (F:=gW) sU (by omega) (j:=0) (L:=g.mem) rfl (vS hk)
 have e:=Option.some.inj (h1.symm.trans h.mem)
 cases e
 refine⟨f,hpl,fun X1 m' hb=>⟨hgo _ (dB { g with mem:=g.mem.set k m' }) rfl (hput X1 m' hb), ?_⟩⟩
 have hn:¬ (f B∨B=b):=by
  rintro (h2|h2)
  ·obtain⟨_,_,_,h3⟩:=hp
   exact h3 (hfs B h2)
  ·exact hgB h2.symm
 have hbk:=hb.wrt.block B hp.lt hn;simp only[List.length_set]
 exact (World.cell?_of_block hbk).trans h.mem
theorem Gw.rd {w X:World} {B o:Nat} {g:Gr} {fp:Fp} {b off c:Nat} (h:Gw w X B o g fp b off c) (hf:Bc g):∃ ua uc la lc,X.cell? ⟨B,o+1,none⟩=some (.slice ua g.up.length uc)∧X.cell? ⟨B,o+2,none⟩=some (.slice la g.aG.length lc)∧RQ X ⟨some ⟨b,off,none⟩,c,ua,uc,la,lc⟩ g:=by
 obtain⟨dD,hp,_⟩:=h.bU.next;have hv:=hp.pv;obtain⟨u0,c0,v0⟩:=hv.at (j:=0) rfl;obtain⟨u1,c1,v1⟩:=hv.at (j:=1) rfl;obtain⟨u2,c2,v2⟩:=hv.at (j:=2) rfl;have e0:=Option.some.inj (c0.symm.trans h.mem);subst e0;obtain⟨ua,uc,rfl,s1,s2,s3⟩:=RP v1;have k:=v0;obtain⟨_,_,_,e,k1,k2,_⟩:=k
 cases e
 have l:=v2;obtain⟨la,lc,_,rfl,l1,l2,_⟩:=l;exact⟨ua,uc,la,lc,c1,c2,v0,s1,v2,by omega,by omega,by omega,hf⟩
end Go.Proofs.YtafimeakbdmkjaaGreat