/-
  Texts in one.
-/
import Derived.Test.YtafimeakbdmkjaaGreatXab
import Derived.Test.YtafimeakbdmkjaaGreatXaa
import Derived.Test.YtafimeakbdmkjaaGreatXac
namespace Go.Proofs.YtafimeakbdmkjaaGreat
open Bool renaming and_eq_true->bI,false->aC,true->aB
open List renaming all_eq_true->bJ,getD_eq_getElem?_getD->aS,getElem?_append_left->aU,getElem?_append_right->aT,getElem?_eq_getElem->aV,getElem?_eq_none->aZ,length_append->bD,length_set->bQ,mem_cons->bW,mem_cons_of_mem->bC,mem_cons_self->bF,mem_iff_getElem->bg,replicate->bV,take_succ_eq_append_getElem->aQ
open Nat renaming le_refl->cO
open Option renaming some->au
set_option linter.unusedVariables false
set_option linter.unusedSimpArgs false
open Go.RowKit Go.Sort
set_option maxRecDepth 100000
set_option maxHeartbeats 12800000
variable {T cs l s v xs:List Int} {M f j:Nat} {h':Hs} {x:Int} {L:List Nat}
def kJ (cs:List Int) (k j:Nat):List Int:=((List.range j).filter (fun i=>decide ((k:Int)<el cs i))).map (fun i:Nat=>(cs.length:Int)*(k:Int)+(i:Int))
def gZ (cs:List Int) (M:Nat):List Int:=(List.range M).flatMap (fun k=>kJ cs k cs.length)
theorem yC (cs:List Int) (k j:Nat):kJ cs k (j+1)=kJ cs k j++(if (k:Int)<el cs j then [(cs.length:Int)*(k:Int)+(j:Int)] else []):=by
 unfold kJ;rw[List.range_succ,List.filter_append,List.map_append];by_cases h:(k:Int)<el cs j
 ·simp[h]
 ·simp[h]
theorem qM (cs:List Int) (M:Nat):gZ cs (M+1)=gZ cs M++kJ cs M cs.length:=by simp[gZ,List.range_succ]
theorem NY {k: Nat} {q: Int}:q∈kJ cs k j↔∃ i:Nat,i<j/\(k:Int)<el cs i/\q=(cs.length:Int)*(k:Int)+(i:Int):=by
 simp only[kJ,List.mem_map,List.mem_filter,List.mem_range,decide_eq_true_eq]
 constructor
 ·rintro⟨i,⟨h1,h2⟩,h3⟩;exact⟨i,h1,h2,h3.symm⟩
 ·rintro⟨i,h1,h2,h3⟩;exact⟨i,⟨h1,h2⟩,h3.symm⟩
theorem xG {q: Int}:q∈gZ cs M↔∃ k i:Nat,k<M/\i<cs.length/\(k:Int)<el cs i/\q=(cs.length:Int)*(k:Int)+(i:Int):=by
 simp only[gZ,List.mem_flatMap,List.mem_range,NY]
 constructor
 ·rintro⟨k,hk,i,h⟩;exact⟨k,i,hk,h⟩
 ·rintro⟨k,i,hk,h⟩;exact⟨k,hk,i,h⟩
theorem Un (cs:List Int) (k j:Nat):(kJ cs k j).Pairwise (·<·):=by
 unfold kJ;rw[List.pairwise_map];exact ((List.pairwise_lt_range (n:=j)).filter _).imp (fun hab=>by omega)
theorem wI (cs:List Int) (M:Nat):(gZ cs M).Pairwise (·<·):=by
 induction M with
 | zero=>simp[gZ]
 | succ M ih =>
  rw[qM,List.pairwise_append];refine⟨ih,Un _ _ _,fun a ha b hb=>?_⟩
  obtain⟨k,i,hk,hi,_,rfl⟩:=xG.1 ha;obtain⟨i',_,_,rfl⟩:=NY.1 hb;have h1:(cs.length:Int)*((k:Int)+1)<=(cs.length:Int)*(M:Int):=Int.mul_le_mul_of_nonneg_left (by omega) (by omega)
  rw[Int.mul_add,Int.mul_one] at h1;omega
theorem JQ (h1:1<=cs.length) (hM:∀ i,i<cs.length->el cs i<=(M:Int)):FN cs (gZ cs M):=by
 refine⟨wI cs M,fun q=>?_⟩
 rw[xG]
 constructor
 ·rintro⟨k,i,hk,hi,hlt,rfl⟩
  have e:(cs.length:Int)*(k:Int)+(i:Int)=((cs.length*k+i:Nat):Int):=by simp
  rw[e];refine⟨by omega, ?_⟩
  rw[Int.toNat_natCast];unfold bel;rw[Nat.mul_add_mod,Nat.mod_eq_of_lt hi,Nat.mul_add_div (by omega),Nat.div_eq_of_lt hi]
  simpa using hlt
 ·rintro⟨h0,hb⟩
  obtain⟨p,rfl⟩:∃ p:Nat,q=(p:Int):=⟨q.toNat,by omega⟩
  rw[Int.toNat_natCast] at hb;unfold bel at hb;have hm:p%cs.length<cs.length:=Nat.mod_lt _ (by omega)
  have hle:=hM (p%cs.length) hm;refine⟨p/cs.length,p%cs.length,by omega,hm,hb, ?_⟩
  have:=Nat.div_add_mod p cs.length
  exact_mod_cast this.symm
def yP (cs:List Int) (M j:Nat):Nat:=((List.range j).map (fun i=>min (el cs i).toNat M)).sum
theorem yD (cs:List Int) (M j:Nat):yP cs M (j+1)=yP cs M j+min (el cs j).toNat M:=by simp[yP,List.range_succ]
theorem YV (cs:List Int) (M j:Nat):yP cs (M+1) j=yP cs M j+(kJ cs M j).length:=by
 induction j with
 | zero=>simp[yP,kJ]
 | succ j ih =>
  rw[yD,yD,yC,bD,ih];by_cases h:(M:Int)<el cs j
  ·rw[if_pos h];simp;omega
  ·rw[if_neg h];simp;omega
theorem NZ (cs:List Int) (M:Nat):(gZ cs M).length=yP cs M cs.length:=by
 induction M with
 | zero =>
  have:∀ j,yP cs 0 j=0:=fun j=>by
   induction j with
   | zero=>rfl
   | succ j ih=>rw[yD,ih];simp
  rw[this];simp[gZ]
 | succ M ih=>rw[qM,bD,ih,YV]
theorem YW (hM:∀ i,i<cs.length->0<=el cs i/\el cs i<=(M:Int)):∀ j,j<=cs.length->(yP cs M j:Int)=pq (cs.take j):=by
 intro j
 induction j with
 | zero=>intro _;simp[yP,pq]
 | succ j ih =>
  intro hj;have h:=hM j (by omega)
  rw[yD,aQ (by omega),Ee,<- ih (by omega),<- qX (by omega)]
  omega
theorem Iu (hM:∀ i,i<cs.length->0<=el cs i/\el cs i<=(M:Int)):((gZ cs M).length:Int)=pq cs:=by
 have:=YW hM cs.length (cO _);rw[List.take_length] at this;rw[NZ,this]
structure Mb where
 id:Int
 n:Int
 rows:List Rw
 dR:List Int
 done:Bool
def kY:Mb:=⟨0,0,[],[],aC⟩
def dO (R:List Rw) (j:Nat):Rw:=R.getD j nJ
def Mb.i (m:Mb):Nat:=m.id.toNat
def Mb.k (m:Mb):Nat:=m.n.toNat
def Mb.own (m:Mb):Rw:=dO m.rows m.i
def Et (m:Mb):Bool:=(List.range m.dR.length).all (fun i=>inB (el m.dR i) 0 59&&(m.done||decide (el m.dR i=(i:Int))))
def iG (m:Mb):Bool :=
 inB m.n 1 5 && (inB m.id 0 (m.n - 1) && (decide ((m.rows.length : Int) = m.n) && (decide (m.dR.length <= 60) && (sK m.dR && (m.rows.all (fun r => gu r m.n) && (Et m &&
  (decide (el m.own.got m.i=(m.own.txt.length:Int))&&(decide (m.id∉m.own.dQ)&&(!m.done||m.own.dV)))))))))
def kM (id n:Int):Mb×Bool:=if inB n 1 5=aB/\inB id 0 (n-1)=aB then (⟨id,n,bV n.toNat (jS n),[],aC⟩,aB) else (kY,aC)
def Mb.put (m:Mb) (o:Rw):Mb:={ m with rows:=m.rows.set m.i o }
def jD (m:Mb) (t:List UInt8):Mb×Bool :=
 if m.own.wed=aB\/m.done=aB\/m.own.txt.length=12\/20<t.length\/m.own.ver=1000000 then (m,aC)
 else (m.put { m.own with txt:=m.own.txt++[t],got:=m.own.got.set m.i (el m.own.got m.i+1),ver:=m.own.ver+1 },aB)
def fJ (m:Mb) (who:Int):Mb×Bool :=
 if inB who 0 (m.n-1)=aC\/who=m.id\/who∈m.own.dQ\/m.done=aB\/m.own.ver=1000000 then (m,aC)
 else (m.put { m.own with dQ:=gV m.own.dQ who,wed:=aB,ver:=m.own.ver+1 },aB)
def fK (m:Mb) (fr:Int) (r:Rw):Mb×Bool :=
 if inB fr 0 (m.n-1)=aC\/fr=m.id\/fr∈m.own.dQ\/m.done=aB\/gu r m.n=aC\/r.ver<=(dO m.rows fr.toNat).ver then (m,aC)
 else ({ m with rows:=m.rows.set fr.toNat r },aB)
def fA (n:Nat) (dQ:List Int):List Nat:=(List.range n).filter (fun j=>decide ((j:Int)∉dQ))
def kF (id:Nat) (s:List Int) (r:List Int):List Int:=r.foldl (fun s x=>if x=(id:Int) then s else gV s x) s
def lM (id:Nat) (o:Rw) (k:Nat) (r:Rw):Rw:=if k=id\/(r.wed=aC/\r.dQ=[]) then o else { o with wed:=aB,dQ:=kF id o.dQ r.dQ }
def learn (R:List Rw) (id:Nat) (o:Rw) (L:List Nat):Rw:=L.foldl (fun o k=>lM id o k (dO R k)) o
def oI (R:List Rw) (o:Rw) (n:Nat):List Int:=(List.range n).map (fun j=>max (el o.got j) ((dO R j).txt.length:Int))
def oQ (R:List Rw) (n q:Nat):Bool:=R.all (fun r=>decide (((q/n:Nat):Int)<el r.got (q%n)))
def lF (R:List Rw) (n:Nat):Nat->List Int->List Int
 | 0,s=>s
 | f+1,s=>if oQ R n s.length=aB then lF R n f (s++[(s.length:Int)]) else s
def kR (R:List Rw) (o:Rw) (L:List Nat):Bool:=L.all (fun k=>(dO R k).wed&&o.dQ.all (fun x=>decide (x∈(dO R k).dQ)))
def best (R:List Rw) (L:List Nat) (a:Int×List Int):Int×List Int:=L.foldl (fun a k=>if (dO R k).dV=aB/\a.1<(dO R k).dW then ((dO R k).dW,(dO R k).dU) else a) a
def meets (R:List Rw):List Nat->List Int
 | []=>[]
 | k::t=>t.foldl (fun acc j=>jc min acc (dO R j).got) (dO R k).got
def endOf (R:List Rw) (L:List Nat):List Int:=if (best R L (-1,[])).1<0 then meets R L else (best R L (-1,[])).2
def lead (R:List Rw) (id:Nat) (o:Rw) (L:List Nat):Rw:=if o.dV=aB/\(id:Int)<=o.dW then o else if kR R o L=aB then { o with dV:=aB,dW:=(id:Int),dU:=endOf R L } else o
def adopt (R:List Rw) (id:Nat) (o:Rw) (f:Nat):Rw :=
 if (dO R f).dV=aB/\(dO R f).dW=(f:Int)/\(id:Int)∉(dO R f).dQ/\¬ (o.dV=aB/\(f:Int)<=o.dW) then { o with dV:=aB,dW:=(f:Int),dU:=(dO R f).dU } else o
def ends (R:List Rw) (id:Nat) (o:Rw) (L:List Nat):Bool:=L.all (fun k=>(dO R k).dV&&(decide ((dO R k).dW=o.dW)&&(decide ((dO R k).dU=o.dU)&&decide ((id:Int)∉(dO R k).dQ))))
def lQ (a b:Rw):Bool:=decide (a.wed=b.wed/\a.dV=b.dV/\a.dW=b.dW/\a.got=b.got/\a.dQ=b.dQ/\a.dU=b.dU)
def jJ (s T:List Int):List Int:=(gZ T 12).foldl (fun s q=>if q∈s then s else gV s q) s
def fD (m:Mb):Rw:=learn m.rows m.i m.own (fA m.k m.own.dQ)
def gW (m:Mb):Rw:=if (fD m).wed=aB then fD m else { fD m with got:=oI m.rows (fD m) m.k }
def iT (m:Mb):List Int:=if (fD m).wed=aB then m.dR else lF (m.rows.set m.i (gW m)) m.k (60-m.dR.length) m.dR
def jR (m:Mb):List Nat:=fA m.k (gW m).dQ
def iF (m:Mb):Rw:=if (gW m).wed=aB/\m.k<2*(jR m).length/\(jR m).head?=au m.i then lead (m.rows.set m.i (gW m)) m.i (gW m) (jR m) else gW m
def fB (m:Mb):Rw:=if (iF m).wed=aB/\(jR m).head?≠au m.i then adopt (m.rows.set m.i (iF m)) m.i (iF m) ((jR m).headD 0) else iF m
def jK (m:Mb):Bool:=(fB m).dV&&(decide (m.k<2*(jR m).length)&&ends (m.rows.set m.i (fB m)) m.i (fB m) (jR m))
def kN (m:Mb):Rw:=if lQ m.own (fB m)=aB then fB m else { fB m with ver:=(fB m).ver+1 }
def fM (m:Mb):Mb:=if m.done=aB\/m.own.ver=1000000 then m else { m with rows:=m.rows.set m.i (kN m),dR:=if jK m=aB then jJ (iT m) (fB m).dU else iT m,done:=jK m }
theorem wJ {id:Nat} {x:Int}:∀ {r s:List Int},x∈kF id s r↔x∈s\/(x∈r/\x≠(id:Int))
 | [],s=>by simp[kF]
 | y::r,s=>by
  have ih:=wJ (id:=id) (x:=x) (r:=r) (s:=if y=(id:Int) then s else gV s y)
  unfold kF at ih ⊢;rw[List.foldl_cons,ih];by_cases e:y=(id:Int)
  ·rw[if_pos e]
   constructor
   ·rintro (h|⟨h,h2⟩)
    ·exact .inl h
    ·exact .inr ⟨bC _ h,h2⟩
   ·rintro (h|⟨h,h2⟩)
    ·exact .inl h
    ·rcases bW.1 h with h|h
     ·exact absurd (h.trans e) h2
     ·exact .inr ⟨h,h2⟩
  ·rw[if_neg e,nC]
   constructor
   ·rintro ((h|h)|⟨h,h2⟩)
    ·exact .inr ⟨by rw[h];exact bF,by rw[h];exact e⟩
    ·exact .inl h
    ·exact .inr ⟨bC _ h,h2⟩
   ·rintro (h|⟨h,h2⟩)
    ·exact .inl (.inr h)
    ·rcases bW.1 h with h|h
     ·exact .inl (.inl h)
     ·exact .inr ⟨h,h2⟩
structure zH (o o':Rw):Prop where
 ver:o'.ver=o.ver
 txt:o'.txt=o.txt
 got:o'.got=o.got
 dV:o'.dV=o.dV
 dW:o'.dW=o.dW
 dU:o'.dU=o.dU
 dQ:∀ x∈o.dQ,x∈o'.dQ
 wed:o.wed=aB->o'.wed=aB
 new:o'.wed=aC->o'.dQ=o.dQ
theorem zH.refl (o:Rw):zH o o:=⟨rfl,rfl,rfl,rfl,rfl,rfl,fun _ h=>h,fun h=>h,fun _=>rfl⟩
theorem Uo (id:Nat) (o:Rw) (k:Nat) (r:Rw):zH o (lM id o k r):=by
 unfold lM
 split
 ·exact zH.refl o
 ·exact⟨rfl,rfl,rfl,rfl,rfl,rfl,fun x hx=>wJ.2 (.inl hx),fun _=>rfl,fun h=>by cases h⟩
theorem zH.trans {a b c: Rw} (h : zH a b) (k : zH b c) : zH a c := ⟨k.ver.trans h.ver,k.txt.trans h.txt,k.got.trans h.got,k.dV.trans h.dV,k.dW.trans h.dW,k.dU.trans h.dU,fun x hx => k.dQ x (h.dQ x hx),fun hw => k.wed (h.wed hw),fun hw => by
 have hb:b.wed=aC:=by
  cases e:b.wed with
  | false=>rfl
  | true=>rw[k.wed e] at hw;cases hw
 rw[k.new hw,h.new hb]⟩
theorem qN (R:List Rw) (id:Nat):∀ (L:List Nat) (o:Rw),zH o (learn R id o L)
 | [],o=>zH.refl o
 | k::L,o=>(Uo id o k (dO R k)).trans (qN R id L (lM id o k (dO R k)))
theorem AA (R:List Rw) (id:Nat):∀ (L:List Nat) (o:Rw) {x:Int},x∈(learn R id o L).dQ->x∈o.dQ\/∃ k∈L,k≠id/\x∈(dO R k).dQ/\x≠(id:Int)
 | [],o,x,h=>.inl h
 | k::L,o,x,h=>by
  rcases AA R id L (lM id o k (dO R k)) h with h|⟨k',h1,h2⟩
  ·unfold lM at h
   split at h
   ·exact .inl h
   ·rename_i hn
    rcases wJ.1 h with h|⟨h,h2⟩
    ·exact .inl h
    ·exact .inr ⟨k,bF,fun e=>hn (.inl e),h,h2⟩
  ·exact .inr ⟨k',bC _ h1,h2⟩
theorem zH.nx {o o': Rw} (h:zH o o'):Nx o o' :=
 ⟨by rw[h.ver];exact Int.le_refl _,by rw[h.txt];exact List.prefix_refl _,fun i=>by rw[h.got];exact Int.le_refl _,h.dQ,fun hw=>⟨h.wed hw,h.got,h.txt⟩,fun hr=>⟨by rw[h.dV,hr],by rw[h.dW];exact Int.le_refl _,fun _=>h.dU⟩⟩
theorem jh {n: Nat} {dQ: List Int}:j∈fA n dQ↔j<n/\(j:Int)∉dQ:=by simp[fA]
theorem QJ (n:Nat) (dQ:List Int):(fA n dQ).Nodup:=List.Pairwise.filter _ List.nodup_range
theorem Iy {n: Nat} {dQ: List Int} (h:n<2*(fA n dQ).length):Half n (fA n dQ):=⟨QJ n dQ,fun x hx=>(jh.1 hx).1,h⟩
theorem QK {n: Nat} {dQ: List Int} (h:(fA n dQ).head?=au f):f∈fA n dQ/\∀ x,x<f->(x:Int)∈dQ:=by
 have hmem:=List.mem_of_mem_head? h;refine⟨hmem,fun x hx=>?_⟩
 refine Classical.byContradiction fun hn=>?_
 have hxm:x∈fA n dQ:=jh.2 ⟨by have:=(jh.1 hmem).1;omega,hn⟩
 have hp:(fA n dQ).Pairwise (·<·):=List.Pairwise.filter _ List.pairwise_lt_range
 cases e:fA n dQ with
 | nil=>rw[e] at hmem;cases hmem
 | cons y l =>
  rw[e] at h hp hxm;simp at h
  subst h;rcases bW.1 hxm with h1|h1
  ·omega
  ·have:=(List.pairwise_cons.1 hp).1 x h1;omega
def fl (al:List Bool) (i:Nat):Bool:=al.getD i aC
theorem Ro {f: Int->Int->Int} (hf:∀ x y,(0<=x/\x<=1000000)->(0<=y/\y<=1000000)->0<=f x y/\f x y<=1000000) {ys: List Int} (h1:okB xs=aB) (h2:okB ys=aB) (hl:xs.length=ys.length):jc f xs ys=jn f xs ys xs.length/\(jc f xs ys).length=xs.length/\okB (jc f xs ys)=aB:=by
 have ht:vH xs ys=aB:=by simp[vH,h1,h2,hl]
 have e:jc f xs ys=jn f xs ys xs.length:=by rw[jc,if_pos ht]
 have hlen:(jc f xs ys).length=xs.length:=by rw[e,lT]
 refine⟨e,hlen, ?_⟩;have h8:=mM h1;refine Bq (by omega) (by omega) (fun j hj=>?_)
 rw[hlen] at hj;rw[e,Uf _ _ _ hj];have:=hf _ _ (wu h1 hj) (wu h2 (i:=j) (by omega))
 simp[inB]
 omega
theorem ai2:∀ x y:Int,(0<=x/\x<=1000000)->(0<=y/\y<=1000000)->0<=min x y/\min x y<=1000000:=fun x y h1 h2=>by omega
structure iR (r:Rw) (n:Nat):Prop where
 n5:1<=n/\n<=5
 ver:0<=r.ver/\r.ver<=1000000
 tl:r.txt.length<=12
 ts:∀ t∈r.txt,t.length<=20
 got:okB r.got=aB
 gl:r.got.length=n
 g12:∀ x∈r.got,x<=12
 dQ:∀ x∈r.dQ,0<=x/\x<(n:Int)
 oL:sK r.dQ=aB
 dV:r.dV=aB->r.wed=aB/\(0<=r.dW/\r.dW<(n:Int))/\okB r.dU=aB/\r.dU.length=n/\∀ x∈r.dU,x<=12
 not:r.dV=aC->r.dW=0/\r.dU=[]
theorem FP {n: Nat}:lG v (n:Int)=aB↔okB v=aB/\v.length=n/\∀ x∈v,x<=12:=by
 simp only[lG,bI,decide_eq_true_eq,bJ]
 constructor
 ·rintro⟨h1,h2,h3⟩;exact⟨h1,by omega,h3⟩
 ·rintro⟨h1,h2,h3⟩;exact⟨h1,by omega,h3⟩
theorem rC {r: Rw} {n: Nat}:gu r (n:Int)=aB↔iR r n:=by
 constructor
 ·intro h
  simp only[gu,bI,decide_eq_true_eq,bJ,lY] at h;obtain⟨h1,h2,h3,h4,⟨h5,h6⟩,h7,h8⟩:=h;have h1:=iZ.1 h1;have h2:=iZ.1 h2;obtain⟨g1,g2,g3⟩:=FP.1 h4;refine⟨by omega,h2,h3,h7,g1,g2,g3,fun x hx=>by have:=iZ.1 (h5 x hx);omega,h6,fun hr=>?_,fun hr=>?_⟩
  ·rw[if_pos hr] at h8
   simp only[bI] at h8;obtain⟨k1,k2,k3⟩:=h8;have k2:=iZ.1 k2;obtain⟨t1,t2,t3⟩:=FP.1 k3;exact⟨k1,by omega,t1,t2,t3⟩
  ·rw[hr] at h8
   simp at h8
   exact h8
 ·intro h
  simp only[gu,bI,decide_eq_true_eq,bJ,lY]
  have:=h.n5;have:=h.ver;refine⟨iZ.2 (by omega),iZ.2 (by omega),h.tl,FP.2 ⟨h.got,h.gl,h.g12⟩,⟨fun x hx=>iZ.2 (by have:=h.dQ x hx;omega),h.oL⟩,h.ts, ?_⟩
  cases hr:r.dV with
  | true =>
   obtain⟨k1,k2,k3,k4,k5⟩:=h.dV hr;rw[if_pos rfl];simp only[bI]
   exact⟨k1,iZ.2 (by omega),FP.2 ⟨k3,k4,k5⟩⟩
  | false =>
   obtain⟨k1,k2⟩:=h.not hr;simp[k1,k2]
def su (h:Hs) (i:Nat) (r:Rw):Hs:=fun j=>if j=i then r::h j else h j
theorem jQ {h: Hs} {i: Nat} {r x: Rw} (hx:x∈h j):x∈su h i r j:=by
 unfold su
 split
 ·exact bC _ hx
 ·exact hx
theorem mQ (h:Hs) (i:Nat) (r:Rw):su h i r i=r::h i:=by simp[su]
theorem nV {h: Hs} {i: Nat} {r: Rw} (e:j≠i):su h i r j=h j:=by simp[su,e]
theorem kX.add {n: Nat} {h: Hs} {log wK: List Pp} (S:kX n h log) {i: Nat} {o o': Rw} {t: List Rw} (ho:h i=o::t) (hx:Nx o o') (ha:o'.dV=aB->(o.dV=aB/\o.dW=o'.dW)\/(o'.dW∉o'.dQ/\∃ P∈wK,(P.b:Int)=o'.dW/\P.T=o'.dU))
  (hl:vk n (su h i o') wK) (hs:∀ P∈log,P∈wK):kX n (su h i o') wK:=by
 have hoi:o∈h i:=by rw[ho];exact bF
 refine⟨fun j=>?_,fun j r hr hrd=>?_,fun j r hr hrd=>?_,hl⟩
 ·by_cases e:j=i
  ·subst e
   rw[mQ];refine List.pairwise_cons.2 ⟨fun x hx2=>?_,S.chain j⟩
   rw[ho] at hx2;rcases bW.1 hx2 with h1|h1
   ·rw[h1];exact hx
   ·have:=S.chain j
    rw[ho] at this;exact ((List.pairwise_cons.1 this).1 x h1).trans hx
  ·rw[nV e];exact S.chain j
 ·by_cases e:j=i
  ·subst e
   rw[mQ] at hr;rcases bW.1 hr with h1|h1
   ·subst h1
    rcases ha hrd with ⟨k1,k2⟩|⟨k1,_⟩
    ·obtain⟨r0,m0,m1,m2,m3,m4⟩:=S.acc j o hoi k1
     exact⟨r0,jQ m0,m1.trans hx,m2,m3.trans k2,m4⟩
    ·exact⟨r,by rw[mQ];exact bF,Nx.refl _,hrd,rfl,k1⟩
   ·obtain⟨r0,m0,m⟩:=S.acc j r h1 hrd
    exact⟨r0,jQ m0,m⟩
  ·rw[nV e] at hr
   obtain⟨r0,m0,m⟩:=S.acc j r hr hrd;exact⟨r0,jQ m0,m⟩
 ·by_cases e:j=i
  ·subst e
   rw[mQ] at hr;rcases bW.1 hr with h1|h1
   ·subst h1
    rcases ha hrd with ⟨k1,k2⟩|⟨_,k⟩
    ·obtain⟨P,p0,p1,p2⟩:=S.prop j o hoi k1
     exact⟨P,hs P p0,by rw[p1,k2],by rw[p2,(hx.dV k1).2.2 k2.symm]⟩
    ·exact k
   ·obtain⟨P,p0,p⟩:=S.prop j r h1 hrd
    exact⟨P,hs P p0,p⟩
  ·rw[nV e] at hr
   obtain⟨P,p0,p⟩:=S.prop j r hr hrd;exact⟨P,hs P p0,p⟩
theorem kX.same {n: Nat} {h: Hs} {log: List Pp} (S:kX n h log) {i: Nat} {o o': Rw} {t: List Rw} (ho:h i=o::t) (hx:Nx o o') (ha:o'.dV=aB->(o.dV=aB/\o.dW=o'.dW)\/(o'.dW∉o'.dQ/\∃ P∈log,(P.b:Int)=o'.dW/\P.T=o'.dU)):kX n (su h i o') log :=
 S.add ho hx ha (S.log.more (fun j r hr=>jQ hr)) (fun P h=>h)
theorem JO.more {n: Nat} {h: Hs} {q: Nat} (k:JO n h q) (hm:∀ j r,r∈h j->r∈h' j):JO n h' q:=fun j hj=>by
 obtain⟨r,h1,h2⟩:=k j hj;exact⟨r,hm j r h1,h2⟩
structure MInv (n:Nat) (h:Hs) (i:Nat) (m:Mb):Prop where
 hid:m.id=(i:Int)
 hn:m.n=(n:Int)
 lt:i<n
 len:m.rows.length=n
 head:∃ t,h i=dO m.rows i::t
 view:∀ j,j<n->dO m.rows j∈h j
 ok:∀ j,j<n->iR (dO m.rows j) n
 self:(i:Int)∉(dO m.rows i).dQ
 Iz:∀ j,j<n->el (dO m.rows i).got j<=((dO m.rows j).txt.length:Int)
 nO:el (dO m.rows i).got i=((dO m.rows i).txt.length:Int)
 vI:m.done=aC->m.dR.length<=60/\∀ q,q<m.dR.length->el m.dR q=(q:Int)/\JO n h q
 fin:m.done=aB->(dO m.rows i).dV=aB/\n<2*(fA n (dO m.rows i).dQ).length/\(∀ j∈fA n (dO m.rows i).dQ,∃ q∈h j,q.dV=aB/\q.dW=(dO m.rows i).dW/\q.dU=(dO m.rows i).dU/\(i:Int)∉q.dQ)/\m.dR=gZ (dO m.rows i).dU 12
theorem MInv.more {n:Nat} {h h':Hs} {i:Nat} {m:Mb} (M:MInv n h i m) (hm:∀ j r,r∈h j->r∈h' j) (he:h' i=h i):MInv n h' i m :=
 ⟨M.hid,M.hn,M.lt,M.len,by rw [he];exact M.head,fun j hj => hm j _ (M.view j hj),M.ok,M.self,M.Iz,M.nO,fun hd => ⟨(M.vI hd).1,fun q hq => ⟨((M.vI hd).2 q hq).1,((M.vI hd).2 q hq).2.more hm⟩⟩,
  fun hd=>by
   obtain⟨h1,h2,h3,h4⟩:=M.fin hd;exact⟨h1,h2,fun j hj=>by obtain⟨q,q1,q2⟩:=h3 j hj;exact⟨q,hm j q q1,q2⟩,h4⟩⟩
theorem gY {R: List Rw} {i: Nat} {o: Rw} (hi:i<R.length):dO (R.set i o) j=if j=i then o else dO R j:=by
 unfold dO;rw[aS,aS,List.getElem?_set];by_cases e:i=j
 ·subst e;simp[hi]
 ·rw[if_neg e,if_neg (Ne.symm e)]
theorem MInv.i {n: Nat} {h: Hs} {i: Nat} {m: Mb} (M:MInv n h i m):m.i=i:=by rw[Mb.i,M.hid];rfl
theorem MInv.k {n: Nat} {h: Hs} {i: Nat} {m: Mb} (M:MInv n h i m):m.k=n:=by rw[Mb.k,M.hn];rfl
theorem MInv.own {n: Nat} {h: Hs} {i: Nat} {m: Mb} (M:MInv n h i m):m.own=dO m.rows i:=by rw[Mb.own,M.i]
theorem kZ:sK xs=aB↔xs.Pairwise (·<·):=by rw[sK,decide_eq_true_iff,xE]
theorem jF {n: Nat} (hn:1<=n/\n<=5) (hl:v.length=n):(okB v=aB/\∀ x∈v,x<=12)↔∀ j,j<n->0<=el v j/\el v j<=12:=by
 constructor
 ·rintro⟨h1,h2⟩ j hj
  have:=wu h1 (i:=j) (by omega)
  exact⟨this.1,h2 _ (kK (by omega))⟩
 ·intro h
  refine⟨Bq (by omega) (by omega) (fun j hj=>?_),fun x hx=>?_⟩
  ·have:=h j (by omega)
   simp[inB]
   omega
  ·obtain⟨j,hj,rfl⟩:=bg.1 hx
   have:=(h j (by omega)).2
   simpa[el,hj] using this
theorem iR.g {r: Rw} {n: Nat} (h:iR r n):∀ j,j<n->0<=el r.got j/\el r.got j<=12:=(jF h.n5 h.gl).1 ⟨h.got,h.g12⟩
theorem iR.t {r: Rw} {n: Nat} (h:iR r n) (hr:r.dV=aB):∀ j,j<n->0<=el r.dU j/\el r.dU j<=12:=(jF h.n5 (h.dV hr).2.2.2.1).1 ⟨(h.dV hr).2.2.1,(h.dV hr).2.2.2.2⟩
theorem iR.VE {r: Rw} {n: Nat} (h:iR r n) (hw:r.wed=aC):r.dV=aC:=by
 cases e:r.dV with
 | false=>rfl
 | true=>rw[(h.dV e).1] at hw;cases hw
theorem zI {i: Nat} (hi:i<l.length):el (l.set i x) j=if j=i then x else el l j:=by
 unfold el;rw[aS,aS,List.getElem?_set];by_cases e:i=j
 ·subst e;simp[hi]
 ·rw[if_neg e,if_neg (Ne.symm e)]
theorem MInv.to {n: Nat} {h: Hs} {i: Nat} {m: Mb} (M:MInv n h i m) (hm:∀ j r,r∈h j->r∈h' j) {o': Rw} (head:∃ t,h' i=o'::t) (ok:iR o' n) (self:(i:Int)∉o'.dQ) (Iz:∀ j,j<n->j≠i->el o'.got j<=((dO m.rows j).txt.length:Int)) (nO:el o'.got i=(o'.txt.length:Int)) {lZ: List Int} {done': Bool}
  (vI:done'=aC->lZ.length<=60/\∀ q,q<lZ.length->el lZ q=(q:Int)/\JO n h' q)
  (fin:done'=aB->o'.dV=aB/\n<2*(fA n o'.dQ).length/\(∀ j∈fA n o'.dQ,∃ q∈h' j,q.dV=aB/\q.dW=o'.dW/\q.dU=o'.dU/\(i:Int)∉q.dQ)/\lZ=gZ o'.dU 12) :
  MInv n h' i { m with rows:=m.rows.set i o',dR:=lZ,done:=done' }:=by
 have hi:i<m.rows.length:=by rw[M.len];exact M.lt
 have e1:dO (m.rows.set i o') i=o':=by rw[gY hi,if_pos rfl]
 refine⟨M.hid,M.hn,M.lt,by simp only[bQ];exact M.len, ?_,fun j hj=>?_,fun j hj=>?_, ?_,fun j hj=>?_, ?_,vI, ?_⟩
 ·simp only[e1];exact head
 ·simp only[gY hi]
  split
  ·rename_i e;rw[e];obtain⟨t,ht⟩:=head;rw[ht];exact bF
  ·exact hm j _ (M.view j hj)
 ·simp only[gY hi]
  split
  ·exact ok
  ·exact M.ok j hj
 ·simp only[e1];exact self
 ·simp only[e1,gY hi]
  split
  ·rename_i e;rw[e,nO];exact Int.le_refl _
  ·rename_i e;exact Iz j hj e
 ·simp only[e1];exact nO
 ·simp only[e1];exact fin
def Goes (n:Nat) (h:Hs) (log:List Pp) (i:Nat) (m':Mb):Prop:=∃ h' wK,kX n h' wK/\MInv n h' i m'/\(∀ j,j≠i->h' j=h j)/\∀ j r,r∈h j->r∈h' j
theorem Goes.same {n: Nat} {h: Hs} {log: List Pp} {i: Nat} {m: Mb} (S:kX n h log) (M:MInv n h i m):Goes n h log i m:=⟨h,log,S,M,fun _ _=>rfl,fun _ _ h=>h⟩
theorem YX {n: Nat} {h: Hs} {log: List Pp} {i: Nat} {m: Mb} (S:kX n h log) (M:MInv n h i m) (t:List UInt8):Goes n h log i (jD m t).1:=by
 unfold jD
 split
 ·exact Goes.same S M
 ·rename_i hn
  simp only[not_or] at hn;obtain⟨h1,h2,h3,h4,h5⟩:=hn;rw[M.own] at h1 h3 h5 ⊢;have hd:m.done=aC:=by simpa using h2
  have hw:(dO m.rows i).wed=aC:=by simpa using h1
  have ok:=M.ok i M.lt;have hr:=ok.VE hw;have hgi:=M.nO;have htl:=ok.tl;have hlen:i<(dO m.rows i).got.length:=by rw[ok.gl];exact M.lt
  obtain⟨tt,ht⟩:=M.head
  have hx:Nx (dO m.rows i) { dO m.rows i with txt:=(dO m.rows i).txt++[t],got:=(dO m.rows i).got.set i (el (dO m.rows i).got i+1),ver:=(dO m.rows i).ver+1 }:=by
   refine⟨by simp only;omega,List.prefix_append _ _,fun j=>?_,fun x hx=>hx,fun hw2=>(by rw[hw] at hw2;cases hw2),fun hr2=>(by rw[hr] at hr2;cases hr2)⟩
   simp only[zI hlen]
   split
   ·rename_i e;rw[e];omega
   ·exact Int.le_refl _
  simp only[Mb.put,M.i]
  refine⟨_,log,S.same ht hx (fun hr2=>by simp only at hr2;rw[hr] at hr2;cases hr2), ?_,fun j hj=>nV hj,fun j r hr=>jQ hr⟩
  have hov:=ok.ver;refine M.to (o':={ dO m.rows i with txt:=(dO m.rows i).txt++[t],got:=(dO m.rows i).got.set i (el (dO m.rows i).got i+1),ver:=(dO m.rows i).ver+1 }) (lZ:=m.dR) (done':=m.done) (fun j r hr=>jQ hr) ⟨_,mQ _ _ _⟩ ?_ M.self (fun j hj hne=>?_) ?_ (fun _=>⟨(M.vI hd).1,fun q hq=>⟨((M.vI hd).2 q hq).1,((M.vI hd).2 q hq).2.more (fun j r hr=>jQ hr)⟩⟩) (fun h=>(by rw[hd] at h;cases h))
  ·have hg:∀ j,j<n->0<=el ((dO m.rows i).got.set i (el (dO m.rows i).got i+1)) j/\el ((dO m.rows i).got.set i (el (dO m.rows i).got i+1)) j<=12:=fun j hj=>by
    rw[zI hlen]
    split
    ·omega
    ·exact ok.g j hj
   have hgl:((dO m.rows i).got.set i (el (dO m.rows i).got i+1)).length=n:=by rw[bQ];exact ok.gl
   have:=(jF ok.n5 hgl).2 hg;refine⟨ok.n5,by simp only;omega,by simp only[bD,List.length_singleton];omega,fun x hx=>?_,this.1,hgl,this.2,ok.dQ,ok.oL,fun h=>(by simp only at h;rw[hr] at h;cases h),fun h=>ok.not hr⟩
   rcases List.mem_append.1 hx with hx|hx
   ·exact ok.ts x hx
   ·have:=List.mem_singleton.1 hx;rw[this];omega
  ·simp only[zI hlen,if_neg hne]
   exact M.Iz j hj
  ·simp only[zI hlen,if_pos,bD,List.length_singleton]
   omega
theorem Ur {n: Nat} {h: Hs} {log: List Pp} {i: Nat} {m: Mb} (S:kX n h log) (M:MInv n h i m) (who:Int):Goes n h log i (fJ m who).1:=by
 unfold fJ
 split
 ·exact Goes.same S M
 ·rename_i hn
  simp only[not_or] at hn;obtain⟨h1,h2,h3,h4,h5⟩:=hn;rw[M.own] at h3 h5 ⊢;rw[M.hid] at h2;rw[M.hn] at h1;have h1:=iZ.1 (by simpa using h1)
  have hd:m.done=aC:=by simpa using h4
  have ok:=M.ok i M.lt;have hov:=ok.ver;obtain⟨tt,ht⟩:=M.head
  have hx:Nx (dO m.rows i) { dO m.rows i with dQ:=gV (dO m.rows i).dQ who,wed:=aB,ver:=(dO m.rows i).ver+1 } :=
   ⟨by simp only;omega,List.prefix_refl _,fun j=>Int.le_refl _,fun x hx=>nC.2 (.inr hx),fun _=>⟨rfl,rfl,rfl⟩,fun hr=>⟨hr,Int.le_refl _,fun _=>rfl⟩⟩
  simp only[Mb.put,M.i]
  refine⟨_,log,S.same ht hx (fun hr=>.inl ⟨hr,rfl⟩), ?_,fun j hj=>nV hj,fun j r hr=>jQ hr⟩
  refine M.to (o':={ dO m.rows i with dQ:=gV (dO m.rows i).dQ who,wed:=aB,ver:=(dO m.rows i).ver+1 }) (lZ:=m.dR) (done':=m.done) (fun j r hr=>jQ hr) ⟨_,mQ _ _ _⟩ ?_ (fun hm=>?_) (fun j hj hne=>M.Iz j hj) M.nO (fun _=>⟨(M.vI hd).1,fun q hq=>⟨((M.vI hd).2 q hq).1,((M.vI hd).2 q hq).2.more (fun j r hr=>jQ hr)⟩⟩) (fun h=>(by rw[hd] at h;cases h))
  ·refine⟨ok.n5,by simp only;omega,ok.tl,ok.ts,ok.got,ok.gl,ok.g12,fun x hx=>?_,kZ.2 (wG (kZ.1 ok.oL)),fun hr=>⟨rfl,(ok.dV hr).2⟩,ok.not⟩
   rcases nC.1 hx with e|hx
   ·rw[e];omega
   ·exact ok.dQ x hx
  ·rcases nC.1 hm with e|hx
   ·exact h2 e.symm
   ·exact M.self hx
theorem Us {n: Nat} {h: Hs} {log: List Pp} {i: Nat} {m: Mb} (S:kX n h log) (M:MInv n h i m) {fr: Nat} {r: Rw} (hr:r∈h fr) (hf:fr<n):MInv n h i (fK m (fr:Int) r).1:=by
 unfold fK
 split
 ·exact M
 ·rename_i hn
  simp only[not_or] at hn;obtain⟨h1,h2,h3,h4,h5,h6⟩:=hn;rw[M.hid] at h2;rw[M.hn] at h5;have hne:i≠fr:=fun e=>h2 (by rw[e])
  have IB:iR r n:=rC.1 (by simpa using h5)
  simp only[Int.toNat_natCast] at h6 ⊢;have hfl:fr<m.rows.length:=by rw[M.len];exact hf
  have e1:dO (m.rows.set fr r) i=dO m.rows i:=by rw[gY hfl,if_neg hne]
  refine⟨M.hid,M.hn,M.lt,by simp only[bQ];exact M.len,by simp only[e1];exact M.head,fun j hj=>?_,fun j hj=>?_,by simp only[e1];exact M.self,fun j hj=>?_,by simp only[e1];exact M.nO,M.vI,by simp only[e1];exact M.fin⟩
  ·simp only[gY hfl]
   split
   ·rename_i e;rw[e];exact hr
   ·exact M.view j hj
  ·simp only[gY hfl]
   split
   ·exact IB
   ·exact M.ok j hj
  ·simp only[e1]
   simp only[gY hfl]
   split
   ·rename_i e
    have h7:=M.Iz fr hf;rcases (S.chain fr).comp (M.view fr hf) hr with c|c
    ·have:=c.txt.length_le
     rw[e];omega
    ·exact absurd c.ver (by omega)
   ·exact M.Iz j hj
theorem ak9 {q: Nat}:el (s++[x]) q=if q=s.length then x else el s q:=by
 unfold el;rw[aS,aS];by_cases h:q<s.length
 ·rw[aU h,if_neg (by omega)]
 ·by_cases e:q=s.length
  ·subst e;simp
  ·rw[if_neg e,aT (by omega),aZ (by simp;omega),aZ (by omega)]
theorem AB (R:List Rw) (n:Nat):∀ (f:Nat) (s:List Int),(∀ q,q<s.length->el s q=(q:Int))->(lF R n f s).length<=s.length+f/\s.length<=(lF R n f s).length/\(∀ q,q<(lF R n f s).length->el (lF R n f s) q=(q:Int))/\∀ q,s.length<=q->q<(lF R n f s).length->oQ R n q=aB
 | 0,s,h=>⟨cO _,cO _,h,fun q h1 h2=>absurd h2 (by simp only[lF];omega)⟩
 | f+1,s,h=>by
  unfold lF
  split
  ·rename_i hs
   obtain ⟨h1,h2,h3,h4⟩ := AB R n f (s ++ [(s.length : Int)]) (fun q hq => by
    rw[ak9]
    split
    ·rename_i e;rw[e]
    ·rename_i e;simp at hq;exact h q (by omega))
   rw[bD,List.length_singleton] at h1 h2 h4;refine⟨by omega,by omega,h3,fun q q1 q2=>?_⟩
   by_cases e:q=s.length
   ·rw[e];exact hs
   ·exact h4 q (by omega) q2
  ·exact⟨by omega,cO _,h,fun q h1 h2=>absurd h2 (by omega)⟩
theorem AO (R:List Rw):∀ (L:List Nat) (a:Int×List Int),(best R L a=a\/∃ k∈L,(dO R k).dV=aB/\best R L a=((dO R k).dW,(dO R k).dU))/\a.1<=(best R L a).1/\∀ k∈L,(dO R k).dV=aB->(dO R k).dW<=(best R L a).1
 | [],a=>⟨.inl rfl,Int.le_refl _,fun k hk=>by cases hk⟩
 | k::L,a=>by
  have e:best R (k::L) a=best R L (if (dO R k).dV=aB/\a.1<(dO R k).dW then ((dO R k).dW,(dO R k).dU) else a):=rfl
  obtain⟨h1,h2,h3⟩:=AO R L (if (dO R k).dV=aB/\a.1<(dO R k).dW then ((dO R k).dW,(dO R k).dU) else a)
  rw[e];by_cases c:(dO R k).dV=aB/\a.1<(dO R k).dW
  ·rw[if_pos c] at h1 h2 h3 ⊢
   simp only at h2
   refine⟨?_,by omega,fun k' hk' hr=>?_⟩
   ·rcases h1 with h1|⟨k',q1,q2,q3⟩
    ·exact .inr ⟨k,bF,c.1,h1⟩
    ·exact .inr ⟨k',bC _ q1,q2,q3⟩
   ·rcases bW.1 hk' with rfl|hk'
    ·exact h2
    ·exact h3 k' hk' hr
  ·rw[if_neg c] at h1 h2 h3 ⊢
   refine⟨?_,h2,fun k' hk' hr=>?_⟩
   ·rcases h1 with h1|⟨k',q1,q2,q3⟩
    ·exact .inl h1
    ·exact .inr ⟨k',bC _ q1,q2,q3⟩
   ·rcases bW.1 hk' with rfl|hk'
    ·have:¬ a.1<(dO R k').dW:=fun h=>c ⟨hr,h⟩
     omega
    ·exact h3 k' hk' hr
theorem KP {R:List Rw} {n:Nat} (hn:1<=n/\n<=5):∀ (L:List Nat) (acc:List Int),acc.length=n->(∀ s,s<n->0<=el acc s/\el acc s<=12)->(∀ k∈L,(dO R k).got.length=n/\∀ s,s<n->0<=el (dO R k).got s/\el (dO R k).got s<=12) ->
  (L.foldl (fun acc j=>jc min acc (dO R j).got) acc).length=n/\∀ s,s<n->(0<=el (L.foldl (fun acc j=>jc min acc (dO R j).got) acc) s/\el (L.foldl (fun acc j=>jc min acc (dO R j).got) acc) s<=el acc s)/\(∀ k∈L,el (L.foldl (fun acc j=>jc min acc (dO R j).got) acc) s<=el (dO R k).got s)/\(el (L.foldl (fun acc j=>jc min acc (dO R j).got) acc) s=el acc s\/∃ k∈L,el (L.foldl (fun acc j=>jc min acc (dO R j).got) acc) s=el (dO R k).got s)
 | [],acc,hl,ha,hL=>⟨hl,fun s hs=>⟨⟨(ha s hs).1,Int.le_refl _⟩,fun k hk=>(by cases hk),.inl rfl⟩⟩
 | k::L,acc,hl,ha,hL=>by
  obtain⟨k1,k2⟩:=hL k bF;have o1:=((jF hn hl).2 ha).1;have o2:=((jF hn k1).2 k2).1;obtain⟨e1,e2,e3⟩:=Ro ai2 o1 o2 (by rw[hl,k1])
  have hel:∀ s,s<n->el (jc min acc (dO R k).got) s=min (el acc s) (el (dO R k).got s):=fun s hs=>by rw[e1,Uf _ _ _ (by omega)]
  obtain⟨h1,h2⟩:=KP hn L (jc min acc (dO R k).got) (by rw[e2,hl]) (fun s hs=>by rw[hel s hs];have:=ha s hs;have:=k2 s hs;omega) (fun j hj=>hL j (bC _ hj))
  refine⟨h1,fun s hs=>?_⟩
  obtain⟨⟨a1,a2⟩,a3,a4⟩:=h2 s hs;have hs2:=hel s hs;simp only[List.foldl_cons]
  refine⟨⟨a1,by omega⟩,fun j hj=>?_, ?_⟩
  ·rcases bW.1 hj with rfl|hj
   ·omega
   ·exact a3 j hj
  ·rcases a4 with a4|⟨j,j1,j2⟩
   ·rcases Int.le_total (el acc s) (el (dO R k).got s) with c|c
    ·exact .inl (by omega)
    ·exact .inr ⟨k,bF,by omega⟩
   ·exact .inr ⟨j,bC _ j1,j2⟩
theorem zk {R: List Rw} {n: Nat} (hn:1<=n/\n<=5) (hne:L≠[]) (hL:∀ k∈L,(dO R k).got.length=n/\∀ s,s<n->0<=el (dO R k).got s/\el (dO R k).got s<=12) :
  (meets R L).length=n/\∀ s,s<n->0<=el (meets R L) s/\(∀ k∈L,el (meets R L) s<=el (dO R k).got s)/\∃ k∈L,el (meets R L) s=el (dO R k).got s:=by
 cases L with
 | nil=>exact absurd rfl hne
 | cons k t =>
  obtain⟨k1,k2⟩:=hL k bF;obtain⟨h1,h2⟩:=KP hn t (dO R k).got k1 k2 (fun j hj=>hL j (bC _ hj))
  refine⟨h1,fun s hs=>?_⟩
  obtain⟨⟨a1,a2⟩,a3,a4⟩:=h2 s hs;refine⟨a1,fun j hj=>?_, ?_⟩
  ·rcases bW.1 hj with rfl|hj
   ·exact a2
   ·exact a3 j hj
  ·rcases a4 with a4|⟨j,j1,j2⟩
   ·exact⟨k,bF,a4⟩
   ·exact⟨j,bC _ j1,j2⟩
structure Ph (n:Nat) (h:Hs) (log:List Pp) (i:Nat) (R:List Rw) (o:Rw):Prop where
 S:kX n h log
 head:∃ t,h i=o::t
 view:∀ j,j<n->j≠i->dO R j∈h j
 okv:∀ j,j<n->j≠i->iR (dO R j) n
 ok:iR o n
 self:(i:Int)∉o.dQ
 lt:i<n
 len:R.length=n
theorem Ph.own {n: Nat} {h: Hs} {log: List Pp} {i: Nat} {R: List Rw} {o: Rw} (P:Ph n h log i R o):o∈h i:=by obtain⟨t,ht⟩:=P.head;rw[ht];exact bF
theorem Ph.row {n: Nat} {h: Hs} {log: List Pp} {i: Nat} {R: List Rw} {o: Rw} (P:Ph n h log i R o) (hj:j<n):dO (R.set i o) j∈h j/\iR (dO (R.set i o) j) n:=by
 rw[gY (by rw[P.len];exact P.lt)]
 split
 ·rename_i e;subst e;exact⟨P.own,P.ok⟩
 ·rename_i e;exact⟨P.view j hj e,P.okv j hj e⟩
theorem Ph.next {n: Nat} {h: Hs} {log: List Pp} {i: Nat} {R: List Rw} {o o': Rw} (P:Ph n h log i R o) (hx:Nx o o') (ok:iR o' n) (self:(i:Int)∉o'.dQ) (ha:o'.dV=aB->(o.dV=aB/\o.dW=o'.dW)\/(o'.dW∉o'.dQ/\∃ P∈log,(P.b:Int)=o'.dW/\P.T=o'.dU)):Ph n (su h i o') log i R o':=by
 obtain⟨t,ht⟩:=P.head;exact⟨P.S.same ht hx ha,⟨_,mQ _ _ _⟩,fun j hj hne=>jQ (P.view j hj hne),P.okv,ok,self,P.lt,P.len⟩
theorem Ph.leads {n: Nat} {h: Hs} {log: List Pp} {i: Nat} {R: List Rw} {o: Rw} (P:Ph n h log i R o) (hw:o.wed=aB) (hb:n<2*(fA n o.dQ).length) (hf:(fA n o.dQ).head?=au i):∃ wK,Ph n (su h i (lead (R.set i o) i o (fA n o.dQ))) wK i R (lead (R.set i o) i o (fA n o.dQ))/\Nx o (lead (R.set i o) i o (fA n o.dQ)):=by
 obtain⟨hin,hlow⟩:=QK hf;unfold lead
 split
 ·exact⟨log,P.next (Nx.refl _) P.ok P.self (fun hr=>.inl ⟨hr,rfl⟩),Nx.refl _⟩
 ·rename_i hnb
  split
  ·rename_i hok
   have ai3:=Iy hb
   have hQ:∀ k∈fA n o.dQ,(dO (R.set i o) k).wed=aB/\∀ x∈o.dQ,x∈(dO (R.set i o) k).dQ:=fun k hk=>by
    unfold kR at hok;rw[bJ] at hok;have:=hok k hk;simp only[bI,bJ,decide_eq_true_eq] at this;exact this
   have hrow:∀ k∈fA n o.dQ,dO (R.set i o) k∈h k/\iR (dO (R.set i o) k) n:=fun k hk=>P.row (jh.1 hk).1
   have hne:fA n o.dQ≠[]:=fun e=>by rw[e] at hin;cases hin
   obtain⟨b1,b2,b3⟩:=AO (R.set i o) (fA n o.dQ) (-1,[]);have jq:=P.ok.n5
   -- where the end comes from
   have key:((endOf (R.set i o) (fA n o.dQ)).length=n/\∀ s,s<n->0<=el (endOf (R.set i o) (fA n o.dQ)) s/\el (endOf (R.set i o) (fA n o.dQ)) s<=12) /\
     ((∀ j ∈ fA n o.dQ,(dO (R.set i o) j).dV = aC) /\ (∀ s,s < n -> (∀ j ∈ fA n o.dQ,el (endOf (R.set i o) (fA n o.dQ)) s <= el (dO (R.set i o) j).got s) /\ ∃ j ∈ fA n o.dQ,el (endOf (R.set i o) (fA n o.dQ)) s = el (dO (R.set i o) j).got s) \/
      ∃ j∈fA n o.dQ,(dO (R.set i o) j).dV=aB/\(∀ k∈fA n o.dQ,(dO (R.set i o) k).dV=aB->(dO (R.set i o) k).dW<=(dO (R.set i o) j).dW)/\(dO (R.set i o) j).dU=endOf (R.set i o) (fA n o.dQ)):=by
    unfold endOf;by_cases c:(best (R.set i o) (fA n o.dQ) (-1,[])).1<0
    ·rw[if_pos c]
     obtain⟨m1,m2⟩:=zk jq hne (fun k hk=>⟨(hrow k hk).2.gl,(hrow k hk).2.g⟩)
     refine⟨⟨m1,fun s hs=>?_⟩,.inl ⟨fun j hj=>?_,fun s hs=>(m2 s hs).2⟩⟩
     ·obtain⟨a1,a2,j,a3,a4⟩:=m2 s hs
      have:=(hrow j a3).2.g s hs;omega
     ·cases e:(dO (R.set i o) j).dV with
      | false=>rfl
      | true =>
       have h1:=b3 j hj e;have h2:=((hrow j hj).2.dV e).2.1;omega
    ·rw[if_neg c]
     rcases b1 with e|⟨j,j1,j2,j3⟩
     ·rw[e] at c;simp at c
     ·rw[j3]
      refine⟨⟨((hrow j j1).2.dV j2).2.2.2.1,(hrow j j1).2.t j2⟩,.inr ⟨j,j1,j2,fun k hk hr=>?_,rfl⟩⟩
      have:=b3 k hk hr;rw[j3] at this;exact this
   generalize endOf (R.set i o) (fA n o.dQ)=T at *;obtain⟨⟨kl,ks⟩,aH4⟩:=key
   have hx:Nx o { o with dV:=aB,dW:=(i:Int),dU:=T }:=by
    refine⟨Int.le_refl _,List.prefix_refl _,fun j=>Int.le_refl _,fun x hx=>hx,fun hw=>⟨hw,rfl,rfl⟩,fun hr=>⟨rfl, ?_,fun e=>?_⟩⟩
    ·have:¬ (i:Int)<=o.dW:=fun h=>hnb ⟨hr,h⟩
     simp only
     omega
    ·have:¬ (i:Int)<=o.dW:=fun h=>hnb ⟨hr,h⟩
     simp only at e
     omega
   have VF:=(jF jq kl).2 ks;have hlt:=P.lt;have ok':iR { o with dV:=aB,dW:=(i:Int),dU:=T } n:=⟨jq,P.ok.ver,P.ok.tl,P.ok.ts,P.ok.got,P.ok.gl,P.ok.g12,P.ok.dQ,P.ok.oL,fun _=>⟨hw,by simp only;omega,VF.1,kl,VF.2⟩,fun h=>by cases h⟩
   -- the proposal
   obtain⟨Qo,po,g1,g2,g3,g4,g5,g6⟩:∃ (Qo:List Nat) (po:Nat->Rw),Half n Qo/\(∀ j∈Qo,po j∈h j)/\(∀ j∈Qo,(po j).wed=aB/\(po j).dV=aC)/\(∀ s,s<n->(∀ j∈Qo,el T s<=el (po j).got s)/\∃ j∈Qo,el T s=el (po j).got s)/\(∀ i,i<n->i∉Qo->∀ j∈Qo,(i:Int)∈(po j).dQ) /\
     ((∀ j∈fA n o.dQ,(dO (R.set i o) j).dV=aC)\/∃ j∈fA n o.dQ,(dO (R.set i o) j).dV=aB/\(∀ k∈fA n o.dQ,(dO (R.set i o) k).dV=aB->(dO (R.set i o) k).dW<=(dO (R.set i o) j).dW)/\∃ P'∈log,(P'.b:Int)=(dO (R.set i o) j).dW/\P'.T=T):=by
    rcases aH4 with ⟨n1,n2⟩|⟨j,j1,j2,j3,j4⟩
    ·refine⟨fA n o.dQ,fun j=>dO (R.set i o) j,ai3,fun j hj=>(hrow j hj).1,fun j hj=>⟨(hQ j hj).1,n1 j hj⟩,n2,fun x hx hxn j hj=>(hQ j hj).2 _ ?_,.inl n1⟩
     refine Classical.byContradiction fun hc=>hxn (jh.2 ⟨hx,hc⟩)
    ·obtain⟨P',p1,p2,p3⟩:=P.S.prop j _ (hrow j j1).1 j2
     obtain⟨_,pk,_⟩:=P.S.log.at p1;have e:P'.T=T:=by rw[p3,j4]
     exact⟨P'.Qo,P'.po,pk.oh,pk.om,pk.ow,by rw[<- e];exact pk.oT,pk.os,.inr ⟨j,j1,j2,j3,P',p1,p2,e⟩⟩
   obtain⟨t,ht⟩:=P.head;have hm:∀ j r,r∈h j->r∈su h i { o with dV:=aB,dW:=(i:Int),dU:=T } j:=fun j r hr=>jQ hr
   have hP:JM n (su h i { o with dV:=aB,dW:=(i:Int),dU:=T }) ⟨i,T,fA n o.dQ,fun j=>dO (R.set i o) j,Qo,po⟩ log :=
    ⟨hlt,ai3,fun j hj=>hm j _ (hrow j hj).1,fun j hj=>(hQ j hj).1,fun j hj x hx=>(hQ j hj).2 _ (hlow x hx),⟨_,by rw[mQ];exact bF,rfl,rfl,rfl⟩,g6,g1,fun j hj=>hm j _ (g2 j hj),g3,g4,g5⟩
   refine⟨⟨i,T,fA n o.dQ,fun j=>dO (R.set i o) j,Qo,po⟩::log,⟨P.S.add ht hx (fun _=>.inr ⟨P.self,_,bF,rfl,rfl⟩) ⟨hP,P.S.log.more hm⟩ (fun P0 h0=>bC _ h0),⟨_,mQ _ _ _⟩,fun j hj hne=>hm j _ (P.view j hj hne),P.okv,ok',P.self,P.lt,P.len⟩,hx⟩
  ·exact⟨log,P.next (Nx.refl _) P.ok P.self (fun hr=>.inl ⟨hr,rfl⟩),Nx.refl _⟩
theorem Ph.VG {n: Nat} {h: Hs} {log: List Pp} {i: Nat} {R: List Rw} {o: Rw} (P:Ph n h log i R o) (hw:o.wed=aB) (hf:f∈fA n o.dQ) (hne:f≠i):Ph n (su h i (adopt (R.set i o) i o f)) log i R (adopt (R.set i o) i o f)/\Nx o (adopt (R.set i o) i o f):=by
 unfold adopt
 split
 ·rename_i hc
  obtain⟨c1,c2,c3,c4⟩:=hc;obtain⟨f1,f2⟩:=jh.1 hf;obtain⟨v1,v2⟩:=P.row f1
  have hx:Nx o { o with dV:=aB,dW:=(f:Int),dU:=(dO (R.set i o) f).dU }:=by
   refine⟨Int.le_refl _,List.prefix_refl _,fun j=>Int.le_refl _,fun x hx=>hx,fun hw=>⟨hw,rfl,rfl⟩,fun hr=>⟨rfl, ?_,fun e=>?_⟩⟩
   ·have:¬ (f:Int)<=o.dW:=fun h=>c4 ⟨hr,h⟩
    simp only
    omega
   ·have:¬ (f:Int)<=o.dW:=fun h=>c4 ⟨hr,h⟩
    simp only at e
    omega
  refine⟨P.next hx ⟨P.ok.n5,P.ok.ver,P.ok.tl,P.ok.ts,P.ok.got,P.ok.gl,P.ok.g12,P.ok.dQ,P.ok.oL,fun _=>⟨hw,by simp only;omega,(v2.dV c1).2.2⟩,fun h=>by cases h⟩ P.self (fun _=>.inr ⟨f2, ?_⟩),hx⟩
  obtain⟨P',p1,p2,p3⟩:=P.S.prop f _ v1 c1;exact⟨P',p1,by rw[p2,c2],p3⟩
 ·exact⟨P.next (Nx.refl _) P.ok P.self (fun hr=>.inl ⟨hr,rfl⟩),Nx.refl _⟩
theorem yE (R:List Rw) (id:Nat) (o:Rw) (L:List Nat):(lead R id o L).dQ=o.dQ/\(lead R id o L).wed=o.wed/\(lead R id o L).got=o.got/\(lead R id o L).txt=o.txt/\(lead R id o L).ver=o.ver:=by
 unfold lead
 split
 ·exact⟨rfl,rfl,rfl,rfl,rfl⟩
 ·split<;>exact⟨rfl,rfl,rfl,rfl,rfl⟩
theorem wM (R:List Rw) (id:Nat) (o:Rw) (f:Nat):(adopt R id o f).dQ=o.dQ/\(adopt R id o f).wed=o.wed/\(adopt R id o f).got=o.got/\(adopt R id o f).txt=o.txt/\(adopt R id o f).ver=o.ver:=by
 unfold adopt
 split<;>exact⟨rfl,rfl,rfl,rfl,rfl⟩
theorem sS {x:Int}:∀ {W s:List Int},x∈W.foldl (fun s q=>if q∈s then s else gV s q) s↔x∈s\/x∈W
 | [],s=>by simp
 | q::W,s=>by
  rw[List.foldl_cons,sS];by_cases c:q∈s
  ·rw[if_pos c,bW]
   constructor
   ·rintro (h|h)
    ·exact .inl h
    ·exact .inr (.inr h)
   ·rintro (h|h|h)
    ·exact .inl h
    ·rw[h];exact .inl c
    ·exact .inr h
  ·rw[if_neg c,nC,bW]
   constructor
   ·rintro ((h|h)|h)
    ·exact .inr (.inl h)
    ·exact .inl h
    ·exact .inr (.inr h)
   ·rintro (h|h|h)
    ·exact .inl (.inr h)
    ·exact .inl (.inl h)
    ·exact .inr h
theorem Eu:∀ {W s:List Int},s.Pairwise (·<·)->(W.foldl (fun s q=>if q∈s then s else gV s q) s).Pairwise (·<·)
 | [],s,h=>h
 | q::W,s,h=>by
  rw[List.foldl_cons];refine Eu ?_
  split
  ·exact h
  ·exact wG h
theorem zl (h:∀ q,q<s.length->el s q=(q:Int)):s.Pairwise (·<·):=xE.1 (fun i hi=>by rw[h i (by omega),h (i+1) (by omega)];omega)
theorem Hf (h:∀ q,q<s.length->el s q=(q:Int)):x∈s↔∃ q:Nat,q<s.length/\x=(q:Int):=by
 constructor
 ·intro hx
  obtain⟨j,hj,rfl⟩:=bg.1 hx;exact⟨j,hj,by rw[<- h j hj];simp[el,hj]⟩
 ·rintro⟨q,hq,rfl⟩
  rw[<- h q hq];exact kK hq
theorem KQ {n: Nat} (hl:T.length=n) (hn:0<n) (ht:∀ s,s<n->el T s<=12) {q: Nat}:(q:Int)∈gZ T 12↔((q/n:Nat):Int)<el T (q%n):=by
 rw[xG];have hm:=Nat.mod_lt q hn
 constructor
 ·rintro⟨k,i,h1,h2,h3,h4⟩
  rw[hl] at h2 h4
  have e:q=n*k+i:=by
   have:(q:Int)=((n*k+i:Nat):Int):=by push_cast;exact h4
   exact_mod_cast this
  rw[e,Nat.mul_add_div hn,Nat.mul_add_mod,Nat.mod_eq_of_lt h2,Nat.div_eq_of_lt h2,Nat.add_zero];exact h3
 ·intro h
  have h12:=ht (q%n) hm;refine⟨q/n,q%n,by omega,by rw[hl];exact hm,h, ?_⟩
  rw[hl];have:=Nat.div_add_mod q n;have h2:((n*(q/n)+q%n:Nat):Int)=(q:Int):=by rw[this]
  push_cast at h2
  omega
theorem YZ {n: Nat} (hl:T.length=n) (hn:0<n) (ht:∀ j,j<n->el T j<=12) (hs:∀ q,q<s.length->el s q=(q:Int)) (hc:∀ q,q<s.length->((q/n:Nat):Int)<el T (q%n)):jJ s T=gZ T 12:=by
 unfold jJ;refine DT (Eu (zl hs)) (wI T 12) (fun x=>?_)
 rw[sS]
 constructor
 ·rintro (h|h)
  ·obtain⟨q,h1,rfl⟩:=(Hf hs).1 h
   exact (KQ hl hn ht).2 (hc q h1)
  ·exact h
 ·exact .inr
theorem FQ (h:l.length<=j):el l j=0:=by
 unfold el;rw[aS,aZ h]
 rfl
theorem Hg {R: List Rw} {o: Rw} {n: Nat} (hj:j<n):el (oI R o n) j=max (el o.got j) ((dO R j).txt.length:Int):=by
 unfold oI el;simp[hj]
theorem AP (R:List Rw) (id:Nat):∀ (L:List Nat) (o:Rw),o.dQ.Pairwise (·<·)->(learn R id o L).dQ.Pairwise (·<·)
 | [],o,h=>h
 | k::L,o,h=>by
  refine AP R id L (lM id o k (dO R k)) ?_;unfold lM
  split
  ·exact h
  ·simp only
   generalize (dO R k).dQ=r
   induction r generalizing o with
   | nil=>exact h
   | cons x r ih =>
    unfold kF;rw[List.foldl_cons]
    split
    ·exact ih o h
    ·exact ih { o with dQ:=gV o.dQ x } (wG h)
theorem KR {n: Nat} {h: Hs} {log: List Pp} {i: Nat} {m: Mb} (S:kX n h log) (M:MInv n h i m):Goes n h log i (fM m):=by
 unfold fM
 split
 ·exact Goes.same S M
 rename_i hnd
 simp only[not_or] at hnd;obtain⟨hd,hv⟩:=hnd;have hd:m.done=aC:=by simpa using hd
 have hi:=M.i;have hk:=M.k;have hown:=M.own;have hlt:=M.lt;have hlen:i<m.rows.length:=by rw[M.len];exact hlt
 have ok:=M.ok i hlt;have hn0:0<n:=by omega
 rw[hown] at hv;have hov:=ok.ver;obtain⟨N7,FT⟩:=M.vI hd;have P0:Ph n h log i m.rows (dO m.rows i):=⟨S,M.head,fun j hj _=>M.view j hj,fun j hj _=>M.ok j hj,ok,M.self,hlt,M.len⟩
 -- it learns
 have e1:fD m=learn m.rows i (dO m.rows i) (fA n (dO m.rows i).dQ):=by rw[fD,hi,hk,hown]
 have L1:zH (dO m.rows i) (fD m):=by rw[e1];exact qN _ _ _ _
 have AQ:∀ x∈(fD m).dQ,(0<=x/\x<(n:Int))/\x≠(i:Int):=fun x hx=>by
  rw[e1] at hx;rcases AA _ _ _ _ hx with hx|⟨k,k1,k2,k3,k4⟩
  ·exact⟨ok.dQ x hx,fun e=>M.self (e ▸ hx)⟩
  ·exact⟨(M.ok k (jh.1 k1).1).dQ x k3,k4⟩
 have ok1 : iR (fD m) n := ⟨ok.n5,by rw [L1.ver];exact ok.ver,by rw [L1.txt];exact ok.tl,by rw [L1.txt];exact ok.ts,by rw [L1.got];exact ok.got,by rw [L1.got];exact ok.gl,by rw [L1.got];exact ok.g12,fun x hx => (AQ x hx).1,kZ.2 (by rw [e1];exact AP _ _ _ _ (kZ.1 ok.oL)),fun hr => by
  rw[L1.dV] at hr;obtain⟨a1,a2⟩:=ok.dV hr;rw[L1.dW,L1.dU];exact⟨L1.wed a1,a2⟩,fun hr=>by rw[L1.dV] at hr;rw[L1.dW,L1.dU];exact ok.not hr⟩
 have uy:(i:Int)∉(fD m).dQ:=fun hx=>(AQ _ hx).2 rfl
 have P1:=P0.next L1.nx ok1 uy (fun hr=>.inl ⟨by rw[<- L1.dV];exact hr,L1.dW.symm⟩)
 cases hw1:(fD m).wed with
 | false =>
  have hr1:=ok1.VE hw1;have e2:gW m={ fD m with got:=oI m.rows (fD m) n }:=by rw[gW,if_neg (by rw[hw1];simp),hk]
  have hg2:∀ j,j<n->el (gW m).got j=max (el (dO m.rows i).got j) ((dO m.rows j).txt.length:Int):=fun j hj=>by rw[e2];simp only;rw[Hg hj,L1.got]
  have BD:(gW m).got.length=n:=by rw[e2];simp[oI]
  have hx2:Nx (fD m) (gW m):=by
   refine⟨by rw[e2];exact Int.le_refl _,by rw[e2];exact List.prefix_refl _,fun j=>?_,fun x hx=>by rw[e2];exact hx,fun h=>(by rw[hw1] at h;cases h),fun h=>(by rw[hr1] at h;cases h)⟩
   by_cases hj:j<n
   ·rw[hg2 j hj,L1.got];omega
   ·rw[FQ (by rw[ok1.gl];omega),FQ (by rw[BD];omega)];exact Int.le_refl _
  have hr2:(gW m).dV=aC:=by rw[e2];exact hr1
  have hw2:(gW m).wed=aC:=by rw[e2];exact hw1
  have ht2:(gW m).txt=(dO m.rows i).txt:=by rw[e2];exact L1.txt
  have hsm:=(jF ok.n5 BD).2 (fun j hj=>by rw[hg2 j hj];have:=ok.g j hj;have:=(M.ok j hj).tl;omega)
  have ok2:iR (gW m) n:=⟨ok.n5,by rw[e2];exact ok1.ver,by rw[e2];exact ok1.tl,by rw[e2];exact ok1.ts,hsm.1,BD,hsm.2,by rw[e2];exact ok1.dQ,by rw[e2];exact ok1.oL,fun h=>(by rw[hr2] at h;cases h),fun _=>by rw[e2];exact ok1.not hr1⟩
  have Dq:(i:Int)∉(gW m).dQ:=by rw[e2];exact uy
  have P2:=P1.next hx2 ok2 Dq (fun h=>(by rw[hr2] at h;cases h))
  have e3:iF m=gW m:=by rw[iF,if_neg (by rw[hw2];simp)]
  have e4:fB m=gW m:=by rw[fB,e3,if_neg (by rw[hw2];simp)]
  have eE:jK m=aC:=by rw[jK,e4,hr2];rfl
  have eS:iT m=lF (m.rows.set i (gW m)) n (60-m.dR.length) m.dR:=by rw[iT,if_neg (by rw[hw1];simp),hi,hk]
  have hx5:Nx (gW m) (kN m)/\iR (kN m) n/\(kN m).dQ=(gW m).dQ/\(kN m).got=(gW m).got/\(kN m).txt=(gW m).txt/\(kN m).dV=aC:=by
   unfold kN;rw[e4]
   split
   ·exact⟨Nx.refl _,ok2,rfl,rfl,rfl,hr2⟩
   ·have hvv:(gW m).ver=(dO m.rows i).ver:=by rw[e2];exact L1.ver
    refine⟨⟨by simp only;omega,List.prefix_refl _,fun _=>Int.le_refl _,fun _ h=>h,fun h=>⟨h,rfl,rfl⟩,fun h=>⟨h,Int.le_refl _,fun _=>rfl⟩⟩,⟨ok2.n5,by simp only;omega,ok2.tl,ok2.ts,ok2.got,ok2.gl,ok2.g12,ok2.dQ,ok2.oL,ok2.dV,ok2.not⟩,rfl,rfl,rfl,hr2⟩
  obtain⟨x5,VH,s5,g5,t5,r5⟩:=hx5;have P5:=P2.next x5 VH (by rw[s5];exact Dq) (fun h=>(by rw[r5] at h;cases h))
  have hm:∀ j r,r∈h j->r∈su (su (su h i (fD m)) i (gW m)) i (kN m) j:=fun j r hr=>jQ (jQ (jQ hr))
  obtain⟨q1,q2,q3,q4⟩:=AB (m.rows.set i (gW m)) n (60-m.dR.length) m.dR (fun q hq=>(FT q hq).1)
  refine⟨_,log,P5.S, ?_,fun j hj=>by rw[nV hj,nV hj,nV hj],hm⟩
  rw[hi,eE,if_neg (by simp)]
  refine M.to (o':=kN m) (lZ:=iT m) (done':=aC) hm ⟨_,mQ _ _ _⟩ VH (by rw[s5];exact Dq) (fun j hj hne=>?_) ?_ (fun _=>?_) (fun h=>by cases h)
  ·rw[g5,hg2 j hj]
   have:=M.Iz j hj;omega
  ·rw[g5,t5,hg2 i hlt,ht2,M.nO]
   omega
  ·rw[eS]
   refine⟨by omega,fun q hq=>⟨q3 q hq, ?_⟩⟩
   by_cases c:q<m.dR.length
   ·exact (FT q c).2.more hm
   ·have hs:=q4 q (by omega) hq
    unfold oQ at hs;rw[bJ] at hs;intro j hj;have hjl:j<(m.rows.set i (gW m)).length:=by rw[bQ,M.len];exact hj
    have hmem:dO (m.rows.set i (gW m)) j∈m.rows.set i (gW m):=by
     unfold dO;rw[aS,aV hjl];exact List.getElem_mem hjl
    have:=hs _ hmem;exact⟨_,jQ (P2.row hj).1,by simpa using this⟩
 | true =>
  have e2:gW m=fD m:=by rw[gW,if_pos hw1]
  have eL:jR m=fA n (fD m).dQ:=by rw[jR,e2,hk]
  have eS:iT m=m.dR:=by rw[iT,if_pos hw1]
  have hiL:i∈fA n (fD m).dQ:=jh.2 ⟨hlt,uy⟩
  -- it leads
  obtain⟨h3,Ut,P3,m3,n3,k1,k2,k3,k4,k5⟩:∃ h3 Ut,Ph n h3 Ut i m.rows (iF m)/\(∀ j r,r∈h j->r∈h3 j)/\(∀ j,j≠i->h3 j=h j)/\(iF m).dQ=(fD m).dQ/\(iF m).wed=aB/\(iF m).got=(fD m).got/\(iF m).txt=(fD m).txt/\(iF m).ver=(fD m).ver:=by
   by_cases c:(gW m).wed=aB/\m.k<2*(jR m).length/\(jR m).head?=au m.i
   ·have e3:iF m=lead (m.rows.set i (fD m)) i (fD m) (fA n (fD m).dQ):=by rw[iF,if_pos c,e2,eL,hi]
    rw[eL,hk,hi] at c;obtain⟨wK,Q1,Q2⟩:=P1.leads hw1 c.2.1 c.2.2;obtain⟨a1,a2,a3,a4,a5⟩:=yE (m.rows.set i (fD m)) i (fD m) (fA n (fD m).dQ);rw[e3];exact⟨_,wK,Q1,fun j r hr=>jQ (jQ hr),fun j hj=>by rw[nV hj,nV hj],a1,by rw[a2];exact hw1,a3,a4,a5⟩
   ·have e3:iF m=fD m:=by rw[iF,if_neg c,e2]
    rw[e3];exact⟨_,log,P1,fun j r hr=>jQ hr,fun j hj=>nV hj,rfl,hw1,rfl,rfl,rfl⟩
  -- it VG
  obtain⟨h4,P4,m4,n4,l1,l2,l3,l4,l5⟩:∃ h4,Ph n h4 Ut i m.rows (fB m)/\(∀ j r,r∈h j->r∈h4 j)/\(∀ j,j≠i->h4 j=h j)/\(fB m).dQ=(fD m).dQ/\(fB m).wed=aB/\(fB m).got=(fD m).got/\(fB m).txt=(fD m).txt/\(fB m).ver=(fD m).ver:=by
   by_cases c:(iF m).wed=aB/\(jR m).head?≠au m.i
   ·have e4:fB m=adopt (m.rows.set i (iF m)) i (iF m) ((fA n (fD m).dQ).headD 0):=by rw[fB,if_pos c,eL,hi]
    rw[eL,hi] at c
    cases eh:fA n (fD m).dQ with
    | nil=>rw[eh] at hiL;cases hiL
    | cons f t =>
     rw[eh] at c e4;have hf:f∈fA n (iF m).dQ:=by rw[k1,eh];exact bF
     have hfi:f≠i:=fun e=>c.2 (by rw[e];rfl)
     obtain⟨Q1,Q2⟩:=P3.VG k2 hf hfi;obtain⟨a1,a2,a3,a4,a5⟩:=wM (m.rows.set i (iF m)) i (iF m) f;rw[show (f::t).headD 0=f from rfl] at e4
     rw[e4];exact⟨_,Q1,fun j r hr=>jQ (m3 j r hr),fun j hj=>by rw[nV hj];exact n3 j hj,a1.trans k1,a2.trans k2,a3.trans k3,a4.trans k4,a5.trans k5⟩
   ·have e4:fB m=iF m:=by rw[fB,if_neg c]
    rw[e4];exact⟨h3,P3,m3,n3,k1,k2,k3,k4,k5⟩
  have hx5:Nx (fB m) (kN m)/\iR (kN m) n/\(kN m).dQ=(fB m).dQ/\(kN m).got=(fB m).got/\(kN m).txt=(fB m).txt/\(kN m).dV=(fB m).dV/\(kN m).dW=(fB m).dW/\(kN m).dU=(fB m).dU:=by
   unfold kN
   split
   ·exact⟨Nx.refl _,P4.ok,rfl,rfl,rfl,rfl,rfl,rfl⟩
   ·have hvv:(fB m).ver=(dO m.rows i).ver:=by rw[l5];exact L1.ver
    refine⟨⟨by simp only;omega,List.prefix_refl _,fun _=>Int.le_refl _,fun _ h=>h,fun h=>⟨h,rfl,rfl⟩,fun h=>⟨h,Int.le_refl _,fun _=>rfl⟩⟩,⟨P4.ok.n5,by simp only;omega,P4.ok.tl,P4.ok.ts,P4.ok.got,P4.ok.gl,P4.ok.g12,P4.ok.dQ,P4.ok.oL,P4.ok.dV,P4.ok.not⟩,rfl,rfl,rfl,rfl,rfl,rfl⟩
  obtain⟨x5,VH,s5,g5,t5,r5,b5,T5⟩:=hx5;have P5:=P4.next x5 VH (by rw[s5];exact P4.self) (fun h=>.inl ⟨by rw[<- r5];exact h,b5.symm⟩)
  have hm:∀ j r,r∈h j->r∈su h4 i (kN m) j:=fun j r hr=>jQ (m4 j r hr)
  refine⟨_,Ut,P5.S, ?_,fun j hj=>by rw[nV hj];exact n4 j hj,hm⟩
  rw[hi,eS];refine M.to (o':=kN m) hm ⟨_,mQ _ _ _⟩ VH (by rw[s5];exact P4.self) (fun j hj hne=>?_) ?_ (fun hE=>?_) (fun hE=>?_)
  ·rw[g5,l3,L1.got];exact M.Iz j hj
  ·rw[g5,t5,l3,l4,L1.got,L1.txt];exact M.nO
  ·rw[hE,if_neg (by simp)]
   exact⟨N7,fun q hq=>⟨(FT q hq).1,(FT q hq).2.more hm⟩⟩
  ·rw[if_pos hE]
   unfold jK at hE;simp only[bI,decide_eq_true_eq] at hE;obtain⟨z1,z2,z3⟩:=hE;rw[eL,hk] at z2;rw[eL,hi] at z3;unfold ends at z3;rw[bJ] at z3;have au9:=s5.trans l1;refine⟨by rw[r5];exact z1,by rw[au9];exact z2,fun j hj=>?_, ?_⟩
   ·rw[au9] at hj
    have:=z3 j hj;simp only[bI,decide_eq_true_eq] at this;obtain⟨y1,y2,y3,y4⟩:=this;exact⟨_,jQ (P4.row (jh.1 hj).1).1,y1,by rw[b5];exact y2,by rw[T5];exact y3,y4⟩
   ·rw[T5]
    obtain⟨a1,a2,a3,a4,a5⟩:=P4.ok.dV z1;refine YZ a4 hn0 (fun j hj=>(P4.ok.t z1 j hj).2) (fun q hq=>(FT q hq).1) (fun q hq=>?_)
    obtain⟨P,p1,p2,p3⟩:=P4.S.prop i _ P4.own z1;rw[<- p3];exact P4.S.covers hn0 p1 ((FT q hq).2.more m4)
structure iO (m:Mb) (i n:Nat):Prop where
 hid:m.id=(i:Int)
 hn:m.n=(n:Int)
 n5:1<=n/\n<=5
 lt:i<n
 len:m.rows.length=n
 sl:m.dR.length<=60
 oL:m.dR.Pairwise (·<·)
 ok:∀ j,j<n->iR (dO m.rows j) n
 sg:∀ q,q<m.dR.length->(0<=el m.dR q/\el m.dR q<=59)/\(m.done=aC->el m.dR q=(q:Int))
 nO:el (dO m.rows i).got i=((dO m.rows i).txt.length:Int)
 self:(i:Int)∉(dO m.rows i).dQ
 dn:m.done=aB->(dO m.rows i).dV=aB
theorem pG {R: List Rw} (h:j<R.length):dO R j∈R:=by
 unfold dO;rw[aS,aV h];exact List.getElem_mem h
theorem N8 {R: List Rw} {r: Rw} (h:r∈R):∃ j,j<R.length/\r=dO R j:=by
 obtain⟨j,hj,rfl⟩:=bg.1 h;exact⟨j,hj,by simp[dO,hj]⟩
theorem nD {m: Mb}:iG m=aB↔∃ i n,iO m i n:=by
 constructor
 ·intro h
  simp only[iG,Et,bI,decide_eq_true_eq,bJ,List.mem_range,Bool.or_eq_true] at h;obtain⟨h1,h2,h3,h4,h5,h6,h7,h8,h9,h10⟩:=h;have h1:=iZ.1 h1;have h2:=iZ.1 h2;have hid:m.id=((m.id.toNat:Nat):Int):=by omega
  have hn:m.n=((m.n.toNat:Nat):Int):=by omega
  refine⟨m.id.toNat,m.n.toNat,hid,hn,by omega,by omega,by omega,h4,kZ.1 h5,fun j hj=>rC.1 (by rw[<- hn];exact h6 _ (pG (by omega))),fun q hq=>?_,h8,by rw[<- hid];exact h9,fun hd=>?_⟩
  ·obtain⟨q1,q2⟩:=h7 q hq
   have:=iZ.1 q1;refine⟨this,fun hd=>?_⟩
   rcases q2 with q2|q2
   ·rw[hd] at q2;cases q2
   ·exact q2
  ·rw[hd] at h10
   have h11:m.own.dV=aB:=by simpa using h10
   exact h11
 ·rintro⟨i,n,M⟩
  have hlt:=M.lt;have jq:=M.n5;have hi:m.i=i:=by rw[Mb.i,M.hid];rfl
  simp only[iG,Et,bI,decide_eq_true_eq,bJ,List.mem_range,Bool.or_eq_true]
  refine⟨iZ.2 (by rw[M.hn];omega),iZ.2 (by rw[M.hid,M.hn];omega),by rw[M.len,M.hn],M.sl,kZ.2 M.oL,fun r hr=>?_,fun q hq=>?_, ?_, ?_, ?_⟩
  ·obtain⟨j,hj,rfl⟩:=N8 hr
   rw[M.hn];exact rC.2 (M.ok j (by rw[<- M.len];exact hj))
  ·obtain⟨q1,q2⟩:=M.sg q hq
   refine⟨iZ.2 q1, ?_⟩
   cases hd:m.done with
   | true=>exact .inl rfl
   | false=>exact .inr (q2 hd)
  ·rw[Mb.own,hi];exact M.nO
  ·rw[Mb.own,hi,M.hid];exact M.self
  ·cases hd:m.done with
   | false=>exact .inl rfl
   | true=>exact .inr (by rw[Mb.own,hi];exact M.dn hd)
theorem Dt {R: List Rw} {i n: Nat} {o: Rw} (ok:iR o n) (hw:o.wed=aB) (hi:i<n) (hne:L≠[]) (hL:∀ k∈L,iR (dO R k) n):iR (lead R i o L) n/\Nx o (lead R i o L):=by
 unfold lead
 split
 ·exact⟨ok,Nx.refl _⟩
 ·rename_i hnb
  split
  ·obtain⟨b1,b2,b3⟩:=AO R L (-1,[])
   have key:(endOf R L).length=n/\∀ s,s<n->0<=el (endOf R L) s/\el (endOf R L) s<=12:=by
    unfold endOf
    split
    ·obtain⟨m1,m2⟩:=zk ok.n5 hne (fun k hk=>⟨(hL k hk).gl,(hL k hk).g⟩)
     refine⟨m1,fun s hs=>?_⟩
     obtain⟨a1,a2,j,a3,a4⟩:=m2 s hs;have:=(hL j a3).g s hs;omega
    ·rename_i c
     rcases b1 with e|⟨j,j1,j2,j3⟩
     ·rw[e] at c;simp at c
     ·rw[j3]
      exact⟨((hL j j1).dV j2).2.2.2.1,(hL j j1).t j2⟩
   have VF:=(jF ok.n5 key.1).2 key.2;refine⟨⟨ok.n5,ok.ver,ok.tl,ok.ts,ok.got,ok.gl,ok.g12,ok.dQ,ok.oL,fun _=>⟨hw,by simp only;omega,VF.1,key.1,VF.2⟩,fun h=>by cases h⟩,Int.le_refl _,List.prefix_refl _,fun j=>Int.le_refl _,fun x hx=>hx,fun hw=>⟨hw,rfl,rfl⟩,fun hr=>⟨rfl, ?_,fun e=>?_⟩⟩
   ·have:¬ (i:Int)<=o.dW:=fun h=>hnb ⟨hr,h⟩
    simp only
    omega
   ·have:¬ (i:Int)<=o.dW:=fun h=>hnb ⟨hr,h⟩
    simp only at e
    omega
  ·exact⟨ok,Nx.refl _⟩
theorem KT {R: List Rw} {i n: Nat} {o: Rw} (ok:iR o n) (hw:o.wed=aB) (hf:f<n) (hr:iR (dO R f) n):iR (adopt R i o f) n/\Nx o (adopt R i o f):=by
 unfold adopt
 split
 ·rename_i hc
  obtain⟨c1,c2,c3,c4⟩:=hc;refine⟨⟨ok.n5,ok.ver,ok.tl,ok.ts,ok.got,ok.gl,ok.g12,ok.dQ,ok.oL,fun _=>⟨hw,by simp only;omega,(hr.dV c1).2.2⟩,fun h=>by cases h⟩,Int.le_refl _,List.prefix_refl _,fun j=>Int.le_refl _,fun x hx=>hx,fun hw=>⟨hw,rfl,rfl⟩,fun hr=>⟨rfl, ?_,fun e=>?_⟩⟩
  ·have:¬ (f:Int)<=o.dW:=fun h=>c4 ⟨hr,h⟩
   simp only
   omega
  ·have:¬ (f:Int)<=o.dW:=fun h=>c4 ⟨hr,h⟩
   simp only at e
   omega
 ·exact⟨ok,Nx.refl _⟩
theorem iO.i {m: Mb} {i n: Nat} (M:iO m i n):m.i=i:=by rw[Mb.i,M.hid];rfl
theorem iO.k {m: Mb} {i n: Nat} (M:iO m i n):m.k=n:=by rw[Mb.k,M.hn];rfl
theorem iO.own {m: Mb} {i n: Nat} (M:iO m i n):m.own=dO m.rows i:=by rw[Mb.own,M.i]
structure Stp (m:Mb) (i n:Nat):Prop where
 ok:iR (kN m) n
 nx:Nx (dO m.rows i) (kN m)
 self:(i:Int)∉(kN m).dQ
 nO:el (kN m).got i=((kN m).txt.length:Int)
 qp:iR (fB m) n
 dV:(kN m).dV=(fB m).dV
 dU:(kN m).dU=(fB m).dU
 av1:(fD m).wed=aB->iT m=m.dR
 dry:(fD m).wed=aC->jK m=aC
theorem Y0 {m: Mb} {i n: Nat} (M:iO m i n) (hv:(dO m.rows i).ver≠1000000):Stp m i n:=by
 have hi:=M.i;have hk:=M.k;have hown:=M.own;have hlt:=M.lt;have ok:=M.ok i hlt;have hov:=ok.ver;have hlen:i<m.rows.length:=by rw[M.len];exact hlt
 have e1:fD m=learn m.rows i (dO m.rows i) (fA n (dO m.rows i).dQ):=by rw[fD,hi,hk,hown]
 have L1:zH (dO m.rows i) (fD m):=by rw[e1];exact qN _ _ _ _
 have AQ:∀ x∈(fD m).dQ,(0<=x/\x<(n:Int))/\x≠(i:Int):=fun x hx=>by
  rw[e1] at hx;rcases AA _ _ _ _ hx with hx|⟨k,k1,k2,k3,k4⟩
  ·exact⟨ok.dQ x hx,fun e=>M.self (e ▸ hx)⟩
  ·exact⟨(M.ok k (jh.1 k1).1).dQ x k3,k4⟩
 have ok1 : iR (fD m) n := ⟨ok.n5,by rw [L1.ver];exact ok.ver,by rw [L1.txt];exact ok.tl,by rw [L1.txt];exact ok.ts,by rw [L1.got];exact ok.got,by rw [L1.got];exact ok.gl,by rw [L1.got];exact ok.g12,fun x hx => (AQ x hx).1,kZ.2 (by rw [e1];exact AP _ _ _ _ (kZ.1 ok.oL)),fun hr => by
  rw[L1.dV] at hr;obtain⟨a1,a2⟩:=ok.dV hr;rw[L1.dW,L1.dU];exact⟨L1.wed a1,a2⟩,fun hr=>by rw[L1.dV] at hr;rw[L1.dW,L1.dU];exact ok.not hr⟩
 have uy:(i:Int)∉(fD m).dQ:=fun hx=>(AQ _ hx).2 rfl
 have last:∀ (o4:Rw),iR o4 n->o4.ver=(dO m.rows i).ver->iR { o4 with ver:=o4.ver+1 } n/\Nx o4 { o4 with ver:=o4.ver+1 }:=fun o4 qp hv4=>⟨⟨qp.n5,by simp only;omega,qp.tl,qp.ts,qp.got,qp.gl,qp.g12,qp.dQ,qp.oL,qp.dV,qp.not⟩,by simp only;omega,List.prefix_refl _,fun _=>Int.le_refl _,fun _ h=>h,fun h=>⟨h,rfl,rfl⟩,fun h=>⟨h,Int.le_refl _,fun _=>rfl⟩⟩
 -- from the fourth row to the last
 have fin:∀ {o4:Rw},fB m=o4->iR o4 n->Nx (dO m.rows i) o4->o4.ver=(dO m.rows i).ver->(i:Int)∉o4.dQ->el o4.got i=(o4.txt.length:Int)->((fD m).wed=aB->iT m=m.dR)->((fD m).wed=aC->jK m=aC)->Stp m i n:=fun {o4} e4 qp nx4 hv4 ai4 g4 s4 d4=>by
  obtain⟨l1,l2⟩:=last o4 qp hv4;by_cases c:lQ m.own (fB m)=aB
  ·have e5:kN m=o4:=by rw[kN,if_pos c,e4]
   exact⟨by rw[e5];exact qp,by rw[e5];exact nx4,by rw[e5];exact ai4,by rw[e5];exact g4,by rw[e4];exact qp,by rw[e5,e4],by rw[e5,e4],s4,d4⟩
  ·have e5:kN m={ o4 with ver:=o4.ver+1 }:=by rw[kN,if_neg c,e4]
   exact⟨by rw[e5];exact l1,by rw[e5];exact nx4.trans l2,by rw[e5];exact ai4,by rw[e5];exact g4,by rw[e4];exact qp,by rw[e5,e4],by rw[e5,e4],s4,d4⟩
 cases hw1:(fD m).wed with
 | false =>
  have hr1:=ok1.VE hw1;have e2:gW m={ fD m with got:=oI m.rows (fD m) n }:=by rw[gW,if_neg (by rw[hw1];simp),hk]
  have hg2:∀ j,j<n->el (gW m).got j=max (el (dO m.rows i).got j) ((dO m.rows j).txt.length:Int):=fun j hj=>by rw[e2];simp only;rw[Hg hj,L1.got]
  have BD:(gW m).got.length=n:=by rw[e2];simp[oI]
  have hx2:Nx (fD m) (gW m):=by
   refine⟨by rw[e2];exact Int.le_refl _,by rw[e2];exact List.prefix_refl _,fun j=>?_,fun x hx=>by rw[e2];exact hx,fun h=>(by rw[hw1] at h;cases h),fun h=>(by rw[hr1] at h;cases h)⟩
   by_cases hj:j<n
   ·rw[hg2 j hj,L1.got];omega
   ·rw[FQ (by rw[ok1.gl];omega),FQ (by rw[BD];omega)];exact Int.le_refl _
  have hr2:(gW m).dV=aC:=by rw[e2];exact hr1
  have hw2:(gW m).wed=aC:=by rw[e2];exact hw1
  have ht2:(gW m).txt=(dO m.rows i).txt:=by rw[e2];exact L1.txt
  have hsm:=(jF ok.n5 BD).2 (fun j hj=>by rw[hg2 j hj];have:=ok.g j hj;have:=(M.ok j hj).tl;omega)
  have ok2:iR (gW m) n:=⟨ok.n5,by rw[e2];exact ok1.ver,by rw[e2];exact ok1.tl,by rw[e2];exact ok1.ts,hsm.1,BD,hsm.2,by rw[e2];exact ok1.dQ,by rw[e2];exact ok1.oL,fun h=>(by rw[hr2] at h;cases h),fun _=>by rw[e2];exact ok1.not hr1⟩
  have e3:iF m=gW m:=by rw[iF,if_neg (by rw[hw2];simp)]
  have e4:fB m=gW m:=by rw[fB,e3,if_neg (by rw[hw2];simp)]
  refine fin e4 ok2 (L1.nx.trans hx2) (by rw[e2];exact L1.ver) (by rw[e2];exact uy) ?_ (fun h=>(by rw[hw1] at h;cases h)) (fun _=>by rw[jK,e4,hr2];rfl)
  rw[hg2 i hlt,ht2,M.nO];omega
 | true =>
  have e2:gW m=fD m:=by rw[gW,if_pos hw1]
  have eL:jR m=fA n (fD m).dQ:=by rw[jR,e2,hk]
  have eS:iT m=m.dR:=by rw[iT,if_pos hw1]
  have hiL:i∈fA n (fD m).dQ:=jh.2 ⟨hlt,uy⟩;have N9:fA n (fD m).dQ≠[]:=fun e=>by rw[e] at hiL;cases hiL
  have hrow:∀ {o:Rw},iR o n->∀ j,j<n->iR (dO (m.rows.set i o) j) n:=fun {o} ho j hj=>by
   rw[gY hlen]
   split
   ·exact ho
   ·exact M.ok j hj
  obtain⟨F5,nx3,k1,k2,k3,k4,k5⟩:iR (iF m) n/\Nx (fD m) (iF m)/\(iF m).dQ=(fD m).dQ/\(iF m).wed=aB/\(iF m).got=(fD m).got/\(iF m).txt=(fD m).txt/\(iF m).ver=(fD m).ver:=by
   by_cases c:(gW m).wed=aB/\m.k<2*(jR m).length/\(jR m).head?=au m.i
   ·have e3:iF m=lead (m.rows.set i (fD m)) i (fD m) (fA n (fD m).dQ):=by rw[iF,if_pos c,e2,eL,hi]
    obtain⟨a1,a2,a3,a4,a5⟩:=yE (m.rows.set i (fD m)) i (fD m) (fA n (fD m).dQ);obtain⟨b1,b2⟩:=Dt (R:=m.rows.set i (fD m)) ok1 hw1 hlt N9 (fun k hk=>hrow ok1 k (jh.1 hk).1)
    rw[e3];exact⟨b1,b2,a1,by rw[a2];exact hw1,a3,a4,a5⟩
   ·have e3:iF m=fD m:=by rw[iF,if_neg c,e2]
    rw[e3];exact⟨ok1,Nx.refl _,rfl,hw1,rfl,rfl,rfl⟩
  obtain⟨qp,nx4,l1,l2,l3,l4,l5⟩:iR (fB m) n/\Nx (iF m) (fB m)/\(fB m).dQ=(fD m).dQ/\(fB m).wed=aB/\(fB m).got=(fD m).got/\(fB m).txt=(fD m).txt/\(fB m).ver=(fD m).ver:=by
   by_cases c:(iF m).wed=aB/\(jR m).head?≠au m.i
   ·have e4:fB m=adopt (m.rows.set i (iF m)) i (iF m) ((fA n (fD m).dQ).headD 0):=by rw[fB,if_pos c,eL,hi]
    have hf:(fA n (fD m).dQ).headD 0<n:=by
     cases eh:fA n (fD m).dQ with
     | nil=>exact absurd eh N9
     | cons f t=>exact (jh.1 (show f∈fA n (fD m).dQ by rw[eh];exact bF)).1
    obtain⟨a1,a2,a3,a4,a5⟩:=wM (m.rows.set i (iF m)) i (iF m) ((fA n (fD m).dQ).headD 0);obtain⟨b1,b2⟩:=KT (i:=i) (R:=m.rows.set i (iF m)) F5 k2 hf (hrow F5 _ hf);rw[e4];exact⟨b1,b2,a1.trans k1,a2.trans k2,a3.trans k3,a4.trans k4,a5.trans k5⟩
   ·have e4:fB m=iF m:=by rw[fB,if_neg c]
    rw[e4];exact⟨F5,Nx.refl _,k1,k2,k3,k4,k5⟩
  exact fin rfl qp ((L1.nx.trans nx3).trans nx4) (by rw[l5];exact L1.ver) (by rw[l1];exact uy) (by rw[l3,l4,L1.got,L1.txt];exact M.nO) (fun _=>eS) (fun h=>(by rw[hw1] at h;cases h))
end Go.Proofs.YtafimeakbdmkjaaGreat