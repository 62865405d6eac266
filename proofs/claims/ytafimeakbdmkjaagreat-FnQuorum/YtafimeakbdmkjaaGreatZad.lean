/-
  Texts in one.
-/
import Derived.Test.YtafimeakbdmkjaaGreatZac
import Derived.Test.YtafimeakbdmkjaaGreatZab
import Derived.Test.YtafimeakbdmkjaaGreatZaa
namespace Go.Proofs.YtafimeakbdmkjaaGreat
set_option linter.unusedVariables false
set_option linter.unusedSimpArgs false
open Go.RowKit Go.Sort
set_option maxRecDepth 100000
set_option maxHeartbeats 12800000
structure Mb where
 id:Int
 n:Int
 rows:List Rw
 au:List Int
 done:Bool
def iG:Mb:=⟨0,0,[],[],false⟩
def ah (R:List Rw) (j:Nat):Rw:=R.getD j jH
def Mb.i (m:Mb):Nat:=m.id.toNat
def Mb.k (m:Mb):Nat:=m.n.toNat
def Mb.own (m:Mb):Rw:=ah m.rows m.i
def Qb (m:Mb):Bool:=(List.range m.au.length).all (fun i=>inB (el m.au i) 0 59&&(m.done||decide (el m.au i=(i:Int))))
def fO (m:Mb):Bool :=
 inB m.n 1 5 && (inB m.id 0 (m.n - 1) && (decide ((m.rows.length : Int) = m.n) && (decide (m.au.length ≤ 60) && (qE m.au && (m.rows.all (fun r => bI r m.n) && (Qb m &&
  (decide (el m.own.got m.i=(m.own.txt.length:Int))&&(decide (m.id∉m.own.ak)&&(!m.done||m.own.aB)))))))))
def iE (id n:Int):Mb×Bool:=if inB n 1 5=true∧inB id 0 (n-1)=true then (⟨id,n,List.replicate n.toNat (gB n),[],false⟩,true) else (iG,false)
def Mb.put (m:Mb) (o:Rw):Mb:={ m with rows:=m.rows.set m.i o }
def bW (m:Mb) (t:List UInt8):Mb×Bool :=
 if m.own.wed=true∨m.done=true∨m.own.txt.length=12∨20<t.length∨m.own.ver=1000000 then (m,false)
 else (m.put { m.own with txt:=m.own.txt++[t],got:=m.own.got.set m.i (el m.own.got m.i+1),ver:=m.own.ver+1 },true)
def aW (m:Mb) (who:Int):Mb×Bool :=
 if inB who 0 (m.n-1)=false∨who=m.id∨who∈m.own.ak∨m.done=true∨m.own.ver=1000000 then (m,false)
 else (m.put { m.own with ak:=bT m.own.ak who,wed:=true,ver:=m.own.ver+1 },true)
def aX (m:Mb) (fr:Int) (r:Rw):Mb×Bool :=
 if inB fr 0 (m.n-1)=false∨fr=m.id∨fr∈m.own.ak∨m.done=true∨bI r m.n=false∨r.ver≤(ah m.rows fr.toNat).ver then (m,false)
 else ({ m with rows:=m.rows.set fr.toNat r },true)
def aP (n:Nat) (ak:List Int):List Nat:=(List.range n).filter (fun j=>decide ((j:Int)∉ak))
def gY (id:Nat) (s:List Int) (r:List Int):List Int:=r.foldl (fun s x=>if x=(id:Int) then s else bT s x) s
def jd (id:Nat) (o:Rw) (k:Nat) (r:Rw):Rw:=if k=id∨(r.wed=false∧r.ak=[]) then o else { o with wed:=true,ak:=gY id o.ak r.ak }
def learn (R:List Rw) (id:Nat) (o:Rw) (L:List Nat):Rw:=L.foldl (fun o k=>jd id o k (ah R k)) o
def kS (R:List Rw) (o:Rw) (n:Nat):List Int:=(List.range n).map (fun j=>max (el o.got j) ((ah R j).txt.length:Int))
def lC (R:List Rw) (n q:Nat):Bool:=R.all (fun r=>decide (((q/n:Nat):Int)<el r.got (q%n)))
def iW (R:List Rw) (n:Nat):Nat→List Int→List Int
 | 0,s=>s
 | f+1,s=>if lC R n s.length=true then iW R n f (s++[(s.length:Int)]) else s
def iH (R:List Rw) (o:Rw) (L:List Nat):Bool:=L.all (fun k=>(ah R k).wed&&o.ak.all (fun x=>decide (x∈(ah R k).ak)))
def best (R:List Rw) (L:List Nat) (a:Int×List Int):Int×List Int:=L.foldl (fun a k=>if (ah R k).aB=true∧a.1<(ah R k).aC then ((ah R k).aC,(ah R k).aA) else a) a
def meets (R:List Rw):List Nat→List Int
 | []=>[]
 | k::t=>t.foldl (fun acc j=>dU min acc (ah R j).got) (ah R k).got
def endOf (R:List Rw) (L:List Nat):List Int:=if (best R L (-1,[])).1<0 then meets R L else (best R L (-1,[])).2
def lead (R:List Rw) (id:Nat) (o:Rw) (L:List Nat):Rw:=if o.aB=true∧(id:Int)≤o.aC then o else if iH R o L=true then { o with aB:=true,aC:=(id:Int),aA:=endOf R L } else o
def adopt (R:List Rw) (id:Nat) (o:Rw) (f:Nat):Rw :=
 if (ah R f).aB=true∧(ah R f).aC=(f:Int)∧(id:Int)∉(ah R f).ak∧¬ (o.aB=true∧(f:Int)≤o.aC) then { o with aB:=true,aC:=(f:Int),aA:=(ah R f).aA } else o
def ends (R:List Rw) (id:Nat) (o:Rw) (L:List Nat):Bool:=L.all (fun k=>(ah R k).aB&&(decide ((ah R k).aC=o.aC)&&(decide ((ah R k).aA=o.aA)&&decide ((id:Int)∉(ah R k).ak))))
def jI (a b:Rw):Bool:=decide (a.wed=b.wed∧a.aB=b.aB∧a.aC=b.aC∧a.got=b.got∧a.ak=b.ak∧a.aA=b.aA)
def gG (s T:List Int):List Int:=(dh T 12).foldl (fun s q=>if q∈s then s else bT s q) s
def aT (m:Mb):Rw:=learn m.rows m.i m.own (aP m.k m.own.ak)
def bY (m:Mb):Rw:=if (aT m).wed=true then aT m else { aT m with got:=kS m.rows (aT m) m.k }
def dX (m:Mb):List Int:=if (aT m).wed=true then m.au else iW (m.rows.set m.i (bY m)) m.k (60-m.au.length) m.au
def fV (m:Mb):List Nat:=aP m.k (bY m).ak
def dF (m:Mb):Rw:=if (bY m).wed=true∧m.k<2*(fV m).length∧(fV m).head?=some m.i then lead (m.rows.set m.i (bY m)) m.i (bY m) (fV m) else bY m
def aV (m:Mb):Rw:=if (dF m).wed=true∧(fV m).head?≠some m.i then adopt (m.rows.set m.i (dF m)) m.i (dF m) ((fV m).headD 0) else dF m
def gK (m:Mb):Bool:=(aV m).aB&&(decide (m.k<2*(fV m).length)&&ends (m.rows.set m.i (aV m)) m.i (aV m) (fV m))
def iD (m:Mb):Rw:=if jI m.own (aV m)=true then aV m else { aV m with ver:=(aV m).ver+1 }
def bJ (m:Mb):Mb:=if m.done=true∨m.own.ver=1000000 then m else { m with rows:=m.rows.set m.i (iD m),au:=if gK m=true then gG (dX m) (aV m).aA else dX m,done:=gK m }
theorem rH {id:Nat} {x:Int}:∀ {r s:List Int},x∈gY id s r↔x∈s∨(x∈r∧x≠(id:Int))
 | [],s=>by simp[gY]
 | y::r,s=>by
  have ih:=rH (id:=id) (x:=x) (r:=r) (s:=if y=(id:Int) then s else bT s y)
  unfold gY at ih ⊢;rw[List.foldl_cons,ih];by_cases e:y=(id:Int)
  ·rw[if_pos e]
   constructor
   ·rintro (h|⟨h,h2⟩)
    ·exact .inl h
    ·exact .inr ⟨List.mem_cons_of_mem _ h,h2⟩
   ·rintro (h|⟨h,h2⟩)
    ·exact .inl h
    ·rcases List.mem_cons.1 h with h|h
     ·exact absurd (h.trans e) h2
     ·exact .inr ⟨h,h2⟩
  ·rw[if_neg e,jS]
   constructor
   ·rintro ((h|h)|⟨h,h2⟩)
    ·exact .inr ⟨by rw[h];exact List.mem_cons_self,by rw[h];exact e⟩
    ·exact .inl h
    ·exact .inr ⟨List.mem_cons_of_mem _ h,h2⟩
   ·rintro (h|⟨h,h2⟩)
    ·exact .inl (.inr h)
    ·rcases List.mem_cons.1 h with h|h
     ·exact .inl (.inl h)
     ·exact .inr ⟨h,h2⟩
structure wu (o o':Rw):Prop where
 ver:o'.ver=o.ver
 txt:o'.txt=o.txt
 got:o'.got=o.got
 aB:o'.aB=o.aB
 aC:o'.aC=o.aC
 aA:o'.aA=o.aA
 ak:∀ x∈o.ak,x∈o'.ak
 wed:o.wed=true→o'.wed=true
 new:o'.wed=false→o'.ak=o.ak
theorem wu.refl (o:Rw):wu o o:=⟨rfl,rfl,rfl,rfl,rfl,rfl,fun _ h=>h,fun h=>h,fun _=>rfl⟩
theorem Qc (id:Nat) (o:Rw) (k:Nat) (r:Rw):wu o (jd id o k r):=by
 unfold jd
 split
 ·exact wu.refl o
 ·exact⟨rfl,rfl,rfl,rfl,rfl,rfl,fun x hx=>rH.2 (.inl hx),fun _=>rfl,fun h=>by cases h⟩
theorem wu.trans {a b c : Rw} (h : wu a b) (k : wu b c) : wu a c := ⟨k.ver.trans h.ver,k.txt.trans h.txt,k.got.trans h.got,k.aB.trans h.aB,k.aC.trans h.aC,k.aA.trans h.aA,fun x hx => k.ak x (h.ak x hx),fun hw => k.wed (h.wed hw),fun hw => by
 have hb:b.wed=false:=by
  cases e:b.wed with
  | false=>rfl
  | true=>rw[k.wed e] at hw;cases hw
 rw[k.new hw,h.new hb]⟩
theorem mO (R:List Rw) (id:Nat):∀ (L:List Nat) (o:Rw),wu o (learn R id o L)
 | [],o=>wu.refl o
 | k::L,o=>(Qc id o k (ah R k)).trans (mO R id L (jd id o k (ah R k)))
theorem xu (R:List Rw) (id:Nat):∀ (L:List Nat) (o:Rw) {x:Int},x∈(learn R id o L).ak→x∈o.ak∨∃ k∈L,k≠id∧x∈(ah R k).ak∧x≠(id:Int)
 | [],o,x,h=>.inl h
 | k::L,o,x,h=>by
  rcases xu R id L (jd id o k (ah R k)) h with h|⟨k',h1,h2⟩
  ·unfold jd at h
   split at h
   ·exact .inl h
   ·rename_i hn
    rcases rH.1 h with h|⟨h,h2⟩
    ·exact .inl h
    ·exact .inr ⟨k,List.mem_cons_self,fun e=>hn (.inl e),h,h2⟩
  ·exact .inr ⟨k',List.mem_cons_of_mem _ h1,h2⟩
theorem wu.nx {o o':Rw} (h:wu o o'):Nx o o' :=
 ⟨by rw[h.ver];exact Int.le_refl _,by rw[h.txt];exact List.prefix_refl _,fun i=>by rw[h.got];exact Int.le_refl _,h.ak,fun hw=>⟨h.wed hw,h.got,h.txt⟩,fun hr=>⟨by rw[h.aB,hr],by rw[h.aC];exact Int.le_refl _,fun _=>h.aA⟩⟩
theorem dY {n:Nat} {ak:List Int} {j:Nat}:j∈aP n ak↔j<n∧(j:Int)∉ak:=by simp[aP]
theorem Na (n:Nat) (ak:List Int):(aP n ak).Nodup:=List.Pairwise.filter _ List.nodup_range
theorem Qd {n:Nat} {ak:List Int} (h:n<2*(aP n ak).length):Half n (aP n ak):=⟨Na n ak,fun x hx=>(dY.1 hx).1,h⟩
theorem Nb {n:Nat} {ak:List Int} {f:Nat} (h:(aP n ak).head?=some f):f∈aP n ak∧∀ x,x<f→(x:Int)∈ak:=by
 have hmem:=List.mem_of_mem_head? h;refine⟨hmem,fun x hx=>?_⟩
 refine Classical.byContradiction fun hn=>?_
 have hxm:x∈aP n ak:=dY.2 ⟨by have:=(dY.1 hmem).1;omega,hn⟩
 have hp:(aP n ak).Pairwise (·<·):=List.Pairwise.filter _ List.pairwise_lt_range
 cases e:aP n ak with
 | nil=>rw[e] at hmem;cases hmem
 | cons y l =>
  rw[e] at h hp hxm;simp at h
  subst h;rcases List.mem_cons.1 hxm with h1|h1
  ·omega
  ·have:=(List.pairwise_cons.1 hp).1 x h1;omega
def fl (al:List Bool) (i:Nat):Bool:=al.getD i false
theorem NR {f:Int→Int→Int} (hf:∀ x y,(0≤x∧x≤1000000)→(0≤y∧y≤1000000)→0≤f x y∧f x y≤1000000) {xs ys:List Int} (h1:okB xs=true) (h2:okB ys=true) (hl:xs.length=ys.length):dU f xs ys=jn f xs ys xs.length∧(dU f xs ys).length=xs.length∧okB (dU f xs ys)=true:=by
 have ht:mZ xs ys=true:=by simp[mZ,h1,h2,hl]
 have e:dU f xs ys=jn f xs ys xs.length:=by rw[dU,if_pos ht]
 have hlen:(dU f xs ys).length=xs.length:=by rw[e,jk]
 refine⟨e,hlen, ?_⟩;have h8:=ji h1;refine xZ (by omega) (by omega) (fun j hj=>?_)
 rw[hlen] at hj;rw[e,PW _ _ _ hj];have:=hf _ _ (qZ h1 hj) (qZ h2 (i:=j) (by omega))
 simp[inB]
 omega
theorem YK:∀ x y:Int,(0≤x∧x≤1000000)→(0≤y∧y≤1000000)→0≤min x y∧min x y≤1000000:=fun x y h1 h2=>by omega
structure dL (r:Rw) (n:Nat):Prop where
 n5:1≤n∧n≤5
 ver:0≤r.ver∧r.ver≤1000000
 tl:r.txt.length≤12
 ts:∀ t∈r.txt,t.length≤20
 got:okB r.got=true
 gl:r.got.length=n
 g12:∀ x∈r.got,x≤12
 ak:∀ x∈r.ak,0≤x∧x<(n:Int)
 kF:qE r.ak=true
 aB:r.aB=true→r.wed=true∧(0≤r.aC∧r.aC<(n:Int))∧okB r.aA=true∧r.aA.length=n∧∀ x∈r.aA,x≤12
 not:r.aB=false→r.aC=0∧r.aA=[]
theorem CP {v:List Int} {n:Nat}:jc v (n:Int)=true↔okB v=true∧v.length=n∧∀ x∈v,x≤12:=by
 simp only[jc,Bool.and_eq_true,decide_eq_true_eq,List.all_eq_true]
 constructor
 ·rintro⟨h1,h2,h3⟩;exact⟨h1,by omega,h3⟩
 ·rintro⟨h1,h2,h3⟩;exact⟨h1,by omega,h3⟩
theorem kG {r:Rw} {n:Nat}:bI r (n:Int)=true↔dL r n:=by
 constructor
 ·intro h
  simp only[bI,Bool.and_eq_true,decide_eq_true_eq,List.all_eq_true,jv] at h;obtain⟨h1,h2,h3,h4,⟨h5,h6⟩,h7,h8⟩:=h;have h1:=dP.1 h1;have h2:=dP.1 h2;obtain⟨g1,g2,g3⟩:=CP.1 h4;refine⟨by omega,h2,h3,h7,g1,g2,g3,fun x hx=>by have:=dP.1 (h5 x hx);omega,h6,fun hr=>?_,fun hr=>?_⟩
  ·rw[if_pos hr] at h8
   simp only[Bool.and_eq_true] at h8;obtain⟨k1,k2,k3⟩:=h8;have k2:=dP.1 k2;obtain⟨t1,t2,t3⟩:=CP.1 k3;exact⟨k1,by omega,t1,t2,t3⟩
  ·rw[hr] at h8
   simp at h8
   exact h8
 ·intro h
  simp only[bI,Bool.and_eq_true,decide_eq_true_eq,List.all_eq_true,jv]
  have:=h.n5;have:=h.ver;refine⟨dP.2 (by omega),dP.2 (by omega),h.tl,CP.2 ⟨h.got,h.gl,h.g12⟩,⟨fun x hx=>dP.2 (by have:=h.ak x hx;omega),h.kF⟩,h.ts, ?_⟩
  cases hr:r.aB with
  | true =>
   obtain⟨k1,k2,k3,k4,k5⟩:=h.aB hr;rw[if_pos rfl];simp only[Bool.and_eq_true]
   exact⟨k1,dP.2 (by omega),CP.2 ⟨k3,k4,k5⟩⟩
  | false =>
   obtain⟨k1,k2⟩:=h.not hr;simp[k1,k2]
def nX (h:Hs) (i:Nat) (r:Rw):Hs:=fun j=>if j=i then r::h j else h j
theorem fU {h:Hs} {i j:Nat} {r x:Rw} (hx:x∈h j):x∈nX h i r j:=by
 unfold nX
 split
 ·exact List.mem_cons_of_mem _ hx
 ·exact hx
theorem jJ (h:Hs) (i:Nat) (r:Rw):nX h i r i=r::h i:=by simp[nX]
theorem kD {h:Hs} {i j:Nat} {r:Rw} (e:j≠i):nX h i r j=h j:=by simp[nX,e]
theorem lq.add {n:Nat} {h:Hs} {log rJ:List Pp} (S:lq n h log) {i:Nat} {o o':Rw} {t:List Rw} (ho:h i=o::t) (hx:Nx o o') (ha:o'.aB=true→(o.aB=true∧o.aC=o'.aC)∨(o'.aC∉o'.ak∧∃ P∈rJ,(P.b:Int)=o'.aC∧P.T=o'.aA))
  (hl:rF n (nX h i o') rJ) (hs:∀ P∈log,P∈rJ):lq n (nX h i o') rJ:=by
 have hoi:o∈h i:=by rw[ho];exact List.mem_cons_self
 refine⟨fun j=>?_,fun j r hr hrd=>?_,fun j r hr hrd=>?_,hl⟩
 ·by_cases e:j=i
  ·subst e
   rw[jJ];refine List.pairwise_cons.2 ⟨fun x hx2=>?_,S.chain j⟩
   rw[ho] at hx2;rcases List.mem_cons.1 hx2 with h1|h1
   ·rw[h1];exact hx
   ·have:=S.chain j
    rw[ho] at this;exact ((List.pairwise_cons.1 this).1 x h1).trans hx
  ·rw[kD e];exact S.chain j
 ·by_cases e:j=i
  ·subst e
   rw[jJ] at hr;rcases List.mem_cons.1 hr with h1|h1
   ·subst h1
    rcases ha hrd with ⟨k1,k2⟩|⟨k1,_⟩
    ·obtain⟨r0,m0,m1,m2,m3,m4⟩:=S.acc j o hoi k1
     exact⟨r0,fU m0,m1.trans hx,m2,m3.trans k2,m4⟩
    ·exact⟨r,by rw[jJ];exact List.mem_cons_self,Nx.refl _,hrd,rfl,k1⟩
   ·obtain⟨r0,m0,m⟩:=S.acc j r h1 hrd
    exact⟨r0,fU m0,m⟩
  ·rw[kD e] at hr
   obtain⟨r0,m0,m⟩:=S.acc j r hr hrd;exact⟨r0,fU m0,m⟩
 ·by_cases e:j=i
  ·subst e
   rw[jJ] at hr;rcases List.mem_cons.1 hr with h1|h1
   ·subst h1
    rcases ha hrd with ⟨k1,k2⟩|⟨_,k⟩
    ·obtain⟨P,p0,p1,p2⟩:=S.prop j o hoi k1
     exact⟨P,hs P p0,by rw[p1,k2],by rw[p2,(hx.aB k1).2.2 k2.symm]⟩
    ·exact k
   ·obtain⟨P,p0,p⟩:=S.prop j r h1 hrd
    exact⟨P,hs P p0,p⟩
  ·rw[kD e] at hr
   obtain⟨P,p0,p⟩:=S.prop j r hr hrd;exact⟨P,hs P p0,p⟩
theorem lq.same {n:Nat} {h:Hs} {log:List Pp} (S:lq n h log) {i:Nat} {o o':Rw} {t:List Rw} (ho:h i=o::t) (hx:Nx o o') (ha:o'.aB=true→(o.aB=true∧o.aC=o'.aC)∨(o'.aC∉o'.ak∧∃ P∈log,(P.b:Int)=o'.aC∧P.T=o'.aA)):lq n (nX h i o') log :=
 S.add ho hx ha (S.log.more (fun j r hr=>fU hr)) (fun P h=>h)
theorem F7.more {n:Nat} {h h':Hs} {q:Nat} (k:F7 n h q) (hm:∀ j r,r∈h j→r∈h' j):F7 n h' q:=fun j hj=>by
 obtain⟨r,h1,h2⟩:=k j hj;exact⟨r,hm j r h1,h2⟩
structure MInv (n:Nat) (h:Hs) (i:Nat) (m:Mb):Prop where
 hid:m.id=(i:Int)
 hn:m.n=(n:Int)
 lt:i<n
 len:m.rows.length=n
 head:∃ t,h i=ah m.rows i::t
 view:∀ j,j<n→ah m.rows j∈h j
 ok:∀ j,j<n→dL (ah m.rows j) n
 self:(i:Int)∉(ah m.rows i).ak
 EG:∀ j,j<n→el (ah m.rows i).got j≤((ah m.rows j).txt.length:Int)
 jW:el (ah m.rows i).got i=((ah m.rows i).txt.length:Int)
 qF:m.done=false→m.au.length≤60∧∀ q,q<m.au.length→el m.au q=(q:Int)∧F7 n h q
 fin:m.done=true→(ah m.rows i).aB=true∧n<2*(aP n (ah m.rows i).ak).length∧(∀ j∈aP n (ah m.rows i).ak,∃ q∈h j,q.aB=true∧q.aC=(ah m.rows i).aC∧q.aA=(ah m.rows i).aA∧(i:Int)∉q.ak)∧m.au=dh (ah m.rows i).aA 12
theorem MInv.more {n:Nat} {h h':Hs} {i:Nat} {m:Mb} (M:MInv n h i m) (hm:∀ j r,r∈h j→r∈h' j) (he:h' i=h i):MInv n h' i m :=
 ⟨M.hid,M.hn,M.lt,M.len,by rw [he];exact M.head,fun j hj => hm j _ (M.view j hj),M.ok,M.self,M.EG,M.jW,fun hd => ⟨(M.qF hd).1,fun q hq => ⟨((M.qF hd).2 q hq).1,((M.qF hd).2 q hq).2.more hm⟩⟩,
  fun hd=>by
   obtain⟨h1,h2,h3,h4⟩:=M.fin hd;exact⟨h1,h2,fun j hj=>by obtain⟨q,q1,q2⟩:=h3 j hj;exact⟨q,hm j q q1,q2⟩,h4⟩⟩
theorem bZ {R:List Rw} {i j:Nat} {o:Rw} (hi:i<R.length):ah (R.set i o) j=if j=i then o else ah R j:=by
 unfold ah;rw[List.getD_eq_getElem?_getD,List.getD_eq_getElem?_getD,List.getElem?_set];by_cases e:i=j
 ·subst e;simp[hi]
 ·rw[if_neg e,if_neg (Ne.symm e)]
theorem MInv.i {n:Nat} {h:Hs} {i:Nat} {m:Mb} (M:MInv n h i m):m.i=i:=by rw[Mb.i,M.hid];rfl
theorem MInv.k {n:Nat} {h:Hs} {i:Nat} {m:Mb} (M:MInv n h i m):m.k=n:=by rw[Mb.k,M.hn];rfl
theorem MInv.own {n:Nat} {h:Hs} {i:Nat} {m:Mb} (M:MInv n h i m):m.own=ah m.rows i:=by rw[Mb.own,M.i]
theorem iK {xs:List Int}:qE xs=true↔xs.Pairwise (·<·):=by rw[qE,decide_eq_true_iff,sQ]
theorem fF {v:List Int} {n:Nat} (hn:1≤n∧n≤5) (hl:v.length=n):(okB v=true∧∀ x∈v,x≤12)↔∀ j,j<n→0≤el v j∧el v j≤12:=by
 constructor
 ·rintro⟨h1,h2⟩ j hj
  have:=qZ h1 (i:=j) (by omega)
  exact⟨this.1,h2 _ (iF (by omega))⟩
 ·intro h
  refine⟨xZ (by omega) (by omega) (fun j hj=>?_),fun x hx=>?_⟩
  ·have:=h j (by omega)
   simp[inB]
   omega
  ·obtain⟨j,hj,rfl⟩:=List.mem_iff_getElem.1 hx
   have:=(h j (by omega)).2
   simpa[el,hj] using this
theorem dL.g {r:Rw} {n:Nat} (h:dL r n):∀ j,j<n→0≤el r.got j∧el r.got j≤12:=(fF h.n5 h.gl).1 ⟨h.got,h.g12⟩
theorem dL.t {r:Rw} {n:Nat} (h:dL r n) (hr:r.aB=true):∀ j,j<n→0≤el r.aA j∧el r.aA j≤12:=(fF h.n5 (h.aB hr).2.2.2.1).1 ⟨(h.aB hr).2.2.1,(h.aB hr).2.2.2.2⟩
theorem dL.Rq {r:Rw} {n:Nat} (h:dL r n) (hw:r.wed=false):r.aB=false:=by
 cases e:r.aB with
 | false=>rfl
 | true=>rw[(h.aB e).1] at hw;cases hw
theorem wz {l:List Int} {i j:Nat} {x:Int} (hi:i<l.length):el (l.set i x) j=if j=i then x else el l j:=by
 unfold el;rw[List.getD_eq_getElem?_getD,List.getD_eq_getElem?_getD,List.getElem?_set];by_cases e:i=j
 ·subst e;simp[hi]
 ·rw[if_neg e,if_neg (Ne.symm e)]
theorem MInv.to {n:Nat} {h h':Hs} {i:Nat} {m:Mb} (M:MInv n h i m) (hm:∀ j r,r∈h j→r∈h' j) {o':Rw} (head:∃ t,h' i=o'::t) (ok:dL o' n) (self:(i:Int)∉o'.ak) (EG:∀ j,j<n→j≠i→el o'.got j≤((ah m.rows j).txt.length:Int)) (jW:el o'.got i=(o'.txt.length:Int)) {jy:List Int} {done':Bool}
  (qF:done'=false→jy.length≤60∧∀ q,q<jy.length→el jy q=(q:Int)∧F7 n h' q)
  (fin:done'=true→o'.aB=true∧n<2*(aP n o'.ak).length∧(∀ j∈aP n o'.ak,∃ q∈h' j,q.aB=true∧q.aC=o'.aC∧q.aA=o'.aA∧(i:Int)∉q.ak)∧jy=dh o'.aA 12) :
  MInv n h' i { m with rows:=m.rows.set i o',au:=jy,done:=done' }:=by
 have hi:i<m.rows.length:=by rw[M.len];exact M.lt
 have e1:ah (m.rows.set i o') i=o':=by rw[bZ hi,if_pos rfl]
 refine⟨M.hid,M.hn,M.lt,by simp only[List.length_set];exact M.len, ?_,fun j hj=>?_,fun j hj=>?_, ?_,fun j hj=>?_, ?_,qF, ?_⟩
 ·simp only[e1];exact head
 ·simp only[bZ hi]
  split
  ·rename_i e;rw[e];obtain⟨t,ht⟩:=head;rw[ht];exact List.mem_cons_self
  ·exact hm j _ (M.view j hj)
 ·simp only[bZ hi]
  split
  ·exact ok
  ·exact M.ok j hj
 ·simp only[e1];exact self
 ·simp only[e1,bZ hi]
  split
  ·rename_i e;rw[e,jW];exact Int.le_refl _
  ·rename_i e;exact EG j hj e
 ·simp only[e1];exact jW
 ·simp only[e1];exact fin
def Goes (n:Nat) (h:Hs) (log:List Pp) (i:Nat) (m':Mb):Prop:=∃ h' rJ,lq n h' rJ∧MInv n h' i m'∧(∀ j,j≠i→h' j=h j)∧∀ j r,r∈h j→r∈h' j
theorem Goes.same {n:Nat} {h:Hs} {log:List Pp} {i:Nat} {m:Mb} (S:lq n h log) (M:MInv n h i m):Goes n h log i m:=⟨h,log,S,M,fun _ _=>rfl,fun _ _ h=>h⟩
theorem Vq {n:Nat} {h:Hs} {log:List Pp} {i:Nat} {m:Mb} (S:lq n h log) (M:MInv n h i m) (t:List UInt8):Goes n h log i (bW m t).1:=by
 unfold bW
 split
 ·exact Goes.same S M
 ·rename_i hn
  simp only[not_or] at hn;obtain⟨h1,h2,h3,h4,h5⟩:=hn;rw[M.own] at h1 h3 h5 ⊢;have hd:m.done=false:=by simpa using h2
  have hw:(ah m.rows i).wed=false:=by simpa using h1
  have ok:=M.ok i M.lt;have hr:=ok.Rq hw;have hgi:=M.jW;have htl:=ok.tl;have hlen:i<(ah m.rows i).got.length:=by rw[ok.gl];exact M.lt
  obtain⟨tt,ht⟩:=M.head
  have hx:Nx (ah m.rows i) { ah m.rows i with txt:=(ah m.rows i).txt++[t],got:=(ah m.rows i).got.set i (el (ah m.rows i).got i+1),ver:=(ah m.rows i).ver+1 }:=by
   refine⟨by simp only;omega,List.prefix_append _ _,fun j=>?_,fun x hx=>hx,fun hw2=>(by rw[hw] at hw2;cases hw2),fun hr2=>(by rw[hr] at hr2;cases hr2)⟩
   simp only[wz hlen]
   split
   ·rename_i e;rw[e];omega
   ·exact Int.le_refl _
  simp only[Mb.put,M.i]
  refine⟨_,log,S.same ht hx (fun hr2=>by simp only at hr2;rw[hr] at hr2;cases hr2), ?_,fun j hj=>kD hj,fun j r hr=>fU hr⟩
  have hov:=ok.ver;refine M.to (o':={ ah m.rows i with txt:=(ah m.rows i).txt++[t],got:=(ah m.rows i).got.set i (el (ah m.rows i).got i+1),ver:=(ah m.rows i).ver+1 }) (jy:=m.au) (done':=m.done) (fun j r hr=>fU hr) ⟨_,jJ _ _ _⟩ ?_ M.self (fun j hj hne=>?_) ?_ (fun _=>⟨(M.qF hd).1,fun q hq=>⟨((M.qF hd).2 q hq).1,((M.qF hd).2 q hq).2.more (fun j r hr=>fU hr)⟩⟩) (fun h=>(by rw[hd] at h;cases h))
  ·have hg:∀ j,j<n→0≤el ((ah m.rows i).got.set i (el (ah m.rows i).got i+1)) j∧el ((ah m.rows i).got.set i (el (ah m.rows i).got i+1)) j≤12:=fun j hj=>by
    rw[wz hlen]
    split
    ·omega
    ·exact ok.g j hj
   have hgl:((ah m.rows i).got.set i (el (ah m.rows i).got i+1)).length=n:=by rw[List.length_set];exact ok.gl
   have:=(fF ok.n5 hgl).2 hg;refine⟨ok.n5,by simp only;omega,by simp only[List.length_append,List.length_singleton];omega,fun x hx=>?_,this.1,hgl,this.2,ok.ak,ok.kF,fun h=>(by simp only at h;rw[hr] at h;cases h),fun h=>ok.not hr⟩
   rcases List.mem_append.1 hx with hx|hx
   ·exact ok.ts x hx
   ·have:=List.mem_singleton.1 hx;rw[this];omega
  ·simp only[wz hlen,if_neg hne]
   exact M.EG j hj
  ·simp only[wz hlen,if_pos,List.length_append,List.length_singleton]
   omega
theorem Qe {n:Nat} {h:Hs} {log:List Pp} {i:Nat} {m:Mb} (S:lq n h log) (M:MInv n h i m) (who:Int):Goes n h log i (aW m who).1:=by
 unfold aW
 split
 ·exact Goes.same S M
 ·rename_i hn
  simp only[not_or] at hn;obtain⟨h1,h2,h3,h4,h5⟩:=hn;rw[M.own] at h3 h5 ⊢;rw[M.hid] at h2;rw[M.hn] at h1;have h1:=dP.1 (by simpa using h1)
  have hd:m.done=false:=by simpa using h4
  have ok:=M.ok i M.lt;have hov:=ok.ver;obtain⟨tt,ht⟩:=M.head
  have hx:Nx (ah m.rows i) { ah m.rows i with ak:=bT (ah m.rows i).ak who,wed:=true,ver:=(ah m.rows i).ver+1 } :=
   ⟨by simp only;omega,List.prefix_refl _,fun j=>Int.le_refl _,fun x hx=>jS.2 (.inr hx),fun _=>⟨rfl,rfl,rfl⟩,fun hr=>⟨hr,Int.le_refl _,fun _=>rfl⟩⟩
  simp only[Mb.put,M.i]
  refine⟨_,log,S.same ht hx (fun hr=>.inl ⟨hr,rfl⟩), ?_,fun j hj=>kD hj,fun j r hr=>fU hr⟩
  refine M.to (o':={ ah m.rows i with ak:=bT (ah m.rows i).ak who,wed:=true,ver:=(ah m.rows i).ver+1 }) (jy:=m.au) (done':=m.done) (fun j r hr=>fU hr) ⟨_,jJ _ _ _⟩ ?_ (fun hm=>?_) (fun j hj hne=>M.EG j hj) M.jW (fun _=>⟨(M.qF hd).1,fun q hq=>⟨((M.qF hd).2 q hq).1,((M.qF hd).2 q hq).2.more (fun j r hr=>fU hr)⟩⟩) (fun h=>(by rw[hd] at h;cases h))
  ·refine⟨ok.n5,by simp only;omega,ok.tl,ok.ts,ok.got,ok.gl,ok.g12,fun x hx=>?_,iK.2 (rC (iK.1 ok.kF)),fun hr=>⟨rfl,(ok.aB hr).2⟩,ok.not⟩
   rcases jS.1 hx with e|hx
   ·rw[e];omega
   ·exact ok.ak x hx
  ·rcases jS.1 hm with e|hx
   ·exact h2 e.symm
   ·exact M.self hx
theorem Qg {n:Nat} {h:Hs} {log:List Pp} {i:Nat} {m:Mb} (S:lq n h log) (M:MInv n h i m) {fr:Nat} {r:Rw} (hr:r∈h fr) (hf:fr<n):MInv n h i (aX m (fr:Int) r).1:=by
 unfold aX
 split
 ·exact M
 ·rename_i hn
  simp only[not_or] at hn;obtain⟨h1,h2,h3,h4,h5,h6⟩:=hn;rw[M.hid] at h2;rw[M.hn] at h5;have hne:i≠fr:=fun e=>h2 (by rw[e])
  have EH:dL r n:=kG.1 (by simpa using h5)
  simp only[Int.toNat_natCast] at h6 ⊢;have hfl:fr<m.rows.length:=by rw[M.len];exact hf
  have e1:ah (m.rows.set fr r) i=ah m.rows i:=by rw[bZ hfl,if_neg hne]
  refine⟨M.hid,M.hn,M.lt,by simp only[List.length_set];exact M.len,by simp only[e1];exact M.head,fun j hj=>?_,fun j hj=>?_,by simp only[e1];exact M.self,fun j hj=>?_,by simp only[e1];exact M.jW,M.qF,by simp only[e1];exact M.fin⟩
  ·simp only[bZ hfl]
   split
   ·rename_i e;rw[e];exact hr
   ·exact M.view j hj
  ·simp only[bZ hfl]
   split
   ·exact EH
   ·exact M.ok j hj
  ·simp only[e1]
   simp only[bZ hfl]
   split
   ·rename_i e
    have h7:=M.EG fr hf;rcases (S.chain fr).comp (M.view fr hf) hr with c|c
    ·have:=c.txt.length_le
     rw[e];omega
    ·exact absurd c.ver (by omega)
   ·exact M.EG j hj
theorem ZX {s:List Int} {x:Int} {q:Nat}:el (s++[x]) q=if q=s.length then x else el s q:=by
 unfold el;rw[List.getD_eq_getElem?_getD,List.getD_eq_getElem?_getD];by_cases h:q<s.length
 ·rw[List.getElem?_append_left h,if_neg (by omega)]
 ·by_cases e:q=s.length
  ·subst e;simp
  ·rw[if_neg e,List.getElem?_append_right (by omega),List.getElem?_eq_none (by simp;omega),List.getElem?_eq_none (by omega)]
theorem xw (R:List Rw) (n:Nat):∀ (f:Nat) (s:List Int),(∀ q,q<s.length→el s q=(q:Int))→(iW R n f s).length≤s.length+f∧s.length≤(iW R n f s).length∧(∀ q,q<(iW R n f s).length→el (iW R n f s) q=(q:Int))∧∀ q,s.length≤q→q<(iW R n f s).length→lC R n q=true
 | 0,s,h=>⟨Nat.le_refl _,Nat.le_refl _,h,fun q h1 h2=>absurd h2 (by simp only[iW];omega)⟩
 | f+1,s,h=>by
  unfold iW
  split
  ·rename_i hs
   obtain ⟨h1,h2,h3,h4⟩ := xw R n f (s ++ [(s.length : Int)]) (fun q hq => by
    rw[ZX]
    split
    ·rename_i e;rw[e]
    ·rename_i e;simp at hq;exact h q (by omega))
   rw[List.length_append,List.length_singleton] at h1 h2 h4;refine⟨by omega,by omega,h3,fun q q1 q2=>?_⟩
   by_cases e:q=s.length
   ·rw[e];exact hs
   ·exact h4 q (by omega) q2
  ·exact⟨by omega,Nat.le_refl _,h,fun q h1 h2=>absurd h2 (by omega)⟩
theorem xA (R:List Rw):∀ (L:List Nat) (a:Int×List Int),(best R L a=a∨∃ k∈L,(ah R k).aB=true∧best R L a=((ah R k).aC,(ah R k).aA))∧a.1≤(best R L a).1∧∀ k∈L,(ah R k).aB=true→(ah R k).aC≤(best R L a).1
 | [],a=>⟨.inl rfl,Int.le_refl _,fun k hk=>by cases hk⟩
 | k::L,a=>by
  have e:best R (k::L) a=best R L (if (ah R k).aB=true∧a.1<(ah R k).aC then ((ah R k).aC,(ah R k).aA) else a):=rfl
  obtain⟨h1,h2,h3⟩:=xA R L (if (ah R k).aB=true∧a.1<(ah R k).aC then ((ah R k).aC,(ah R k).aA) else a)
  rw[e];by_cases c:(ah R k).aB=true∧a.1<(ah R k).aC
  ·rw[if_pos c] at h1 h2 h3 ⊢
   simp only at h2
   refine⟨?_,by omega,fun k' hk' hr=>?_⟩
   ·rcases h1 with h1|⟨k',q1,q2,q3⟩
    ·exact .inr ⟨k,List.mem_cons_self,c.1,h1⟩
    ·exact .inr ⟨k',List.mem_cons_of_mem _ q1,q2,q3⟩
   ·rcases List.mem_cons.1 hk' with rfl|hk'
    ·exact h2
    ·exact h3 k' hk' hr
  ·rw[if_neg c] at h1 h2 h3 ⊢
   refine⟨?_,h2,fun k' hk' hr=>?_⟩
   ·rcases h1 with h1|⟨k',q1,q2,q3⟩
    ·exact .inl h1
    ·exact .inr ⟨k',List.mem_cons_of_mem _ q1,q2,q3⟩
   ·rcases List.mem_cons.1 hk' with rfl|hk'
    ·have:¬ a.1<(ah R k').aC:=fun h=>c ⟨hr,h⟩
     omega
    ·exact h3 k' hk' hr
theorem GY {R:List Rw} {n:Nat} (hn:1≤n∧n≤5):∀ (L:List Nat) (acc:List Int),acc.length=n→(∀ s,s<n→0≤el acc s∧el acc s≤12)→(∀ k∈L,(ah R k).got.length=n∧∀ s,s<n→0≤el (ah R k).got s∧el (ah R k).got s≤12) →
  (L.foldl (fun acc j=>dU min acc (ah R j).got) acc).length=n∧∀ s,s<n→(0≤el (L.foldl (fun acc j=>dU min acc (ah R j).got) acc) s∧el (L.foldl (fun acc j=>dU min acc (ah R j).got) acc) s≤el acc s)∧(∀ k∈L,el (L.foldl (fun acc j=>dU min acc (ah R j).got) acc) s≤el (ah R k).got s)∧(el (L.foldl (fun acc j=>dU min acc (ah R j).got) acc) s=el acc s∨∃ k∈L,el (L.foldl (fun acc j=>dU min acc (ah R j).got) acc) s=el (ah R k).got s)
 | [],acc,hl,ha,hL=>⟨hl,fun s hs=>⟨⟨(ha s hs).1,Int.le_refl _⟩,fun k hk=>(by cases hk),.inl rfl⟩⟩
 | k::L,acc,hl,ha,hL=>by
  obtain⟨k1,k2⟩:=hL k List.mem_cons_self;have o1:=((fF hn hl).2 ha).1;have o2:=((fF hn k1).2 k2).1;obtain⟨e1,e2,e3⟩:=NR YK o1 o2 (by rw[hl,k1])
  have hel:∀ s,s<n→el (dU min acc (ah R k).got) s=min (el acc s) (el (ah R k).got s):=fun s hs=>by rw[e1,PW _ _ _ (by omega)]
  obtain⟨h1,h2⟩:=GY hn L (dU min acc (ah R k).got) (by rw[e2,hl]) (fun s hs=>by rw[hel s hs];have:=ha s hs;have:=k2 s hs;omega) (fun j hj=>hL j (List.mem_cons_of_mem _ hj))
  refine⟨h1,fun s hs=>?_⟩
  obtain⟨⟨a1,a2⟩,a3,a4⟩:=h2 s hs;have hs2:=hel s hs;simp only[List.foldl_cons]
  refine⟨⟨a1,by omega⟩,fun j hj=>?_, ?_⟩
  ·rcases List.mem_cons.1 hj with rfl|hj
   ·omega
   ·exact a3 j hj
  ·rcases a4 with a4|⟨j,j1,j2⟩
   ·rcases Int.le_total (el acc s) (el (ah R k).got s) with c|c
    ·exact .inl (by omega)
    ·exact .inr ⟨k,List.mem_cons_self,by omega⟩
   ·exact .inr ⟨j,List.mem_cons_of_mem _ j1,j2⟩
theorem vJ {R:List Rw} {n:Nat} (hn:1≤n∧n≤5) {L:List Nat} (hne:L≠[]) (hL:∀ k∈L,(ah R k).got.length=n∧∀ s,s<n→0≤el (ah R k).got s∧el (ah R k).got s≤12) :
  (meets R L).length=n∧∀ s,s<n→0≤el (meets R L) s∧(∀ k∈L,el (meets R L) s≤el (ah R k).got s)∧∃ k∈L,el (meets R L) s=el (ah R k).got s:=by
 cases L with
 | nil=>exact absurd rfl hne
 | cons k t =>
  obtain⟨k1,k2⟩:=hL k List.mem_cons_self;obtain⟨h1,h2⟩:=GY hn t (ah R k).got k1 k2 (fun j hj=>hL j (List.mem_cons_of_mem _ hj))
  refine⟨h1,fun s hs=>?_⟩
  obtain⟨⟨a1,a2⟩,a3,a4⟩:=h2 s hs;refine⟨a1,fun j hj=>?_, ?_⟩
  ·rcases List.mem_cons.1 hj with rfl|hj
   ·exact a2
   ·exact a3 j hj
  ·rcases a4 with a4|⟨j,j1,j2⟩
   ·exact⟨k,List.mem_cons_self,a4⟩
   ·exact⟨j,List.mem_cons_of_mem _ j1,j2⟩
structure Ph (n:Nat) (h:Hs) (log:List Pp) (i:Nat) (R:List Rw) (o:Rw):Prop where
 S:lq n h log
 head:∃ t,h i=o::t
 view:∀ j,j<n→j≠i→ah R j∈h j
 okv:∀ j,j<n→j≠i→dL (ah R j) n
 ok:dL o n
 self:(i:Int)∉o.ak
 lt:i<n
 len:R.length=n
theorem Ph.own {n:Nat} {h:Hs} {log:List Pp} {i:Nat} {R:List Rw} {o:Rw} (P:Ph n h log i R o):o∈h i:=by obtain⟨t,ht⟩:=P.head;rw[ht];exact List.mem_cons_self
theorem Ph.row {n:Nat} {h:Hs} {log:List Pp} {i:Nat} {R:List Rw} {o:Rw} (P:Ph n h log i R o) {j:Nat} (hj:j<n):ah (R.set i o) j∈h j∧dL (ah (R.set i o) j) n:=by
 rw[bZ (by rw[P.len];exact P.lt)]
 split
 ·rename_i e;subst e;exact⟨P.own,P.ok⟩
 ·rename_i e;exact⟨P.view j hj e,P.okv j hj e⟩
theorem Ph.next {n:Nat} {h:Hs} {log:List Pp} {i:Nat} {R:List Rw} {o o':Rw} (P:Ph n h log i R o) (hx:Nx o o') (ok:dL o' n) (self:(i:Int)∉o'.ak) (ha:o'.aB=true→(o.aB=true∧o.aC=o'.aC)∨(o'.aC∉o'.ak∧∃ P∈log,(P.b:Int)=o'.aC∧P.T=o'.aA)):Ph n (nX h i o') log i R o':=by
 obtain⟨t,ht⟩:=P.head;exact⟨P.S.same ht hx ha,⟨_,jJ _ _ _⟩,fun j hj hne=>fU (P.view j hj hne),P.okv,ok,self,P.lt,P.len⟩
theorem Ph.leads {n:Nat} {h:Hs} {log:List Pp} {i:Nat} {R:List Rw} {o:Rw} (P:Ph n h log i R o) (hw:o.wed=true) (hb:n<2*(aP n o.ak).length) (hf:(aP n o.ak).head?=some i):∃ rJ,Ph n (nX h i (lead (R.set i o) i o (aP n o.ak))) rJ i R (lead (R.set i o) i o (aP n o.ak))∧Nx o (lead (R.set i o) i o (aP n o.ak)):=by
 obtain⟨hin,hlow⟩:=Nb hf;unfold lead
 split
 ·exact⟨log,P.next (Nx.refl _) P.ok P.self (fun hr=>.inl ⟨hr,rfl⟩),Nx.refl _⟩
 ·rename_i hnb
  split
  ·rename_i hok
   have YL:=Qd hb
   have hQ:∀ k∈aP n o.ak,(ah (R.set i o) k).wed=true∧∀ x∈o.ak,x∈(ah (R.set i o) k).ak:=fun k hk=>by
    unfold iH at hok;rw[List.all_eq_true] at hok;have:=hok k hk;simp only[Bool.and_eq_true,List.all_eq_true,decide_eq_true_eq] at this;exact this
   have hrow:∀ k∈aP n o.ak,ah (R.set i o) k∈h k∧dL (ah (R.set i o) k) n:=fun k hk=>P.row (dY.1 hk).1
   have hne:aP n o.ak≠[]:=fun e=>by rw[e] at hin;cases hin
   obtain⟨b1,b2,b3⟩:=xA (R.set i o) (aP n o.ak) (-1,[]);have fG:=P.ok.n5
   -- where the end comes from
   have key:((endOf (R.set i o) (aP n o.ak)).length=n∧∀ s,s<n→0≤el (endOf (R.set i o) (aP n o.ak)) s∧el (endOf (R.set i o) (aP n o.ak)) s≤12) ∧
     ((∀ j ∈ aP n o.ak,(ah (R.set i o) j).aB = false) ∧ (∀ s,s < n → (∀ j ∈ aP n o.ak,el (endOf (R.set i o) (aP n o.ak)) s ≤ el (ah (R.set i o) j).got s) ∧ ∃ j ∈ aP n o.ak,el (endOf (R.set i o) (aP n o.ak)) s = el (ah (R.set i o) j).got s) ∨
      ∃ j∈aP n o.ak,(ah (R.set i o) j).aB=true∧(∀ k∈aP n o.ak,(ah (R.set i o) k).aB=true→(ah (R.set i o) k).aC≤(ah (R.set i o) j).aC)∧(ah (R.set i o) j).aA=endOf (R.set i o) (aP n o.ak)):=by
    unfold endOf;by_cases c:(best (R.set i o) (aP n o.ak) (-1,[])).1<0
    ·rw[if_pos c]
     obtain⟨m1,m2⟩:=vJ fG hne (fun k hk=>⟨(hrow k hk).2.gl,(hrow k hk).2.g⟩)
     refine⟨⟨m1,fun s hs=>?_⟩,.inl ⟨fun j hj=>?_,fun s hs=>(m2 s hs).2⟩⟩
     ·obtain⟨a1,a2,j,a3,a4⟩:=m2 s hs
      have:=(hrow j a3).2.g s hs;omega
     ·cases e:(ah (R.set i o) j).aB with
      | false=>rfl
      | true =>
       have h1:=b3 j hj e;have h2:=((hrow j hj).2.aB e).2.1;omega
    ·rw[if_neg c]
     rcases b1 with e|⟨j,j1,j2,j3⟩
     ·rw[e] at c;simp at c
     ·rw[j3]
      refine⟨⟨((hrow j j1).2.aB j2).2.2.2.1,(hrow j j1).2.t j2⟩,.inr ⟨j,j1,j2,fun k hk hr=>?_,rfl⟩⟩
      have:=b3 k hk hr;rw[j3] at this;exact this
   generalize endOf (R.set i o) (aP n o.ak)=T at *;obtain⟨⟨kl,ks⟩,ax1⟩:=key
   have hx:Nx o { o with aB:=true,aC:=(i:Int),aA:=T }:=by
    refine⟨Int.le_refl _,List.prefix_refl _,fun j=>Int.le_refl _,fun x hx=>hx,fun hw=>⟨hw,rfl,rfl⟩,fun hr=>⟨rfl, ?_,fun e=>?_⟩⟩
    ·have:¬ (i:Int)≤o.aC:=fun h=>hnb ⟨hr,h⟩
     simp only
     omega
    ·have:¬ (i:Int)≤o.aC:=fun h=>hnb ⟨hr,h⟩
     simp only at e
     omega
   have Rt:=(fF fG kl).2 ks;have hlt:=P.lt;have ok':dL { o with aB:=true,aC:=(i:Int),aA:=T } n:=⟨fG,P.ok.ver,P.ok.tl,P.ok.ts,P.ok.got,P.ok.gl,P.ok.g12,P.ok.ak,P.ok.kF,fun _=>⟨hw,by simp only;omega,Rt.1,kl,Rt.2⟩,fun h=>by cases h⟩
   -- the proposal
   obtain⟨Qo,po,g1,g2,g3,g4,g5,g6⟩:∃ (Qo:List Nat) (po:Nat→Rw),Half n Qo∧(∀ j∈Qo,po j∈h j)∧(∀ j∈Qo,(po j).wed=true∧(po j).aB=false)∧(∀ s,s<n→(∀ j∈Qo,el T s≤el (po j).got s)∧∃ j∈Qo,el T s=el (po j).got s)∧(∀ i,i<n→i∉Qo→∀ j∈Qo,(i:Int)∈(po j).ak) ∧
     ((∀ j∈aP n o.ak,(ah (R.set i o) j).aB=false)∨∃ j∈aP n o.ak,(ah (R.set i o) j).aB=true∧(∀ k∈aP n o.ak,(ah (R.set i o) k).aB=true→(ah (R.set i o) k).aC≤(ah (R.set i o) j).aC)∧∃ P'∈log,(P'.b:Int)=(ah (R.set i o) j).aC∧P'.T=T):=by
    rcases ax1 with ⟨n1,n2⟩|⟨j,j1,j2,j3,j4⟩
    ·refine⟨aP n o.ak,fun j=>ah (R.set i o) j,YL,fun j hj=>(hrow j hj).1,fun j hj=>⟨(hQ j hj).1,n1 j hj⟩,n2,fun x hx hxn j hj=>(hQ j hj).2 _ ?_,.inl n1⟩
     refine Classical.byContradiction fun hc=>hxn (dY.2 ⟨hx,hc⟩)
    ·obtain⟨P',p1,p2,p3⟩:=P.S.prop j _ (hrow j j1).1 j2
     obtain⟨_,pk,_⟩:=P.S.log.at p1;have e:P'.T=T:=by rw[p3,j4]
     exact⟨P'.Qo,P'.po,pk.oh,pk.om,pk.ow,by rw[← e];exact pk.oT,pk.os,.inr ⟨j,j1,j2,j3,P',p1,p2,e⟩⟩
   obtain⟨t,ht⟩:=P.head;have hm:∀ j r,r∈h j→r∈nX h i { o with aB:=true,aC:=(i:Int),aA:=T } j:=fun j r hr=>fU hr
   have hP:F6 n (nX h i { o with aB:=true,aC:=(i:Int),aA:=T }) ⟨i,T,aP n o.ak,fun j=>ah (R.set i o) j,Qo,po⟩ log :=
    ⟨hlt,YL,fun j hj=>hm j _ (hrow j hj).1,fun j hj=>(hQ j hj).1,fun j hj x hx=>(hQ j hj).2 _ (hlow x hx),⟨_,by rw[jJ];exact List.mem_cons_self,rfl,rfl,rfl⟩,g6,g1,fun j hj=>hm j _ (g2 j hj),g3,g4,g5⟩
   refine⟨⟨i,T,aP n o.ak,fun j=>ah (R.set i o) j,Qo,po⟩::log,⟨P.S.add ht hx (fun _=>.inr ⟨P.self,_,List.mem_cons_self,rfl,rfl⟩) ⟨hP,P.S.log.more hm⟩ (fun P0 h0=>List.mem_cons_of_mem _ h0),⟨_,jJ _ _ _⟩,fun j hj hne=>hm j _ (P.view j hj hne),P.okv,ok',P.self,P.lt,P.len⟩,hx⟩
  ·exact⟨log,P.next (Nx.refl _) P.ok P.self (fun hr=>.inl ⟨hr,rfl⟩),Nx.refl _⟩
theorem Ph.Ru {n:Nat} {h:Hs} {log:List Pp} {i:Nat} {R:List Rw} {o:Rw} (P:Ph n h log i R o) (hw:o.wed=true) {f:Nat} (hf:f∈aP n o.ak) (hne:f≠i):Ph n (nX h i (adopt (R.set i o) i o f)) log i R (adopt (R.set i o) i o f)∧Nx o (adopt (R.set i o) i o f):=by
 unfold adopt
 split
 ·rename_i hc
  obtain⟨c1,c2,c3,c4⟩:=hc;obtain⟨f1,f2⟩:=dY.1 hf;obtain⟨v1,v2⟩:=P.row f1
  have hx:Nx o { o with aB:=true,aC:=(f:Int),aA:=(ah (R.set i o) f).aA }:=by
   refine⟨Int.le_refl _,List.prefix_refl _,fun j=>Int.le_refl _,fun x hx=>hx,fun hw=>⟨hw,rfl,rfl⟩,fun hr=>⟨rfl, ?_,fun e=>?_⟩⟩
   ·have:¬ (f:Int)≤o.aC:=fun h=>c4 ⟨hr,h⟩
    simp only
    omega
   ·have:¬ (f:Int)≤o.aC:=fun h=>c4 ⟨hr,h⟩
    simp only at e
    omega
  refine⟨P.next hx ⟨P.ok.n5,P.ok.ver,P.ok.tl,P.ok.ts,P.ok.got,P.ok.gl,P.ok.g12,P.ok.ak,P.ok.kF,fun _=>⟨hw,by simp only;omega,(v2.aB c1).2.2⟩,fun h=>by cases h⟩ P.self (fun _=>.inr ⟨f2, ?_⟩),hx⟩
  obtain⟨P',p1,p2,p3⟩:=P.S.prop f _ v1 c1;exact⟨P',p1,by rw[p2,c2],p3⟩
 ·exact⟨P.next (Nx.refl _) P.ok P.self (fun hr=>.inl ⟨hr,rfl⟩),Nx.refl _⟩
theorem uF (R:List Rw) (id:Nat) (o:Rw) (L:List Nat):(lead R id o L).ak=o.ak∧(lead R id o L).wed=o.wed∧(lead R id o L).got=o.got∧(lead R id o L).txt=o.txt∧(lead R id o L).ver=o.ver:=by
 unfold lead
 split
 ·exact⟨rfl,rfl,rfl,rfl,rfl⟩
 ·split<;>exact⟨rfl,rfl,rfl,rfl,rfl⟩
theorem rM (R:List Rw) (id:Nat) (o:Rw) (f:Nat):(adopt R id o f).ak=o.ak∧(adopt R id o f).wed=o.wed∧(adopt R id o f).got=o.got∧(adopt R id o f).txt=o.txt∧(adopt R id o f).ver=o.ver:=by
 unfold adopt
 split<;>exact⟨rfl,rfl,rfl,rfl,rfl⟩
theorem oN {x:Int}:∀ {W s:List Int},x∈W.foldl (fun s q=>if q∈s then s else bT s q) s↔x∈s∨x∈W
 | [],s=>by simp
 | q::W,s=>by
  rw[List.foldl_cons,oN];by_cases c:q∈s
  ·rw[if_pos c,List.mem_cons]
   constructor
   ·rintro (h|h)
    ·exact .inl h
    ·exact .inr (.inr h)
   ·rintro (h|h|h)
    ·exact .inl h
    ·rw[h];exact .inl c
    ·exact .inr h
  ·rw[if_neg c,jS,List.mem_cons]
   constructor
   ·rintro ((h|h)|h)
    ·exact .inr (.inl h)
    ·exact .inl h
    ·exact .inr (.inr h)
   ·rintro (h|h|h)
    ·exact .inl (.inr h)
    ·exact .inl (.inl h)
    ·exact .inr h
theorem AV:∀ {W s:List Int},s.Pairwise (·<·)→(W.foldl (fun s q=>if q∈s then s else bT s q) s).Pairwise (·<·)
 | [],s,h=>h
 | q::W,s,h=>by
  rw[List.foldl_cons];refine AV ?_
  split
  ·exact h
  ·exact rC h
theorem vK {s:List Int} (h:∀ q,q<s.length→el s q=(q:Int)):s.Pairwise (·<·):=sQ.1 (fun i hi=>by rw[h i (by omega),h (i+1) (by omega)];omega)
theorem Ea {s:List Int} (h:∀ q,q<s.length→el s q=(q:Int)) {x:Int}:x∈s↔∃ q:Nat,q<s.length∧x=(q:Int):=by
 constructor
 ·intro hx
  obtain⟨j,hj,rfl⟩:=List.mem_iff_getElem.1 hx;exact⟨j,hj,by rw[← h j hj];simp[el,hj]⟩
 ·rintro⟨q,hq,rfl⟩
  rw[← h q hq];exact iF hq
theorem GZ {T:List Int} {n:Nat} (hl:T.length=n) (hn:0<n) (ht:∀ s,s<n→el T s≤12) {q:Nat}:(q:Int)∈dh T 12↔((q/n:Nat):Int)<el T (q%n):=by
 rw[sS];have hm:=Nat.mod_lt q hn
 constructor
 ·rintro⟨k,i,h1,h2,h3,h4⟩
  rw[hl] at h2 h4
  have e:q=n*k+i:=by
   have:(q:Int)=((n*k+i:Nat):Int):=by push_cast;exact h4
   exact_mod_cast this
  rw[e,Nat.mul_add_div hn,Nat.mul_add_mod,Nat.mod_eq_of_lt h2,Nat.div_eq_of_lt h2,Nat.add_zero];exact h3
 ·intro h
  have h12:=ht (q%n) hm;refine⟨q/n,q%n,by omega,by rw[hl];exact hm,h, ?_⟩
  rw[hl];have:=Nat.div_add_mod q n;have h2:((n*(q/n)+q%n:Nat):Int)=(q:Int):=by rw[this]
  push_cast at h2
  omega
theorem Vr {T s:List Int} {n:Nat} (hl:T.length=n) (hn:0<n) (ht:∀ j,j<n→el T j≤12) (hs:∀ q,q<s.length→el s q=(q:Int)) (hc:∀ q,q<s.length→((q/n:Nat):Int)<el T (q%n)):gG s T=dh T 12:=by
 unfold gG;refine zS (AV (vK hs)) (rG T 12) (fun x=>?_)
 rw[oN]
 constructor
 ·rintro (h|h)
  ·obtain⟨q,h1,rfl⟩:=(Ea hs).1 h
   exact (GZ hl hn ht).2 (hc q h1)
  ·exact h
 ·exact .inr
theorem CQ {l:List Int} {j:Nat} (h:l.length≤j):el l j=0:=by
 unfold el;rw[List.getD_eq_getElem?_getD,List.getElem?_eq_none h]
 rfl
theorem Eb {R:List Rw} {o:Rw} {n j:Nat} (hj:j<n):el (kS R o n) j=max (el o.got j) ((ah R j).txt.length:Int):=by
 unfold kS el;simp[hj]
theorem xB (R:List Rw) (id:Nat):∀ (L:List Nat) (o:Rw),o.ak.Pairwise (·<·)→(learn R id o L).ak.Pairwise (·<·)
 | [],o,h=>h
 | k::L,o,h=>by
  refine xB R id L (jd id o k (ah R k)) ?_;unfold jd
  split
  ·exact h
  ·simp only
   generalize (ah R k).ak=r
   induction r generalizing o with
   | nil=>exact h
   | cons x r ih =>
    unfold gY;rw[List.foldl_cons]
    split
    ·exact ih o h
    ·exact ih { o with ak:=bT o.ak x } (rC h)
theorem G6 {n:Nat} {h:Hs} {log:List Pp} {i:Nat} {m:Mb} (S:lq n h log) (M:MInv n h i m):Goes n h log i (bJ m):=by
 unfold bJ
 split
 ·exact Goes.same S M
 rename_i hnd
 simp only[not_or] at hnd;obtain⟨hd,hv⟩:=hnd;have hd:m.done=false:=by simpa using hd
 have hi:=M.i;have hk:=M.k;have hown:=M.own;have hlt:=M.lt;have hlen:i<m.rows.length:=by rw[M.len];exact hlt
 have ok:=M.ok i hlt;have hn0:0<n:=by omega
 rw[hown] at hv;have hov:=ok.ver;obtain⟨Jz,CU⟩:=M.qF hd;have P0:Ph n h log i m.rows (ah m.rows i):=⟨S,M.head,fun j hj _=>M.view j hj,fun j hj _=>M.ok j hj,ok,M.self,hlt,M.len⟩
 -- it learns
 have e1:aT m=learn m.rows i (ah m.rows i) (aP n (ah m.rows i).ak):=by rw[aT,hi,hk,hown]
 have L1:wu (ah m.rows i) (aT m):=by rw[e1];exact mO _ _ _ _
 have xC:∀ x∈(aT m).ak,(0≤x∧x<(n:Int))∧x≠(i:Int):=fun x hx=>by
  rw[e1] at hx;rcases xu _ _ _ _ hx with hx|⟨k,k1,k2,k3,k4⟩
  ·exact⟨ok.ak x hx,fun e=>M.self (e ▸ hx)⟩
  ·exact⟨(M.ok k (dY.1 k1).1).ak x k3,k4⟩
 have ok1 : dL (aT m) n := ⟨ok.n5,by rw [L1.ver];exact ok.ver,by rw [L1.txt];exact ok.tl,by rw [L1.txt];exact ok.ts,by rw [L1.got];exact ok.got,by rw [L1.got];exact ok.gl,by rw [L1.got];exact ok.g12,fun x hx => (xC x hx).1,iK.2 (by rw [e1];exact xB _ _ _ _ (iK.1 ok.kF)),fun hr => by
  rw[L1.aB] at hr;obtain⟨a1,a2⟩:=ok.aB hr;rw[L1.aC,L1.aA];exact⟨L1.wed a1,a2⟩,fun hr=>by rw[L1.aB] at hr;rw[L1.aC,L1.aA];exact ok.not hr⟩
 have pG:(i:Int)∉(aT m).ak:=fun hx=>(xC _ hx).2 rfl
 have P1:=P0.next L1.nx ok1 pG (fun hr=>.inl ⟨by rw[← L1.aB];exact hr,L1.aC.symm⟩)
 cases hw1:(aT m).wed with
 | false =>
  have hr1:=ok1.Rq hw1;have e2:bY m={ aT m with got:=kS m.rows (aT m) n }:=by rw[bY,if_neg (by rw[hw1];simp),hk]
  have hg2:∀ j,j<n→el (bY m).got j=max (el (ah m.rows i).got j) ((ah m.rows j).txt.length:Int):=fun j hj=>by rw[e2];simp only;rw[Eb hj,L1.got]
  have yw:(bY m).got.length=n:=by rw[e2];simp[kS]
  have hx2:Nx (aT m) (bY m):=by
   refine⟨by rw[e2];exact Int.le_refl _,by rw[e2];exact List.prefix_refl _,fun j=>?_,fun x hx=>by rw[e2];exact hx,fun h=>(by rw[hw1] at h;cases h),fun h=>(by rw[hr1] at h;cases h)⟩
   by_cases hj:j<n
   ·rw[hg2 j hj,L1.got];omega
   ·rw[CQ (by rw[ok1.gl];omega),CQ (by rw[yw];omega)];exact Int.le_refl _
  have hr2:(bY m).aB=false:=by rw[e2];exact hr1
  have hw2:(bY m).wed=false:=by rw[e2];exact hw1
  have ht2:(bY m).txt=(ah m.rows i).txt:=by rw[e2];exact L1.txt
  have hsm:=(fF ok.n5 yw).2 (fun j hj=>by rw[hg2 j hj];have:=ok.g j hj;have:=(M.ok j hj).tl;omega)
  have ok2:dL (bY m) n:=⟨ok.n5,by rw[e2];exact ok1.ver,by rw[e2];exact ok1.tl,by rw[e2];exact ok1.ts,hsm.1,yw,hsm.2,by rw[e2];exact ok1.ak,by rw[e2];exact ok1.kF,fun h=>(by rw[hr2] at h;cases h),fun _=>by rw[e2];exact ok1.not hr1⟩
  have zq:(i:Int)∉(bY m).ak:=by rw[e2];exact pG
  have P2:=P1.next hx2 ok2 zq (fun h=>(by rw[hr2] at h;cases h))
  have e3:dF m=bY m:=by rw[dF,if_neg (by rw[hw2];simp)]
  have e4:aV m=bY m:=by rw[aV,e3,if_neg (by rw[hw2];simp)]
  have eE:gK m=false:=by rw[gK,e4,hr2];rfl
  have eS:dX m=iW (m.rows.set i (bY m)) n (60-m.au.length) m.au:=by rw[dX,if_neg (by rw[hw1];simp),hi,hk]
  have hx5:Nx (bY m) (iD m)∧dL (iD m) n∧(iD m).ak=(bY m).ak∧(iD m).got=(bY m).got∧(iD m).txt=(bY m).txt∧(iD m).aB=false:=by
   unfold iD;rw[e4]
   split
   ·exact⟨Nx.refl _,ok2,rfl,rfl,rfl,hr2⟩
   ·have hvv:(bY m).ver=(ah m.rows i).ver:=by rw[e2];exact L1.ver
    refine⟨⟨by simp only;omega,List.prefix_refl _,fun _=>Int.le_refl _,fun _ h=>h,fun h=>⟨h,rfl,rfl⟩,fun h=>⟨h,Int.le_refl _,fun _=>rfl⟩⟩,⟨ok2.n5,by simp only;omega,ok2.tl,ok2.ts,ok2.got,ok2.gl,ok2.g12,ok2.ak,ok2.kF,ok2.aB,ok2.not⟩,rfl,rfl,rfl,hr2⟩
  obtain⟨x5,Rx,s5,g5,t5,r5⟩:=hx5;have P5:=P2.next x5 Rx (by rw[s5];exact zq) (fun h=>(by rw[r5] at h;cases h))
  have hm:∀ j r,r∈h j→r∈nX (nX (nX h i (aT m)) i (bY m)) i (iD m) j:=fun j r hr=>fU (fU (fU hr))
  obtain⟨q1,q2,q3,q4⟩:=xw (m.rows.set i (bY m)) n (60-m.au.length) m.au (fun q hq=>(CU q hq).1)
  refine⟨_,log,P5.S, ?_,fun j hj=>by rw[kD hj,kD hj,kD hj],hm⟩
  rw[hi,eE,if_neg (by simp)]
  refine M.to (o':=iD m) (jy:=dX m) (done':=false) hm ⟨_,jJ _ _ _⟩ Rx (by rw[s5];exact zq) (fun j hj hne=>?_) ?_ (fun _=>?_) (fun h=>by cases h)
  ·rw[g5,hg2 j hj]
   have:=M.EG j hj;omega
  ·rw[g5,t5,hg2 i hlt,ht2,M.jW]
   omega
  ·rw[eS]
   refine⟨by omega,fun q hq=>⟨q3 q hq, ?_⟩⟩
   by_cases c:q<m.au.length
   ·exact (CU q c).2.more hm
   ·have hs:=q4 q (by omega) hq
    unfold lC at hs;rw[List.all_eq_true] at hs;intro j hj;have hjl:j<(m.rows.set i (bY m)).length:=by rw[List.length_set,M.len];exact hj
    have hmem:ah (m.rows.set i (bY m)) j∈m.rows.set i (bY m):=by
     unfold ah;rw[List.getD_eq_getElem?_getD,List.getElem?_eq_getElem hjl];exact List.getElem_mem hjl
    have:=hs _ hmem;exact⟨_,fU (P2.row hj).1,by simpa using this⟩
 | true =>
  have e2:bY m=aT m:=by rw[bY,if_pos hw1]
  have eL:fV m=aP n (aT m).ak:=by rw[fV,e2,hk]
  have eS:dX m=m.au:=by rw[dX,if_pos hw1]
  have hiL:i∈aP n (aT m).ak:=dY.2 ⟨hlt,pG⟩
  -- it leads
  obtain⟨h3,Qh,P3,m3,n3,k1,k2,k3,k4,k5⟩:∃ h3 Qh,Ph n h3 Qh i m.rows (dF m)∧(∀ j r,r∈h j→r∈h3 j)∧(∀ j,j≠i→h3 j=h j)∧(dF m).ak=(aT m).ak∧(dF m).wed=true∧(dF m).got=(aT m).got∧(dF m).txt=(aT m).txt∧(dF m).ver=(aT m).ver:=by
   by_cases c:(bY m).wed=true∧m.k<2*(fV m).length∧(fV m).head?=some m.i
   ·have e3:dF m=lead (m.rows.set i (aT m)) i (aT m) (aP n (aT m).ak):=by rw[dF,if_pos c,e2,eL,hi]
    rw[eL,hk,hi] at c;obtain⟨rJ,Q1,Q2⟩:=P1.leads hw1 c.2.1 c.2.2;obtain⟨a1,a2,a3,a4,a5⟩:=uF (m.rows.set i (aT m)) i (aT m) (aP n (aT m).ak);rw[e3];exact⟨_,rJ,Q1,fun j r hr=>fU (fU hr),fun j hj=>by rw[kD hj,kD hj],a1,by rw[a2];exact hw1,a3,a4,a5⟩
   ·have e3:dF m=aT m:=by rw[dF,if_neg c,e2]
    rw[e3];exact⟨_,log,P1,fun j r hr=>fU hr,fun j hj=>kD hj,rfl,hw1,rfl,rfl,rfl⟩
  -- it Ru
  obtain⟨h4,P4,m4,n4,l1,l2,l3,l4,l5⟩:∃ h4,Ph n h4 Qh i m.rows (aV m)∧(∀ j r,r∈h j→r∈h4 j)∧(∀ j,j≠i→h4 j=h j)∧(aV m).ak=(aT m).ak∧(aV m).wed=true∧(aV m).got=(aT m).got∧(aV m).txt=(aT m).txt∧(aV m).ver=(aT m).ver:=by
   by_cases c:(dF m).wed=true∧(fV m).head?≠some m.i
   ·have e4:aV m=adopt (m.rows.set i (dF m)) i (dF m) ((aP n (aT m).ak).headD 0):=by rw[aV,if_pos c,eL,hi]
    rw[eL,hi] at c
    cases eh:aP n (aT m).ak with
    | nil=>rw[eh] at hiL;cases hiL
    | cons f t =>
     rw[eh] at c e4;have hf:f∈aP n (dF m).ak:=by rw[k1,eh];exact List.mem_cons_self
     have hfi:f≠i:=fun e=>c.2 (by rw[e];rfl)
     obtain⟨Q1,Q2⟩:=P3.Ru k2 hf hfi;obtain⟨a1,a2,a3,a4,a5⟩:=rM (m.rows.set i (dF m)) i (dF m) f;rw[show (f::t).headD 0=f from rfl] at e4
     rw[e4];exact⟨_,Q1,fun j r hr=>fU (m3 j r hr),fun j hj=>by rw[kD hj];exact n3 j hj,a1.trans k1,a2.trans k2,a3.trans k3,a4.trans k4,a5.trans k5⟩
   ·have e4:aV m=dF m:=by rw[aV,if_neg c]
    rw[e4];exact⟨h3,P3,m3,n3,k1,k2,k3,k4,k5⟩
  have hx5:Nx (aV m) (iD m)∧dL (iD m) n∧(iD m).ak=(aV m).ak∧(iD m).got=(aV m).got∧(iD m).txt=(aV m).txt∧(iD m).aB=(aV m).aB∧(iD m).aC=(aV m).aC∧(iD m).aA=(aV m).aA:=by
   unfold iD
   split
   ·exact⟨Nx.refl _,P4.ok,rfl,rfl,rfl,rfl,rfl,rfl⟩
   ·have hvv:(aV m).ver=(ah m.rows i).ver:=by rw[l5];exact L1.ver
    refine⟨⟨by simp only;omega,List.prefix_refl _,fun _=>Int.le_refl _,fun _ h=>h,fun h=>⟨h,rfl,rfl⟩,fun h=>⟨h,Int.le_refl _,fun _=>rfl⟩⟩,⟨P4.ok.n5,by simp only;omega,P4.ok.tl,P4.ok.ts,P4.ok.got,P4.ok.gl,P4.ok.g12,P4.ok.ak,P4.ok.kF,P4.ok.aB,P4.ok.not⟩,rfl,rfl,rfl,rfl,rfl,rfl⟩
  obtain⟨x5,Rx,s5,g5,t5,r5,b5,T5⟩:=hx5;have P5:=P4.next x5 Rx (by rw[s5];exact P4.self) (fun h=>.inl ⟨by rw[← r5];exact h,b5.symm⟩)
  have hm:∀ j r,r∈h j→r∈nX h4 i (iD m) j:=fun j r hr=>fU (m4 j r hr)
  refine⟨_,Qh,P5.S, ?_,fun j hj=>by rw[kD hj];exact n4 j hj,hm⟩
  rw[hi,eS];refine M.to (o':=iD m) hm ⟨_,jJ _ _ _⟩ Rx (by rw[s5];exact P4.self) (fun j hj hne=>?_) ?_ (fun hE=>?_) (fun hE=>?_)
  ·rw[g5,l3,L1.got];exact M.EG j hj
  ·rw[g5,t5,l3,l4,L1.got,L1.txt];exact M.jW
  ·rw[hE,if_neg (by simp)]
   exact⟨Jz,fun q hq=>⟨(CU q hq).1,(CU q hq).2.more hm⟩⟩
  ·rw[if_pos hE]
   unfold gK at hE;simp only[Bool.and_eq_true,decide_eq_true_eq] at hE;obtain⟨z1,z2,z3⟩:=hE;rw[eL,hk] at z2;rw[eL,hi] at z3;unfold ends at z3;rw[List.all_eq_true] at z3;have ak9:=s5.trans l1;refine⟨by rw[r5];exact z1,by rw[ak9];exact z2,fun j hj=>?_, ?_⟩
   ·rw[ak9] at hj
    have:=z3 j hj;simp only[Bool.and_eq_true,decide_eq_true_eq] at this;obtain⟨y1,y2,y3,y4⟩:=this;exact⟨_,fU (P4.row (dY.1 hj).1).1,y1,by rw[b5];exact y2,by rw[T5];exact y3,y4⟩
   ·rw[T5]
    obtain⟨a1,a2,a3,a4,a5⟩:=P4.ok.aB z1;refine Vr a4 hn0 (fun j hj=>(P4.ok.t z1 j hj).2) (fun q hq=>(CU q hq).1) (fun q hq=>?_)
    obtain⟨P,p1,p2,p3⟩:=P4.S.prop i _ P4.own z1;rw[← p3];exact P4.S.covers hn0 p1 ((CU q hq).2.more m4)
structure dO (m:Mb) (i n:Nat):Prop where
 hid:m.id=(i:Int)
 hn:m.n=(n:Int)
 n5:1≤n∧n≤5
 lt:i<n
 len:m.rows.length=n
 sl:m.au.length≤60
 kF:m.au.Pairwise (·<·)
 ok:∀ j,j<n→dL (ah m.rows j) n
 sg:∀ q,q<m.au.length→(0≤el m.au q∧el m.au q≤59)∧(m.done=false→el m.au q=(q:Int))
 jW:el (ah m.rows i).got i=((ah m.rows i).txt.length:Int)
 self:(i:Int)∉(ah m.rows i).ak
 dn:m.done=true→(ah m.rows i).aB=true
theorem lJ {R:List Rw} {j:Nat} (h:j<R.length):ah R j∈R:=by
 unfold ah;rw[List.getD_eq_getElem?_getD,List.getElem?_eq_getElem h];exact List.getElem_mem h
theorem JA {R:List Rw} {r:Rw} (h:r∈R):∃ j,j<R.length∧r=ah R j:=by
 obtain⟨j,hj,rfl⟩:=List.mem_iff_getElem.1 h;exact⟨j,hj,by simp[ah,hj]⟩
theorem je {m:Mb}:fO m=true↔∃ i n,dO m i n:=by
 constructor
 ·intro h
  simp only[fO,Qb,Bool.and_eq_true,decide_eq_true_eq,List.all_eq_true,List.mem_range,Bool.or_eq_true] at h;obtain⟨h1,h2,h3,h4,h5,h6,h7,h8,h9,h10⟩:=h;have h1:=dP.1 h1;have h2:=dP.1 h2;have hid:m.id=((m.id.toNat:Nat):Int):=by omega
  have hn:m.n=((m.n.toNat:Nat):Int):=by omega
  refine⟨m.id.toNat,m.n.toNat,hid,hn,by omega,by omega,by omega,h4,iK.1 h5,fun j hj=>kG.1 (by rw[← hn];exact h6 _ (lJ (by omega))),fun q hq=>?_,h8,by rw[← hid];exact h9,fun hd=>?_⟩
  ·obtain⟨q1,q2⟩:=h7 q hq
   have:=dP.1 q1;refine⟨this,fun hd=>?_⟩
   rcases q2 with q2|q2
   ·rw[hd] at q2;cases q2
   ·exact q2
  ·rw[hd] at h10
   have h11:m.own.aB=true:=by simpa using h10
   exact h11
 ·rintro⟨i,n,M⟩
  have hlt:=M.lt;have fG:=M.n5;have hi:m.i=i:=by rw[Mb.i,M.hid];rfl
  simp only[fO,Qb,Bool.and_eq_true,decide_eq_true_eq,List.all_eq_true,List.mem_range,Bool.or_eq_true]
  refine⟨dP.2 (by rw[M.hn];omega),dP.2 (by rw[M.hid,M.hn];omega),by rw[M.len,M.hn],M.sl,iK.2 M.kF,fun r hr=>?_,fun q hq=>?_, ?_, ?_, ?_⟩
  ·obtain⟨j,hj,rfl⟩:=JA hr
   rw[M.hn];exact kG.2 (M.ok j (by rw[← M.len];exact hj))
  ·obtain⟨q1,q2⟩:=M.sg q hq
   refine⟨dP.2 q1, ?_⟩
   cases hd:m.done with
   | true=>exact .inl rfl
   | false=>exact .inr (q2 hd)
  ·rw[Mb.own,hi];exact M.jW
  ·rw[Mb.own,hi,M.hid];exact M.self
  ·cases hd:m.done with
   | false=>exact .inl rfl
   | true=>exact .inr (by rw[Mb.own,hi];exact M.dn hd)
theorem al0 {a b:Rw} {n:Nat} (ha:dL a n) (hb:dL b n) (h:Nx a b):yj a b (n:Int)=true:=by
 simp only[yj,Bool.and_eq_true,decide_eq_true_eq,List.all_eq_true]
 refine⟨kG.2 ha,kG.2 hb,h.ver,h.txt.length_le, ?_,h.ak, ?_, ?_, ?_⟩
 ·have ht:mZ a.got b.got=true:=by simp[mZ,ha.got,hb.got,ha.gl,hb.gl]
  rw[qY,ht,Bool.true_and];exact Jc (fun j _=>h.got j)
 ·exact (List.prefix_iff_eq_take.1 h.txt).symm
 ·cases e:a.wed with
  | false=>rfl
  | true=>rw[(h.wed e).1];rfl
 ·cases e:a.aB with
  | false=>rfl
  | true =>
   obtain⟨k1,k2,_⟩:=h.aB e;simp[k1,k2]
theorem zu {R:List Rw} {i n:Nat} {o:Rw} {L:List Nat} (ok:dL o n) (hw:o.wed=true) (hi:i<n) (hne:L≠[]) (hL:∀ k∈L,dL (ah R k) n):dL (lead R i o L) n∧Nx o (lead R i o L):=by
 unfold lead
 split
 ·exact⟨ok,Nx.refl _⟩
 ·rename_i hnb
  split
  ·obtain⟨b1,b2,b3⟩:=xA R L (-1,[])
   have key:(endOf R L).length=n∧∀ s,s<n→0≤el (endOf R L) s∧el (endOf R L) s≤12:=by
    unfold endOf
    split
    ·obtain⟨m1,m2⟩:=vJ ok.n5 hne (fun k hk=>⟨(hL k hk).gl,(hL k hk).g⟩)
     refine⟨m1,fun s hs=>?_⟩
     obtain⟨a1,a2,j,a3,a4⟩:=m2 s hs;have:=(hL j a3).g s hs;omega
    ·rename_i c
     rcases b1 with e|⟨j,j1,j2,j3⟩
     ·rw[e] at c;simp at c
     ·rw[j3]
      exact⟨((hL j j1).aB j2).2.2.2.1,(hL j j1).t j2⟩
   have Rt:=(fF ok.n5 key.1).2 key.2;refine⟨⟨ok.n5,ok.ver,ok.tl,ok.ts,ok.got,ok.gl,ok.g12,ok.ak,ok.kF,fun _=>⟨hw,by simp only;omega,Rt.1,key.1,Rt.2⟩,fun h=>by cases h⟩,Int.le_refl _,List.prefix_refl _,fun j=>Int.le_refl _,fun x hx=>hx,fun hw=>⟨hw,rfl,rfl⟩,fun hr=>⟨rfl, ?_,fun e=>?_⟩⟩
   ·have:¬ (i:Int)≤o.aC:=fun h=>hnb ⟨hr,h⟩
    simp only
    omega
   ·have:¬ (i:Int)≤o.aC:=fun h=>hnb ⟨hr,h⟩
    simp only at e
    omega
  ·exact⟨ok,Nx.refl _⟩
theorem G7 {R:List Rw} {i n f:Nat} {o:Rw} (ok:dL o n) (hw:o.wed=true) (hf:f<n) (hr:dL (ah R f) n):dL (adopt R i o f) n∧Nx o (adopt R i o f):=by
 unfold adopt
 split
 ·rename_i hc
  obtain⟨c1,c2,c3,c4⟩:=hc;refine⟨⟨ok.n5,ok.ver,ok.tl,ok.ts,ok.got,ok.gl,ok.g12,ok.ak,ok.kF,fun _=>⟨hw,by simp only;omega,(hr.aB c1).2.2⟩,fun h=>by cases h⟩,Int.le_refl _,List.prefix_refl _,fun j=>Int.le_refl _,fun x hx=>hx,fun hw=>⟨hw,rfl,rfl⟩,fun hr=>⟨rfl, ?_,fun e=>?_⟩⟩
  ·have:¬ (f:Int)≤o.aC:=fun h=>c4 ⟨hr,h⟩
   simp only
   omega
  ·have:¬ (f:Int)≤o.aC:=fun h=>c4 ⟨hr,h⟩
   simp only at e
   omega
 ·exact⟨ok,Nx.refl _⟩
theorem dO.i {m:Mb} {i n:Nat} (M:dO m i n):m.i=i:=by rw[Mb.i,M.hid];rfl
theorem dO.k {m:Mb} {i n:Nat} (M:dO m i n):m.k=n:=by rw[Mb.k,M.hn];rfl
theorem dO.own {m:Mb} {i n:Nat} (M:dO m i n):m.own=ah m.rows i:=by rw[Mb.own,M.i]
structure Stp (m:Mb) (i n:Nat):Prop where
 ok:dL (iD m) n
 nx:Nx (ah m.rows i) (iD m)
 self:(i:Int)∉(iD m).ak
 jW:el (iD m).got i=((iD m).txt.length:Int)
 lW:dL (aV m) n
 aB:(iD m).aB=(aV m).aB
 aA:(iD m).aA=(aV m).aA
 al1:(aT m).wed=true→dX m=m.au
 dry:(aT m).wed=false→gK m=false
theorem Vs {m:Mb} {i n:Nat} (M:dO m i n) (hv:(ah m.rows i).ver≠1000000):Stp m i n:=by
 have hi:=M.i;have hk:=M.k;have hown:=M.own;have hlt:=M.lt;have ok:=M.ok i hlt;have hov:=ok.ver;have hlen:i<m.rows.length:=by rw[M.len];exact hlt
 have e1:aT m=learn m.rows i (ah m.rows i) (aP n (ah m.rows i).ak):=by rw[aT,hi,hk,hown]
 have L1:wu (ah m.rows i) (aT m):=by rw[e1];exact mO _ _ _ _
 have xC:∀ x∈(aT m).ak,(0≤x∧x<(n:Int))∧x≠(i:Int):=fun x hx=>by
  rw[e1] at hx;rcases xu _ _ _ _ hx with hx|⟨k,k1,k2,k3,k4⟩
  ·exact⟨ok.ak x hx,fun e=>M.self (e ▸ hx)⟩
  ·exact⟨(M.ok k (dY.1 k1).1).ak x k3,k4⟩
 have ok1 : dL (aT m) n := ⟨ok.n5,by rw [L1.ver];exact ok.ver,by rw [L1.txt];exact ok.tl,by rw [L1.txt];exact ok.ts,by rw [L1.got];exact ok.got,by rw [L1.got];exact ok.gl,by rw [L1.got];exact ok.g12,fun x hx => (xC x hx).1,iK.2 (by rw [e1];exact xB _ _ _ _ (iK.1 ok.kF)),fun hr => by
  rw[L1.aB] at hr;obtain⟨a1,a2⟩:=ok.aB hr;rw[L1.aC,L1.aA];exact⟨L1.wed a1,a2⟩,fun hr=>by rw[L1.aB] at hr;rw[L1.aC,L1.aA];exact ok.not hr⟩
 have pG:(i:Int)∉(aT m).ak:=fun hx=>(xC _ hx).2 rfl
 have last:∀ (o4:Rw),dL o4 n→o4.ver=(ah m.rows i).ver→dL { o4 with ver:=o4.ver+1 } n∧Nx o4 { o4 with ver:=o4.ver+1 }:=fun o4 lW hv4=>⟨⟨lW.n5,by simp only;omega,lW.tl,lW.ts,lW.got,lW.gl,lW.g12,lW.ak,lW.kF,lW.aB,lW.not⟩,by simp only;omega,List.prefix_refl _,fun _=>Int.le_refl _,fun _ h=>h,fun h=>⟨h,rfl,rfl⟩,fun h=>⟨h,Int.le_refl _,fun _=>rfl⟩⟩
 -- from the fourth row to the last
 have fin:∀ {o4:Rw},aV m=o4→dL o4 n→Nx (ah m.rows i) o4→o4.ver=(ah m.rows i).ver→(i:Int)∉o4.ak→el o4.got i=(o4.txt.length:Int)→((aT m).wed=true→dX m=m.au)→((aT m).wed=false→gK m=false)→Stp m i n:=fun {o4} e4 lW YM hv4 YN g4 s4 d4=>by
  obtain⟨l1,l2⟩:=last o4 lW hv4;by_cases c:jI m.own (aV m)=true
  ·have e5:iD m=o4:=by rw[iD,if_pos c,e4]
   exact⟨by rw[e5];exact lW,by rw[e5];exact YM,by rw[e5];exact YN,by rw[e5];exact g4,by rw[e4];exact lW,by rw[e5,e4],by rw[e5,e4],s4,d4⟩
  ·have e5:iD m={ o4 with ver:=o4.ver+1 }:=by rw[iD,if_neg c,e4]
   exact⟨by rw[e5];exact l1,by rw[e5];exact YM.trans l2,by rw[e5];exact YN,by rw[e5];exact g4,by rw[e4];exact lW,by rw[e5,e4],by rw[e5,e4],s4,d4⟩
 cases hw1:(aT m).wed with
 | false =>
  have hr1:=ok1.Rq hw1;have e2:bY m={ aT m with got:=kS m.rows (aT m) n }:=by rw[bY,if_neg (by rw[hw1];simp),hk]
  have hg2:∀ j,j<n→el (bY m).got j=max (el (ah m.rows i).got j) ((ah m.rows j).txt.length:Int):=fun j hj=>by rw[e2];simp only;rw[Eb hj,L1.got]
  have yw:(bY m).got.length=n:=by rw[e2];simp[kS]
  have hx2:Nx (aT m) (bY m):=by
   refine⟨by rw[e2];exact Int.le_refl _,by rw[e2];exact List.prefix_refl _,fun j=>?_,fun x hx=>by rw[e2];exact hx,fun h=>(by rw[hw1] at h;cases h),fun h=>(by rw[hr1] at h;cases h)⟩
   by_cases hj:j<n
   ·rw[hg2 j hj,L1.got];omega
   ·rw[CQ (by rw[ok1.gl];omega),CQ (by rw[yw];omega)];exact Int.le_refl _
  have hr2:(bY m).aB=false:=by rw[e2];exact hr1
  have hw2:(bY m).wed=false:=by rw[e2];exact hw1
  have ht2:(bY m).txt=(ah m.rows i).txt:=by rw[e2];exact L1.txt
  have hsm:=(fF ok.n5 yw).2 (fun j hj=>by rw[hg2 j hj];have:=ok.g j hj;have:=(M.ok j hj).tl;omega)
  have ok2:dL (bY m) n:=⟨ok.n5,by rw[e2];exact ok1.ver,by rw[e2];exact ok1.tl,by rw[e2];exact ok1.ts,hsm.1,yw,hsm.2,by rw[e2];exact ok1.ak,by rw[e2];exact ok1.kF,fun h=>(by rw[hr2] at h;cases h),fun _=>by rw[e2];exact ok1.not hr1⟩
  have e3:dF m=bY m:=by rw[dF,if_neg (by rw[hw2];simp)]
  have e4:aV m=bY m:=by rw[aV,e3,if_neg (by rw[hw2];simp)]
  refine fin e4 ok2 (L1.nx.trans hx2) (by rw[e2];exact L1.ver) (by rw[e2];exact pG) ?_ (fun h=>(by rw[hw1] at h;cases h)) (fun _=>by rw[gK,e4,hr2];rfl)
  rw[hg2 i hlt,ht2,M.jW];omega
 | true =>
  have e2:bY m=aT m:=by rw[bY,if_pos hw1]
  have eL:fV m=aP n (aT m).ak:=by rw[fV,e2,hk]
  have eS:dX m=m.au:=by rw[dX,if_pos hw1]
  have hiL:i∈aP n (aT m).ak:=dY.2 ⟨hlt,pG⟩;have JB:aP n (aT m).ak≠[]:=fun e=>by rw[e] at hiL;cases hiL
  have hrow:∀ {o:Rw},dL o n→∀ j,j<n→dL (ah (m.rows.set i o) j) n:=fun {o} ho j hj=>by
   rw[bZ hlen]
   split
   ·exact ho
   ·exact M.ok j hj
  obtain⟨Dl,nx3,k1,k2,k3,k4,k5⟩:dL (dF m) n∧Nx (aT m) (dF m)∧(dF m).ak=(aT m).ak∧(dF m).wed=true∧(dF m).got=(aT m).got∧(dF m).txt=(aT m).txt∧(dF m).ver=(aT m).ver:=by
   by_cases c:(bY m).wed=true∧m.k<2*(fV m).length∧(fV m).head?=some m.i
   ·have e3:dF m=lead (m.rows.set i (aT m)) i (aT m) (aP n (aT m).ak):=by rw[dF,if_pos c,e2,eL,hi]
    obtain⟨a1,a2,a3,a4,a5⟩:=uF (m.rows.set i (aT m)) i (aT m) (aP n (aT m).ak);obtain⟨b1,b2⟩:=zu (R:=m.rows.set i (aT m)) ok1 hw1 hlt JB (fun k hk=>hrow ok1 k (dY.1 hk).1)
    rw[e3];exact⟨b1,b2,a1,by rw[a2];exact hw1,a3,a4,a5⟩
   ·have e3:dF m=aT m:=by rw[dF,if_neg c,e2]
    rw[e3];exact⟨ok1,Nx.refl _,rfl,hw1,rfl,rfl,rfl⟩
  obtain⟨lW,YM,l1,l2,l3,l4,l5⟩:dL (aV m) n∧Nx (dF m) (aV m)∧(aV m).ak=(aT m).ak∧(aV m).wed=true∧(aV m).got=(aT m).got∧(aV m).txt=(aT m).txt∧(aV m).ver=(aT m).ver:=by
   by_cases c:(dF m).wed=true∧(fV m).head?≠some m.i
   ·have e4:aV m=adopt (m.rows.set i (dF m)) i (dF m) ((aP n (aT m).ak).headD 0):=by rw[aV,if_pos c,eL,hi]
    have hf:(aP n (aT m).ak).headD 0<n:=by
     cases eh:aP n (aT m).ak with
     | nil=>exact absurd eh JB
     | cons f t=>exact (dY.1 (show f∈aP n (aT m).ak by rw[eh];exact List.mem_cons_self)).1
    obtain⟨a1,a2,a3,a4,a5⟩:=rM (m.rows.set i (dF m)) i (dF m) ((aP n (aT m).ak).headD 0);obtain⟨b1,b2⟩:=G7 (i:=i) (R:=m.rows.set i (dF m)) Dl k2 hf (hrow Dl _ hf);rw[e4];exact⟨b1,b2,a1.trans k1,a2.trans k2,a3.trans k3,a4.trans k4,a5.trans k5⟩
   ·have e4:aV m=dF m:=by rw[aV,if_neg c]
    rw[e4];exact⟨Dl,Nx.refl _,k1,k2,k3,k4,k5⟩
  exact fin rfl lW ((L1.nx.trans nx3).trans YM) (by rw[l5];exact L1.ver) (by rw[l1];exact pG) (by rw[l3,l4,L1.got,L1.txt];exact M.jW) (fun _=>eS) (fun h=>(by rw[hw1] at h;cases h))
structure Ml where
 fr:Int
 «to»:Int
 row:Rw
structure Ac where
 kind:Int
 a:Int
 b:Int
 txt:List UInt8
structure Gr where
 mem:List Mb
 up:List Bool
 aG:List Ml
def nK:Gr:=⟨[],[],[]⟩
def aN (g:Gr) (i:Nat):Mb:=g.mem.getD i iG
def nM (g:Gr) (i:Nat):Bool:=g.up.getD i false
def dV (n:Int):Gr×Bool:=if inB n 1 5=true then (⟨(List.range n.toNat).map (fun (i:Nat)=>(iE (i:Int) n).1),List.replicate n.toNat true,[]⟩,true) else (nK,false)
def qG (x:Ml) (n:Int):Bool:=inB x.fr 0 (n-1)&&(inB x.to 0 (n-1)&&(decide (x.fr≠x.to)&&bI x.row n))
def jf (g:Gr):Bool :=
 decide (1 ≤ g.mem.length) && (decide (g.mem.length ≤ 5) && (decide (g.up.length = g.mem.length) && (decide (g.aG.length ≤ 200) &&
  ((List.range g.mem.length).all (fun i=>fO (aN g i)&&(decide ((aN g i).id=(i:Int))&&decide ((aN g i).n=(g.mem.length:Int))))&&g.aG.all (fun x=>qG x (g.mem.length:Int))))))
def Gr.set (g:Gr) (i:Nat) (m:Mb):Gr:={ g with mem:=g.mem.set i m }
def fZ (g:Gr) (a b:Int):Gr:=if g.aG.length<200 then { g with aG:=g.aG++[⟨a,b,ah (aN g a.toNat).rows a.toNat⟩] } else g
def aU (g:Gr) (i:Nat):Ml:=g.aG.getD i ⟨0,0,jH⟩
def iU (g:Gr) (i:Nat):Gr :=
 if nM g (aU g i).to.toNat=true then { mem:=g.mem.set (aU g i).to.toNat (aX (aN g (aU g i).to.toNat) (aU g i).fr (aU g i).row).1,up:=g.up,aG:=g.aG.take i++g.aG.drop (i+1) }
 else { g with aG:=g.aG.take i++g.aG.drop (i+1) }
def rO (g:Gr) (a:Int):Gr:=(List.range g.mem.length).foldl (fun g (i:Nat)=>if (i:Int)=a then g else fZ g a (i:Int)) g
def jw (g:Gr) (x:Ac):Bool:=inB x.a 0 ((g.mem.length:Int)-1)&&(inB x.b 0 ((g.mem.length:Int)-1)&&decide (x.a≠x.b))
def dQ (g:Gr) (x:Ac):Gr×Bool :=
 if x.kind=3 then (if jw g x=true then (match g.aG.findIdx? (fun y=>decide (y.fr=x.a∧y.to=x.b)) with|some i=>(iU g i,true)|none=>(g,false)) else (g,false))
 else if inB x.a 0 ((g.mem.length:Int)-1)=false∨nM g x.a.toNat=false then (g,false)
 else if x.kind=1 then (g.set x.a.toNat (bW (aN g x.a.toNat) x.txt).1,(bW (aN g x.a.toNat) x.txt).2)
 else if x.kind=2 then (if jw g x=true then (fZ g x.a x.b,true) else (g,false))
 else if x.kind=4 then (g.set x.a.toNat (bJ (aN g x.a.toNat)),true)
 else if x.kind=5 then (if jw g x=true then (g.set x.a.toNat (aW (aN g x.a.toNat) x.b).1,(aW (aN g x.a.toNat) x.b).2) else (g,false))
 else if x.kind=6 then ({ g with up:=g.up.set x.a.toNat false },true)
 else if x.kind=7 then (rO g x.a,true)
 else (g,false)
structure GInv (n:Nat) (g:Gr) (h:Hs) (log:List Pp):Prop where
 S:lq n h log
 n5:1≤n∧n≤5
 ml:g.mem.length=n
 ul:g.up.length=n
 mem:∀ i,i<n→MInv n h i (aN g i)
 iP:∀ x∈g.aG,∃ a b:Nat,x.fr=(a:Int)∧x.to=(b:Int)∧a<n∧b<n∧a≠b∧x.row∈h a∧dL x.row n
 lX:g.aG.length≤200
def wF (n:Nat) (g:Gr):Prop:=∃ h log,GInv n g h log
theorem qH {g:Gr} {i j:Nat} {m:Mb} (hi:i<g.mem.length):aN (g.set i m) j=if j=i then m else aN g j:=by
 unfold aN Gr.set;simp only
 rw[List.getD_eq_getElem?_getD,List.getD_eq_getElem?_getD,List.getElem?_set];by_cases e:i=j
 ·subst e;simp[hi]
 ·rw[if_neg e,if_neg (Ne.symm e)]
theorem GInv.goes {n:Nat} {g:Gr} {h:Hs} {log:List Pp} (G:GInv n g h log) {i:Nat} (hi:i<n) {m':Mb} (hg:Goes n h log i m'):wF n (g.set i m'):=by
 obtain⟨h',rJ,S',M',hne,hm⟩:=hg;have hil:i<g.mem.length:=by rw[G.ml];exact hi
 refine⟨h',rJ,S',G.n5,by simp only[Gr.set,List.length_set];exact G.ml,G.ul,fun j hj=>?_,fun x hx=>?_,G.lX⟩
 ·rw[qH hil]
  split
  ·rename_i e;rw[e];exact M'
  ·rename_i e;exact (G.mem j hj).more hm (hne j e)
 ·obtain⟨a,b,h1,h2,h3,h4,h5,h6,h7⟩:=G.iP x hx
  exact⟨a,b,h1,h2,h3,h4,h5,hm a _ h6,h7⟩
theorem GInv.push {n:Nat} {g:Gr} {h:Hs} {log:List Pp} (G:GInv n g h log) {a b:Nat} (ha:a<n) (hb:b<n) (hab:a≠b):GInv n (fZ g (a:Int) (b:Int)) h log∧(fZ g (a:Int) (b:Int)).mem=g.mem:=by
 unfold fZ
 split
 ·rename_i hl
  refine⟨⟨G.S,G.n5,G.ml,G.ul,G.mem,fun x hx=>?_,by simp only[List.length_append,List.length_singleton];omega⟩,rfl⟩
  rcases List.mem_append.1 hx with hx|hx
  ·exact G.iP x hx
  ·have:=List.mem_singleton.1 hx
   subst this;refine⟨a,b,rfl,rfl,ha,hb,hab, ?_, ?_⟩
   ·simp only[Int.toNat_natCast];exact (G.mem a ha).view a ha
   ·simp only[Int.toNat_natCast];exact (G.mem a ha).ok a ha
 ·exact⟨G,rfl⟩
theorem GInv.all {n:Nat} {h:Hs} {log:List Pp} {a:Nat} (ha:a<n):∀ (L:List Nat) {g:Gr},GInv n g h log→(∀ x∈L,x<n)→GInv n (L.foldl (fun g (i:Nat)=>if (i:Int)=(a:Int) then g else fZ g (a:Int) (i:Int)) g) h log
 | [],g,G,_=>G
 | i::L,g,G,hL=>by
  rw[List.foldl_cons];refine GInv.all ha L ?_ (fun x hx=>hL x (List.mem_cons_of_mem _ hx))
  split
  ·exact G
  ·rename_i e
   exact (G.push ha (hL i List.mem_cons_self) (fun e2=>e (by rw[e2]))).1
theorem GInv.land {n:Nat} {g:Gr} {h:Hs} {log:List Pp} (G:GInv n g h log) {i:Nat} (hi:i<g.aG.length):GInv n (iU g i) h log:=by
 have hx:aU g i∈g.aG:=by
  unfold aU;rw[List.getD_eq_getElem?_getD,List.getElem?_eq_getElem hi];exact List.getElem_mem hi
 obtain⟨a,b,h1,h2,h3,h4,h5,h6,h7⟩:=G.iP _ hx
 have hsub:∀ x∈g.aG.take i++g.aG.drop (i+1),x∈g.aG:=fun x hx=>by
  rcases List.mem_append.1 hx with hx|hx
  ·exact List.mem_of_mem_take hx
  ·exact List.mem_of_mem_drop hx
 have hlen:(g.aG.take i++g.aG.drop (i+1)).length≤200:=by
  have:=G.lX;simp only[List.length_append,List.length_take,List.length_drop]
  omega
 unfold iU
 split
 ·rw[h2,h1]
  simp only[Int.toNat_natCast]
  have hbl:b<g.mem.length:=by rw[G.ml];exact h4
  refine⟨G.S,G.n5,by simp only[List.length_set];exact G.ml,G.ul,fun j hj=>?_,fun x hx=>G.iP x (hsub x hx),hlen⟩
  have:=qH (g:=g) (i:=b) (j:=j) (m:=(aX (aN g b) (a:Int) (aU g i).row).1) hbl;have e:aN { mem:=g.mem.set b (aX (aN g b) (a:Int) (aU g i).row).1,up:=g.up,aG:=g.aG.take i++g.aG.drop (i+1) } j=aN (g.set b (aX (aN g b) (a:Int) (aU g i).row).1) j:=rfl;rw[e,this]
  split
  ·rename_i e2;rw[e2];exact Qg G.S (G.mem b h4) h6 h3
  ·exact G.mem j hj
 ·exact⟨G.S,G.n5,G.ml,G.ul,G.mem,fun x hx=>G.iP x (hsub x hx),hlen⟩
theorem lY {x:Int} {n:Nat} (h:inB x 0 ((n:Int)-1)=true):∃ a:Nat,x=(a:Int)∧a<n:=by
 have:=dP.1 h;exact⟨x.toNat,by omega,by omega⟩
theorem JC {n:Nat} {g:Gr} (hg:wF n g) (x:Ac):wF n (dQ g x).1:=by
 obtain⟨h,log,G⟩:=hg;have hself:wF n g:=⟨h,log,G⟩
 have JD:jw g x=true→∃ a b:Nat,x.a=(a:Int)∧x.b=(b:Int)∧a<n∧b<n∧a≠b:=fun ht=>by
  simp only[jw,Bool.and_eq_true,decide_eq_true_eq] at ht;rw[G.ml] at ht;obtain⟨a,e1,h1⟩:=lY ht.1;obtain⟨b,e2,h2⟩:=lY ht.2.1;exact⟨a,b,e1,e2,h1,h2,fun e=>ht.2.2 (by rw[e1,e2,e])⟩
 unfold dQ;by_cases c3:x.kind=3
 ·rw[if_pos c3]
  by_cases c2:jw g x=true
  ·rw[if_pos c2]
   cases e:g.aG.findIdx? (fun y=>decide (y.fr=x.a∧y.to=x.b)) with
   | none=>exact hself
   | some i=>exact⟨h,log,G.land (List.findIdx?_eq_some_iff_getElem.1 e).1⟩
  ·rw[if_neg c2];exact hself
 ·rw[if_neg c3]
  by_cases c0:inB x.a 0 ((g.mem.length:Int)-1)=false∨nM g x.a.toNat=false
  ·rw[if_pos c0];exact hself
  ·rw[if_neg c0]
   simp only[not_or] at c0;rw[G.ml] at c0;obtain⟨a,ea,ha⟩:=lY (by simpa using c0.1)
   have M:=G.mem a ha;have et:x.a.toNat=a:=by rw[ea];rfl
   rw[et];by_cases c1:x.kind=1
   ·rw[if_pos c1];exact G.goes ha (Vq G.S M x.txt)
   ·rw[if_neg c1]
    by_cases c2:x.kind=2
    ·rw[if_pos c2]
     by_cases c4:jw g x=true
     ·rw[if_pos c4]
      obtain⟨a',b,e1,e2,h1,h2,h3⟩:=JD c4;rw[e1,e2];exact⟨h,log,(G.push h1 h2 h3).1⟩
     ·rw[if_neg c4];exact hself
    ·rw[if_neg c2]
     by_cases c4:x.kind=4
     ·rw[if_pos c4];exact G.goes ha (G6 G.S M)
     ·rw[if_neg c4]
      by_cases c5:x.kind=5
      ·rw[if_pos c5]
       by_cases c6:jw g x=true
       ·rw[if_pos c6];exact G.goes ha (Qe G.S M x.b)
       ·rw[if_neg c6];exact hself
      ·rw[if_neg c5]
       by_cases c6:x.kind=6
       ·rw[if_pos c6];exact⟨h,log,G.S,G.n5,G.ml,by simp only[List.length_set];exact G.ul,G.mem,G.iP,G.lX⟩
       ·rw[if_neg c6]
        by_cases c7:x.kind=7
        ·rw[if_pos c7,ea]
         exact⟨h,log,GInv.all ha (List.range g.mem.length) G (fun y hy=>by rw[G.ml] at hy;exact List.mem_range.1 hy)⟩
        ·rw[if_neg c7];exact hself
end Go.Proofs.YtafimeakbdmkjaaGreat