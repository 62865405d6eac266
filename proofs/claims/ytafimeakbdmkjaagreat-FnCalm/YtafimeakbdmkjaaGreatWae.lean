/-
  Texts in one.
-/
import Derived.Test.YtafimeakbdmkjaaGreatWad
import Derived.Test.YtafimeakbdmkjaaGreatWaa
import Derived.Test.YtafimeakbdmkjaaGreatWab
import Derived.Deep.LoopGhost
namespace Go.Proofs.YtafimeakbdmkjaaGreat
open Bool renaming and_eq_true->aU2,false->aC,true->aB
open Go renaming Addr->ba5,Calls->ba3,Value->aJ,World->aI,bodyPost_ret->aY1,maxLen->ba2,wpQuiet_nil->aZ2
open Go.Addr.mk renaming injEq->aX6
open Go.Ending renaming returned->aK
open Go.Exit renaming inBlock->aY3
open Go.IntKind renaming i64->aA
open Go.Obj renaming cells->aH
open Go.Proofs.Tryz renaming prog->aZ8,underlying41->dK
open Go.RowKit renaming Hid->aG,intOf->ba4
open Go.RowKit.Below renaming refl->aZ5
open Go.Value renaming bool->aF,int->ah,pointer->aO,slice->aj
open Go.Value.slice renaming injEq->aU0
open Go.World renaming block_lt_of_cell?->bG,cell?_setCell_other->bg
open Int renaming mul_nonneg->aW9
open List renaming all_eq_false->dN,all_eq_true->aU3,append_assoc->aT5,foldl_append->aT7,foldl_cons->aV6,getD->ba0,getElem?_append_left->aY,getElem?_append_right->aW,getElem?_drop->dF,getElem?_eq_none->bK,length_append->dB,length_drop->aU8,length_eq_zero_iff->bI,length_set->aV3,length_take->aU5,mem_cons_self->dD,mem_of_getElem?->bW,mem_of_mem_take->bZ,set_set->aY4,take_append_drop->bQ,take_length->aV2,take_of_length_le->bJ,take_succ_cons->dA,take_succ_eq_append_getElem->aS
open Nat renaming add_assoc->aX9,add_zero->aY5,le_refl->aZ0,le_trans->aY2,lt_of_lt_of_le->dJ,lt_or_ge->aY6,lt_succ_iff_lt_or_eq->bD,mul_le_mul_right->cO,zero_le->aZ1
open Option renaming none->ak,some->au
open Option.some renaming inj->aV4
set_option linter.unusedVariables false
set_option linter.unusedSimpArgs false
open Go.RowKit Go.Sort
set_option maxRecDepth 100000
set_option maxHeartbeats 12800000
variable {B c i id j k k' n off q s:Nat} {f:Fp} {ds:List eF} {A A':Ra} {r:Rw} {cl:eF} {R:List Rw} {L:List Nat}
structure E8 (w:aI) (B o:Nat) (cs:List eF) (vs:List aJ) (fp:Fp):Prop where
 pc:Pc w B o vs
 own:gq w cs vs fp
 nB:¬ fp B
theorem E8.stay {w w1: aI} {o o': Nat} {cs cs': List eF} {vs: List aJ} {f': Fp} (h:E8 w B o' cs' vs f') (hb:fH w w1 B o cs f) (hd:∀ b,f' b->¬ f b) (ho:o'+vs.length<=o\/o+cs.length<=o'):E8 w1 B o' cs' vs f':=by
 refine⟨⟨fun j hj=>?_,fun j hj=>?_,dJ h.pc.lt hb.wrt.size⟩,gU h.own hb.wrt (fun b hb' hk=>?_),h.nB⟩
 ·rw[hb.out (o'+j) (by omega)];exact h.pc.cell j hj
 ·rw[hb.frz];exact h.pc.free j hj
 ·rcases hk with hk|hk
  ·exact hd b hb' hk
  ·exact h.nB (hk ▸ hb')
theorem Dz (hk:k<n):k*s+s<=n*s:=by
 have:(k+1)*s<=n*s:=cO s hk;rw[Nat.add_mul,Nat.one_mul] at this;exact this
theorem Xd {w: aI} {us: List aJ} (h:gq w ds us f) {p: Nat} (hp:p+s<=ds.length):∃ f',gq w ((ds.drop p).take s) ((us.drop p).take s) f'/\∀ b,f' b->f b:=by
 have hl:=jI h;have e1:ds=ds.take p++((ds.drop p).take s++ds.drop (p+s)):=by rw[<- List.drop_drop,bQ,bQ]
 rw[e1] at h;obtain⟨u1,u23,f1,f23,rfl,hl1,Ob,_,hf1⟩:=mO h;obtain⟨u2,u3,f2,f3,rfl,hl2,hl3,_,hf2⟩:=mO Ob;have n1:u1.length=p:=by rw[jI hl1,aU5];omega
 have n2:u2.length=s:=by rw[jI hl2,aU5,aU8];omega
 refine⟨f2, ?_,fun b hb=>(hf1 b).2 (.inr ((hf2 b).2 (.inl hb)))⟩
 have e2:((u1++(u2++u3)).drop p).take s=u2:=by
  rw[<- n1,List.drop_left,<- n2,List.take_left]
 rw[e2];exact hl2
theorem aB0 {w: aI} {g: Nat} {fp: Fp} (h:eF.ow w (.sl s n ds) (aj (au ⟨g,off,ak⟩) n c) fp) (hk:k<n) (hk':k'<n) (hne:k'≠k) (hs:0<s) (hlen:ds.length=n*s):∃ f f' vs',iO w g (off+k*s) ((ds.drop (k*s)).take s) f/\E8 w g (off+k'*s) ((ds.drop (k'*s)).take s) vs' f'/\(∀ b,f' b->¬ f b)/\vs'.length=s /\
  (∀ b,f b->fp b)/\fp g/\∀ (w1:aI) (es:List eF),es.length=s->fH w w1 g (off+k*s) es f->∃ fp',eF.ow w1 (.sl s n (ds.take (k*s)++es++ds.drop (k*s+s))) (aj (au ⟨g,off,ak⟩) n c) fp'/\(∀ b,fp' b->fp b\/w.heap.size<=b)/\eU fp w w1:=by
 have h0:=h;obtain⟨a0,c0,us,G,f0,e0,ho,hl,hG,hf⟩:=h
 cases e0
 rcases ho with ⟨h0',_⟩|⟨g',off',e1,ho,rfl⟩
 ·omega
 cases e1
 have Gn:=ho.len;have hks:=Dz (s:=s) hk;have aR7:=Dz (s:=s) hk';have hle:=ho.le;have hcs:=cO s hle;have hgn:¬ f0 g:=fun hb=>hG g rfl hb
 have hblk:=ho.blk
 have e1:ds=ds.take (k*s)++((ds.drop (k*s)).take s++ds.drop (k*s+s)):=by
  rw[<- List.drop_drop,bQ,bQ]
 have hl':=hl;rw[e1] at hl';obtain⟨u1,u23,f1,f23,eus,hl1,Ob,hd1,hf1⟩:=mO hl';obtain⟨u2,u3,f2,f3,e23,hl2,hl3,hd2,hf2⟩:=mO Ob;subst e23;have n1:u1.length=k*s:=by rw[jI hl1,aU5];omega
 have n2:u2.length=s:=by rw[jI hl2,aU5,aU8];omega
 have hfg:∀ b,f2 b->f0 b:=fun b hb=>(hf1 b).2 (.inr ((hf2 b).2 (.inl hb)))
 -- the other one lies in the first or in the third stretch
 have key:∃ f' vs',gq w ((ds.drop (k'*s)).take s) vs' f'/\(∀ b,f' b->¬ f2 b)/\(∀ b,f' b->f0 b)/\vs'.length=s/\∀ j,j<s->us[k'*s+j]?=vs'[j]?:=by
  rcases Nat.lt_or_gt_of_ne hne with hlt|hgt
  ·have hk2:=Dz (s:=s) hlt
   obtain⟨f',h1,h2⟩:=Xd hl1 (p:=k'*s) (s:=s) (by rw[aU5];omega)
   have e2:(((ds.take (k*s)).drop (k'*s)).take s)=(ds.drop (k'*s)).take s:=by
    rw[List.drop_take,List.take_take,Nat.min_eq_left (by omega)]
   rw[e2] at h1;have hn:((u1.drop (k'*s)).take s).length=s:=by rw[aU5,aU8];omega
   refine⟨f',_,h1,fun b hb hb2=>hd1 b (h2 b hb) ((hf2 b).2 (.inl hb2)),fun b hb=>(hf1 b).2 (.inl (h2 b hb)),hn,fun j hj=>?_⟩
   rw[eus,aY (by omega),List.getElem?_take_of_lt hj,dF]
  ·have hk2:=Dz (s:=s) hgt
   obtain⟨f',h1,h2⟩:=Xd hl3 (p:=k'*s-(k*s+s)) (s:=s) (by rw[aU8];omega)
   have e2:(((ds.drop (k*s+s)).drop (k'*s-(k*s+s))).take s)=(ds.drop (k'*s)).take s:=by
    rw[List.drop_drop,show k*s+s+(k'*s-(k*s+s))=k'*s by omega]
   rw[e2] at h1;have n3:u3.length=n*s-(k*s+s):=by rw[jI hl3,aU8];omega
   have hn:((u3.drop (k'*s-(k*s+s))).take s).length=s:=by rw[aU5,aU8];omega
   refine⟨f',_,h1,fun b hb hb2=>hd2 b hb2 (h2 b hb),fun b hb=>(hf1 b).2 (.inr ((hf2 b).2 (.inr (h2 b hb)))),hn,fun j hj=>?_⟩
   rw[eus,aW (by omega),aW (by omega),List.getElem?_take_of_lt hj,dF]
   congr 1
   omega
 obtain⟨f',vs',q1,q2,q3,q4,q5⟩:=key;subst eus;refine⟨f2,f',vs',⟨u2,⟨fun j hj=>?_,fun j hj=>?_,hblk⟩,hl2,fun hb=>hgn (hfg g hb)⟩,⟨⟨fun j hj=>?_,fun j hj=>?_,hblk⟩,q1,fun hb=>hgn (q3 g hb)⟩,q2,q4,fun b hb=>(hf b).2 (.inr (hfg b hb)),(hf g).2 (.inl rfl),fun w1 es hes hb=>?_⟩
 ·have:=ho.cell (k*s+j) (by omega)
  rw[aX9,this,aW (by omega),aY (by omega),n1]
  congr 1
  omega
 ·have:=ho.free (k*s+j) (by omega)
  rw[aX9];exact this
 ·rw[aX9,ho.cell (k'*s+j) (by omega)]
  exact q5 j (by omega)
 ·rw[aX9]
  exact ho.free (k'*s+j) (by omega)
 ·obtain⟨⟨gI,⟨vs,hv1,hv2,hv3⟩,hx⟩,hout,hfr,hw⟩:=hb
  have nv:vs.length=s:=by rw[jI hv2,hes]
  have hlt1:=jh hl1;have hlt3:=jh hl3
  have k1 : gq w1 (ds.take (k * s)) u1 f1 := gU hl1 hw (fun b hb hk => by
   rcases hk with hk|hk
   ·exact hd1 b hb ((hf2 b).2 (.inl hk))
   ·exact hgn (hk ▸ (hf1 b).2 (.inl hb)))
  have k3 : gq w1 (ds.drop (k * s + s)) u3 f3 := gU hl3 hw (fun b hb hk => by
   rcases hk with hk|hk
   ·exact hd2 b hk hb
   ·exact hgn (hk ▸ (hf1 b).2 (.inr ((hf2 b).2 (.inr hb)))))
  have k12 := pJ k1 hv2 (fun b hb hb2 => by
   rcases hx b hb2 with hk|hk
   ·exact hd1 b hb ((hf2 b).2 (.inl hk))
   ·have:=hlt1 b hb;omega)
  have Zl := pJ k12 k3 (fun b hb hb2 => by
   rcases hb with hb|hb
   ·exact hd1 b hb ((hf2 b).2 (.inr hb2))
   ·rcases hx b hb with hk|hk
    ·exact hd2 b hk hb2
    ·have:=hlt3 b hb2;omega)
  have hin:∀ b,((f1 b\/gI b)\/f3 b)->f0 b\/w.heap.size<=b:=by
   rintro b ((hb|hb)|hb)
   ·exact .inl ((hf1 b).2 (.inl hb))
   ·exact (hx b hb).imp (hfg b) id
   ·exact .inl ((hf1 b).2 (.inr ((hf2 b).2 (.inr hb))))
  refine⟨fun b=>au g=au b\/((f1 b\/gI b)\/f3 b),⟨au ⟨g,off,ak⟩,c,u1++vs++u3,au g,_,rfl,.inr ⟨g,off,rfl,⟨?_,hle,ho.max,dJ hblk hw.size,fun i hi=>?_,fun i hi=>?_,fun i hi=>by rw[hfr];exact ho.free i hi⟩,rfl⟩,Zl,fun b hb hk=>?_,fun b=>Iff.rfl⟩,fun b hb=>?_,hw.mono (fun b _ hb=>?_)⟩
  ·simp only[dB] at Gn ⊢;omega
  ·by_cases i1:i<k*s
   ·rw[hout (off+i) (by omega),ho.cell i hi,aY (by omega),aT5,aY (by omega)]
   ·by_cases i2:i<k*s+s
    ·have:=hv1.cell (i-k*s) (by omega)
     rw[show off+i=off+k*s+(i-k*s) by omega,this,aT5,aW (by omega),aY (by omega),n1]
    ·rw[hout (off+i) (by omega),ho.cell i hi,aW (by omega),aW (by omega),aT5,aW (by omega),aW (by omega),n1,n2,nv]
  ·by_cases i1:i<k*s\/k*s+s<=i
   ·rw[hout (off+i) (by omega)];exact ho.some i hi
   ·have:=hv1.cell (i-k*s) (by omega)
    rw[show off+i=off+k*s+(i-k*s) by omega,this,List.getElem?_eq_getElem (by omega)]
    rfl
  ·cases hb
   rcases hin _ hk with hk|hk
   ·exact hgn hk
   ·omega
  ·rcases hb with hb|hb
   ·cases hb;exact .inl ((hf g).2 (.inl rfl))
   ·exact (hin b hb).imp (fun h=>(hf b).2 (.inr h)) id
  ·rcases hb with hb|hb
   ·exact (hf b).2 (.inr (hfg b hb))
   ·exact (hf b).2 (.inl (by rw[hb]))
theorem iO.elO {α: Type} {F: α->List eF} (hF:∀ x,(F x).length=s) (hs:0<s) {w: aI} {o: Nat} {cs: List eF} {fp: Fp} (h:iO w B o cs fp) {L: List α} (hj:cs[j]?=au (iF s F L)) {x x': α} (hk:L[k]?=au x) (hk':L[k']?=au x') (hne:k'≠k):∃ g off c f f' vs',w.cell? ⟨B,o+j,ak⟩=au (aj (au ⟨g,off,ak⟩) L.length c)/\g≠B/\(∀ b,f b->fp b)/\iO w g (off+k*s) (F x) f/\E8 w g (off+k'*s) (F x') vs' f'/\(∀ b,f' b->¬ f b)/\vs'.length=s /\
  ∀ (w1:aI) (y:α),fH w w1 g (off+k*s) (F y) f->fH w w1 B o (cs.set j (iF s F (L.set k y))) fp:=by
 have lt:∀ {q:Nat} {z:α},L[q]?=au z->q<L.length:=fun {q z} hq=>by
  rcases aY6 q L.length with h|h
  ·exact h
  ·rw[bK h] at hq;cases hq
 obtain⟨u,fj,hu,hfz,hc,hsub,hnB,hput⟩:=h.at hj;obtain⟨a,c,us,G,f0,rfl,ho⟩:=hc;have hc:eF.ow w (iF s F L) (aj a L.length c) fj:=⟨a,c,us,G,f0,rfl,ho⟩;obtain⟨g,off,_,e,_⟩:=yE hF hs hc hk;subst e;obtain⟨f,f',vs',h1,h2,h3,h4,h5,h6,h7⟩:=aB0 (ds:=L.flatMap F) hc (lt hk) (lt hk') hne hs (sV hF L);rw[yD hF hk] at h1;rw[yD hF hk'] at h2;refine⟨g,off,c,f,f',vs',hu,fun e=>hnB (e ▸ h6),fun b hb=>hsub b (h5 b hb),h1,h2,h3,h4,fun w1 y hb=>?_⟩
 obtain⟨fp',k1,k2,k3⟩:=h7 w1 (F y) (hF y) hb;rw[Hy hF y (lt hk)] at k1
 have k1':eF.ow w1 (iF s F (L.set k y)) (aj (au ⟨g,off,ak⟩) L.length c) fp':=by
  unfold iF;rw[aV3];exact k1
 exact (hput w1 (iF s F (L.set k y)) _ fp' k3 k1' k2).2.2.2 rfl
theorem Sz (h:(fP A r).toList=(fP A' r).toList):A=A':=by
 obtain⟨a1,a2,a3,a4,a5,a6,a7,a8⟩:=A;obtain⟨b1,b2,b3,b4,b5,b6,b7,b8⟩:=A';simp only[fP,List.cons.injEq,aU0,and_true,true_and] at h;obtain⟨⟨h1,h2⟩,⟨h3,h4⟩,⟨h5,h6⟩,h7,h8⟩:=h;subst h1 h2 h3 h4 h5 h6 h7 h8
 rfl
def RV (X:aI) (g q:Nat) (A:Ra) (r:Rw):Prop:=C8 X g q (ah aA r.ver) (aj A.ta r.txt.length A.tc) (aj A.ga r.got.length A.gc) (aj A.sa r.dQ.length A.sc) (aF r.wed) (aF r.dV) (ah aA r.dW) (aj A.ma r.dU.length A.mc)/\qJ X A r
theorem E8.rv {X: aI} {g: Nat} {vs: List aJ} (h:E8 X g q (jr r) vs f) (hv:vs=(fP A r).toList) (hf:qK r):RV X g q A r:=by
 subst hv;obtain⟨A',e,hl⟩:=wQ h.own;obtain rfl:=Sz e;have mQ:(fP A r).toList.length=8:=rfl;have c:=h.pc.cell;refine⟨⟨⟨c 0 (by rw[mQ];omega),c 1 (by rw[mQ];omega),c 2 (by rw[mQ];omega),c 3 (by rw[mQ];omega)⟩,c 4 (by rw[mQ];omega),c 5 (by rw[mQ];omega),c 6 (by rw[mQ];omega),c 7 (by rw[mQ];omega)⟩, ?_⟩
 have hv:=yC hl;obtain⟨_,_,e1,v1,hv⟩:=hv
 cases e1
 obtain⟨_,_,e2,v2,hv⟩:=hv
 cases e2
 obtain⟨_,_,e3,v3,hv⟩:=hv
 cases e3
 obtain⟨_,_,e4,v4,hv⟩:=hv
 cases e4
 obtain⟨_,_,e,t1,t2,t3⟩:=VY v1
 cases e
 obtain⟨_,_,e,g1,g2,g3⟩:=nI v2 hf.1
 cases e
 obtain⟨_,_,e,s1,s2,s3⟩:=nI v3 hf.2.1
 cases e
 obtain⟨_,_,e,m1,m2,m3⟩:=nI v4 hf.2.2
 cases e
 exact⟨t1,g1,s1,m1,by omega,by omega,by omega,by omega⟩
theorem E8.vals {X: aI} {g: Nat} {vs: List aJ} (h:E8 X g q (jr r) vs f) (hr:RV X g q A r):vs=(fP A r).toList:=by
 have hl:vs.length=8:=jI h.own;obtain⟨⟨⟨c0,c1,c2,c3⟩,c4,c5,c6,c7⟩,_⟩:=hr;have c:=h.pc.cell
 apply List.ext_getElem?
 intro j;rcases aY6 j 8 with hj|hj
 ·have hcj:=c j (by omega)
  match j,hj,hcj with
  | 0,_,hc=>exact hc.symm.trans c0
  | 1,_,hc=>exact hc.symm.trans c1
  | 2,_,hc=>exact hc.symm.trans c2
  | 3,_,hc=>exact hc.symm.trans c3
  | 4,_,hc=>exact hc.symm.trans c4
  | 5,_,hc=>exact hc.symm.trans c5
  | 6,_,hc=>exact hc.symm.trans c6
  | 7,_,hc=>exact hc.symm.trans c7
 ·rw[bK (by omega),bK (by simpa[fP] using hj)]
theorem Mw.atO {w X: aI} {o: Nat} {m: Mb} {fp: Fp} {g: Nat} (h:Mw w X B o m fp g off c) (hk:k<m.rows.length) (hk':k'<m.rows.length) (hne:k'≠k) (hf':qK (dO m.rows k')) (LX:RV X g (off+k'*8) A' (dO m.rows k')) (hj:(jr (dO m.rows k))[j]?=au cl):∃ u f,X.cell? ⟨g,off+k*8+j,ak⟩=au u/\X.frozen? ⟨g,off+k*8+j,ak⟩=aC/\eF.ow X cl u f/\(∀ b,f b->b<X.heap.size) /\
  ∀ (X1:aI) (c':eF) (u':aJ) (f':Fp) (r':Rw),(jr (dO m.rows k)).set j c'=jr r'->eU f X X1->eF.ow X1 c' u' f'->(∀ b,f' b->f b\/X.heap.size<=b)->X1.cell? ⟨g,off+k*8+j,ak⟩=au u/\X1.frozen? ⟨g,off+k*8+j,ak⟩=aC/\Mw w (X1.setCell ⟨g,off+k*8+j,ak⟩ u') B o { m with rows:=m.rows.set k r' } fp g off c/\RV (X1.setCell ⟨g,off+k*8+j,ak⟩ u') g (off+k'*8) A' (dO m.rows k'):=by
 obtain⟨gI,hp,hf1,hgo⟩:=h.iw.next;obtain⟨g',off',c',f,f2,vs2,h1,hgB,hfs,hpl,hpv,hdis,hvl,hput⟩:=hp.elO (F:=jr) jW (by omega) (j:=2) (L:=m.rows) rfl (iZ hk) (iZ hk') hne
 have e:=aV4 (h1.symm.trans h.rws)
 cases e
 obtain⟨u,fj,hu,hfz,hc,hsub,hnB,hset⟩:=hpl.at hj;have Cm:=hp.lt;refine⟨u,fj,hu,hfz,hc,eF.lg hc,fun X1 c' u' f' r' er hw hc' aM5=>?_⟩
 obtain⟨k1,k2,k3,k4⟩:=hset X1 c' u' f' hw hc' aM5;rw[er] at k3;have WH:¬ fj B:=fun hb=>hp.nB (hfs B (hsub B hb))
 have hr1:X1.cell? ⟨B,o+2,ak⟩=au (aj (au ⟨g,off,ak⟩) m.rows.length c):=(World.cell?_of_block (hw.block B Cm WH)).trans h.rws;refine⟨k1,k2,⟨hgo _ (kC { m with rows:=m.rows.set k r' }) rfl (hput _ r' k3), ?_⟩, ?_⟩
 ·rw[bg _ _ _ _ (by simp only[ne_eq,aX6,not_and];intro e;exact absurd e hgB),hr1]
  simp
 ·have hm1:k'*8+8<=k*8\/k*8+8<=k'*8:=by omega
  exact (hpv.stay k3 hdis (by rw[hvl,jW];omega)).rv (hpv.vals LX) hf'
theorem Gz {s r: List Int} (hj:j<r.length):kP id s (r.take (j+1))=if el r j=(id:Int) then kP id s (r.take j) else gY (kP id s (r.take j)) (el r j):=by
 have e:el r j=r[j]:=by simp[el,hj]
 unfold kP;rw[aS hj,aT7,e]
 rfl
theorem Jl {o: Rw} (hk:k<L.length):learn R id o (L.take (k+1))=kZ id (learn R id o (L.take k)) (L.getD k 0) (dO R (L.getD k 0)):=by
 have e:L.getD k 0=L[k]:=by simp[ba0,hk]
 unfold learn;rw[aS hk,aT7,e]
 rfl
theorem DC {id:Nat}:∀ {r s:List Int},s.Pairwise (·<·)->(kP id s r).Pairwise (·<·)
 | [],s,h=>h
 | x::r,s,h=>by
  have ih:=DC (id:=id) (r:=r) (s:=if x=(id:Int) then s else gY s x)
  unfold kP at ih ⊢;rw[aV6]
  apply ih
  split
  ·exact h
  ·exact wH h
theorem Jm {o: Rw} (ok:iR o n) (IX:iR r n) (j:Nat):iR { o with wed:=aB,dQ:=kP i o.dQ (r.dQ.take j) } n :=
 ⟨ok.n5,ok.ver,ok.tl,ok.ts,ok.got,ok.gl,ok.g12,fun x hx => by
  rcases wK.1 hx with h|⟨h,_⟩
  ·exact ok.dQ x h
  ·exact IX.dQ x (bZ h),lK.2 (DC (lK.1 ok.pq)),fun h=>⟨rfl,(ok.dV h).2⟩,ok.not⟩
theorem Fa {R:List Rw} {n i:Nat} (hR:∀ k,k<n->iR (dO R k) n):∀ {L:List Nat} {o:Rw},iR o n->(∀ k∈L,k<n)->iR (learn R i o L) n
 | [],o,h,_=>h
 | k::L,o,h,hL=>by
  refine Fa hR (L:=L) (o:=kZ i o k (dO R k)) ?_ (fun x hx=>hL x (List.mem_cons_of_mem _ hx))
  unfold kZ
  split
  ·exact h
  ·have:=Jm (i:=i) h (hR k (hL k dD)) (dO R k).dQ.length
   rw[aV2] at this;exact this
theorem O1 {m: Mb} (ok:iP m i n) (hr:iR r n):nY { m with rows:=m.rows.set k r }:=by
 refine⟨fun x hx=>?_,ok.fit.2⟩
 rcases List.mem_or_eq_of_mem_set hx with h|h
 ·exact ok.fit.1 x h
 ·rw[h];exact hr.fit
theorem Mw.sub {w X X5: aI} {o: Nat} {m: Mb} {fp: Fp} {g: Nat} (h:Mw w X B o m fp g off c) (hb:Below X.heap.size X X5):∃ jE,(∀ b,jE b->b<X.heap.size)/\B<X.heap.size/\(∀ b,jE b->fp b\/w.heap.size<=b)/\Mw X5 X5 B o m jE g off c/\∀ (Y:aI) (m':Mb),Mw X5 Y B o m' jE g off c->Mw w Y B o m' fp g off c:=by
 obtain⟨gI,hp,hf1,hgo⟩:=h.iw.next;have hlt:=hp.flt;have hB:=hp.lt;refine⟨gI,hlt,hB,hf1,⟨fH.refl (hp.below hb),fM hb h.rws⟩,fun Y m' hY=>⟨hgo Y _ rfl (hY.iw.first hb hB hlt),hY.rws⟩⟩
theorem Mw.bx {w X: aI} {o: Nat} {m: Mb} {fp: Fp} {g: Nat} (h:Mw w X B o m fp g off c) {b: Nat} {T: TypeId} {cs: Array aJ} (hx:Bx w b T cs) (h1:¬ fp b) (h2:b≠B):Bx X b T cs:=hx.wrt h.iw.wrt (fun k=>k.elim h1 h2)
theorem Mw.SA {w X: aI} {o: Nat} {m: Mb} {fp: Fp} {g: Nat} (h:Mw w X B o m fp g off c) {u: aJ} (hx:eF.ow w cl u f) (h1:∀ b,f b->¬ fp b/\b≠B):eF.ow X cl u f:=eF.lC hx h.iw.wrt (fun b hb k=>k.elim (h1 b hb).1 (h1 b hb).2)
structure Mk (w X:aI) (B o:Nat) (m:Mb) (fp:Fp):Prop where
 iw:fH w X B o (kC m) fp
 rws:X.cell? ⟨B,o+2,ak⟩=w.cell? ⟨B,o+2,ak⟩
theorem Mw.mk' {w X: aI} {o: Nat} {m: Mb} {fp: Fp} {g: Nat} (h:Mw w X B o m fp g off c) (hc:w.cell? ⟨B,o+2,ak⟩=au (aj (au ⟨g,off,ak⟩) n c)) (hl:m.rows.length=n):Mk w X B o m fp:=⟨h.iw,by rw[h.rws,hc,hl]⟩
theorem ni {m: Mb} (r:Rw):({ m with rows:=m.rows.set i r }:Mb).rows.length=m.rows.length:=by simp
theorem RV.below {X Y:aI} {g q:Nat} {A:Ra} {r:Rw} (h:RV X g q A r) (hb:Below X.heap.size X Y):RV Y g q A r:=by
 obtain⟨⟨⟨c0,c1,c2,c3⟩,c4,c5,c6,c7⟩,hr⟩:=h;have t:∀ {x v},X.cell? x=au v->Y.cell? x=au v:=fun h=>fM hb h
 exact⟨⟨⟨t c0,t c1,t c2,t c3⟩,t c4,t c5,t c6,t c7⟩,hr.below hb⟩
theorem mV {w: aI} {a: Option ba5} {Z: List Int} (h:eF.ow w (gQ Z) (aj a Z.length c) f) (hf:Fits Z):Vec w a Z.length Z:=by
 obtain⟨a',c',e,hv,_⟩:=nI (eF.xZ h) hf
 cases e
 exact hv
theorem xP (h:∀ k∈L,k<n) (hn:n<=1000000):Fits (lN L):=fun x hx=>by
 obtain⟨k,hk,rfl⟩:=List.mem_map.1 hx;have:=h k hk;omega
theorem mW (h:k<L.length):L.getD k 0∈L:=by
 simp[ba0,h]
theorem Xe (B o:Nat) (m:Mb) (i n:Nat) (fp:Fp) (w:aI) (h:iO w B o (kC m) fp) (ok:iP m i n) :
  ba3 aZ8 116 #[aO (au ⟨B,o,ak⟩)] w fun e w'=>e=aK (.tuple #[])/\Mk w w' B o { m with rows:=m.rows.set i (learn m.rows i (dO m.rows i) (fA n (dO m.rows i).dQ)) } fp:=by
 have fU:=iq;have hil:i<m.rows.length:=by rw[ok.len];exact ok.lt
 obtain⟨g,off,c,M0⟩:=Mw.start h (by omega)
 have HC2:=dP M0.rws;have U0:=h.flt;have hBlt:=h.lt;obtain⟨c0,c1,c4⟩:=M0.id';have c2:=M0.rws;rw[ok.hid] at c0;have i0:(0:Int)<=i:=by omega
 have i1:(i:Int)<m.rows.length:=by omega
 have p0:∀ q:Bk w,q.w.cell? ⟨B,o,ak⟩=_:=fun q=>fM q.h c0
 have p2:∀ q:Bk w,q.w.cell? ⟨B,o+2,ak⟩=_:=fun q=>fM q.h c2
 have kU:=dP M0;have HPl:=dP h;have hr:=ok.ok i ok.lt;have jy:=hr.n5;clear c0 c1 c4 c2 M0 h;go_enter Tryz.func116,Tryz.ntmps116
 go_wp2_with fail
 refine jf ?_;repeat (go_big_quiet_step ((first|rfl)))
 refine aZ2 (iI fun wE eH=>?_)
 clear p0 p2;have fZ:=dP (kU.out.step eH);have hbs:=eH.size;have mZ:=dP eH;clear eH;go_wp2_with fail
 refine (LW w B o m i n fp g off c wE fZ.out ok).mono ?_;rintro e wl ⟨la,lc,rfl,fl,hl1,hl2,hl3⟩;have hlt3:=eF.lg hl1;have hbl:=eP mZ.out hl3;have vY:aG (Mw wl wl B o m fp g off c):=⟨fH.refl (HPl.out.below hbl),(fZ.out.step hl3).rws⟩;have Xf:aG (∀ (Y:aI) (m':Mb),Mw wl Y B o m' fp g off c->m'.rows.length=m.rows.length->Mk w Y B o m' fp):=fun Y m' hY hl=>⟨hY.iw.first hbl hBlt U0,by rw[hY.rws,HC2.out,hl]⟩
 have zl:=dP hl1;have Ea:aG (∀ b,fl b->¬ fp b/\b≠B):=fun b hb=>⟨fun k=>by have:=U0 b k;have:=hl2 b hb;omega,fun k=>by have:=hl2 b hb;omega⟩
 have HLn:aG (∀ k∈fA n (dO m.rows i).dQ,k<n):=fun k hk=>(jd.1 hk).1
 have wG:aG ((fA n (dO m.rows i).dQ).length<=n):=tX _ _;generalize GH:fA n (dO m.rows i).dQ=L at *;have HLe:aG (fA n (dO m.rows i).dQ=L):=GH;clear GH;rw[jq] at zl ⊢;clear hl1 hl2 hl3 hlt3 hbl mZ kU fZ hbs;go_wp2_with fail
 go_loopw [4] (fun v wr=>∃ (k:Nat) (ow:Rw),k<=L.length/\v=ah aA (k:Int)/\aG (ow=learn m.rows i (dO m.rows i) (L.take k))/\Mw wl wr B o { m with rows:=m.rows.set i ow } fp g off c) (fun v _=>L.length-(ba4 v).toNat)
 case atStart =>
  refine⟨0,dO m.rows i,aZ1 _,rfl,rfl, ?_⟩
  have e:({ m with rows:=m.rows.set i (dO m.rows i) }:Mb)=m:=by
   have:=pK (iZ hil);rw[this]
  rw[e];exact vY.out
 case round =>
  obtain⟨k,ow,hk,rfl,ru,M⟩:=hrel;have Jo:=wG.out;by_cases hlt:k<L.length
  ·have BR:iR ow n:=by rw[ru.out];exact Fa ok.ok hr (fun x hx=>HLn.out x (bZ hx))
   have hfm:nY { m with rows:=m.rows.set i ow }:=O1 ok BR
   have qQ:L.getD k 0<n:=HLn.out _ (mW hlt);have uI:L.getD k 0<({ m with rows:=m.rows.set i ow }:Mb).rows.length:=by rw[ni,ok.len];exact qQ
   have SB:=M.SA zl.out Ea.out;have rX:=mV (by rw[jq];exact SB) (xP HLn.out (by omega))
   rcases rX.2.2 with hz|⟨lb,lo,rfl,hlc⟩
   ·rw[jq] at hz;omega
   have hlk:=hlc k (by rw[jq];exact hlt)
   rw[wR hlt] at hlk;have LY:aG (learn m.rows i (dO m.rows i) (L.take (k+1))=kZ i ow (L.getD k 0) (dO m.rows (L.getD k 0))):=by rw[aG,Jl hlt,<- ru.out]
   have HRk:aG (L.getD k 0≠i->dO (m.rows.set i ow) (L.getD k 0)=dO m.rows (L.getD k 0)):=fun hne=>by rw[gB hil,if_neg hne]
   generalize L.getD k 0=J at *;have k1:(k:Int)<L.length:=by omega
   have k0:(0:Int)<=k:=by omega
   have J0:(0:Int)<=J:=by omega
   have J1:(J:Int)<m.rows.length:=by rw[ok.len];omega
   obtain⟨AJ,O4,hRS⟩:=M.row hfm uI;simp only at O4 hRS
   have HRV:aG (RV wr g (off+J*8) AJ (dO (m.rows.set i ow) J)):=⟨O4,hRS⟩;have HM:=dP M;have oq:=M.rws;rw[ni] at oq
   have KS:∀ X,Below wr.heap.size wr X->(X.cell? ⟨B,o+2,ak⟩=au (aj (au ⟨g,off,ak⟩) m.rows.length c)/\X.cell? ⟨lb,lo+k,ak⟩=au (ah aA (J:Int))/\X.cell? ⟨g,off+J*8,ak⟩=au (ah aA (dO (m.rows.set i ow) J).ver)/\X.cell? ⟨g,off+J*8+1,ak⟩=au (aj AJ.ta (dO (m.rows.set i ow) J).txt.length AJ.tc)/\X.cell? ⟨g,off+J*8+2,ak⟩=au (aj AJ.ga (dO (m.rows.set i ow) J).got.length AJ.gc)/\X.cell? ⟨g,off+J*8+3,ak⟩=au (aj AJ.sa (dO (m.rows.set i ow) J).dQ.length AJ.sc)/\X.cell? ⟨g,off+J*8+4,ak⟩=au (aF (dO (m.rows.set i ow) J).wed)/\X.cell? ⟨g,off+J*8+5,ak⟩=au (aF (dO (m.rows.set i ow) J).dV)/\X.cell? ⟨g,off+J*8+6,ak⟩=au (ah aA (dO (m.rows.set i ow) J).dW)/\X.cell? ⟨g,off+J*8+7,ak⟩=au (aj AJ.ma (dO (m.rows.set i ow) J).dU.length AJ.mc)):=fun X hX=>by
    obtain⟨⟨d0,d1,d2,d3⟩,d4,d5,d6,d7⟩:=O4;have t:∀ {x v},wr.cell? x=au v->X.cell? x=au v:=fun h=>fM hX h
    exact⟨t oq,t hlk,t d0,t d1,t d2,t d3,t d4,t d5,t d6,t d7⟩
   have hbd:=(Same.drewN wr 1).below;have HLk:=dP hlk;generalize hrr:dO (m.rows.set i ow) J=r at *;have hRR:=dP hrr
   have hokr:iR r n:=by
    rw[<- hrr,gB hil]
    split
    ·exact BR
    ·exact ok.ok J qQ
   clear hrr M O4 hRS hlc SB rX oq hlk;go_wp2_with fail
   refine lG (S:=fun X:aI=>X.cell? ⟨B,o+2,ak⟩=au (aj (au ⟨g,off,ak⟩) m.rows.length c)/\X.cell? ⟨lb,lo+k,ak⟩=au (ah aA (J:Int))/\X.cell? ⟨g,off+J*8,ak⟩=au (ah aA r.ver)/\X.cell? ⟨g,off+J*8+1,ak⟩=au (aj AJ.ta r.txt.length AJ.tc)/\X.cell? ⟨g,off+J*8+2,ak⟩=au (aj AJ.ga r.got.length AJ.gc)/\X.cell? ⟨g,off+J*8+3,ak⟩=au (aj AJ.sa r.dQ.length AJ.sc)/\X.cell? ⟨g,off+J*8+4,ak⟩=au (aF r.wed)/\X.cell? ⟨g,off+J*8+5,ak⟩=au (aF r.dV)/\X.cell? ⟨g,off+J*8+6,ak⟩=au (ah aA r.dW)/\X.cell? ⟨g,off+J*8+7,ak⟩=au (aj AJ.ma r.dU.length AJ.mc)) 11 fU ((KS _ hbd)) fun hHeld=>?_
   refine fC (i:=0) rfl hHeld ?_;refine fC (i:=1) rfl hHeld ?_;refine fC (i:=2) rfl hHeld ?_;refine fC (i:=3) rfl hHeld ?_;refine fC (i:=4) rfl hHeld ?_;refine fC (i:=5) rfl hHeld ?_;refine fC (i:=6) rfl hHeld ?_;refine fC (i:=7) rfl hHeld ?_;refine fC (i:=8) rfl hHeld ?_;refine fC (i:=9) rfl hHeld ?_;refine iy (i:=10) rfl fun K hK=>?_
   go_simp;have hb2:Below wr.heap.size wr (wr.drew.alloc (aH #[ah aA 0,aj ak 0 0,aj ak 0 0,aj ak 0 0,aF aC,aF aC,ah aA 0,aj ak 0 0] 44)):=hbd.trans ((dX wr.drew _).mono hbd.size);refine hK.out _ _ (KS _ hb2) (fun eG=>?_)
   clear hK hHeld;have hHeld:=eG;try simp only[gW]
   refine oH rfl fun K hK=>?_
   go_simp;refine hK.out _ _ ?_;have hb5:Below wr.heap.size wr (wr.alloc (aH #[ah aA r.ver,aj AJ.ta r.txt.length AJ.tc,aj AJ.ga r.got.length AJ.gc,aj AJ.sa r.dQ.length AJ.sc,aF r.wed,aF r.dV,ah aA r.dW,aj AJ.ma r.dU.length AJ.mc] 44)).drew:=(dX wr _).trans ((Same.drewN _ 1).below.mono (dX wr _).size);have hx5:Bx (wr.alloc (aH #[ah aA r.ver,aj AJ.ta r.txt.length AJ.tc,aj AJ.ga r.got.length AJ.gc,aj AJ.sa r.dQ.length AJ.sc,aF r.wed,aF r.dV,ah aA r.dW,aj AJ.ma r.dU.length AJ.mc] 44)).drew wr.heap.size 44 #[ah aA r.ver,aj AJ.ta r.txt.length AJ.tc,aj AJ.ga r.got.length AJ.gc,aj AJ.sa r.dQ.length AJ.sc,aF r.wed,aF r.dV,ah aA r.dW,aj AJ.ma r.dU.length AJ.mc]:=Bx.new wr _ _;generalize (wr.alloc (aH #[ah aA r.ver,aj AJ.ta r.txt.length AJ.tc,aj AJ.ga r.got.length AJ.gc,aj AJ.sa r.dQ.length AJ.sc,aF r.wed,aF r.dV,ah aA r.dW,aj AJ.ma r.dU.length AJ.mc] 44)).drew=W5 at *;clear hHeld KS hbd hb2 hK;have GK:aG (Bx W5 wr.heap.size 44 #[ah aA r.ver,aj AJ.ta r.txt.length AJ.tc,aj AJ.ga r.got.length AJ.gc,aj AJ.sa r.dQ.length AJ.sc,aF r.wed,aF r.dV,ah aA r.dW,aj AJ.ma r.dU.length AJ.mc]):=hx5;have qZ:aG (Below wr.heap.size wr W5):=hb5;obtain⟨⟨x0,x1,x2,x3⟩,x4,x5,x6,x7⟩:=Bx.r8 hx5;have M5:=HM.out.step hb5;obtain⟨c0,c1,c4⟩:=M5.id';simp only at c0
   rw[ok.hid] at c0;have T:∀ {x v},W5.cell? x=au v->∀ q:Bk W5,q.w.cell? x=au v:=fun h q=>fM q.h h
   have p0:=T c0;have pl:=T (fM hb5 HLk.out);have yO:=T x3;have xB:=T x4;clear x0 x1 x2 x3 x4 x5 x6 x7 c0 c1 c4 M5 hx5 hb5 T;by_cases Bz:J=i
   ·have e1:((J:Int)==(i:Int))=aB:=by simp[Bz]
    have HT:aG (ow=learn m.rows i (dO m.rows i) (L.take (k+1))):=by rw[aG,LY.out,kZ,if_pos (.inl Bz)]
    clear Bz;go_wp2_with fail
    refine jf ?_;repeat (go_big_quiet_step ((first|rfl)))
    refine aZ2 (iI fun wE eH=>?_)
    have pU:aG (Mw wl wE B o { m with rows:=m.rows.set i ow } fp g off c):=(HM.out.step qZ.out).step eH
    clear p0 pl yO xB eH;go_wp2;go_roundw
    case rel=>exact⟨k+1,ow,by omega,by go_num,HT,pU.out⟩
    case measure=>simp[ba4];omega
   have e1:((J:Int)==(i:Int))=aC:=by simp;omega
   have Jp:=HRk.out Bz;by_cases hws:r.wed=aC/\r.dQ=[]
   ·have e2:r.wed=aC:=hws.1
    have e3:(((r.dQ.length:Nat):Int)==0)=aB:=by rw[hws.2];rfl
    have HT:aG (ow=learn m.rows i (dO m.rows i) (L.take (k+1))):=by rw[aG,LY.out,kZ,if_pos (.inr (by rw[<- Jp];exact hws))]
    rw[e2] at xB;clear Bz hws e2 Jp;go_wp2_with fail
    refine jf ?_;repeat (go_big_quiet_step ((first|rfl)))
    refine aZ2 (iI fun wE eH=>?_)
    have pU:aG (Mw wl wE B o { m with rows:=m.rows.set i ow } fp g off c):=(HM.out.step qZ.out).step eH
    clear p0 pl yO xB eH;go_wp2;go_roundw
    case rel=>exact⟨k+1,ow,by omega,by go_num,HT,pU.out⟩
    case measure=>simp[ba4];omega
   have HT:aG ({ ow with wed:=aB,dQ:=kP i ow.dQ r.dQ }=learn m.rows i (dO m.rows i) (L.take (k+1))):=by rw[aG,LY.out,kZ,if_neg (by rw[<- Jp];rintro (h|h);exact Bz h;exact hws h),<- Jp]
   have e3:r.wed=aC->(((r.dQ.length:Nat):Int)==0)=aC:=fun hw=>by
    have:r.dQ≠[]:=fun h=>hws ⟨hw,h⟩
    have:r.dQ.length≠0:=fun h=>this (List.eq_nil_of_length_eq_zero h)
    simp
    omega
   have SC:=dP Bz;have Xg:=dP hRR.out;clear Bz Jp hws
   have key:∀ wE,Below W5.heap.size W5 wE->∃ jE,(∀ b,jE b->b<wr.heap.size)/\B<wr.heap.size/\Mw wE wE B o { m with rows:=m.rows.set i ow } jE g off c/\Bx wE wr.heap.size 44 #[ah aA r.ver,aj AJ.ta r.txt.length AJ.tc,aj AJ.ga r.got.length AJ.gc,aj AJ.sa r.dQ.length AJ.sc,aF r.wed,aF r.dV,ah aA r.dW,aj AJ.ma r.dU.length AJ.mc]/\RV wE g (off+J*8) AJ r/\∀ (Y:aI) (m':Mb),Mw wE Y B o m' jE g off c->Mw wl Y B o m' fp g off c:=fun wE hbE=>by
    have hbb:=eP qZ.out hbE;obtain⟨jE,f1,f2,_,f3,f4⟩:=HM.out.sub hbb;exact⟨jE,f1,f2,f3,GK.out.below hbE,HRV.out.below hbb,f4⟩
   have aB1:=dP key;clear key GK qZ;generalize wr.heap.size=bb at *;go_upto_region 6 with fail
   go_cut [53] from 34 to 53 (fun v X=>v=aF aC/\Below W5.heap.size W5 X)
   case first =>
    rcases Bool.eq_false_or_eq_true r.wed with hwd|hwd
    ·rw[hwd] at xB
     clear hwd e3;refine jf ?_;repeat (go_big_quiet_step ((first|rfl)))
     refine aZ2 (iI fun wE eH=>?_)
     try go_wp2_with fail
     go_meet
     case rel=>exact⟨rfl,eH⟩
    ·have e4:=e3 hwd
     rw[hwd] at xB;clear hwd e3;refine jf ?_;repeat (go_big_quiet_step ((first|rfl)))
     refine aZ2 (iI fun wE eH=>?_)
     try go_wp2_with fail
     go_meet
     case rel=>exact⟨rfl,eH⟩
   case rest =>
    obtain⟨rfl,hBc⟩:=hcut;obtain⟨jE,f1,f2,M5,Fb,aB2,f4⟩:=aB1.out _ hBc;clear p0 pl yO xB e3 aB1 hBc;generalize wc=V at *;have aM6:i<({ m with rows:=m.rows.set i ow }:Mb).rows.length:=by rw[ni];exact hil
    have hself:dO (m.rows.set i ow) i=ow:=iW hil;have aR8:J<(m.rows.set i ow).length:=uI;obtain⟨u,f,q1,q2,⟨rfl,qf⟩,_,q4⟩:=M5.atO aM6 uI SC.out (by simp only[Xg.out];exact hokr.fit) (A':=AJ) (by simp only[Xg.out];exact aB2) (j:=4) (cl:=.v (aF ow.wed)) (by simp only[hself];rfl)
    obtain⟨_,_,M6,Ii⟩:=q4 V (.v (aF aB)) (aF aB) (fun _=>False) { ow with wed:=aB } (by simp only[hself];rfl) (eU.refl _ _) ⟨rfl,fun _ h=>h⟩ (fun b hb=>hb.elim)
    simp only[Xg.out,aY4] at M6 Ii;have jX:=dP M6;have aM7:=dP Ii;have HX6:=dP Fb;have HF1:=dP f1;have HF2:=dP f2;have yP:=dP f4;clear M5 M6 Ii q4 qf f1 f2 f4 Fb aB2 hself;go_wp2_with fail
    generalize V.setCell ⟨g,off+i*8+4,ak⟩ (aF aB)=V6 at *;clear q1 q2;have hsl:=hokr.sl
    go_loopw [6] (fun v wi=>∃ (j:Nat) (s:List Int),j<=r.dQ.length/\v=ah aA (j:Int)/\aG (s=kP i ow.dQ (r.dQ.take j))/\Mw V wi B o { m with rows:=m.rows.set i { ow with wed:=aB,dQ:=s } } jE g off c/\RV wi g (off+J*8) AJ r) (fun v _=>r.dQ.length-(ba4 v).toNat)
    case atStart=>exact⟨0,ow.dQ,aZ1 _,rfl,rfl,jX.out,aM7.out⟩
    case round =>
     obtain⟨j,s,hj,rfl,hs,M,Au⟩:=hrel;have hXi:=M.bx HX6.out (fun k=>by have:=HF1.out _ k;omega) (by have:=HF2.out;omega)
     obtain⟨⟨x0,x1,x2,x3⟩,x4,x5,x6,x7⟩:=Bx.r8 hXi;by_cases hlt2:j<r.dQ.length
     ·have j1:(j:Int)<r.dQ.length:=by omega
      have j0:(0:Int)<=j:=by omega
      rcases Au.2.dQ.2.2 with h0|⟨sb,so,hsa,hsc⟩
      ·omega
      have hsx:=hsc j hlt2;have HTj:aG (kP i ow.dQ (r.dQ.take (j+1))=if el r.dQ j=(i:Int) then s else gY s (el r.dQ j)):=by rw[aG,Gz hlt2,<- hs.out]
      have hxr:=hokr.dQ (el r.dQ j) (kM hlt2);rw[hsa] at x3;clear hsa;have HM:=dP M;have aB3:=dP Au;obtain⟨c0,c1,c4⟩:=M.id';simp only at c0
      rw[ok.hid] at c0;have T:∀ {x v},wr.cell? x=au v->∀ q:Bk wr,q.w.cell? x=au v:=fun h q=>fM q.h h
      have p0:=T c0;have p3:=T x3;have px:=T hsx;generalize el r.dQ j=x at *;clear M Au hXi x0 x1 x2 x4 x5 x6 x7 c0 c1 c4 hsc hsx T;by_cases hxi:x=(i:Int)
      ·have e5:(x != (i:Int))=aC:=by simp[hxi]
       have HS2:aG (s=kP i ow.dQ (r.dQ.take (j+1))):=by rw[aG,HTj.out,if_pos hxi]
       clear hxi;go_wp2_with fail
       refine jf ?_;repeat (go_big_quiet_step ((first|rfl)))
       refine aZ2 (iI fun wE eH=>?_)
       have pU:=dP (HM.out.step eH);have Jj:=dP (aB3.out.below eH);clear p0 p3 px x3 eH;go_wp2;go_roundw
       case rel=>exact⟨j+1,s,by omega,by go_num,HS2,pU.out,Jj.out⟩
       case measure=>simp[ba4];omega
      ·have e5:(x != (i:Int))=aB:=by simpa using hxi
       have HS2:aG (gY s x=kP i ow.dQ (r.dQ.take (j+1))):=by rw[aG,HTj.out,if_neg hxi]
       clear hxi;go_wp2_with fail
       refine jf ?_;repeat (go_big_quiet_step ((first|rfl)))
       refine aZ2 (iI fun wE eH=>?_)
       have M7:=HM.out.step eH;have aB4:=aB3.out.below eH;have x37:=p3 ⟨wE,eH⟩;have hx7:=px ⟨wE,eH⟩;simp only at x37 hx7
       clear p0 p3 px x3 eH;have U1:i<({ m with rows:=m.rows.set i { ow with wed:=aB,dQ:=s } }:Mb).rows.length:=by rw[ni];exact hil
       have aM8:J<({ m with rows:=m.rows.set i { ow with wed:=aB,dQ:=s } }:Mb).rows.length:=by rw[ni,ok.len];exact qQ
       have NP:dO (m.rows.set i { ow with wed:=aB,dQ:=s }) J=r:=by rw[<- Xg.out,gB hil,gB hil,if_neg SC.out,if_neg SC.out]
       have O5:dO (m.rows.set i { ow with wed:=aB,dQ:=s }) i={ ow with wed:=aB,dQ:=s }:=iW hil
       have ZW:iR { ow with wed:=aB,dQ:=s } n:=by rw[hs.out];exact Jm BR hokr j
       obtain⟨u,f,hu,hfz,how,xQ,hset⟩:=M7.atO U1 aM8 SC.out (by simp only[NP];exact hokr.fit) (A':=AJ) (by simp only[NP];exact aB4) (j:=3) (cl:=gQ s) (by simp only[O5];rfl)
       have how':=how;obtain⟨ya,yc,G,rfl,_,_⟩:=jv.1 how';have aJ8:s.length<=100000000:=by have:s.length<=n:=ZW.sl;omega
       have aJ9:Fits s:=ZW.fit.2.1
       have HS:aG (∀ (X1:aI) (u':aJ) (f':Fp) (s':List Int),eU f wE X1->eF.ow X1 (gQ s') u' f'->(∀ b,f' b->f b\/wE.heap.size<=b)->X1.cell? ⟨g,off+i*8+3,ak⟩=au (aj ya s.length yc)/\X1.frozen? ⟨g,off+i*8+3,ak⟩=aC/\Mw V (X1.setCell ⟨g,off+i*8+3,ak⟩ u') B o { m with rows:=m.rows.set i { ow with wed:=aB,dQ:=s' } } jE g off c/\RV (X1.setCell ⟨g,off+i*8+3,ak⟩ u') g (off+J*8) AJ r):=fun X1 u' f' s' h1 h2 h3=>by
        have:=hset X1 (gQ s') u' f' { ow with wed:=aB,dQ:=s' } (by simp only[O5];rfl) h1 h2 h3
        simp only[NP,aY4] at this;exact this
       have hbd:=(Same.drewN wE 1).below;have hP:=Ol ya yc s x wE.drew f (eF.gK how hbd) aJ9 aJ8
       have KS:∀ X,Below wE.heap.size wE X->(X.cell? ⟨g,off+i*8+3,ak⟩=au (aj ya s.length yc)/\X.cell? ⟨bb,3,ak⟩=au (aj (au ⟨sb,so,ak⟩) r.dQ.length AJ.sc)/\X.cell? ⟨sb,so+j,ak⟩=au (ah aA x)):=fun X hX=>by
        have t:∀ {x v},wE.cell? x=au v->X.cell? x=au v:=fun h=>fM hX h
        exact⟨t hu,t x37,t hx7⟩
       clear M7 aB4 hset how how' xQ hu x37 hx7 ZW O5 NP;go_wp2_with fail
       refine lG (S:=fun X:aI=>X.cell? ⟨g,off+i*8+3,ak⟩=au (aj ya s.length yc)/\X.cell? ⟨bb,3,ak⟩=au (aj (au ⟨sb,so,ak⟩) r.dQ.length AJ.sc)/\X.cell? ⟨sb,so+j,ak⟩=au (ah aA x)) 13 fU ((KS _ hbd)) fun hHeld=>?_
       refine fC (i:=0) rfl hHeld ?_;refine fC (i:=1) rfl hHeld ?_;refine fC (i:=2) rfl hHeld ?_;refine fC (i:=3) rfl hHeld ?_;refine fC (i:=4) rfl hHeld ?_;refine fC (i:=5) rfl hHeld ?_;refine fC (i:=6) rfl hHeld ?_;refine fC (i:=7) rfl hHeld ?_;refine fC (i:=8) rfl hHeld ?_;refine fC (i:=9) rfl hHeld ?_;refine iy (i:=10) rfl fun K hK=>?_
       go_simp
       go_at_call 106
       refine hP.mono ?_;rintro e w1 ⟨a1,e1',f1,rfl,k1',k2,k3⟩;have hb1:=eP hbd k3;obtain⟨q1,q2,M8,O6⟩:=HS.out w1 _ f1 (gY s x) (eU.of_below hb1) k1' (fun b hb=>k2 b hb)
       have pV:=dP M8;have ZX:=dP O6;refine hK.out _ _ (KS _ hb1) (fun eG=>?_)
       clear hK hHeld;have hHeld:=eG;try simp only[gW]
       refine fE (i:=11) rfl ?_;refine fC (i:=12) rfl hHeld ?_;refine oH rfl fun K hK=>?_
       go_simp;refine hK.out _ _ ?_;clear M8 O6 k1' k2 k3 hP HS hHeld KS hbd hb1 hK hfz;generalize w1.setCell ⟨g,off+i*8+3,ak⟩ (aj a1 (gY s x).length e1')=V9 at *;clear q1 q2;go_wp2;go_roundw
       case rel=>exact⟨j+1,gY s x,by omega,by go_num,HS2,pV.out,ZX.out⟩
       case measure=>simp[ba4];omega
     ·have j1:¬ ((j:Int)<r.dQ.length):=by omega
      have HT2:aG ({ ow with wed:=aB,dQ:=s }=learn m.rows i (dO m.rows i) (L.take (k+1))):=by rw[aG,<- HT.out,hs.out,bJ (by omega)]
      have pU:=dP (yP.out _ _ M);clear M Au hXi x0 x1 x2 x4 x5 x6 x7;go_wp2;go_roundw
      case rel=>exact⟨k+1,_,by omega,by go_num,HT2,pU.out⟩
      case measure=>simp[ba4];omega
  ·have k1:¬ ((k:Int)<L.length):=by omega
   have HE:=dP (Xf.out _ _ M (ni _));have HOW:aG (ow=learn m.rows i (dO m.rows i) L):=by rw[aG,ru.out,bJ (by omega)]
   clear M ru;go_wp2;go_end0;rw[HLe.out,<- HOW.out];exact⟨rfl,HE.out⟩
theorem O7 (hk:k<R.length) (h:¬ (((q/n:Nat):Int)<el (dO R k).got (q%n))):nS R n q=aC:=by
 rw[nS,dN];exact⟨dO R k,bW (iZ hk),by simpa using h⟩
theorem LZ (h:∀ k,k<R.length->((q/n:Nat):Int)<el (dO R k).got (q%n)):nS R n q=aB:=by
 rw[nS,aU3];intro r hr;obtain⟨j,hj,rfl⟩:=Ib hr;simpa using h j hj
theorem Xh (B o:Nat) (m:Mb) (i n:Nat) (fp:Fp) (w:aI) (h:iO w B o (kC m) fp) (ok:iP m i n) :
  ba3 aZ8 117 #[aO (au ⟨B,o,ak⟩)] w fun e w'=>e=aK (.tuple #[])/\Mk w w' B o { m with dR:=kR m.rows n (60-m.dR.length) m.dR } fp:=by
 have fU:=iq;have hil:i<m.rows.length:=by rw[ok.len];exact ok.lt
 obtain⟨g,off,c,M0⟩:=Mw.start h (by omega)
 have HC9:=dP M0.rws;have kU:=dP M0;have jy:=ok.n5;have hsl:=ok.sl;clear M0 h;go_enter Tryz.func117,Tryz.ntmps117
 go_wp2_with fail
 go_loopg [3] 61 (fun gk v wr=>∃ s:List Int,s.length<=60/\60-s.length<gk/\Fits s/\aG (kR m.rows n (60-m.dR.length) m.dR=kR m.rows n (60-s.length) s)/\Mw w wr B o { m with dR:=s } fp g off c)
 case atStart=>exact⟨m.dR,hsl,by omega,ok.fit.2,rfl,kU.out⟩
 case round =>
  obtain⟨s,Oy,hgk,hfs,hS,M⟩:=hrel;have hfm:nY { m with dR:=s }:=⟨ok.fit.1,hfs⟩
  obtain⟨sa,sc,⟨c0,c1,c2,c3,c4⟩,hms⟩:=M.box hfm;simp only at c0 c1 c2 c3 c4
  rw[ok.hn] at c1;have HM:=dP M;by_cases hlt:s.length<60
  ·have k1:(s.length:Int)<60:=by omega
   obtain⟨q,hq⟩:∃ q:Nat,s.length=q:=⟨_,rfl⟩;have HQ:=dP hq;have hqm:q%n<n:=Nat.mod_lt _ (by omega)
   have tm:((s.length:Int)).tmod (n:Int)=((q%n:Nat):Int):=by rw[hq,Int.tmod_eq_emod_of_nonneg (by omega)];rfl
   have td:((s.length:Int)).tdiv (n:Int)=((q/n:Nat):Int):=by rw[hq,Int.tdiv_eq_ediv_of_nonneg (by omega)];rfl
   clear hq;obtain⟨y,hy⟩:∃ y:Int,aG (((q/n:Nat):Int)=y):=⟨_,rfl⟩;obtain⟨z,hz⟩:∃ z:Nat,aG (q%n=z):=⟨_,rfl⟩;rw[hz.out] at tm hqm;rw[hy.out] at td
   have hyb:0<=y/\y<=60:=by
    have h1:=Nat.div_le_self q n;have h2:=hy.out;have h3:=HQ.out;generalize q/n=yy at *;omega
   have hwy:wrap64 y=y:=by unfold wrap64;omega
   have hrl:m.rows.length<=5:=by rw[ok.len];omega
   have n0:((n:Int)==0)=aC:=by simp;omega
   have wS:=dP c1;have HC2:=dP c2;clear M hms c0 c1 c2 c4;go_wp2_with fail
   go_loopw [3] (fun v wi=>∃ k:Nat,k<=m.rows.length/\v=ah aA (k:Int)/\(∀ j,j<k->y<el (dO m.rows j).got z)/\Below wr.heap.size wr wi) (fun v _=>m.rows.length-(ba4 v).toNat)
   case atStart=>exact⟨0,aZ1 _,rfl,fun j hj=>by omega,aZ5 _ _⟩
   case round =>
    obtain⟨k,hk,rfl,hall,hgr⟩:=hrel;have M1:=HM.out.step hgr;have HA:=dP hall;have c2:=M1.rws;have c1:=M1.id'.2.1;simp only at c1
    rw[ok.hn] at c1;clear hall;by_cases hlt2:k<m.rows.length
    ·have j1:(k:Int)<m.rows.length:=by omega
     have j0:(0:Int)<=k:=by omega
     obtain⟨Ak,⟨⟨d0,d1,d2,d3⟩,d4,d5,d6,d7⟩,hrs⟩:=M1.row hfm (k:=k) hlt2;simp only at d2 hrs
     have hgl:=(ok.ok k (by rw[<- ok.len];exact hlt2)).gl
     rcases hrs.got.2.2 with h0|⟨gb,go,hga,hgc⟩
     ·omega
     have hge:=hgc z (by omega)
     rw[hga] at d2;have q0:(0:Int)<=z:=by omega
     have q1:(z:Int)<((dO m.rows k).got.length:Int):=by omega
     have T:∀ {x v},wr.cell? x=au v->∀ q:Bk wr,q.w.cell? x=au v:=fun h q=>fM q.h h
     have p1:=T c1;have p2:=T c2;have pg:=T d2;have pe:=T hge
     have HY:aG (y<el (dO m.rows k).got z->∀ j,j<k+1->y<el (dO m.rows j).got z):=fun h1 j hj=>by
      rcases bD.1 hj with h|h
      ·exact HA.out j h
      ·rw[h];exact h1
     have jY:aG (¬ (y<el (dO m.rows k).got z)->nS m.rows n q=aC):=fun h=>O7 hlt2 (by rw[hy.out,hz.out];exact h)
     generalize el (dO m.rows k).got z=x at *;have HG:=dP hgr;clear hgc hge hga d0 d1 d2 d3 d4 d5 d6 d7 hrs c1 T M1 hgr;by_cases hxy:y<x
     ·have e1:decide (x<=y)=aC:=by simpa using hxy
      have e2:¬ (x<=y):=by omega
      have HN:=HY.out hxy;clear HY jY hxy;go_wp2_with fail
      refine jf ?_;repeat (go_big_quiet_step ((first|rfl)))
      refine aZ2 (iI fun wE eH=>?_)
      have vV:=dP (eP HG.out eH);clear p1 p2 pg pe eH c2;go_wp2;go_roundw
      case rel=>exact⟨k+1,by omega,by go_num,HN,vV.out⟩
      case measure=>simp[ba4];omega
     ·have e1:decide (x<=y)=aB:=by simpa using hxy
      have e2:x<=y:=by omega
      have HN:=jY.out hxy
      have HFin:aG (kR m.rows n (60-m.dR.length) m.dR=s):=by
       rw[aG,hS.out,HQ.out];obtain⟨f,hf⟩:∃ f,60-q=f+1:=⟨60-q-1,by have:=HQ.out;omega⟩
       rw[hf,kR,HQ.out,HN]
       rfl
      clear HY jY hxy HN;go_wp2_with fail
      refine jf ?_;repeat (go_big_quiet_step ((first|rfl)))
      refine aZ2 (iI fun wE eH=>?_)
      have O8:aG (Mw w wE B o { m with dR:=s } fp g off c):=(HM.out.step HG.out).step eH
      clear p1 p2 pg pe eH c2;go_wp2
      (try simp only[aY3,Exit.then])
      refine aY1 (results_none rfl _ _ _) rfl ?_;rw[HFin.out];exact⟨rfl,O8.out.mk' HC9.out rfl⟩
    ·have j1:¬ ((k:Int)<m.rows.length):=by omega
     have HY:aG (nS m.rows n q=aB):=LZ (fun j hj=>by rw[hy.out,hz.out];exact HA.out j (by omega))
     have HS2:aG (kR m.rows n (60-m.dR.length) m.dR=kR m.rows n (60-(s++[(s.length:Int)]).length) (s++[(s.length:Int)])):=by
      rw[aG,hS.out,HQ.out,dB,HQ.out];obtain⟨f,hf⟩:∃ f,60-q=f+1:=⟨60-q-1,by have:=HQ.out;omega⟩
      rw[hf,kR,HQ.out,HY.out,if_pos rfl,show 60-(q+[((q:Nat):Int)].length)=f by simp;omega]
     have HFs:aG (Fits (s++[(s.length:Int)])):=fun x hx=>by
      rcases List.mem_append.1 hx with h|h
      ·exact hfs x h
      ·simp at h;omega
     have CB:aG ((s++[(s.length:Int)]).length=s.length+1):=by rw[aG,dB];rfl
     obtain⟨u,f,hu,hfz,how,xQ,hset⟩:=M1.LD (j:=3) (cl:=gQ s) rfl (by omega)
     obtain⟨ya,yc,rfl,hA⟩:=pO (s.length:Int) how (by omega)
     have HS:=dP hset;clear hset how xQ M1 hgr c1 tm td;go_wp2_with (at_builtin;refine fJ (by rfl) _ _ _ _ (by rfl) _ _ (by rfl) (by rfl) hA ⟨rfl,rfl,rfl,rfl⟩ ?_;rintro v1 w1 ⟨a1,e1,f1,rfl,q1,q2,q3⟩;obtain⟨z1,z2,M2⟩:=HS.out w1 _ _ f1 { m with dR:=s++[(s.length:Int)] } rfl rfl q3 q1 q2;have ji:aG (Mw w (w1.setCell ⟨B,o+3,ak⟩ (aj a1 (s.length+1) e1)) B o { m with dR:=s++[(s.length:Int)] } fp g off c):=M2;clear M2 q1 q2 q3 hA HS)
     generalize w1.setCell ⟨B,o+3,ak⟩ (aj a1 (s.length+1) e1)=V9 at *;clear z1 z2 hu hfz
     go_roundg (gk-1)
     case measure=>omega
     case rel=>exact⟨s++[(s.length:Int)],by rw[CB.out];omega,by rw[CB.out];omega,HFs.out,HS2,ji.out⟩
  ·have k1:¬ ((s.length:Int)<60):=by omega
   have HFin:aG (kR m.rows n (60-m.dR.length) m.dR=s):=by
    rw[aG,hS.out,show 60-s.length=0 by omega]
    rfl
   clear M hms c0 c1 c2 c4;go_wp2;go_end0;rw[HFin.out];exact⟨rfl,HM.out.mk' HC9.out rfl⟩
theorem wU {X: aI} {x: Option ba5} {xs: List Int} (hv:Vec X x xs.length xs) (hl:xs.length<=1000000) :
  ∀ Z,Same Z (X.alloc (aH #[] 2))->∃ v' w4,(Builtin.append_ #[41,41] 41 #[aj (au ⟨X.heap.size,0,ak⟩) 0 0,aj x xs.length c]).run aZ8 Z=.ok v' w4/\∃ a' c' f',v'=aj a' xs.length c'/\eF.ow w4 (gQ xs) v' f'/\(∀ b,f' b->X.heap.size<=b)/\Below X.heap.size X w4:=by
 intro Z hZ;obtain⟨i0,hi0,hz0,hz1,hz2⟩:=ku Tryz.info2n;have nO:=(dX X _).trans (hZ.below.mono (dX X _).size);obtain⟨a6,c6,w6,LC,I9,Ja,hw6,D9⟩:=yg (P:=aZ8) (w:=Z) 41 41 2 i0 dK hi0 hz0 hz1 hz2 (kV X.heap.size 0) (x:=x) (c:=c) (hv.below nO (aZ0 _)) hl;exact⟨_,w6,I9,a6,c6,LC,rfl,Ja,fun b hb=>by have:=D9 b hb;have:=nO.size;omega,hw6.below nO nO.size (fun b h=>h.elim)⟩
theorem Xi (B o:Nat) (m:Mb) (i n F:Nat) (fp:Fp) (w:aI) (h:iO w B o (kC m) fp) (ok:iP m i n) (hF:F<n) (CG:F≠i) :
  ba3 aZ8 120 #[aO (au ⟨B,o,ak⟩),ah aA (F:Int)] w fun e w'=>e=aK (.tuple #[])/\Mk w w' B o { m with rows:=m.rows.set i (adopt m.rows i (dO m.rows i) F) } fp:=by
 have fU:=iq;have hil:i<m.rows.length:=by rw[ok.len];exact ok.lt
 have uH:F<m.rows.length:=by rw[ok.len];exact hF
 obtain⟨g,off,c,M0⟩:=Mw.start h (by omega)
 obtain⟨c0,c1,c4⟩:=M0.id';have c2:=M0.rws;rw[ok.hid] at c0;have i0:(0:Int)<=i:=by omega
 have i1:(i:Int)<m.rows.length:=by omega
 have F0:(0:Int)<=F:=by omega
 have F1:(F:Int)<m.rows.length:=by omega
 have p0:∀ q:Bk w,q.w.cell? ⟨B,o,ak⟩=_:=fun q=>fM q.h c0
 have p2:∀ q:Bk w,q.w.cell? ⟨B,o+2,ak⟩=_:=fun q=>fM q.h c2
 have HC2:=dP M0.rws;have kU:=dP M0;have hr:=ok.ok i ok.lt;have hrF:=ok.ok F hF;have jy:=hr.n5;clear c0 c1 c4 c2 M0 h;go_enter Tryz.func120,Tryz.ntmps120
 go_wp2_with fail
 refine jf ?_;repeat (go_big_quiet_step ((first|rfl)))
 refine aZ2 (iI fun wE eH=>?_)
 clear p0 p2;have fZ:=dP (kU.out.step eH);have c2:=fZ.out.rws;obtain⟨AF,O4,hRS⟩:=fZ.out.row ok.fit uH;have aB5:aG (RV wE g (off+F*8) AF (dO m.rows F)):=⟨O4,hRS⟩;obtain⟨⟨d0,d1,d2,d3⟩,d4,d5,d6,d7⟩:=O4;clear eH kU;go_upto_region 1 with fail
 go_upto_region 2 with fail
 have hb5:=dX wE (aH #[ah aA (dO m.rows F).ver,aj AF.ta (dO m.rows F).txt.length AF.tc,aj AF.ga (dO m.rows F).got.length AF.gc,aj AF.sa (dO m.rows F).dQ.length AF.sc,aF (dO m.rows F).wed,aF (dO m.rows F).dV,ah aA (dO m.rows F).dW,aj AF.ma (dO m.rows F).dU.length AF.mc] 44);have hx5:=Bx.new wE 44 #[ah aA (dO m.rows F).ver,aj AF.ta (dO m.rows F).txt.length AF.tc,aj AF.ga (dO m.rows F).got.length AF.gc,aj AF.sa (dO m.rows F).dQ.length AF.sc,aF (dO m.rows F).wed,aF (dO m.rows F).dV,ah aA (dO m.rows F).dW,aj AF.ma (dO m.rows F).dU.length AF.mc];generalize wE.alloc (aH #[ah aA (dO m.rows F).ver,aj AF.ta (dO m.rows F).txt.length AF.tc,aj AF.ga (dO m.rows F).got.length AF.gc,aj AF.sa (dO m.rows F).dQ.length AF.sc,aF (dO m.rows F).wed,aF (dO m.rows F).dV,ah aA (dO m.rows F).dW,aj AF.ma (dO m.rows F).dU.length AF.mc] 44)=W5 at *;have M5:=fZ.out.step hb5;have aM9:=trivial;have qZ:=dP hb5;have iM:=dP M5;have aB6:=dP (aB5.out.below hb5);have ZY:=aB6.out.2;have GK:=dP hx5;obtain⟨⟨x0,x1,x2,x3⟩,x4,x5,x6,x7⟩:=Bx.r8 hx5;obtain⟨e0,e1,e4⟩:=M5.id';rw[ok.hid] at e0;obtain⟨Ao,⟨⟨o0,o1,o2,o3⟩,o4,o5,o6,o7⟩,_⟩:=M5.row ok.fit hil;have T:∀ {x v},W5.cell? x=au v->∀ q:Bk W5,q.w.cell? x=au v:=fun h q=>fM q.h h
 have p0:=T e0;have yO:=T x3;have CJ:=T x5;have Jq:=T x6;have O9:=T o5;have po6:=T o6;have C2:∀ q:Bk W5,ba3 aZ8 113 #[aj AF.sa (dO m.rows F).dQ.length AF.sc,ah aA (i:Int)] q.w fun e w'=>e=aK (aF (decide ((i:Int)∈(dO m.rows F).dQ)))/\Below q.w.heap.size q.w w':=fun q=>(qW AF.sa (dO m.rows F).dQ.length AF.sc (i:Int) (dO m.rows F).dQ q.w (ZY.dQ.below q.h (aZ0 _)) ZY.ms).mono (fun e w' h=>⟨h.1,by rw[h.2];exact aZ5 _ _⟩)
 have HD:aG (∀ b:Bool,b=decide ((dO m.rows F).dV=aB/\(dO m.rows F).dW=(F:Int)/\(i:Int)∉(dO m.rows F).dQ/\¬ ((dO m.rows i).dV=aB/\(F:Int)<=(dO m.rows i).dW))->adopt m.rows i (dO m.rows i) F=if b=aB then { dO m.rows i with dV:=aB,dW:=(F:Int),dU:=(dO m.rows F).dU } else dO m.rows i):=fun b hb=>by
  rw[adopt,hb];simp only[decide_eq_true_eq]
 have HDD:aG (decide ((dO m.rows F).dV=aB/\(dO m.rows F).dW=(F:Int)/\(i:Int)∉(dO m.rows F).dQ/\¬ ((dO m.rows i).dV=aB/\(F:Int)<=(dO m.rows i).dW))=decide ((dO m.rows F).dV=aB/\(dO m.rows F).dW=(F:Int)/\(i:Int)∉(dO m.rows F).dQ/\¬ ((dO m.rows i).dV=aB/\(F:Int)<=(dO m.rows i).dW))):=rfl;obtain⟨d,hd⟩:∃ d:Bool,aG (d=decide ((dO m.rows F).dV=aB/\(dO m.rows F).dW=(F:Int)/\(i:Int)∉(dO m.rows F).dQ/\¬ ((dO m.rows i).dV=aB/\(F:Int)<=(dO m.rows i).dW))):=⟨_,rfl⟩;have HA:=HD.out d hd.out;have HAd:=dP HA;clear HDD HD HA M5 ZY hx5 e0 e1 e4 x0 x1 x2 x3 x4 x5 x6 x7 o0 o1 o2 o3 o4 o5 o6 o7 T d0 d1 d2 d3 d4 d5 d6 d7 c2 hRS aB5 aM9 hb5
 go_cut [53] from 22 to 53 (fun v X=>v=aF (!d)/\Below W5.heap.size W5 X)
 case first =>
  by_cases a1:(dO m.rows F).dV=aB;rotate_left
  ·have a1':(dO m.rows F).dV=aC:=by simpa using a1
   have hd0:aG (d=aC):=by rw[aG,hd.out];simp[a1']
   rw[a1'] at CJ;clear a1 a1';refine jf ?_;repeat (go_big_quiet_step ((first|(go_at_call 113;exact eY _ (C2 _))|rfl)))
   refine aZ2 (iI fun wE eH=>?_)
   try go_wp2_with fail
   go_meet
   case rel=>exact⟨by rw[hd0.out];rfl,eH⟩
  rw[a1] at CJ;by_cases a2:(dO m.rows F).dW=(F:Int);rotate_left
  ·have hd0:aG (d=aC):=by rw[aG,hd.out];simp[a2]
   have g2:((dO m.rows F).dW != (F:Int))=aB:=by simpa using a2
   clear a1 a2;refine jf ?_;repeat (go_big_quiet_step ((first|(go_at_call 113;exact eY _ (C2 _))|rfl)))
   refine aZ2 (iI fun wE eH=>?_)
   try go_wp2_with fail
   go_meet
   case rel=>exact⟨by rw[hd0.out];rfl,eH⟩
  have g2:((dO m.rows F).dW != (F:Int))=aC:=by simpa using a2
  by_cases a3:(i:Int)∈(dO m.rows F).dQ
  ·have hd0:aG (d=aC):=by rw[aG,hd.out];simp[a3]
   rw[decide_eq_true a3] at C2;clear a1 a2 a3;refine jf ?_;repeat (go_big_quiet_step ((first|(go_at_call 113;exact eY _ (C2 _))|rfl)))
   refine aZ2 (iI fun wE eH=>?_)
   try go_wp2_with fail
   go_meet
   case rel=>exact⟨by rw[hd0.out];rfl,eH⟩
  rw[decide_eq_false a3] at C2;by_cases a4:(dO m.rows i).dV=aB;rotate_left
  ·have a4':(dO m.rows i).dV=aC:=by simpa using a4
   have hd0:aG (d=aB):=by rw[aG,hd.out];simp[a1,a2,a3,a4']
   rw[a4'] at O9;clear a1 a2 a3 a4 a4';refine jf ?_;repeat (go_big_quiet_step ((first|(go_at_call 113;exact eY _ (C2 _))|rfl)))
   refine aZ2 (iI fun wE eH=>?_)
   try go_wp2_with fail
   go_meet
   case rel=>exact⟨by rw[hd0.out];rfl,eH⟩
  rw[a4] at O9;by_cases a5:(F:Int)<=(dO m.rows i).dW
  ·have hd0:aG (d=aC):=by rw[aG,hd.out];simp[a4,a5]
   have g5:decide ((F:Int)<=(dO m.rows i).dW)=aB:=by simpa using a5
   clear a1 a2 a3 a4;refine jf ?_;repeat (go_big_quiet_step ((first|(go_at_call 113;exact eY _ (C2 _))|rfl)))
   refine aZ2 (iI fun wE eH=>?_)
   try go_wp2_with fail
   go_meet
   case rel=>exact⟨by rw[hd0.out];rfl,eH⟩
  have hd0:aG (d=aB):=by rw[aG,hd.out];simp[a1,a2,a3];omega
  have g5:decide ((F:Int)<=(dO m.rows i).dW)=aC:=by simpa using a5
  clear a1 a2 a3 a4;refine jf ?_;repeat (go_big_quiet_step ((first|(go_at_call 113;exact eY _ (C2 _))|rfl)))
  refine aZ2 (iI fun wE eH=>?_)
  try go_wp2_with fail
  go_meet
  case rel=>exact⟨by rw[hd0.out];rfl,eH⟩
 case rest =>
  obtain⟨rfl,hBc⟩:=hcut;generalize wc=V at *;have M6:=iM.out.step hBc;have jX:=dP M6;have Ii:=aB6.out.below hBc;have Jr:=GK.out.below hBc;clear p0 yO CJ Jq O9 po6 C2
  cases d with
  | false =>
   have HE:aG (adopt m.rows i (dO m.rows i) F=dO m.rows i):=by rw[aG,HAd.out];rfl
   have HE2:aG (({ m with rows:=m.rows.set i (dO m.rows i) }:Mb)=m):=by rw[aG,pK (iZ hil)]
   clear M6 Ii Jr hBc;go_wp2
   (try simp only[aY3,Exit.then])
   refine aY1 (results_none rfl _ _ _) rfl ?_;rw[HE.out,HE2.out];exact⟨rfl,jX.out.mk' HC2.out rfl⟩
  | true =>
   have HE:aG (adopt m.rows i (dO m.rows i) F={ dO m.rows i with dV:=aB,dW:=(F:Int),dU:=(dO m.rows F).dU }):=by rw[aG,HAd.out];rfl
   obtain⟨jE,f1,f2,_,M7,f4⟩:=fZ.out.sub (eP qZ.out hBc);have hself:dO m.rows i=dO m.rows i:=rfl;obtain⟨_,_,q1,q2,⟨rfl,_⟩,_,q4⟩:=M7.atO hil uH CG hrF.fit Ii (j:=5) (cl:=.v (aF (dO m.rows i).dV)) rfl;obtain⟨_,_,M8,O6⟩:=q4 V (.v (aF aB)) (aF aB) (fun _=>False) { dO m.rows i with dV:=aB } rfl (eU.refl _ _) ⟨rfl,fun _ h=>h⟩ (fun b hb=>hb.elim)
   have HX7:=dP Jr;have HF1:=dP f1;have HF2:=dP f2;have yP:=dP f4;have pV:=dP M8;have ZX:=dP O6;generalize wE.heap.size=bb at *;clear M6 M7 M8 O6 Ii Jr q4 f1 f2 f4 hBc;go_upto_region 4 with fail
   generalize V.setCell ⟨g,off+i*8+5,ak⟩ (aF aB)=V1 at *;clear q1 q2;generalize hr1:({ dO m.rows i with dV:=aB }:Rw)=r1 at *
   have hs1:dO (m.rows.set i r1) i=r1:=iW hil;have vH:i<(m.rows.set i r1).length:=by rw[aV3];exact hil
   have aN0:F<(m.rows.set i r1).length:=by rw[aV3];exact uH
   have U2:dO (m.rows.set i r1) F=dO m.rows F:=by rw[gB hil,if_neg CG]
   obtain⟨_,_,q1,q2,⟨rfl,_⟩,_,q4⟩:=pV.out.atO vH aN0 CG (by simp only[U2];exact hrF.fit) (A':=AF) (by simp only[U2];exact ZX.out) (j:=6) (cl:=.v (ah aA r1.dW)) (by simp only[hs1];rfl)
   obtain⟨_,_,M9,Z4⟩:=q4 V1 (.v (ah aA (F:Int))) (ah aA (F:Int)) (fun _=>False) { r1 with dW:=(F:Int) } (by simp only[hs1];rfl) (eU.refl _ _) ⟨rfl,fun _ h=>h⟩ (fun b hb=>hb.elim)
   simp only[U2,aY4] at M9 Z4;have jK:=dP M9;have aN1:=dP Z4;have HR1:=dP hr1;clear M9 Z4 q4 hs1 U2 hr1;go_upto_region 5 with fail
   generalize V1.setCell ⟨g,off+i*8+6,ak⟩ (ah aA (F:Int))=V2 at *;clear q1 q2;generalize hr2:({ r1 with dW:=(F:Int) }:Rw)=r2 at *
   have hs2:dO (m.rows.set i r2) i=r2:=iW hil;have uP:i<(m.rows.set i r2).length:=by rw[aV3];exact hil
   have GL:=jK.out.bx HX7.out (fun k=>by have:=HF1.out _ k;omega) (by have:=HF2.out;omega)
   have x7:=GL.at 7 rfl;have x7':=(GL.alloc (aH #[] 2)).at 7 rfl;simp only[List.getElem_toArray,List.getElem_cons_succ,List.getElem_cons_zero] at x7 x7';have hml:=hrF.ml;have hA:=wU (c:=AF.mc) aN1.out.2.dU (by omega)
   obtain⟨u,f,hu,hfz,how,xQ,hset⟩:=jK.out.at uP (j:=7) (cl:=gQ r2.dU) (by simp only[hs2];rfl)
   have HS:aG (∀ (X1:aI) (u':aJ) (f':Fp),Below V2.heap.size V2 X1->eF.ow X1 (gQ (dO m.rows F).dU) u' f'->(∀ b,f' b->V2.heap.size<=b)->X1.cell? ⟨g,off+i*8+7,ak⟩=au u/\X1.frozen? ⟨g,off+i*8+7,ak⟩=aC/\Mw V (X1.setCell ⟨g,off+i*8+7,ak⟩ u') B o { m with rows:=m.rows.set i { r2 with dU:=(dO m.rows F).dU } } jE g off c):=fun X1 u' f' h1 h2 h3=>by
    have:=hset X1 (gQ (dO m.rows F).dU) u' f' { r2 with dU:=(dO m.rows F).dU } (by simp only[hs2];rfl) (eU.of_below h1) h2 (fun b hb=>.inr (h3 b hb))
    simp only[aY4] at this;exact⟨this.1,this.2.1,this.2.2.1⟩
   have HFin:aG (({ r2 with dU:=(dO m.rows F).dU }:Rw)=adopt m.rows i (dO m.rows i) F):=by rw[aG,HE.out,<- hr2,<- HR1.out]
   clear hset how xQ hu hfz hs2 GL hr2;go_wp2_with (at_builtin;refine fJ (by rfl) _ _ _ _ (by rfl) _ _ (by rfl) (by rfl) hA ⟨rfl,rfl,rfl,rfl⟩ ?_;rintro v1 w1 ⟨a1,e1,f1,rfl,q1,q2,q3⟩;obtain⟨z1,z2,M10⟩:=HS.out w1 _ f1 q3 q1 q2;have wV:aG (Mw V (w1.setCell ⟨g,off+i*8+7,ak⟩ (aj a1 (dO m.rows F).dU.length e1)) B o { m with rows:=m.rows.set i { r2 with dU:=(dO m.rows F).dU } } jE g off c):=M10;clear M10 q1 q2 q3 hA HS)
   go_end0;rw[<- HFin.out];exact⟨rfl,(yP.out _ _ wV.out).mk' HC2.out (ni _)⟩
section
open Go.RowKit
theorem Js (a a':Option ba5) (len cap len' cap':Nat) (xs ys:List Int) (w:aI) (hv:Vec w a len xs) (hv':Vec w a' len' ys) (hm:len<=ba2) :
  ba3 aZ8 153 #[aj a len cap,aj a' len' cap'] w fun e w'=>e=aK (aF (decide (xs=ys)))/\∃ n,w'=w.drewN n:=by
 unfold ba2 at hm;obtain⟨hlen,_,hcs⟩:=hv;obtain⟨hlen',_,hcs'⟩:=hv';by_cases hl:len=len'
 ·have hne:((len:Int) != (len':Int))=aC:=by simp[hl]
  have HL:=dP hlen;have BZ:=dP hlen';have wG:=dP hl;have hle:(len:Int)<=len':=by omega
  clear hlen hlen' hl;by_cases h0:len=0
  ·have hx:xs=[]:=bI.1 (by rw[HL.out];exact h0)
   have hy:ys=[]:=bI.1 (by rw[BZ.out,<- wG.out];exact h0)
   subst h0 hx hy;clear hcs hcs';go_enter Tryz.func153,Tryz.ntmps153
   go_wp2
   go_loop [5] (fun i=>i=ah aA 0) (fun _=>0)
   case atStart=>rfl
   case round =>
    subst hrel;go_wp2;go_ret
    exact⟨rfl,0,rfl⟩
  ·rcases hcs with h|⟨b,off,rfl,hc⟩
   ·omega
   rcases hcs' with h|⟨b',off',rfl,hc'⟩
   ·have:=wG.out;omega
   go_enter Tryz.func153,Tryz.ntmps153
   go_wp2
   go_loopw [5] (fun i wr=>∃ k:Nat,k<=len/\i=ah aA k/\(∀ j,j<k->el xs j=el ys j)/\∃ n,wr=w.drewN n) (fun i _=>len-(ba4 i).toNat)
   case atStart=>exact⟨0,aZ1 _,rfl,fun j hj=>by omega,0,rfl⟩
   case round =>
    obtain⟨k,hk,rfl,hall,n,rfl⟩:=hrel;have HA:=dP hall;clear hall;by_cases hlt:k<len
    ·have hck:=hc k hlt
     have ay9:=hc' k (by have:=wG.out;omega)
     have hi1:(k:Int)<len:=by omega
     have hi2:(k:Int)<len':=by omega
     by_cases he:el xs k=el ys k
     ·have hd:(el xs k != el ys k)=aC:=by simp[he]
      have HX:=dP he;clear he;go_wp2_with fail
      go_quiet (fail)
      go_wp2;go_roundw
      case rel => exact ⟨k + 1,by omega,by go_num,fun j hj => by
       rcases bD.1 hj with h|h
       ·exact HA.out j h
       ·rw[h];exact HX.out,_,rfl⟩
      case measure=>simp[ba4];omega
     ·have hd:(el xs k != el ys k)=aB:=by simp[he]
      go_wp2_with fail
      go_quiet (fail)
      go_wp2;go_ret
      exact⟨dZ (by symm;rw[decide_eq_false_iff_not];intro h;exact he (by rw[h])),_,World.drewN_drewN _ _ _⟩
    ·go_wp2
     go_ret
     exact⟨dZ (by symm;rw[decide_eq_true_iff];exact Eu (by rw[HL.out,BZ.out,wG.out]) (fun j hj=>HA.out j (by rw[HL.out] at hj;omega))),_,rfl⟩
 ·have hne:((len:Int) != (len':Int))=aB:=by simp;omega
  go_enter Tryz.func153,Tryz.ntmps153
  go_wp2;go_ret
  exact⟨dZ (by symm;rw[decide_eq_false_iff_not];intro h;rw[h] at hlen;omega),0,rfl⟩
theorem yj (a a':Option ba5) (len cap len' cap':Nat) (xs ys:List Int) (w:aI) (hv:Vec w a len xs) (hv':Vec w a' len' ys) (hm:len<=ba2) :
  ba3 aZ8 176 #[aj a len cap,aj a' len' cap'] w fun e w'=>e=aK (aF (decide (xs=ys)))/\∃ n,w'=w.drewN n:=by
 unfold ba2 at hm;obtain⟨hlen,_,hcs⟩:=hv;obtain⟨hlen',_,hcs'⟩:=hv';by_cases hl:len=len'
 ·have hne:((len:Int) != (len':Int))=aC:=by simp[hl]
  have HL:=dP hlen;have BZ:=dP hlen';have wG:=dP hl;have hle:(len:Int)<=len':=by omega
  clear hlen hlen' hl;by_cases h0:len=0
  ·have hx:xs=[]:=bI.1 (by rw[HL.out];exact h0)
   have hy:ys=[]:=bI.1 (by rw[BZ.out,<- wG.out];exact h0)
   subst h0 hx hy;clear hcs hcs';go_enter Tryz.func176,Tryz.ntmps176
   go_wp2
   go_loop [13] (fun i=>i=ah aA 0) (fun _=>0)
   case atStart=>rfl
   case round =>
    subst hrel;go_wp2;go_ret
    exact⟨rfl,0,rfl⟩
  ·rcases hcs with h|⟨b,off,rfl,hc⟩
   ·omega
   rcases hcs' with h|⟨b',off',rfl,hc'⟩
   ·have:=wG.out;omega
   go_enter Tryz.func176,Tryz.ntmps176
   go_wp2
   go_loopw [13] (fun i wr=>∃ k:Nat,k<=len/\i=ah aA k/\(∀ j,j<k->el xs j=el ys j)/\∃ n,wr=w.drewN n) (fun i _=>len-(ba4 i).toNat)
   case atStart=>exact⟨0,aZ1 _,rfl,fun j hj=>by omega,0,rfl⟩
   case round =>
    obtain⟨k,hk,rfl,hall,n,rfl⟩:=hrel;have HA:=dP hall;clear hall;by_cases hlt:k<len
    ·have hck:=hc k hlt
     have ay9:=hc' k (by have:=wG.out;omega)
     have hi1:(k:Int)<len:=by omega
     have hi2:(k:Int)<len':=by omega
     by_cases he:el xs k=el ys k
     ·have hd:(el xs k != el ys k)=aC:=by simp[he]
      have HX:=dP he;clear he;go_wp2_with fail
      go_quiet (fail)
      go_wp2;go_roundw
      case rel => exact ⟨k + 1,by omega,by go_num,fun j hj => by
       rcases bD.1 hj with h|h
       ·exact HA.out j h
       ·rw[h];exact HX.out,_,rfl⟩
      case measure=>simp[ba4];omega
     ·have hd:(el xs k != el ys k)=aB:=by simp[he]
      go_wp2_with fail
      go_quiet (fail)
      go_wp2;go_ret
      exact⟨dZ (by symm;rw[decide_eq_false_iff_not];intro h;exact he (by rw[h])),_,World.drewN_drewN _ _ _⟩
    ·go_wp2
     go_ret
     exact⟨dZ (by symm;rw[decide_eq_true_iff];exact Eu (by rw[HL.out,BZ.out,wG.out]) (fun j hj=>HA.out j (by rw[HL.out] at hj;omega))),_,rfl⟩
 ·have hne:((len:Int) != (len':Int))=aB:=by simp;omega
  go_enter Tryz.func176,Tryz.ntmps176
  go_wp2;go_ret
  exact⟨dZ (by symm;rw[decide_eq_false_iff_not];intro h;rw[h] at hlen;omega),0,rfl⟩
end
theorem Z5 (A B:Ra) (r s:Rw) (w:aI) (hv:qJ w A r) (hu:qJ w B s) :
  ba3 aZ8 122 #[iK A r,iK B s] w fun e w'=>e=aK (aF (lD r s))/\Below w.heap.size w w':=by
 have hB0:Below w.heap.size w ((w.alloc (aH (fP A r) 44)).alloc (aH (fP B s) 44)):=(dX w _).trans ((dX _ _).mono (dX w _).size);have hx:Bx ((w.alloc (aH (fP A r) 44)).alloc (aH (fP B s) 44)) w.heap.size 44 (fP A r):=(Bx.new w _ _).alloc _
 have hy:Bx ((w.alloc (aH (fP A r) 44)).alloc (aH (fP B s) 44)) (w.heap.size+1) 44 (fP B s):=by
  have:=Bx.new (w.alloc (aH (fP A r) 44)) 44 (fP B s);simpa using this
 have KE:∀ X,Below w.heap.size w X->∀ (x y:Option ba5) (c d:Nat) (l k:List Int),Vec w x l.length l->Vec w y k.length k->l.length<=ba2->ba3 aZ8 153 #[aj x l.length c,aj y k.length d] X fun e w'=>e=aK (aF (decide (l=k)))/\Below X.heap.size X w':=fun X h x y c d l k h1 h2 h3=>(Js x y l.length c k.length d l k X (h1.below h (aZ0 _)) (h2.below h (aZ0 _)) h3).mono (fun e w' ⟨h4,n,h5⟩=>⟨h4,by rw[h5];exact fO (aZ5 _ _)⟩)
 obtain⟨ver,txt,got,dQ,wed,dV,dW,dU⟩:=r;obtain⟨aB7,txt',got',Pg,Pj,Pm,by',Pn⟩:=s
 obtain⟨ta,tc,ga,gc,sa,sc,ma,mc⟩:=A;obtain⟨ub,uc,vb,vc,xb,xc,yb,yc⟩:=B;unfold iK;unfold fP at *;simp only at *
 generalize rV:(w.alloc (aH #[ah aA ver,aj ta txt.length tc,aj ga got.length gc,aj sa dQ.length sc,aF wed,aF dV,ah aA dW,aj ma dU.length mc] 44)).alloc (aH #[ah aA aB7,aj ub txt'.length uc,aj vb got'.length vc,aj xb Pg.length xc,aF Pj,aF Pm,ah aA by',aj yb Pn.length yc] 44)=W at *
 have HX:=dP hx;have HY:=dP hy;have HB:=dP hB0;have hG:=fun X h=>KE X h ga vb gc vc got got' hv.got hu.got hv.mg
 have hS:=fun X h=>KE X h sa xb sc xc dQ Pg hv.dQ hu.dQ hv.ms
 have hM:=fun X h=>KE X h ma yb mc yc dU Pn hv.dU hu.dU hv.mm
 have HZ:aG (lD ⟨ver,txt,got,dQ,wed,dV,dW,dU⟩ ⟨aB7,txt',got',Pg,Pj,Pm,by',Pn⟩=((wed==Pj)&&((dV==Pm)&&((dW==by')&&(decide (got=got')&&(decide (dQ=Pg)&&decide (dU=Pn))))))):=by
  rw[aG,lD];simp only
  by_cases h1:wed=Pj<;>by_cases h2:dV=Pm<;>by_cases h3:dW=by'<;>simp[h1,h2,h3]
 obtain⟨⟨c0,c1,c2,c3⟩,c4,c5,c6,c7⟩:=Bx.r8 hx;obtain⟨⟨d0,d1,d2,d3⟩,d4,d5,d6,d7⟩:=Bx.r8 hy;clear hx hy KE hB0 hv hu
 cases e1:(wed==Pj) with
 | false =>
  rw[e1] at HZ;go_enter Tryz.func122,Tryz.ntmps122
  go_wp2;go_ret
  exact⟨dZ (by rw[HZ.out];rfl),HB.out⟩
 | true =>
 cases e2:(dV==Pm) with
 | false =>
  rw[e1,e2] at HZ;go_enter Tryz.func122,Tryz.ntmps122
  go_wp2;go_ret
  exact⟨dZ (by rw[HZ.out];rfl),HB.out⟩
 | true =>
 cases e3:(dW==by') with
 | false =>
  rw[e1,e2,e3] at HZ;go_enter Tryz.func122,Tryz.ntmps122
  go_wp2;go_ret
  exact⟨dZ (by rw[HZ.out];rfl),HB.out⟩
 | true =>
 rw[e1,e2,e3] at HZ;go_enter Tryz.func122,Tryz.ntmps122
 go_wp2_with fail
 refine (hG _ HB.out).mono ?_;rintro e w1 ⟨rfl,hb1⟩;have HB1:=dP (eP HB.out hb1);have hx1:=HX.out.below hb1;have hy1:=HY.out.below hb1;have qO:=dP hx1;have zn:=dP hy1;clear c0 c1 c2 c3 c4 c5 c6 c7 d0 d1 d2 d3 d4 d5 d6 d7 hG HX HY;obtain⟨⟨c0,c1,c2,c3⟩,c4,c5,c6,c7⟩:=Bx.r8 hx1;obtain⟨⟨d0,d1,d2,d3⟩,d4,d5,d6,d7⟩:=Bx.r8 hy1;clear hx1 hy1 hb1;generalize decide (got=got')=t1 at *
 cases t1 with
 | false =>
  go_wp2;go_ret
  exact⟨dZ (by rw[HZ.out];rfl),HB1.out⟩
 | true =>
 go_wp2_with fail
 refine (hS _ HB1.out).mono ?_;rintro e w2 ⟨rfl,hb2⟩;have HB2:=dP (eP HB1.out hb2);clear c0 c1 c2 c3 c4 c5 c6 c7 d0 d1 d2 d3 d4 d5 d6 d7 hS;obtain⟨⟨c0,c1,c2,c3⟩,c4,c5,c6,c7⟩:=Bx.r8 (qO.out.below hb2);obtain⟨⟨d0,d1,d2,d3⟩,d4,d5,d6,d7⟩:=Bx.r8 (zn.out.below hb2);clear hb2;generalize decide (dQ=Pg)=t2 at *
 cases t2 with
 | false =>
  go_wp2;go_ret
  exact⟨dZ (by rw[HZ.out];rfl),HB2.out⟩
 | true =>
 go_wp2_with fail
 refine (hM _ HB2.out).mono ?_;rintro e w3 ⟨rfl,hb3⟩;have HB3:=dP (eP HB2.out hb3);clear c0 c1 c2 c3 c4 c5 c6 c7 d0 d1 d2 d3 d4 d5 d6 d7 hM hb3;generalize decide (dU=Pn)=t3 at *
 cases t3 with
 | false =>
  go_wp2;go_ret
  exact⟨dZ (by rw[HZ.out];rfl),HB3.out⟩
 | true =>
  go_wp2;go_ret
  exact⟨dZ (by rw[HZ.out];rfl),HB3.out⟩
def NeB (a:Option ba5) (xs:List Int) (g:Nat):Prop:=xs=[]\/∀ x,a=au x->x.block≠g
structure tZ (w:aI) (a:Option ba5) (xs:List Int) (g:Nat):Prop where
 vec:Vec w a xs.length xs
 ne:NeB a xs g
theorem tZ.below {w w': aI} {a: Option ba5} {xs: List Int} {g: Nat} (h:tZ w a xs g) (hb:Below w.heap.size w w'):tZ w' a xs g:=⟨h.vec.below hb (aZ0 _),h.ne⟩
theorem tZ.set {w: aI} {a: Option ba5} {xs: List Int} {g: Nat} (h:tZ w a xs g) (j:Nat) (v:aJ):tZ (w.setCell ⟨g,j,ak⟩ v) a xs g:=by
 refine⟨⟨h.vec.1,h.vec.2.1, ?_⟩,h.ne⟩;rcases h.vec.2.2 with h0|⟨b,off,ha,hc⟩
 ·exact .inl h0
 ·rcases h.ne with h1|h1
  ·exact .inl (by rw[h1];rfl)
  ·refine .inr ⟨b,off,ha,fun i hi=>?_⟩
   have:b≠g:=h1 _ ha;rw[bg _ _ _ _ (by simp only[ne_eq,aX6,not_and];intro e;exact absurd e.symm this)]
   exact hc i hi
theorem U3 {w: aI} {a: Option ba5} {xs: List Int} {g: Nat} (h:eF.ow w (gQ xs) (aj a xs.length c) f) (hg:¬ f g):NeB a xs g:=by
 obtain⟨a',c',G,e,ho,hf⟩:=jv.1 h
 cases e
 rcases ho.oi with ⟨h1,_⟩|⟨b,off,rfl,_,rfl⟩
 ·exact .inl h1
 ·refine .inr (fun x hx e=>?_)
  cases hx
  exact hg ((hf g).2 (by rw[<- e]))
theorem Mw.Po {w X: aI} {o: Nat} {m: Mb} {fp: Fp} {g: Nat} (h:Mw w X B o m fp g off c) (hf:nY m) (hk:k<m.rows.length):∃ Ak:Ra,RV X g (off+k*8) Ak (dO m.rows k)/\tZ X Ak.ga (dO m.rows k).got g/\tZ X Ak.ma (dO m.rows k).dU g:=by
 obtain⟨gI,hp,hf1,hgo⟩:=h.iw.next;obtain⟨g',off',c',f,h1,hgB,hfg,hfs,⟨vs,hpc,hov,Ae⟩,hput⟩:=hp.el (F:=jr) jW (by omega) (j:=2) (L:=m.rows) rfl (iZ hk)
 have e:=aV4 (h1.symm.trans h.rws)
 cases e
 have hfr:=hf.1 _ (bW (iZ hk));obtain⟨A,rfl,hl⟩:=wQ hov;have LX:=E8.rv ⟨hpc,hov,Ae⟩ rfl hfr;obtain⟨u1,vU,f1,g1,e1,o1,h2,d1,i1⟩:=hl
 cases e1
 obtain⟨u2,xu,f2,g2,e2,o2,h3,d2,i2⟩:=h2
 cases e2
 obtain⟨u3,EJ,f3,g3,e3,o3,h4,d3,i3⟩:=h3
 cases e3
 obtain⟨u4,Oq,f4,g4,e4,o4,h5,d4,i4⟩:=h4
 cases e4
 refine⟨A,LX,⟨LX.2.got,U3 o2 (fun k=>Ae ((i1 g).2 (.inr ((i2 g).2 (.inl k)))))⟩,LX.2.dU,U3 o4 (fun k=>Ae ((i1 g).2 (.inr ((i2 g).2 (.inr ((i3 g).2 (.inr ((i4 g).2 (.inl k)))))))))⟩
theorem Rh {o: Rw} (hk:k<L.length):kX R o (L.take (k+1))=(kX R o (L.take k)&&((dO R (L.getD k 0)).wed&&o.dQ.all (fun x=>decide (x∈(dO R (L.getD k 0)).dQ)))):=by
 have e:L.getD k 0=L[k]:=by simp[ba0,hk]
 unfold kX;rw[aS hk,List.all_append,e];simp
theorem Xj {o: Rw} (hk:k<L.length) (h:((dO R (L.getD k 0)).wed&&o.dQ.all (fun x=>decide (x∈(dO R (L.getD k 0)).dQ)))=aC):kX R o L=aC:=by
 rw[kX,dN];exact⟨L.getD k 0,mW hk,by simp only[h];decide⟩
theorem Xk {a: Int×List Int} (hk:k<L.length):best R (L.take (k+1)) a=if (dO R (L.getD k 0)).dV=aB/\(best R (L.take k) a).1<(dO R (L.getD k 0)).dW then ((dO R (L.getD k 0)).dW,(dO R (L.getD k 0)).dU) else best R (L.take k) a:=by
 have e:L.getD k 0=L[k]:=by simp[ba0,hk]
 unfold best;rw[aS hk,aT7,e]
 rfl
def yw (R:List Rw) (L:List Nat) (k:Nat):List Int:=meets R (L.take k)
theorem Xl (hk:0<L.length):yw R L 1=(dO R (L.getD 0 0)).got:=by
 cases L with
 | nil=>simp at hk
 | cons x t=>rfl
theorem U4 (h0:0<k) (hk:k<L.length):yw R L (k+1)=je min (yw R L k) (dO R (L.getD k 0)).got:=by
 have e:L.getD k 0=L[k]:=by simp[ba0,hk]
 cases L with
 | nil=>simp at hk
 | cons x t =>
  obtain⟨q,rfl⟩:∃ q,k=q+1:=⟨k-1,by omega⟩
  unfold yw;rw[dA,dA,e];have hq:q<t.length:=by simpa using hk
  rw[aS hq];simp only[meets,aT7,aV6,List.foldl_nil,List.getElem_cons_succ]
theorem Pq {R:List Rw} {n:Nat}:∀ {t:List Nat} {acc:List Int},(acc.length<=8\/acc.length<=n)->(t.foldl (fun acc j=>je min acc (dO R j).got) acc).length<=8\/(t.foldl (fun acc j=>je min acc (dO R j).got) acc).length<=n
 | [],acc,h=>h
 | x::t,acc,h=>Pq (t:=t) (.inl (VR _ _ _))
theorem Xm {x: Nat} {t: List Nat} (h:∀ j∈x::t,(dO R j).got.length=n):(meets R (x::t)).length<=8\/(meets R (x::t)).length<=n:=Pq (.inr (by rw[h x dD];exact aZ0 _))
theorem Xn:yw R L L.length=meets R L:=by rw[yw,aV2]
theorem Xo (B o:Nat) (m:Mb) (i n:Nat) (L:List Nat) (la:Option ba5) (lc:Nat) (fl fp:Fp) (w:aI) (h:iO w B o (kC m) fp) (ok:iP m i n) (hw:(dO m.rows i).wed=aB) (hl:eF.ow w (gQ (lN L)) (aj la L.length lc) fl) (hfl:∀ b,fl b->¬ fp b/\b≠B) (hL:∀ k∈L,k<n) (hne:0<L.length) (hLn:L.length<=n) :
  ba3 aZ8 119 #[aO (au ⟨B,o,ak⟩),aj la L.length lc] w fun e w'=>e=aK (.tuple #[])/\Mk w w' B o { m with rows:=m.rows.set i (lead m.rows i (dO m.rows i) L) } fp:=by
 have fU:=iq;have hil:i<m.rows.length:=by rw[ok.len];exact ok.lt
 obtain⟨g,off,c,M0⟩:=Mw.start h (by omega)
 obtain⟨c0,c1,c4⟩:=M0.id';have c2:=M0.rws;rw[ok.hid] at c0;have i0:(0:Int)<=i:=by omega
 have i1:(i:Int)<m.rows.length:=by omega
 have p0:∀ q:Bk w,q.w.cell? ⟨B,o,ak⟩=_:=fun q=>fM q.h c0
 have p2:∀ q:Bk w,q.w.cell? ⟨B,o+2,ak⟩=_:=fun q=>fM q.h c2
 have HC2:=dP M0.rws;have kU:=dP M0;have hr:=ok.ok i ok.lt;have jy:=hr.n5;have HNO:aG (({ m with rows:=m.rows.set i (dO m.rows i) }:Mb)=m):=by rw[aG,pK (iZ hil)]
 have GN:aG (∀ X,Below w.heap.size w X->Vec X la (lN L).length (lN L)):=fun X hX=>mV (by rw[jq];exact eF.gK hl hX) (xP hL (by omega))
 have HL:=dP hL;clear c0 c1 c4 c2 M0 h hl hL;go_enter Tryz.func119,Tryz.ntmps119
 go_wp2_with fail
 refine jf ?_;repeat (go_big_quiet_step ((first|rfl)))
 refine aZ2 (iI fun wE eH=>?_)
 clear p0 p2;have fZ:=dP (kU.out.step eH);have HB1:=dP eH;obtain⟨c0,c1,c4⟩:=fZ.out.id';rw[ok.hid] at c0;obtain⟨Ao,⟨⟨o0,o1,o2,o3⟩,o4,o5,o6,o7⟩,_⟩:=fZ.out.row ok.fit hil;have T:∀ {x v},wE.cell? x=au v->∀ q:Bk wE,q.w.cell? x=au v:=fun h q=>fM q.h h
 have p0:=T c0;have O9:=T o5;have po6:=T o6;obtain⟨d,hd⟩:∃ d:Bool,aG (d=decide ((dO m.rows i).dV=aB/\(i:Int)<=(dO m.rows i).dW)):=⟨_,rfl⟩
 have OV:aG (lead m.rows i (dO m.rows i) L=if d=aB then dO m.rows i else if kX m.rows (dO m.rows i) L=aB then { dO m.rows i with dV:=aB,dW:=(i:Int),dU:=endOf m.rows L } else dO m.rows i):=by
  rw[aG,lead,hd.out];simp only[decide_eq_true_eq]
 clear c0 c1 c4 o0 o1 o2 o3 o4 o5 o6 o7 T eH kU;go_upto_region 1 with fail
 go_cut [33] from 19 to 33 (fun v X=>v=aF d/\Below wE.heap.size wE X)
 case first =>
  by_cases a1:(dO m.rows i).dV=aB;rotate_left
  ·have a1':(dO m.rows i).dV=aC:=by simpa using a1
   have hd0:aG (d=aC):=by rw[aG,hd.out];simp[a1']
   rw[a1'] at O9;clear a1 a1';refine jf ?_;repeat (go_big_quiet_step ((first|rfl)))
   refine aZ2 (iI fun wE eH=>?_)
   try go_wp2_with fail
   go_meet
   case rel=>exact⟨by rw[hd0.out],eH⟩
  rw[a1] at O9;by_cases a5:(i:Int)<=(dO m.rows i).dW
  ·have hd0:aG (d=aB):=by rw[aG,hd.out];simp[a1,a5]
   have g5:decide ((i:Int)<=(dO m.rows i).dW)=aB:=by simpa using a5
   clear a1;refine jf ?_;repeat (go_big_quiet_step ((first|rfl)))
   refine aZ2 (iI fun wE eH=>?_)
   try go_wp2_with fail
   go_meet
   case rel=>exact⟨by rw[hd0.out],eH⟩
  have hd0:aG (d=aC):=by rw[aG,hd.out];simp;intro _;omega
  have g5:decide ((i:Int)<=(dO m.rows i).dW)=aC:=by simpa using a5
  clear a1;refine jf ?_;repeat (go_big_quiet_step ((first|rfl)))
  refine aZ2 (iI fun wE eH=>?_)
  try go_wp2_with fail
  go_meet
  case rel=>exact⟨by rw[hd0.out],eH⟩
 case rest =>
  obtain⟨rfl,hBc⟩:=hcut;clear p0 O9 po6;have ji:=dP (fZ.out.step hBc);have HB2:=dP (eP HB1.out hBc);clear hBc;generalize wc=V at *
  cases d with
  | true =>
   have HE:aG (lead m.rows i (dO m.rows i) L=dO m.rows i):=by rw[aG,OV.out];rfl
   go_wp2
   (try simp only[aY3,Exit.then])
   refine aY1 (results_none rfl _ _ _) rfl ?_;rw[HE.out,HNO.out];exact⟨rfl,ji.out.mk' HC2.out rfl⟩
  | false =>
   have HE:aG (lead m.rows i (dO m.rows i) L=if kX m.rows (dO m.rows i) L=aB then { dO m.rows i with dV:=aB,dW:=(i:Int),dU:=endOf m.rows L } else dO m.rows i):=by rw[aG,OV.out];rfl
   have hba:=dX V (aH #[] 2);have lT:=dP (ji.out.step hba);have HB3:=dP (eP HB2.out hba)
   have hgV:g<V.heap.size:=by
    obtain⟨gI,hp,_⟩:=ji.out.iw.next;obtain⟨g',off',c',f,h1,_,hfg,_⟩:=hp.el (F:=jr) jW (by omega) (j:=2) (L:=m.rows) rfl (iZ hil)
    have e:=aV4 (h1.symm.trans ji.out.rws)
    cases e
    exact hp.flt _ hfg
   clear hba OV;go_wp2_with fail
   generalize Xp:V.alloc (aH #[] 2)=V3 at *;clear Xp
   go_loopw [5,6,7] (fun b tr v wr=>∃ (k:Nat) (x:Int) (ta:Option ba5) (tc:Nat) (T:List Int),k<=L.length/\v=ah aA (k:Int)/\b=ah aA x/\tr=aj ta T.length tc/\aG (best m.rows (L.take k) (-1,[])=(x,T))/\aG (kX m.rows (dO m.rows i) (L.take k)=aB)/\tZ wr ta T g/\Below w.heap.size w wr/\Mw w wr B o m fp g off c) (fun _ _ v _=>L.length-(ba4 v).toNat)
   case atStart=>exact⟨0,-1,some ⟨V.heap.size,0,none⟩,0,[],aZ1 _,rfl,rfl,rfl,rfl,rfl,⟨⟨rfl,fun x hx=>absurd hx List.not_mem_nil,.inl rfl⟩,.inl rfl⟩,HB3.out,lT.out⟩
   case round =>
    obtain⟨k,x,ta,tc,T,hk,rfl,rfl,rfl,GR,hLo,hV,hBw,M⟩:=hrel;by_cases hlt:k<L.length
    ·have qQ:L.getD k 0<n:=HL.out _ (mW hlt)
     have uI:L.getD k 0<m.rows.length:=by rw[ok.len];exact qQ
     have rX:=GN.out wr hBw;rcases rX.2.2 with hz|⟨lb,lo,hla,hlc⟩
     ·rw[jq] at hz;omega
     have hlk:=hlc k (by rw[jq];exact hlt)
     rw[wR hlt] at hlk;obtain⟨AJ,Au,SE,SG⟩:=M.Po ok.fit uI;have HBt:aG (best m.rows (L.take (k+1)) (-1,[])=if (dO m.rows (L.getD k 0)).dV=aB/\x<(dO m.rows (L.getD k 0)).dW then ((dO m.rows (L.getD k 0)).dW,(dO m.rows (L.getD k 0)).dU) else (x,T)):=by rw[aG,Xk hlt,GR.out]
     have HLt:aG (kX m.rows (dO m.rows i) (L.take (k+1))=((dO m.rows (L.getD k 0)).wed&&(dO m.rows i).dQ.all (fun x=>decide (x∈(dO m.rows (L.getD k 0)).dQ)))):=by rw[aG,Rh hlt,hLo.out];rfl
     have aN2:aG (((dO m.rows (L.getD k 0)).wed&&(dO m.rows i).dQ.all (fun x=>decide (x∈(dO m.rows (L.getD k 0)).dQ)))=aC->kX m.rows (dO m.rows i) L=aC):=fun h=>Xj hlt h
     have aB8:=ok.ok _ qQ;generalize L.getD k 0=J at *;obtain⟨Ao,⟨⟨o0,o1,o2,o3⟩,o4,o5,o6,o7⟩,U5⟩:=M.row ok.fit hil;have k1:(k:Int)<L.length:=by omega
     have k0:(0:Int)<=k:=by omega
     have J0:(0:Int)<=J:=by omega
     have J1:(J:Int)<m.rows.length:=by omega
     have oq:=M.rws;obtain⟨⟨⟨d0,d1,d2,d3⟩,d4,d5,d6,d7⟩,Aw⟩:=Au;have Ij:=dP Aw;have U6:=dP U5;have HO3:=dP o3;have HM:=dP M;have mZ:=dP hBw;have HV:=dP hV;have HVm:=dP SG;generalize hrr:dO m.rows J=r at *;have HRR:=dP hrr
     have KS:∀ X,Below wr.heap.size wr X->(X.cell? ⟨B,o+2,ak⟩=au (aj (au ⟨g,off,ak⟩) m.rows.length c)/\X.cell? ⟨lb,lo+k,ak⟩=au (ah aA (J:Int))/\X.cell? ⟨g,off+J*8,ak⟩=au (ah aA r.ver)/\X.cell? ⟨g,off+J*8+1,ak⟩=au (aj AJ.ta r.txt.length AJ.tc)/\X.cell? ⟨g,off+J*8+2,ak⟩=au (aj AJ.ga r.got.length AJ.gc)/\X.cell? ⟨g,off+J*8+3,ak⟩=au (aj AJ.sa r.dQ.length AJ.sc)/\X.cell? ⟨g,off+J*8+4,ak⟩=au (aF r.wed)/\X.cell? ⟨g,off+J*8+5,ak⟩=au (aF r.dV)/\X.cell? ⟨g,off+J*8+6,ak⟩=au (ah aA r.dW)/\X.cell? ⟨g,off+J*8+7,ak⟩=au (aj AJ.ma r.dU.length AJ.mc)):=fun X hX=>by
      have t:∀ {x v},wr.cell? x=au v->X.cell? x=au v:=fun h=>fM hX h
      exact⟨t oq,t hlk,t d0,t d1,t d2,t d3,t d4,t d5,t d6,t d7⟩
     have hbd:=(Same.drewN wr 1).below;clear hrr M Aw U5 hlc hlk oq d0 d1 d2 d3 d4 d5 d6 d7 o0 o1 o2 o3 o4 o5 o6 o7 hV SG SE hBw rX;subst hla;go_wp2_with fail
     refine lG (S:=fun X:aI=>X.cell? ⟨B,o+2,ak⟩=au (aj (au ⟨g,off,ak⟩) m.rows.length c)/\X.cell? ⟨lb,lo+k,ak⟩=au (ah aA (J:Int))/\X.cell? ⟨g,off+J*8,ak⟩=au (ah aA r.ver)/\X.cell? ⟨g,off+J*8+1,ak⟩=au (aj AJ.ta r.txt.length AJ.tc)/\X.cell? ⟨g,off+J*8+2,ak⟩=au (aj AJ.ga r.got.length AJ.gc)/\X.cell? ⟨g,off+J*8+3,ak⟩=au (aj AJ.sa r.dQ.length AJ.sc)/\X.cell? ⟨g,off+J*8+4,ak⟩=au (aF r.wed)/\X.cell? ⟨g,off+J*8+5,ak⟩=au (aF r.dV)/\X.cell? ⟨g,off+J*8+6,ak⟩=au (ah aA r.dW)/\X.cell? ⟨g,off+J*8+7,ak⟩=au (aj AJ.ma r.dU.length AJ.mc)) 11 fU ((KS _ hbd)) fun hHeld=>?_
     refine fC (i:=0) rfl hHeld ?_;refine fC (i:=1) rfl hHeld ?_;refine fC (i:=2) rfl hHeld ?_;refine fC (i:=3) rfl hHeld ?_;refine fC (i:=4) rfl hHeld ?_;refine fC (i:=5) rfl hHeld ?_;refine fC (i:=6) rfl hHeld ?_;refine fC (i:=7) rfl hHeld ?_;refine fC (i:=8) rfl hHeld ?_;refine fC (i:=9) rfl hHeld ?_;refine iy (i:=10) rfl fun K hK=>?_
     go_simp;have hb2:Below wr.heap.size wr (wr.drew.alloc (aH #[ah aA 0,aj ak 0 0,aj ak 0 0,aj ak 0 0,aF aC,aF aC,ah aA 0,aj ak 0 0] 44)):=hbd.trans ((dX wr.drew _).mono hbd.size);refine hK.out _ _ (KS _ hb2) (fun eG=>?_)
     clear hK hHeld;have hHeld:=eG;try simp only[gW]
     refine oH rfl fun K hK=>?_
     go_simp;refine hK.out _ _ ?_;have hb5:Below wr.heap.size wr (wr.alloc (aH #[ah aA r.ver,aj AJ.ta r.txt.length AJ.tc,aj AJ.ga r.got.length AJ.gc,aj AJ.sa r.dQ.length AJ.sc,aF r.wed,aF r.dV,ah aA r.dW,aj AJ.ma r.dU.length AJ.mc] 44)).drew:=(dX wr _).trans ((Same.drewN _ 1).below.mono (dX wr _).size);have hx5:Bx (wr.alloc (aH #[ah aA r.ver,aj AJ.ta r.txt.length AJ.tc,aj AJ.ga r.got.length AJ.gc,aj AJ.sa r.dQ.length AJ.sc,aF r.wed,aF r.dV,ah aA r.dW,aj AJ.ma r.dU.length AJ.mc] 44)).drew wr.heap.size 44 #[ah aA r.ver,aj AJ.ta r.txt.length AJ.tc,aj AJ.ga r.got.length AJ.gc,aj AJ.sa r.dQ.length AJ.sc,aF r.wed,aF r.dV,ah aA r.dW,aj AJ.ma r.dU.length AJ.mc]:=Bx.new wr _ _;generalize (wr.alloc (aH #[ah aA r.ver,aj AJ.ta r.txt.length AJ.tc,aj AJ.ga r.got.length AJ.gc,aj AJ.sa r.dQ.length AJ.sc,aF r.wed,aF r.dV,ah aA r.dW,aj AJ.ma r.dU.length AJ.mc] 44)).drew=W5 at *;clear hHeld KS hbd hb2 hK;have GK:aG (Bx W5 wr.heap.size 44 #[ah aA r.ver,aj AJ.ta r.txt.length AJ.tc,aj AJ.ga r.got.length AJ.gc,aj AJ.sa r.dQ.length AJ.sc,aF r.wed,aF r.dV,ah aA r.dW,aj AJ.ma r.dU.length AJ.mc]):=hx5;have qZ:aG (Below wr.heap.size wr W5):=hb5;obtain⟨⟨x0,x1,x2,x3⟩,x4,x5,x6,x7⟩:=Bx.r8 hx5;have T5:∀ {x v},W5.cell? x=au v->∀ q:Bk W5,q.w.cell? x=au v:=fun h q=>fM q.h h
     have yO:=T5 x3;have xB:=T5 x4;have po3:=T5 (fM hb5 HO3.out)
     have C2:∀ q:Bk W5,ba3 aZ8 151 #[aj AJ.sa r.dQ.length AJ.sc,aj Ao.sa (dO m.rows i).dQ.length Ao.sc] q.w fun e w'=>e=aK (aF ((dO m.rows i).dQ.all (fun x=>decide (x∈r.dQ))))/\Below q.w.heap.size q.w w':=fun q=>by
      have hq:=eP qZ.out q.h;exact (Zt AJ.sa Ao.sa AJ.sc Ao.sc r.dQ (dO m.rows i).dQ q.w ((Ij.out.below hq).dQ) ((U6.out.below hq).dQ) Ij.out.ms U6.out.ms).mono (fun e w' h=>⟨h.1,by rw[h.2];exact aZ5 _ _⟩)
     clear x0 x1 x2 x3 x4 x5 x6 x7 hx5 hb5 T5;obtain⟨dd,hdd⟩:∃ dd:Bool,aG (dd=(r.wed&&(dO m.rows i).dQ.all (fun x=>decide (x∈r.dQ)))):=⟨_,rfl⟩
     go_upto_region 8 with fail
     go_cut [63] from 51 to 63 (fun v X=>v=aF (!dd)/\Below W5.heap.size W5 X)
     case first =>
      rcases Bool.eq_false_or_eq_true r.wed with a1|a1
      ·rw[a1] at xB hdd
       clear a1;generalize (dO m.rows i).dQ.all (fun x=>decide (x∈r.dQ))=al at *
       cases al
       ·have hd0:aG (dd=aC):=hdd.out
        refine jf ?_;repeat (go_big_quiet_step ((first|(go_at_call 151;exact eY _ (C2 _))|rfl)))
        refine aZ2 (iI fun wE eH=>?_)
        try go_wp2_with fail
        go_meet
        case rel=>exact⟨by rw[hd0.out];rfl,eH⟩
       ·have hd0:aG (dd=aB):=hdd.out
        refine jf ?_;repeat (go_big_quiet_step ((first|(go_at_call 151;exact eY _ (C2 _))|rfl)))
        refine aZ2 (iI fun wE eH=>?_)
        try go_wp2_with fail
        go_meet
        case rel=>exact⟨by rw[hd0.out];rfl,eH⟩
      ·have hd0:aG (dd=aC):=by rw[aG,hdd.out,a1];rfl
       rw[a1] at xB;clear a1;refine jf ?_;repeat (go_big_quiet_step ((first|(go_at_call 151;exact eY _ (C2 _))|rfl)))
       refine aZ2 (iI fun wE eH=>?_)
       try go_wp2_with fail
       go_meet
       case rel=>exact⟨by rw[hd0.out];rfl,eH⟩
     case rest =>
      obtain⟨rfl,hBc⟩:=hcut;have Jt:=eP qZ.out hBc;have jX:=dP (HM.out.step Jt);have uJ:=dP (eP mZ.out Jt);have HV6:=dP (HV.out.below Jt);have aN3:=dP (HVm.out.below Jt);obtain⟨⟨x0,x1,x2,x3⟩,x4,x5,x6,x7⟩:=Bx.r8 (GK.out.below hBc);clear yO xB po3 C2 hBc Jt
      cases dd with
      | false =>
       have HZ:aG (lead m.rows i (dO m.rows i) L=dO m.rows i):=by rw[aG,HE.out,aN2.out hdd.out.symm];rfl
       go_wp2
       (try simp only[aY3,Exit.then])
       refine aY1 (results_none rfl _ _ _) rfl ?_;rw[HZ.out,HNO.out];exact⟨rfl,jX.out.mk' HC2.out rfl⟩
      | true =>
       have Z7:aG (kX m.rows (dO m.rows i) (L.take (k+1))=aB):=by rw[aG,HLt.out];exact hdd.out.symm
       by_cases a1:r.dV=aB;rotate_left
       ·have a1':r.dV=aC:=by simpa using a1
        have Px:aG (best m.rows (L.take (k+1)) (-1,[])=(x,T)):=by rw[aG,HBt.out,if_neg (fun h=>a1 h.1)]
        rw[a1'] at x5;clear a1 a1';go_wp2;go_roundw
        case rel=>exact⟨k+1,x,ta,tc,T,by omega,by go_num,rfl,rfl,Px,Z7,HV6.out,uJ.out,jX.out⟩
        case measure=>simp[ba4];omega
       by_cases a2:x<r.dW
       ·have Px:aG (best m.rows (L.take (k+1)) (-1,[])=(r.dW,r.dU)):=by rw[aG,HBt.out,if_pos ⟨a1,a2⟩]
        rw[a1] at x5;clear a1;go_wp2;go_roundw
        case rel=>exact⟨k+1,r.dW,AJ.ma,AJ.mc,r.dU,by omega,by go_num,rfl,rfl,Px,Z7,aN3.out,uJ.out,jX.out⟩
        case measure=>simp[ba4];omega
       ·have Px:aG (best m.rows (L.take (k+1)) (-1,[])=(x,T)):=by rw[aG,HBt.out,if_neg (fun h=>a2 h.2)]
        rw[a1] at x5;clear a1;go_wp2;go_roundw
        case rel=>exact⟨k+1,x,ta,tc,T,by omega,by go_num,rfl,rfl,Px,Z7,HV6.out,uJ.out,jX.out⟩
        case measure=>simp[ba4];omega
    ·have k1:¬ ((k:Int)<L.length):=by omega
     have HBe:aG (best m.rows L (-1,[])=(x,T)):=by rw[aG,<- GR.out,bJ (by omega)]
     have L6:aG (kX m.rows (dO m.rows i) L=aB):=by rw[aG,<- hLo.out,bJ (by omega)]
     have HM:=dP M;have mZ:=dP hBw;have HV:=dP hV;clear M hBw hV GR hLo;by_cases hx0:x<0;rotate_left
     ·have GU:aG (T=endOf m.rows L):=by rw[aG,endOf,HBe.out,if_neg hx0]
      have HT:=dP GU;have Eb:=dP HM.out;have HVx:=dP HV.out;have HZ:aG (lead m.rows i (dO m.rows i) L={ dO m.rows i with dV:=aB,dW:=(i:Int),dU:=T }):=by rw[aG,HE.out,L6.out,if_pos rfl,<- HT.out]
      have hTl:T.length<=1000000:=by
       have e:=(Du (R:=m.rows) (i:=i) (o:=dO m.rows i) (L:=L) hr hw ok.lt (by intro e;rw[e] at hne;simp at hne) (fun k hk=>ok.ok k (HL.out k hk))).1.ml
       rw[HZ.out] at e;have e2:T.length<=n:=e;omega
      obtain⟨q1,q2,M8⟩:=Eb.out.put hil (j:=5) (x:=aF (dO m.rows i).dV) (y:=aF aB) (r':={ dO m.rows i with dV:=aB }) rfl rfl
      have Xq:aG (tZ (wr.setCell ⟨g,off+i*8+5,ak⟩ (aF aB)) ta T g):=HVx.out.set _ _;have pV:aG (Mw w (wr.setCell ⟨g,off+i*8+5,ak⟩ (aF aB)) B o { m with rows:=m.rows.set i { dO m.rows i with dV:=aB } } fp g off c):=M8
      clear M8;go_upto_region 18 with fail
      go_upto_region 19 with fail
      generalize wr.setCell ⟨g,off+i*8+5,ak⟩ (aF aB)=V1 at *;clear q1 q2;generalize hr1:({ dO m.rows i with dV:=aB }:Rw)=r1 at *
      have hs1:dO (m.rows.set i r1) i=r1:=iW hil;have vH:i<(m.rows.set i r1).length:=by rw[aV3];exact hil
      obtain⟨q1,q2,M9⟩:=pV.out.put vH (j:=6) (x:=ah aA r1.dW) (y:=ah aA (i:Int)) (r':={ r1 with dW:=(i:Int) }) (by rw[hs1];rfl) (by rw[hs1];rfl)
      rw[aY4] at M9;have y0:=pV.out.id'.1;simp only at y0
      rw[ok.hid] at y0;have HV9:aG (tZ (V1.setCell ⟨g,off+i*8+6,ak⟩ (ah aA (i:Int))) ta T g):=Xq.out.set _ _;have jK:aG (Mw w (V1.setCell ⟨g,off+i*8+6,ak⟩ (ah aA (i:Int))) B o { m with rows:=m.rows.set i { r1 with dW:=(i:Int) } } fp g off c):=M9
      have HR1:aG (({ dO m.rows i with dV:=aB }:Rw)=r1):=hr1
      clear M9 hs1 hr1;go_upto_region 20 with fail
      generalize V1.setCell ⟨g,off+i*8+6,ak⟩ (ah aA (i:Int))=V2 at *;clear q1 q2 y0;generalize hr2:({ r1 with dW:=(i:Int) }:Rw)=r2 at *
      have hs2:dO (m.rows.set i r2) i=r2:=iW hil;have uP:i<(m.rows.set i r2).length:=by rw[aV3];exact hil
      have hA:=wU (c:=tc) HV9.out.vec hTl;obtain⟨u,f,hu,hfz,how,xQ,hset⟩:=jK.out.at uP (j:=7) (cl:=gQ r2.dU) (by simp only[hs2];rfl)
      have HS:aG (∀ (X1:aI) (u':aJ) (f':Fp),Below V2.heap.size V2 X1->eF.ow X1 (gQ T) u' f'->(∀ b,f' b->V2.heap.size<=b)->X1.cell? ⟨g,off+i*8+7,ak⟩=au u/\X1.frozen? ⟨g,off+i*8+7,ak⟩=aC/\Mw w (X1.setCell ⟨g,off+i*8+7,ak⟩ u') B o { m with rows:=m.rows.set i { r2 with dU:=T } } fp g off c):=fun X1 u' f' h1 h2 h3=>by
       have:=hset X1 (gQ T) u' f' { r2 with dU:=T } (by simp only[hs2];rfl) (eU.of_below h1) h2 (fun b hb=>.inr (h3 b hb))
       simp only[aY4] at this;exact⟨this.1,this.2.1,this.2.2.1⟩
      have HFin:aG (({ r2 with dU:=T }:Rw)=lead m.rows i (dO m.rows i) L):=by rw[aG,HZ.out,<- hr2,<- HR1.out]
      clear hset how xQ hu hfz hs2 hr2;go_wp2_with (at_builtin;refine fJ (by rfl) _ _ _ _ (by rfl) _ _ (by rfl) (by rfl) hA ⟨rfl,rfl,rfl,rfl⟩ ?_;rintro v1 w1 ⟨a1,e1,f1,rfl,q1,q2,q3⟩;obtain⟨z1,z2,M10⟩:=HS.out w1 _ f1 q3 q1 q2;have wV:aG (Mw w (w1.setCell ⟨g,off+i*8+7,ak⟩ (aj a1 T.length e1)) B o { m with rows:=m.rows.set i { r2 with dU:=T } } fp g off c):=M10;clear M10 q1 q2 q3 hA HS)
      go_end0;rw[<- HFin.out];exact⟨rfl,wV.out.mk' HC2.out (ni _)⟩
     ·have GU:aG (endOf m.rows L=meets m.rows L):=by rw[aG,endOf,HBe.out,if_pos hx0]
      have qQ:=HL.out _ (mW hne);have uI:L.getD 0 0<m.rows.length:=by rw[ok.len];exact qQ
      have rX:=GN.out wr mZ.out;rcases rX.2.2 with hz|⟨lb,lo,hla,hlc⟩
      ·rw[jq] at hz;omega
      have hlk:=hlc 0 (by rw[jq];exact hne)
      rw[wR hne] at hlk;obtain⟨AJ,Au,SE,SG⟩:=HM.out.Po ok.fit uI;have HMt:aG (yw m.rows L 1=(dO m.rows (L.getD 0 0)).got):=Xl hne;have n1:(0:Int)<L.length:=by omega
      generalize L.getD 0 0=J at *;have J0:(0:Int)<=J:=by omega
      have J1:(J:Int)<m.rows.length:=by omega
      obtain⟨⟨⟨d0,d1,d2,d3⟩,d4,d5,d6,d7⟩,Aw⟩:=Au;have oq:=HM.out.rws;have T5:∀ {x v},wr.cell? x=au v->∀ q:Bk wr,q.w.cell? x=au v:=fun h q=>fM q.h h
      have p2:=T5 oq;have pl:=T5 hlk;have pg:=T5 d2;simp only[aY5] at pl;have SH:=dP SE;subst hla;clear d0 d1 d2 d3 d4 d5 d6 d7 Aw oq hlk hlc SE SG T5 rX;go_wp2_with fail
      refine jf ?_;repeat (go_big_quiet_step ((first|rfl)))
      refine aZ2 (iI fun wE eH=>?_)
      have iM:=dP (HM.out.step eH);have qZ:=dP (eP mZ.out eH);have HV5:=dP (SH.out.below eH);have hgw:g<w.heap.size\/True:=.inr trivial;clear p2 pl pg eH hgw;generalize (dO m.rows J).got=T1 at *;go_wp2_with fail
      go_loopw [6,9] (fun tr v wx=>∃ (k:Nat) (ta:Option ba5) (tc:Nat) (T:List Int),1<=k/\k<=L.length/\v=ah aA (k:Int)/\tr=aj ta T.length tc/\aG (yw m.rows L k=T)/\tZ wx ta T g/\Below w.heap.size w wx/\Mw w wx B o m fp g off c) (fun _ v _=>L.length-(ba4 v).toNat)
      case atStart=>exact⟨1,AJ.ga,AJ.gc,T1,aZ0 _,hne,rfl,rfl,HMt,HV5.out,qZ.out,iM.out⟩
      case round =>
       obtain⟨k,ta,tc,T,hk1,hk,rfl,rfl,hMe,hV,hBw,M⟩:=hrel;by_cases hlt:k<L.length
       ·have qQ:L.getD k 0<n:=HL.out _ (mW hlt)
        have uI:L.getD k 0<m.rows.length:=by rw[ok.len];exact qQ
        have rX:=GN.out wr hBw;rcases rX.2.2 with hz|⟨lb2,lo2,hla,hlc⟩
        ·rw[jq] at hz;omega
        have hlk:=hlc k (by rw[jq];exact hlt)
        rw[wR hlt] at hlk;obtain⟨SI,Au,SE,SG⟩:=M.Po ok.fit uI;have Sr:aG (yw m.rows L (k+1)=je min T (dO m.rows (L.getD k 0)).got):=by rw[aG,U4 (by omega) hlt,hMe.out]
        have aB8:=ok.ok _ qQ;generalize L.getD k 0=J2 at *;have k1:(k:Int)<L.length:=by omega
        have k0:(0:Int)<=k:=by omega
        have J20:(0:Int)<=J2:=by omega
        have J21:(J2:Int)<m.rows.length:=by omega
        have oq:=M.rws;obtain⟨⟨⟨d0,d1,d2,d3⟩,d4,d5,d6,d7⟩,Aw⟩:=Au
        cases hla
        have hbd:=(Same.drewN wr 1).below
        have hTl:T.length<=ba2:=by
         have:T.length<=8\/T.length<=n:=by
          rw[<- hMe.out];unfold yw
          cases et:L.take k with
          | nil=>exact .inl (by simp[meets])
          | cons x t =>
           refine Xm (n:=n) (fun j hj=>?_)
           exact (ok.ok j (HL.out j (bZ (by rw[et];exact hj)))).gl
         unfold ba2;omega
        have hM:=NY ta SI.ga T.length tc (dO m.rows J2).got.length SI.gc T (dO m.rows J2).got wr.drew (hV.vec.below hbd (aZ0 _)) (Aw.got.below hbd (aZ0 _)) hTl Aw.mg;have qx:=dP M;have L9:=dP hBw
        have KS:∀ X,Below wr.heap.size wr X->(X.cell? ⟨B,o+2,ak⟩=au (aj (au ⟨g,off,ak⟩) m.rows.length c)/\X.cell? ⟨lb,lo+k,ak⟩=au (ah aA (J2:Int))/\X.cell? ⟨g,off+J2*8+2,ak⟩=au (aj SI.ga (dO m.rows J2).got.length SI.gc)):=fun X hX=>by
         have t:∀ {x v},wr.cell? x=au v->X.cell? x=au v:=fun h=>fM hX h
         exact⟨t oq,t hlk,t d2⟩
        have aR9:=bG _ _ d2;generalize (dO m.rows J2).got=T2 at *;clear d0 d1 d2 d3 d4 d5 d6 d7 Aw oq hlk hlc SE SG rX M hBw hV hMe;go_wp2_with fail
        refine lG (S:=fun X:aI=>X.cell? ⟨B,o+2,ak⟩=au (aj (au ⟨g,off,ak⟩) m.rows.length c)/\X.cell? ⟨lb,lo+k,ak⟩=au (ah aA (J2:Int))/\X.cell? ⟨g,off+J2*8+2,ak⟩=au (aj SI.ga T2.length SI.gc)) 14 fU ((KS _ hbd)) fun hHeld=>?_
        refine nC (i:=0) rfl hHeld ?_;refine nC (i:=1) rfl hHeld ?_;refine nC (i:=2) rfl hHeld ?_;refine nC (i:=3) rfl hHeld ?_;refine nC (i:=4) rfl hHeld ?_;refine nC (i:=5) rfl hHeld ?_;refine nC (i:=6) rfl hHeld ?_;refine nC (i:=7) rfl hHeld ?_;refine nC (i:=8) rfl hHeld ?_;refine nC (i:=9) rfl hHeld ?_;refine nC (i:=10) rfl hHeld ?_;refine nC (i:=11) rfl hHeld ?_;refine iy (i:=12) rfl fun K hK=>?_
        go_simp
        go_at_call 152
        refine hM.mono ?_;rintro e w1 ⟨g1,cc1,rfl,hg1,Jh,hb1⟩;have hb2:Below wr.heap.size wr w1:=eP hbd hb1;have pV:aG (Mw w w1 B o m fp g off c):=qx.out.step hb2;have HB8:aG (Below w.heap.size w w1):=eP L9.out hb2;have hg1':wr.heap.size<=g1:=hg1;have Xq:aG (tZ w1 (au ⟨g1,0,ak⟩) (je min T T2) g):=⟨Jh.vec (UC min (fun x y=>by omega) T T2),.inr (fun x hx=>by cases hx;show g1≠g;omega)⟩
        refine hK.out _ _ (KS _ hb2) (fun eG=>?_)
        clear hK hHeld;have hHeld:=eG;try simp only[gW]
        refine fE (i:=13) rfl ?_;refine uT (by kernel_rfl) ?_
        clear hM KS hbd hb2 hb1 Jh hg1 hHeld;generalize je min T T2=T3 at *;go_wp2;go_roundw
        case rel=>exact⟨k+1,_,_,T3,by omega,by omega,by go_num,rfl,Sr,Xq.out,HB8.out,pV.out⟩
        case measure=>simp[ba4];omega
       ·have k1:¬ ((k:Int)<L.length):=by omega
        have HT:aG (T=endOf m.rows L):=by rw[aG,GU.out,<- Xn,<- hMe.out,show k=L.length by omega]
        have qx:=dP M;have L9:=dP hBw;have HV7:=dP hV;clear M hBw hV hMe;have Eb:=dP qx.out;have HVx:=dP HV7.out;have HZ:aG (lead m.rows i (dO m.rows i) L={ dO m.rows i with dV:=aB,dW:=(i:Int),dU:=T }):=by rw[aG,HE.out,L6.out,if_pos rfl,<- HT.out]
        have hTl:T.length<=1000000:=by
         have e:=(Du (R:=m.rows) (i:=i) (o:=dO m.rows i) (L:=L) hr hw ok.lt (by intro e;rw[e] at hne;simp at hne) (fun k hk=>ok.ok k (HL.out k hk))).1.ml
         rw[HZ.out] at e;have e2:T.length<=n:=e;omega
        obtain⟨q1,q2,M8⟩:=Eb.out.put hil (j:=5) (x:=aF (dO m.rows i).dV) (y:=aF aB) (r':={ dO m.rows i with dV:=aB }) rfl rfl
        have Xq:aG (tZ (wr.setCell ⟨g,off+i*8+5,ak⟩ (aF aB)) ta T g):=HVx.out.set _ _;have pV:aG (Mw w (wr.setCell ⟨g,off+i*8+5,ak⟩ (aF aB)) B o { m with rows:=m.rows.set i { dO m.rows i with dV:=aB } } fp g off c):=M8
        clear M8;go_upto_region 18 with fail
        go_upto_region 19 with fail
        generalize wr.setCell ⟨g,off+i*8+5,ak⟩ (aF aB)=V1 at *;clear q1 q2;generalize hr1:({ dO m.rows i with dV:=aB }:Rw)=r1 at *
        have hs1:dO (m.rows.set i r1) i=r1:=iW hil;have vH:i<(m.rows.set i r1).length:=by rw[aV3];exact hil
        obtain⟨q1,q2,M9⟩:=pV.out.put vH (j:=6) (x:=ah aA r1.dW) (y:=ah aA (i:Int)) (r':={ r1 with dW:=(i:Int) }) (by rw[hs1];rfl) (by rw[hs1];rfl)
        rw[aY4] at M9;have y0:=pV.out.id'.1;simp only at y0
        rw[ok.hid] at y0;have HV9:aG (tZ (V1.setCell ⟨g,off+i*8+6,ak⟩ (ah aA (i:Int))) ta T g):=Xq.out.set _ _;have jK:aG (Mw w (V1.setCell ⟨g,off+i*8+6,ak⟩ (ah aA (i:Int))) B o { m with rows:=m.rows.set i { r1 with dW:=(i:Int) } } fp g off c):=M9
        have HR1:aG (({ dO m.rows i with dV:=aB }:Rw)=r1):=hr1
        clear M9 hs1 hr1;go_upto_region 20 with fail
        generalize V1.setCell ⟨g,off+i*8+6,ak⟩ (ah aA (i:Int))=V2 at *;clear q1 q2 y0;generalize hr2:({ r1 with dW:=(i:Int) }:Rw)=r2 at *
        have hs2:dO (m.rows.set i r2) i=r2:=iW hil;have uP:i<(m.rows.set i r2).length:=by rw[aV3];exact hil
        have hA:=wU (c:=tc) HV9.out.vec hTl;obtain⟨u,f,hu,hfz,how,xQ,hset⟩:=jK.out.at uP (j:=7) (cl:=gQ r2.dU) (by simp only[hs2];rfl)
        have HS:aG (∀ (X1:aI) (u':aJ) (f':Fp),Below V2.heap.size V2 X1->eF.ow X1 (gQ T) u' f'->(∀ b,f' b->V2.heap.size<=b)->X1.cell? ⟨g,off+i*8+7,ak⟩=au u/\X1.frozen? ⟨g,off+i*8+7,ak⟩=aC/\Mw w (X1.setCell ⟨g,off+i*8+7,ak⟩ u') B o { m with rows:=m.rows.set i { r2 with dU:=T } } fp g off c):=fun X1 u' f' h1 h2 h3=>by
         have:=hset X1 (gQ T) u' f' { r2 with dU:=T } (by simp only[hs2];rfl) (eU.of_below h1) h2 (fun b hb=>.inr (h3 b hb))
         simp only[aY4] at this;exact⟨this.1,this.2.1,this.2.2.1⟩
        have HFin:aG (({ r2 with dU:=T }:Rw)=lead m.rows i (dO m.rows i) L):=by rw[aG,HZ.out,<- hr2,<- HR1.out]
        clear hset how xQ hu hfz hs2 hr2;go_wp2_with (at_builtin;refine fJ (by rfl) _ _ _ _ (by rfl) _ _ (by rfl) (by rfl) hA ⟨rfl,rfl,rfl,rfl⟩ ?_;rintro v1 w1 ⟨a1,e1,f1,rfl,q1,q2,q3⟩;obtain⟨z1,z2,M10⟩:=HS.out w1 _ f1 q3 q1 q2;have wV:aG (Mw w (w1.setCell ⟨g,off+i*8+7,ak⟩ (aj a1 T.length e1)) B o { m with rows:=m.rows.set i { r2 with dU:=T } } fp g off c):=M10;clear M10 q1 q2 q3 hA HS)
        go_end0;rw[<- HFin.out];exact⟨rfl,wV.out.mk' HC2.out (ni _)⟩
theorem uf {cs: List Int} (h:lX cs=aB):okB cs=aB/\∀ i,i<cs.length->0<=el cs i/\el cs i<=100000:=by
 simp only[lX,aU2,aU3,decide_eq_true_eq] at h;exact⟨h.1,fun i hi=>⟨(wF h.1 hi).1,h.2 _ (kM hi)⟩⟩
theorem Ky {cs: List Int} (h:okB cs=aB) (hc:∀ i,i<cs.length->el cs i<=100000):lX cs=aB:=by
 simp only[lX,aU2,aU3,decide_eq_true_eq]
 refine⟨h,fun c hm=>?_⟩
 obtain⟨i,hi,rfl⟩:=List.getElem_of_mem hm;have:=hc i hi
 rwa [uq hi] at this
theorem Z8 {cs: List Int} (hk:k<cs.length) (h:100000<el cs k):lX cs=aC:=by
 rw[<- Bool.not_eq_true];intro h2;have:=((uf h2).2 k hk).2;omega
theorem U7 (a:Option ba5) (len cap:Nat) (cs:List Int) (w:aI) (hv:Vec w a len cs) (hm:len<=ba2) :
  ba3 aZ8 44 #[aj a len cap] w fun e w'=>e=aK (aF (lX cs))/\w'=w:=by
 have hV:=pG a len cap cs w hv hm;unfold ba2 at hm
 cases hb:okB cs with
 | false =>
  rw[hb] at hV;have HZ:aG (lX cs=aC):=by rw[aG,lX,hb];rfl
  clear hb;go_enter Tryz.func44,Tryz.ntmps44
  go_wp2_with fail
  refine hV.mono ?_;rintro e w1 ⟨rfl,rfl⟩;go_wp2;go_ret
  exact⟨dZ (by rw[HZ.out]),rfl⟩
 | true =>
  rw[hb] at hV;have HL:=dP hv.1;have HO:=dP hb;have hcs:=hv.2.2;clear hb hv;go_enter Tryz.func44,Tryz.ntmps44
  go_wp2_with fail
  refine hV.mono ?_;rintro e w1 ⟨rfl,rfl⟩;clear hV;go_wp2
  go_loop [3] (fun i=>∃ k:Nat,k<=len/\i=ah aA k/\∀ j,j<k->el cs j<=100000) (fun i=>len-(ba4 i).toNat)
  case atStart=>exact⟨0,aZ1 _,rfl,fun j hj=>by omega⟩
  case round =>
   obtain⟨k,hk,rfl,hall⟩:=hrel;have HA:=dP hall;clear hall;by_cases hlt:k<len
   ·rcases hcs with h0|⟨b,off,rfl,hc⟩
    ·omega
    ·have ck:=hc k hlt
     clear hc;have k1:(k:Int)<len:=by omega
     have k0:(0:Int)<=k:=by omega
     have HN:aG (100000<el cs k->lX cs=aC):=fun h=>Z8 (by rw[HL.out];exact hlt) h
     have HP:aG (el cs k<=100000->∀ j,j<k+1->el cs j<=100000):=fun h j hj=>by
      by_cases e:j=k
      ·subst e;exact h
      ·exact HA.out j (by omega)
     generalize el cs k=x at *;by_cases hx:(100000:Int)<x
     ·have HN':aG (lX cs=aC):=HN.out hx
      go_wp2;go_ret
      exact⟨dZ (by rw[HN'.out]),rfl⟩
     ·have HP':aG (∀ j,j<k+1->el cs j<=100000):=HP.out (by omega)
      have hd:decide ((100000:Int)<x)=aC:=by simpa using hx
      clear hx;go_wp2
      go_round
      case rel=>exact⟨k+1,by omega,by go_num,HP'.out⟩
      case measure=>simp[ba4];omega
   ·have hkl:k=len:=by omega
    subst hkl;have HZ:aG (lX cs=aB):=Ky HO.out (by rw[HL.out];exact HA.out)
    go_wp2;go_ret
    exact⟨dZ (by rw[HZ.out]),rfl⟩
def rY (cs:List Int):Int:=if lX cs then dV cs cs.length ((cs.length:Int)*el cs 0) else -1
theorem U8 (a:Option ba5) (len cap:Nat) (cs:List Int) (w:aI) (hv:Vec w a len cs) (hm:len<=ba2) :
  ba3 aZ8 14 #[aj a len cap] w fun e w'=>e=aK (ah aA (rY cs))/\w'=w:=by
 have hC:=U7 a len cap cs w hv hm
 cases hb:lX cs with
 | false =>
  rw[hb] at hC;have HZ:aG (rY cs=-1):=by rw[aG,rY,hb];rfl
  clear hb;go_enter Tryz.func14,Tryz.ntmps14
  go_wp2_with fail
  refine hC.mono ?_;rintro e w1 ⟨rfl,rfl⟩;go_wp2;go_ret
  exact⟨lJ (by rw[HZ.out]),rfl⟩
 | true =>
  rw[hb] at hC;obtain⟨hok,hall⟩:=uf hb;have HZ:aG (rY cs=dV cs cs.length ((cs.length:Int)*el cs 0)):=by rw[aG,rY,hb];rfl
  have h18:=mJ hok;have hl:=hv.1;rw[hl] at h18;obtain⟨b,off,rfl,hc⟩:=hv.cells (by omega)
  have c0:=hc 0 (by omega)
  simp only[aY5] at c0;have hc0:=hall 0 (by omega)
  have m0:0<=(cs.length:Int)*el cs 0:=aW9 (by omega) hc0.1
  have m1:(cs.length:Int)*el cs 0<=8*100000:=Int.mul_le_mul (by omega) hc0.2 hc0.1 (by omega)
  have HB:aG (∀ k,k<=cs.length->0<=dV cs k ((cs.length:Int)*el cs 0)/\dV cs k ((cs.length:Int)*el cs 0)<=800000):=Oc hall (by omega) ⟨m0,by omega⟩
  have HM:aG (∀ k,k<len->0<=(len:Int)*el cs k/\(len:Int)*el cs k<=800000):=fun k hk=>by
   have h:=hall k (by omega)
   exact⟨aW9 (by omega) h.1,Int.le_trans (Int.mul_le_mul (b:=el cs k) (show (len:Int)<=8 by omega) h.2 h.1 (by omega)) (by omega)⟩
  have HS:aG (∀ k,dV cs (k+1) ((len:Int)*el cs 0)=min (dV cs k ((len:Int)*el cs 0)) ((len:Int)*el cs k+(k:Int))):=fun k=>by rw[Dp,hl]
  rw[hl] at HB HZ m0 m1;have l1:(1:Int)<=len:=by omega
  have l8:(len:Int)<=8:=by omega
  have HC:=dP hc;clear hb hok hall hv hl h18 hm hc hc0;generalize hB0:(len:Int)*el cs 0=B0 at *;generalize el cs 0=x0 at *;go_enter Tryz.func14,Tryz.ntmps14
  go_wp2_with fail
  refine hC.mono ?_;rintro e w1 ⟨rfl,hw⟩;subst hw;clear hC;go_wp2
  go_loop [4,5] (fun m i=>∃ k:Nat,k<=len/\i=ah aA k/\m=ah aA (dV cs k B0)) (fun _ i=>len-(ba4 i).toNat)
  case atStart=>exact⟨0,aZ1 _,rfl,rfl⟩
  case round =>
   obtain⟨k,hk,rfl,rfl⟩:=hrel;by_cases hlt:k<len
   ·have ck:=HC.out k hlt
    have hmk:=HM.out k hlt;have hsk:=HS.out k;have hbk:=HB.out k hk;have k1:(k:Int)<len:=by omega
    have k0:(0:Int)<=k:=by omega
    have HS':=dP hsk;clear hsk;generalize dV cs k B0=R at *;generalize hmm:(len:Int)*el cs k=m at *;generalize el cs k=x at *;go_wp2_with (go_at_call 45;refine (KZ _ _ _).mono ?_;rintro e w' ⟨rfl,rfl⟩)
    go_round
    case rel=>exact⟨k+1,by omega,by go_num,by rw[HS'.out]⟩
    case measure=>simp[ba4];omega
   ·have hkl:k=len:=by omega
    subst hkl;go_wp2;go_ret
    exact⟨lJ (by rw[HZ.out]),rfl⟩
theorem SK (cs:List Int) (k j:Nat):(kL cs k j).length<=j:=by
 unfold kL;rw[List.length_map];exact aY2 (List.length_filter_le _ _) (by simp)
theorem Gh (cs:List Int) (M:Nat):(iC cs M).length<=M*cs.length:=by
 induction M with
 | zero=>simp[iC]
 | succ M ih =>
  rw[qX,dB,Nat.succ_mul];have:=SK cs M cs.length;omega
def rZ (cs:List Int) (k:Nat):Int:=hiL 0 (cs.take k)
theorem Ik {cs: List Int} (h:k<cs.length):rZ cs (k+1)=max (rZ cs k) (el cs k):=by
 unfold rZ;rw[aS h,NT,uq h]
theorem Xr {cs: List Int} (hc:∀ i,i<cs.length->0<=el cs i/\el cs i<=100000):∀ k,k<=cs.length->0<=rZ cs k/\rZ cs k<=100000/\∀ i,i<k->el cs i<=rZ cs k:=by
 intro k
 induction k with
 | zero=>intro _;exact⟨by simp[rZ,hiL],by simp[rZ,hiL],fun i hi=>by omega⟩
 | succ k ih =>
  intro hk;obtain⟨h1,h2,h3⟩:=ih (by omega)
  have h4:=hc k (by omega)
  rw[Ik (by omega)]
  refine⟨by omega,by omega,fun i hi=>?_⟩
  by_cases e:i=k
  ·subst e;omega
  ·have:=h3 i (by omega);omega
def vZ (cs Z:List Int):Prop:=(lX cs=aB/\pX cs<=200/\FY cs Z)\/((lX cs=aC\/200<pX cs)/\Z=[])
theorem vZ.unique {cs Z Y:List Int} (h:vZ cs Z) (k:vZ cs Y):Z=Y:=by
 rcases h with ⟨h1,h2,h3⟩|⟨h1,h2⟩<;>rcases k with ⟨k1,k2,k3⟩|⟨k1,k2⟩
 ·exact h3.unique k3
 ·rcases k1 with k1|k1
  ·rw[h1] at k1;cases k1
  ·omega
 ·rcases h1 with h1|h1
  ·rw[k1] at h1;cases h1
  ·omega
 ·rw[h2,k2]
theorem Mc {cs: List Int} {M: Nat} (hl:cs.length<=8) (hM:M<=100000):Fits (iC cs M):=fun q hq=>by
 obtain⟨k,i,hk,hi,_,rfl⟩:=xI.1 hq;have h1:(cs.length:Int)*(k:Int)<=8*100000:=Int.mul_le_mul (by omega) (by omega) (by omega) (by omega)
 have h0:0<=(cs.length:Int)*(k:Int):=aW9 (by omega) (by omega)
 omega
theorem Ri (b off cap:Nat) (cs:List Int) (len:Nat) (w:aI) (hl:cs.length=len) (hlen:len<=8) (hc:∀ i,i<len->w.cell? ⟨b,off+i,ak⟩=au (ah aA (el cs i))) (hall:∀ i,i<cs.length->0<=el cs i/\el cs i<=100000) :
  ba3 aZ8 154 #[aj (au ⟨b,off,ak⟩) len cap] w fun e w'=>Hr w w' e (iC cs (rZ cs len).toNat):=by
 obtain⟨i0,hi0,hz0,hz1,hz2⟩:=ku Tryz.info2n;have HL:=dP hl;have HC:aG (∀ X,Below w.heap.size w X->∀ i,i<len->X.cell? ⟨b,off+i,ak⟩=au (ah aA (el cs i))):=fun X hX i hi=>(hX.cell (bG _ _ (hc i hi))).trans (hc i hi)
 have Ad:aG (∀ k,k<=len->0<=rZ cs k/\rZ cs k<=100000):=fun k hk=>by have:=Xr hall k (by omega);exact⟨this.1,this.2.1⟩
 have B0:aG (Below w.heap.size w (w.alloc (aH #[] 2))):=(aZ5 _ _).alloc (aZ0 _) _;have HMS:aG (∀ k,k<len->rZ cs (k+1)=max (rZ cs k) (el cs k)):=fun k hk=>Ik (by omega)
 clear hc hall hl;go_enter Tryz.func154,Tryz.ntmps154
 go_wp2
 go_loop [5,6] (fun m i=>∃ k:Nat,k<=len/\i=ah aA k/\m=ah aA (rZ cs k)) (fun _ i=>len-(ba4 i).toNat)
 case atStart=>exact⟨0,aZ1 _,rfl,rfl⟩
 case round =>
  obtain⟨k,hk,rfl,rfl⟩:=hrel;by_cases hlt:k<len
  ·have ck:=HC.out _ B0.out k hlt
   have HS':=dP (HMS.out k hlt);have k1:(k:Int)<len:=by omega
   have k0:(0:Int)<=k:=by omega
   generalize rZ cs k=R at *;generalize el cs k=x at *;go_wp2_with (go_at_call 30;refine (Ey _ _ _).mono ?_;rintro e w' ⟨rfl,rfl⟩)
   go_round
   case rel=>exact⟨k+1,by omega,by go_num,by rw[HS'.out]⟩
   case measure=>simp[ba4];omega
  ·have hkl:k=len:=by omega
   subst hkl;obtain⟨hm0,hm1⟩:=Ad.out k (aZ0 _);obtain⟨M,hM⟩:∃ M:Nat,rZ cs k=(M:Int):=⟨(rZ cs k).toNat,by omega⟩
   have HM:aG ((rZ cs k).toNat=M):=by rw[aG,hM];simp
   have hM1:M<=100000:=by omega
   rw[hM];clear hM hm0 hm1 hlt;go_wp2
   go_loopw [3,7] (fun v i wr=>∃ (p g og cg:Nat),p<=M/\i=ah aA p/\v=aj (au ⟨g,og,ak⟩) (iC cs p).length cg/\w.heap.size<=g/\OI wr g og (iC cs p).length cg (iC cs p)/\Below w.heap.size w wr) (fun _ i _=>M-(ba4 i).toNat)
   case atStart=>exact⟨0,w.heap.size,0,0,aZ1 _,rfl,rfl,aZ0 _,oG w 2,B0.out⟩
   case round =>
    obtain⟨p,g,og,cg,hp,rfl,rfl,hg,hO,hB⟩:=hrel;have KO:=dP hO;have KB:=dP hB;have KG:=dP hg;clear hO hB hg;by_cases hpl:p<M
    ·have p1:(p:Int)<M:=by omega
     go_wp2
     go_loopw [3,8] (fun v i wx=>∃ (j g og cg:Nat),j<=k/\i=ah aA j/\v=aj (au ⟨g,og,ak⟩) (iC cs p++kL cs p j).length cg/\w.heap.size<=g/\OI wx g og (iC cs p++kL cs p j).length cg (iC cs p++kL cs p j)/\Below w.heap.size w wx) (fun _ i _=>k-(ba4 i).toNat)
     case atStart=>exact⟨0,g,og,cg,aZ1 _,rfl,by simp[kL],KG.out,by simpa[kL] using KO.out,KB.out⟩
     case round =>
      obtain⟨j,g,og,cg,hj,rfl,rfl,hg,hO,hB⟩:=hrel;have LO:=dP hO;have LB:=dP hB;have LG:=dP hg
      have LLE:(iC cs p++kL cs p j).length<=1000000:=by
       rw[dB];have h1:=Gh cs p;have h2:=SK cs p j;rw[HL.out] at h1;have h3:p*k<=100000*8:=Nat.mul_le_mul (by omega) hlen
       omega
      clear hO hg KO KB KG;by_cases hjl:j<k
      ·have cj:=HC.out _ hB j hjl
       have j1:(j:Int)<k:=by omega
       have j0:(0:Int)<=j:=by omega
       have HR:aG (iC cs p++kL cs p (j+1)=(iC cs p++kL cs p j)++(if (p:Int)<el cs j then [(k:Int)*(p:Int)+(j:Int)] else [])):=by rw[aG,yG,aT5,HL.out]
       have m0:0<=(k:Int)*(p:Int):=aW9 (by omega) (by omega)
       have m1:(k:Int)*(p:Int)<=8*100000:=Int.mul_le_mul (by omega) (by omega) (by omega) (by omega)
       clear hB;generalize hW:iC cs p++kL cs p (j+1)=W1 at *;generalize iC cs p++kL cs p j=W0 at *;generalize el cs j=x at *;by_cases hx:(p:Int)<x
       ·rw[if_pos hx] at HR
        generalize hmm:(k:Int)*(p:Int)=m at *;have hO2:jk (wr.alloc (aH #[ah aA (m+(j:Int))] 2)) 1 g og W0.length cg (W0.map (Value.int aA)):=jk.below LO.out ((aZ5 _ _).alloc (aZ0 _) _) LO.out.blk;go_wp2_with (at_builtin;refine iH _ rfl _ _ _ rfl 2 i0 _ 1 8 dK hi0 hz0 hz1 hz2 rfl (by omega) g og W0.length cg _ rfl hO2 ⟨wr.heap.size,0,ak⟩ 1 1 [ah aA (m+(j:Int))] rfl rfl (World.news_of_block (cs:=#[ah aA (m+(j:Int))]) (t:=2) (fr:=(0,0)) (heap_alloc_new _ _)) (by simp[Value.oneCell']) (by unfold ba2;omega) (by omega) ?_;intro g6 o6 c6 w6 CP zq xR)
        have NG:aG (w.heap.size<=g6):=by
         rcases xR with h|h
         ·rw[h];exact LG.out
         ·rw[h];exact aY2 LB.out.size (by simp)
        have NL:aG (W1.length=W0.length+1):=by rw[aG,HR.out];simp
        have NO:aG (OI w6 g6 o6 W1.length c6 W1):=by
         rw[aG,NL.out,HR.out,OI,List.map_append];exact CP
        have NB:aG (Below w.heap.size w w6):=oL (LB.out.alloc LB.out.size _) zq LG.out (aY2 LB.out.size (by simp))
        clear CP zq xR hO2;go_wp2;go_roundw
        case rel=>exact⟨j+1,g6,o6,c6,by omega,by go_num,by rw[hW,NL.out],NG.out,by rw[hW];exact NO.out,NB.out⟩
        case measure=>simp[ba4];omega
       ·rw[if_neg hx,List.append_nil] at HR
        have hd:decide ((p:Int)<x)=aC:=by simpa using hx
        clear hx;go_wp2;go_roundw
        case rel=>exact⟨j+1,g,og,cg,by omega,by go_num,by rw[hW,HR.out],LG.out,by rw[hW,HR.out];exact LO.out,LB.out⟩
        case measure=>simp[ba4];omega
      ·have hjk:j=k:=by omega
       subst hjk;have HE:aG (iC cs (p+1)=iC cs p++kL cs p j):=by rw[aG,qX,HL.out]
       clear hB;go_wp2;go_roundw
       case rel=>exact⟨p+1,g,og,cg,by omega,by go_num,by rw[HE.out],LG.out,by rw[HE.out];exact LO.out,LB.out⟩
       case measure=>simp[ba4];omega
    ·have hpM:p=M:=by omega
     subst hpM;go_wp2;go_ret
     rw[HM.out];exact⟨g,og,cg,rfl,KG.out,KO.out,KB.out⟩
end Go.Proofs.YtafimeakbdmkjaaGreat