/-
  Texts in one.
-/
import Derived.Test.YtafimeakbdmkjaaGreatXaa
import Derived.Test.YtafimeakbdmkjaaGreatXaf
import Derived.Test.YtafimeakbdmkjaaGreatXae
namespace Go.Proofs.YtafimeakbdmkjaaGreat
open Bool renaming and_eq_true->bI,false->aC,true->aB
open Go renaming Addr->dH,Calls->dF,Value->aJ,World->aI,bodyPost_ret->bY,maxLen->dD
open Go.Builtin renaming append_->bU
open Go.Ending renaming returned->aK
open Go.IntKind renaming i64->aA
open Go.Obj renaming cells->aH
open Go.Proofs.Tryz renaming prog->dA
open Go.RowKit renaming Hid->aG,intOf->dG
open Go.RowKit.Below renaming refl->dw
open Go.Value renaming agg->aP,bool->aF,int->ah,pointer->aO,slice->aj
open Go.World renaming block_lt_of_cell?->aX,cell?_of_block->bf,size_alloc->bH
open List renaming all_eq_true->bJ,getD_eq_getElem?_getD->aS,getElem?_append_left->aU,getElem?_append_right->aT,getElem?_eq_getElem->aV,getElem?_eq_none->aZ,length_append->bD,length_set->bQ,length_take->bM,mem_cons->bW,mem_cons_of_mem->bC,mem_cons_self->bF,mem_iff_getElem->bg,replicate->bV
open Nat renaming le_refl->cO,le_trans->bZ,lt_succ_iff_lt_or_eq->aW,zero_le->cZ
open Option renaming none->ak,some->au
open Option.some renaming inj->bT
set_option linter.unusedVariables false
set_option linter.unusedSimpArgs false
open Go.RowKit Go.Sort
set_option maxRecDepth 100000
set_option maxHeartbeats 12800000
variable {α:Type} {B bb c i j k o off rb s:Nat} {X Y w:aI} {f fp:Fp} {m m':Mb} {h:Hs} {T:TypeId} {v0 v2 vr x0 x1 x2 x3 x4 x5 x6 x7:aJ} {id:Int}
def dY.one:dY->Prop
 | .v x=>x.oneCell'=aB
 | .sl _ _ _=>True
theorem tu {w:aI}:∀ {cs:List dY} {us:List aJ} {f:Fp},gB w cs us f->(∀ c∈cs,c.one)->∀ u∈us,u.oneCell'=aB
 | [],us,f,h,_,u,hu=>by
  obtain⟨rfl,_⟩:=h
  cases hu
 | c::cs,us,f,h,h1,u,hu=>by
  obtain⟨u0,us',f1,f2,rfl,h2,h3,_⟩:=h;rcases bW.1 hu with e|e
  ·subst e
   have:=h1 c bF
   cases c with
   | v x =>
    obtain⟨rfl,_⟩:=h2;exact this
   | sl s n cs =>
    obtain⟨a,c,us,G,f,rfl,_⟩:=h2
    rfl
  ·exact tu h3 (fun c hc=>h1 c (bC _ hc)) u e
theorem al7 (r:Rw):∀ c∈jo r,c.one:=by
 intro c hc;simp only[jo,bW,List.not_mem_nil,or_false] at hc;rcases hc with h|h|h|h|h|h|h|h<;>subst h<;>first|rfl|trivial
theorem Rz (m:Mb):∀ c∈jY m,c.one:=by
 intro c hc;simp only[jY,bW,List.not_mem_nil,or_false] at hc;rcases hc with h|h|h|h|h<;>subst h<;>first|rfl|trivial
theorem zK (x:Ml):∀ c∈kS x,c.one:=by
 intro c hc;simp only[kS,bW] at hc;rcases hc with h|h|h
 ·subst h;rfl
 ·subst h;rfl
 ·exact al7 _ c h
theorem Zj {F: α->List dY} (hF:∀ x,∀ c∈F x,c.one) (L:List α):∀ c∈L.flatMap F,c.one:=by
 intro c hc;obtain⟨x,_,h⟩:=List.mem_flatMap.1 hc;exact hF x c h
theorem JU {P: Program} {F: α->List dY} (hF:∀ x,(F x).length=s) (hF1:∀ x,∀ c∈F x,c.one) (t ty e:TypeId) (z:aJ) (bytes:Nat) (ht:P.underlying t=au (.slice e)) (hi:(P.info? e).map (fun i=>(i.zero,i.size,i.bytes))=au (au z,s,bytes)) (hzs:z.cells.size=s) (hsz:0<s)
  {a:Option dH} {c:Nat} {L M:List α} {fp fd:Fp} (hO:dY.ow w (iH s F L) (aj a L.length c) fp) {vals:List aJ} (hd:gB w (M.flatMap F) vals fd) (hdis:∀ b,fp b->¬ fd b)
  (x:Option dH) (cx:Nat) (hnews:M.length=0\/∃ ad,x=au ad/\∀ j u,vals[j]?=au u->w.cell? (ad.add j)=au u) (h63:L.length+M.length<=dD) (hbytes:(L.length+M.length)*bytes<=140737488355328) :
  ∃ a' c' w' fp',(bU #[t,t] ty #[aj a L.length c,aj x M.length cx]).run P w=.ok (aj a' (L.length+M.length) c') w'/\dY.ow w' (iH s F (L++M)) (aj a' (L.length+M.length) c') fp'/\eX fp w w'/\∀ b,fp' b->fp b\/fd b\/b=w.heap.size:=by
 obtain⟨i,hi0,hz,hs,hb⟩:=uP hi;obtain⟨a0,c0,us,G,f,e0,ho,hcs,hn,hf⟩:=hO
 cases e0
 have hl:vals.length=M.length*s:=by rw[jO hd,xC hF]
 obtain⟨a',c',G',w',hr,ho',hg,hat⟩:=ny (P:=P) w t ty e i z s bytes ht hi0 hz hs hb hzs hsz a L.length c us G ho x M.length cx vals hl hnews (tu hd (Zj hF1 M)) h63 hbytes;refine⟨a',c',w',fun b=>G'=au b\/f b\/fd b,hr, ?_,(eX.lI hg).mono (fun b _ hb=>(hf b).2 (.inl hb)),fun b hb=>?_⟩
 ·have:=FW hcs hd hn (fun b hb=>hdis b ((hf b).2 (.inl hb))) (fun b hb=>hdis b ((hf b).2 (.inr hb))) ho' hg hat
  unfold iH;rw[List.flatMap_append,bD];exact this
 ·rcases hb with hb|hb|hb
  ·rcases hat with h|h
   ·exact .inl ((hf b).2 (.inl (h ▸ hb)))
   ·rw[h] at hb;cases hb;exact .inr (.inr rfl)
  ·exact .inl ((hf b).2 (.inr hb))
  ·exact .inr (.inl hb)
theorem RF {α: Type} {F: α->List dY} (hF:∀ x,(F x).length=s) {u: aJ} {L: List α} (h:dY.ow w (iH s F L) u fp) {x: α} (hk:L[k]?=au x) :
  ∃ g off c u1 u2 u3 f1 f2 f3,u=aj (au ⟨g,off,ak⟩) L.length c/\fp g/\L.length<=c/\c<=dD/\(∀ b,f1 b->fp b/\b≠g)/\(∀ b,f2 b->fp b/\b≠g)/\(∀ b,f3 b->fp b/\b≠g) /\
   gB w ((L.take k).flatMap F) u1 f1/\gB w (F x) u2 f2/\gB w ((L.drop (k+1)).flatMap F) u3 f3/\(∀ b,f1 b->¬ f2 b)/\(∀ b,f1 b->¬ f3 b)/\(∀ b,f2 b->¬ f3 b) /\
   (∀ j y,u1[j]?=au y->w.cell? ⟨g,off+j,ak⟩=au y)/\(∀ j y,u2[j]?=au y->w.cell? ⟨g,off+k*s+j,ak⟩=au y)/\(∀ j y,u3[j]?=au y->w.cell? ⟨g,off+(k+1)*s+j,ak⟩=au y):=by
 have hkl:k<L.length:=by
  rcases Nat.lt_or_ge k L.length with h|h
  ·exact h
  ·rw[aZ h] at hk;cases hk
 obtain⟨a,c,us,G,f,rfl,ho,hcs,hn,hf⟩:=h;have hle:=ho.le;have hlu:=ho.len
 have e1:L=L.take k++([x]++L.drop (k+1)):=by
  have hx:L[k]=x:=by rw[aV hkl] at hk;exact bT hk
  rw[<- hx,List.singleton_append,List.getElem_cons_drop,List.take_append_drop]
 have e2:L.flatMap F=(L.take k).flatMap F++(F x++(L.drop (k+1)).flatMap F):=by
  conv=>lhs;rw[e1]
  rw[List.flatMap_append,List.flatMap_append,List.flatMap_singleton]
 rw[e2] at hcs;obtain⟨u1,u23,f1,f23,rfl,l1,l23,d1,i1⟩:=mP hcs;obtain⟨u2,u3,f2,f3,rfl,l2,l3,d2,i2⟩:=mP l23;have n1:u1.length=k*s:=by rw[jO l1,xC hF,bM];congr 1;omega
 have n2:u2.length=s:=by rw[jO l2,hF]
 have n3:u3.length=(L.length-(k+1))*s:=by rw[jO l3,xC hF,List.length_drop]
 rcases ho with ⟨h0,_⟩|⟨g,off,rfl,hs,rfl⟩
 ·omega
 have hg:fp g:=(hf g).2 (.inl rfl);have I4:¬ f g:=hn g rfl
 have cell:∀ j y,(u1++(u2++u3))[j]?=au y->w.cell? ⟨g,off+j,ak⟩=au y:=fun j y hy=>by
  have hj:j<(u1++(u2++u3)).length:=by
   rcases Nat.lt_or_ge j (u1++(u2++u3)).length with h|h
   ·exact h
   ·rw[aZ h] at hy;cases hy
  rw[hs.cell j (by omega)]
  exact hy
 have s1:∀ b,f1 b->f b:=fun b hb=>(i1 b).2 (.inl hb)
 have s2:∀ b,f2 b->f b:=fun b hb=>(i1 b).2 (.inr ((i2 b).2 (.inl hb)))
 have s3:∀ b,f3 b->f b:=fun b hb=>(i1 b).2 (.inr ((i2 b).2 (.inr hb)))
 refine⟨g,off,c,u1,u2,u3,f1,f2,f3,rfl,hg,hle.1,hle.2,fun b hb=>⟨(hf b).2 (.inr (s1 b hb)),fun e=>I4 (e ▸ s1 b hb)⟩,fun b hb=>⟨(hf b).2 (.inr (s2 b hb)),fun e=>I4 (e ▸ s2 b hb)⟩,fun b hb=>⟨(hf b).2 (.inr (s3 b hb)),fun e=>I4 (e ▸ s3 b hb)⟩,l1,l2,l3,fun b hb h2=>d1 b hb ((i2 b).2 (.inl h2)),fun b hb h2=>d1 b hb ((i2 b).2 (.inr h2)),fun b hb h2=>d2 b hb h2,fun j y hy=>?_,fun j y hy=>?_,fun j y hy=>?_⟩
 ·refine cell j y ?_
  have hj:j<u1.length:=by
   rcases Nat.lt_or_ge j u1.length with h|h
   ·exact h
   ·rw[aZ h] at hy;cases hy
  rw[aU hj];exact hy
 ·rw[Nat.add_assoc]
  refine cell _ y ?_
  have hj:j<u2.length:=by
   rcases Nat.lt_or_ge j u2.length with h|h
   ·exact h
   ·rw[aZ h] at hy;cases hy
  rw[aT (by omega),aU (by omega),n1,Nat.add_sub_cancel_left]
  exact hy
 ·rw[Nat.add_assoc]
  refine cell _ y ?_;have e:(k+1)*s=k*s+s:=by rw[Nat.add_mul,Nat.one_mul]
  rw[aT (by omega),aT (by omega),n1,n2,e,show k*s+s+j-k*s-s=j by omega]
  exact hy
theorem iP.atR {cs: List dY} (h:iP w B o cs fp) {c: dY} (hj:cs[j]?=au c):∃ u f,w.cell? ⟨B,o+j,ak⟩=au u/\w.frozen? ⟨B,o+j,ak⟩=aC/\dY.ow w c u f/\(∀ b,f b->fp b)/\¬ f B/\(∀ (i:Nat) (ci:dY),i≠j->cs[i]?=au ci->∃ ui fi,w.cell? ⟨B,o+i,ak⟩=au ui/\dY.ow w ci ui fi/\∀ b,fi b->fp b/\¬ f b) /\
  ∀ (w1:aI) (c':dY) (u':aJ) (f':Fp),eX f w w1->dY.ow w1 c' u' f'->(∀ b,f' b->f b\/w.heap.size<=b)->w1.cell? ⟨B,o+j,ak⟩=au u/\w1.frozen? ⟨B,o+j,ak⟩=aC/\fH w (w1.setCell ⟨B,o+j,ak⟩ u') B o (cs.set j c') fp/\(u'=u->fH w w1 B o (cs.set j c') fp):=by
 obtain⟨vs,h1,h2,h3⟩:=h;have hlen:=jO h2
 have hjl:j<cs.length:=by
  rcases Nat.lt_or_ge j cs.length with h|h
  ·exact h
  ·rw[aZ h] at hj;cases hj
 obtain⟨u,f,hu,hc,hs,hp⟩:=zF h2 hj;have hfB:¬ f B:=fun k=>h3 (hs B k)
 have hB:=h1.lt
 have hrest:∀ (i:Nat) (ci:dY),i≠j->cs[i]?=au ci->∃ ui fi,w.cell? ⟨B,o+i,ak⟩=au ui/\dY.ow w ci ui fi/\∀ b,fi b->fp b/\¬ f b:=fun i ci hne hci=>by
  have hk:=hp w (.v (aF aC)) (aF aC) (fun _=>False) (cO _) ⟨rfl,fun _ h=>h⟩ (fun _ _ _=>rfl) (fun _ h=>h.elim)
  obtain⟨ui,fi,hui,hoi,hsi,_⟩:=zF hk (j:=i) (c:=ci) (by rw[List.getElem?_set_ne (Ne.symm hne)];exact hci)
  rw[List.getElem?_set_ne (Ne.symm hne)] at hui
  have hil:i<vs.length:=by
   rcases Nat.lt_or_ge i vs.length with h|h
   ·exact h
   ·rw[aZ h] at hui;cases hui
  exact⟨ui,fi,(h1.cell i hil).trans hui,hoi,fun b hb=>(hsi b hb).elim (fun h=>h.elim) id⟩
 refine⟨u,f,(h1.cell j (by omega)).trans hu,h1.free j (by omega),hc,hs,hfB,hrest,fun w1 c' u' f' hw hc' hf'=>?_⟩
 have e1:=hw.block B hB hfB;have hP1:=h1.of_block e1 hw.size;have hlt:=jd h2;have Bv:¬ f' B:=fun k=>by rcases hf' B k with k|k;exact hfB k;omega
 have hc1:w1.cell? ⟨B,o+j,ak⟩=au u:=(hP1.cell j (by omega)).trans hu
 refine⟨hc1,hP1.free j (by omega),⟨⟨fun b=>f' b\/fp b/\¬ f b,⟨vs.set j u',⟨fun k hk=>?_,fun k hk=>?_,by simp[World.setCell];exact hP1.lt⟩, ?_, ?_⟩, ?_⟩,fun k hk=>?_,fun k=>?_, ?_⟩,fun e=>⟨⟨fun b=>f' b\/fp b/\¬ f b,⟨vs,hP1, ?_, ?_⟩, ?_⟩,fun k hk=>bf e1,fun k=>by simp only[World.frozen?,e1],hw.mono (fun b _ hb=>.inl (hs b hb))⟩⟩
 ·by_cases ek:j=k
  ·subst ek
   rw[World.cell?_setCell_same _ _ _ hc1];simp at hk
   simp[hk]
  ·rw[World.cell?_setCell_other _ _ _ _ (by simp[ek]),hP1.cell k (by simpa using hk)]
   simp[ek]
 ·rw[World.frozen?_setCell];exact hP1.free k (by simpa using hk)
 ·have hw2:=eX.set w1 B (o+j) u'
  exact hp _ c' u' f' (bZ hw.size hw2.size) (dY.lJ hc' hw2 (fun b hb e => Bv (e ▸ hb))) (fun b hb hn => (hw2.block b (Nat.lt_of_lt_of_le (hlt b hb) hw.size) (fun e => h3 (e ▸ hb))).trans (hw.block b (hlt b hb) hn)) (fun b hb hb2 => by
   rcases hf' b hb with k|k
   ·exact k
   ·have:=hlt b hb2;omega)
 ·rintro (k|⟨k,_⟩)
  ·exact Bv k
  ·exact h3 k
 ·rintro b (k|⟨k,_⟩)
  ·exact (hf' b k).imp (hs b) id
  ·exact .inl k
 ·have hk2:=hk
  rw[bQ] at hk2;rw[World.cell?_setCell_other _ _ _ _ (by simp only[ne_eq,Addr.mk.injEq,not_and];omega)]
  exact bf e1
 ·rw[World.frozen?_setCell];simp only[World.frozen?,e1]
 ·exact (hw.mono (fun b _ hb=>Or.inl (hs b hb))).trans (eX.set w1 B (o+j) u') (fun b _ hb=>.inr hb)
 ·subst e
  have := hp w1 c' u' f' hw.size hc' (fun b hb hn => hw.block b (hlt b hb) hn) (fun b hb hb2 => by
   rcases hf' b hb with k|k
   ·exact k
   ·have:=hlt b hb2;omega)
  have e2:vs.set j u'=vs:=by
   apply List.ext_getElem? ;intro i
   by_cases ei:j=i
   ·subst ei;rw[hu,List.getElem?_set_self (by omega)]
   ·simp[ei]
  rwa [e2] at this
 ·rintro (k|⟨k,_⟩)
  ·exact Bv k
  ·exact h3 k
 ·rintro b (k|⟨k,_⟩)
  ·exact (hf' b k).imp (hs b) id
  ·exact .inl k
theorem Gw.full {g: Gr} {b: Nat} (h:Gw w X B o g fp b off c):∃ u f f0,X.cell? ⟨B,o+2,ak⟩=au u/\X.frozen? ⟨B,o+2,ak⟩=aC/\dY.ow X (iH 10 kS g.dS) u f/\¬ f B/\B<X.heap.size/\(∀ b,f b->b<X.heap.size)/\dY.ow X (iH 5 jY g.mem) (aj (au ⟨b,off,ak⟩) g.mem.length c) f0/\(∀ b,f0 b->¬ f b/\b≠B) /\
  ∀ (X1:aI) (L:List Ml) (u':aJ) (f':Fp),eX f X X1->dY.ow X1 (iH 10 kS L) u' f'->(∀ b,f' b->f b\/X.heap.size<=b)->X1.cell? ⟨B,o+2,ak⟩=au u/\X1.frozen? ⟨B,o+2,ak⟩=aC/\Gw w (X1.setCell ⟨B,o+2,ak⟩ u') B o { g with dS:=L } fp b off c:=by
 obtain⟨gU,hp,hf1,hgo⟩:=h.iw.next;obtain⟨u,f,h1,hz,h2,h3,h4,hr,h5⟩:=hp.atR (j:=2) rfl;obtain⟨u0,f0,r1,r2,r3⟩:=hr 0 (iH 5 jY g.mem) (by omega) rfl
 have e0:=bT (r1.symm.trans h.mem);subst e0;refine⟨u,f,f0,h1,hz,h2,h4,hp.lt,fun b hb=>dY.kW h2 b hb,r2,fun b hb=>⟨(r3 b hb).2,fun e=>hp.nB (e ▸ (r3 b hb).1)⟩,fun X1 L u' f' hw ho hn=>?_⟩
 obtain⟨q1,q2,q3,_⟩:=h5 X1 (iH 10 kS L) u' f' hw ho hn;refine⟨q1,q2,hgo _ (fZ { g with dS:=L }) rfl q3, ?_⟩
 have e1:X1.cell? ⟨B,o,ak⟩=au (aj (au ⟨b,off,ak⟩) g.mem.length c):=(bf (hw.block B hp.lt h4)).trans h.mem;have e2:=World.cell?_setCells_out B [u'] (o+2) X1 ⟨B,o,ak⟩ (fun _ _=>by first|exact Or.inl (by show o<o+2;omega)|(simp;done))
 exact e2.trans e1
theorem al8 {b: Nat} {L: List Mb} {f0: Fp} (h:dY.ow X (iH 5 jY L) (aj (au ⟨b,off,ak⟩) L.length c) f0) {a: Nat} (ha:L[a]?=au m) (hk:k<m.rows.length) (hf:qo (dO m.rows k)):∃ rb ro rc Ak,f0 b/\f0 rb/\X.cell? ⟨b,off+a*5+2,ak⟩=au (aj (au ⟨rb,ro,ak⟩) m.rows.length rc) /\
  C8 X rb (ro+k*8) (ah aA (dO m.rows k).ver) (aj Ak.ta (dO m.rows k).txt.length Ak.tc) (aj Ak.ga (dO m.rows k).got.length Ak.gc) (aj Ak.sa (dO m.rows k).dQ.length Ak.sc) (aF (dO m.rows k).wed) (aF (dO m.rows k).dV) (ah aA (dO m.rows k).dW) (aj Ak.ma (dO m.rows k).dU.length Ak.mc)/\qj X Ak (dO m.rows k):=by
 obtain⟨g',off',f,e,h1,h2,h3,_⟩:=yx uz (by omega) h ha
 cases e
 obtain⟨rb,ro,rc,f',r1,_,r3,r4,r5,_⟩:=h3.el (F:=jo) jU (by omega) (j:=2) (L:=m.rows) rfl (iV hk)
 obtain⟨Ak,c8,rs⟩:=r5.pv.row hf;exact⟨rb,ro,rc,Ak,h1,h2 _ r3,r1,c8,rs⟩
structure OkG (g:Gr) (n:Nat):Prop where
 n5:1<=n/\n<=5
 ml:g.mem.length=n
 ul:g.up.length=n
 pJ:g.dS.length<=200
 mem:∀ i,i<n->iO (eF g i) i n
 kU:∀ x∈g.dS,∃ a b:Nat,x.fr=(a:Int)/\x.to=(b:Int)/\a<n/\b<n/\a≠b/\iR x.row n
theorem oD {g: Gr}:jA g=aB↔∃ n,OkG g n:=by
 constructor
 ·intro h
  simp only[jA,pI,bI,decide_eq_true_eq,bJ,List.mem_range] at h;obtain⟨h1,h2,h3,h4,h5,h6⟩:=h;refine⟨g.mem.length,⟨h1,h2⟩,rfl,h3,h4,fun i hi=>?_,fun x hx=>?_⟩
  ·obtain⟨k1,k2,k3⟩:=h5 i hi
   obtain⟨i',n',M⟩:=nD.1 k1;have e1:i'=i:=by have:=M.hid;omega
   have e2:n'=g.mem.length:=by have:=M.hn;omega
   rw[e1,e2] at M;exact M
  ·obtain⟨k1,k2,k3,k4⟩:=h6 x hx
   obtain⟨a,ea,ha⟩:=qE k1;obtain⟨b,eb,hb⟩:=qE k2;exact⟨a,b,ea,eb,ha,hb,fun e=>k3 (by rw[ea,eb,e]),rC.1 k4⟩
 ·rintro⟨n,G⟩
  have jq:=G.n5;simp only[jA,pI,bI,decide_eq_true_eq,bJ,List.mem_range]
  rw[G.ml];refine⟨jq.1,jq.2,G.ul,G.pJ,fun i hi=>⟨nD.2 ⟨i,n,G.mem i hi⟩,(G.mem i hi).hid,(G.mem i hi).hn⟩,fun x hx=>?_⟩
  obtain⟨a,b,h1,h2,h3,h4,h5,h6⟩:=G.kU x hx;exact⟨iZ.2 (by rw[h1];omega),iZ.2 (by rw[h2];omega),by rw[h1,h2];omega,rC.2 h6⟩
theorem MInv.okM {n: Nat} (M:MInv n h i m) (n5:1<=n/\n<=5):iO m i n:=by
 have ok:=M.ok i M.lt
 obtain⟨s1,s2,s3⟩:m.dR.length<=60/\m.dR.Pairwise (·<·)/\∀ q,q<m.dR.length->(0<=el m.dR q/\el m.dR q<=59)/\(m.done=aC->el m.dR q=(q:Int)):=by
  cases hd:m.done with
  | false =>
   obtain⟨h1,h2⟩:=M.vI hd;exact⟨h1,zl (fun q hq=>(h2 q hq).1),fun q hq=>⟨by rw[(h2 q hq).1];omega,fun _=>(h2 q hq).1⟩⟩
  | true =>
   obtain⟨h1,h2,h3,h4⟩:=M.fin hd
   have hx:∀ x∈m.dR,0<=x/\x<((60:Nat):Int):=fun x hx=>by
    rw[h4] at hx;obtain⟨q,rfl,hq⟩:=Oe (ok.dV h1).2.2.2.1 n5.2 hx;have:=n5.2;omega
   have hr:m.dR.Pairwise (·<·):=by rw[h4];exact wI _ _
   exact⟨AU hr hx,hr,fun q hq=>⟨by have:=hx _ (kK hq);omega,fun h=>(by cases h)⟩⟩
 exact⟨M.hid,M.hn,n5,M.lt,M.len,s1,s2,M.ok,s3,M.nO,M.self,fun hd=>(M.fin hd).1⟩
theorem GInv.pR {n: Nat} {g: Gr} {log: List Pp} (G:GInv n g h log):OkG g n :=
 ⟨G.n5,G.ml,G.ul,G.pJ,fun i hi=>(G.mem i hi).okM G.n5,fun x hx=>by obtain⟨a,b,h1,h2,h3,h4,h5,_,h7⟩:=G.kU x hx;exact⟨a,b,h1,h2,h3,h4,h5,h7⟩⟩
theorem qO.pR {n: Nat} {g: Gr} (h:qO n g):OkG g n:=by obtain⟨_,_,G⟩:=h;exact G.pR
theorem OkG.to {g: Gr} {n: Nat} (G:OkG g n) (hi:i<n) (M:iO m' i n):OkG (g.set i m') n:=by
 have hil:i<g.mem.length:=by rw[G.ml];exact hi
 refine⟨G.n5,by simp only[Gr.set,bQ];exact G.ml,G.ul,G.pJ,fun j hj=>?_,G.kU⟩
 rw[vJ hil]
 split
 ·rename_i e;rw[e];exact M
 ·exact G.mem j hj
theorem OkG.push {g: Gr} {n: Nat} (G:OkG g n) {a b: Nat} (ha:a<n) (hb:b<n) (hab:a≠b):OkG (jT g (a:Int) (b:Int)) n/\(jT g (a:Int) (b:Int)).mem=g.mem/\(jT g (a:Int) (b:Int)).up=g.up:=by
 unfold jT
 split
 ·rename_i hl
  refine⟨⟨G.n5,G.ml,G.ul,by simp only[bD,List.length_singleton];omega,G.mem,fun x hx=>?_⟩,rfl,rfl⟩
  rcases List.mem_append.1 hx with hx|hx
  ·exact G.kU x hx
  ·have:=List.mem_singleton.1 hx
   subst this;exact⟨a,b,rfl,rfl,ha,hb,hab,by simp only[Int.toNat_natCast];exact (G.mem a ha).ok a ha⟩
 ·exact⟨G,rfl,rfl⟩
theorem OkG.all {n:Nat} {a:Nat} (ha:a<n):∀ (L:List Nat) {g:Gr},OkG g n->(∀ x∈L,x<n)->OkG (L.foldl (fun g (i:Nat)=>if (i:Int)=(a:Int) then g else jT g (a:Int) (i:Int)) g) n/\(L.foldl (fun g (i:Nat)=>if (i:Int)=(a:Int) then g else jT g (a:Int) (i:Int)) g).mem=g.mem/\(L.foldl (fun g (i:Nat)=>if (i:Int)=(a:Int) then g else jT g (a:Int) (i:Int)) g).up=g.up
 | [],g,G,_=>⟨G,rfl,rfl⟩
 | i::L,g,G,hL=>by
  rw[List.foldl_cons];by_cases e:(i:Int)=a
  ·rw[if_pos e]
   exact OkG.all ha L G (fun x hx=>hL x (bC _ hx))
  ·rw[if_neg e]
   obtain⟨p1,p2,p3⟩:=G.push ha (hL i bF) (fun e2=>e (by rw[e2]))
   obtain⟨q1,q2,q3⟩:=OkG.all ha L p1 (fun x hx=>hL x (bC _ hx))
   exact⟨q1,q2.trans p2,q3.trans p3⟩
theorem OkG.land {g: Gr} {n: Nat} (G:OkG g n) (hi:i<g.dS.length):OkG (ku g i) n/\(ku g i).up=g.up/\(ku g i).dS=g.dS.take i++g.dS.drop (i+1)/\∀ k,k<n->eF (ku g i) k=eF g k\/∃ r:Rw,∃ a:Nat,iR r n/\eF (ku g i) k=(fK (eF g k) (a:Int) r).1:=by
 have hx:fF g i∈g.dS:=by
  unfold fF;rw[aS,aV hi];exact List.getElem_mem hi
 obtain⟨a,b,h1,h2,h3,h4,h5,h7⟩:=G.kU _ hx
 have hsub:∀ x∈g.dS.take i++g.dS.drop (i+1),x∈g.dS:=fun x hx=>by
  rcases List.mem_append.1 hx with hx|hx
  ·exact List.mem_of_mem_take hx
  ·exact List.mem_of_mem_drop hx
 have hlen:(g.dS.take i++g.dS.drop (i+1)).length<=200:=by
  have:=G.pJ;simp only[bD,bM,List.length_drop]
  omega
 unfold ku
 split
 ·rw[h2,h1]
  simp only[Int.toNat_natCast]
  have hbl:b<g.mem.length:=by rw[G.ml];exact h4
  have key:∀ j,eF { mem:=g.mem.set b (fK (eF g b) (a:Int) (fF g i).row).1,up:=g.up,dS:=g.dS.take i++g.dS.drop (i+1) } j=if j=b then (fK (eF g b) (a:Int) (fF g i).row).1 else eF g j:=fun j=>vJ (g:=g) (i:=b) (j:=j) (m:=(fK (eF g b) (a:Int) (fF g i).row).1) hbl
  refine⟨⟨G.n5,by simp only[bQ];exact G.ml,G.ul,hlen,fun j hj=>?_,fun x hx=>G.kU x (hsub x hx)⟩,trivial,trivial,fun k hk=>?_⟩
  ·rw[key]
   split
   ·rename_i e2;rw[e2];exact (sV (G.mem b h4) (a:Int) _).1
   ·exact G.mem j hj
  ·rw[key]
   split
   ·rename_i e2;rw[e2];exact .inr ⟨_,a,h7,rfl⟩
   ·exact .inl rfl
 ·exact⟨⟨G.n5,G.ml,G.ul,hlen,G.mem,fun x hx=>G.kU x (hsub x hx)⟩,rfl,rfl,fun k hk=>.inl rfl⟩
def AV (k:Nat) (m m':Mb):Prop:=Nx (dO m.rows k) (dO m'.rows k)/\((m'.dR=m.dR/\m'.done=m.done/\(m.done=aB->dO m'.rows k=dO m.rows k))\/m'=fM m)
theorem AV.refl (k:Nat) (m:Mb):AV k m m:=⟨Nx.refl _,.inl ⟨rfl,rfl,fun _=>rfl⟩⟩
theorem Zk {t: List UInt8} (h:m.done=aB):(jD m t).1=m:=by rw[jD,if_pos (.inr (.inl h))]
theorem Ux {w: Int} (h:m.done=aB):(fJ m w).1=m:=by rw[fJ,if_pos (.inr (.inr (.inr (.inl h))))]
theorem OkG.JV {g: Gr} {n: Nat} (G:OkG g n) (hi:i<n) (h:AV i (eF g i) m'):∀ k,k<n->AV k (eF g k) (eF (g.set i m') k):=fun k hk=>by
 have hil:i<g.mem.length:=by rw[G.ml];exact hi
 rw[vJ hil]
 split
 ·rename_i e;rw[e];exact h
 ·exact AV.refl _ _
theorem OkG.Zl {g: Gr} {n: Nat} (G:OkG g n) (hi:i<g.dS.length):∀ k,k<n->AV k (eF g k) (eF (ku g i) k):=fun k hk=>by
 rcases (G.land hi).2.2.2 k hk with e|⟨r,a,_,e⟩
 ·rw[e];exact AV.refl _ _
 ·rw[e]
  obtain⟨h1,h2,h3,h4,h5,h6⟩:=sV (G.mem k hk) (a:Int) r;exact⟨by rw[h4];exact Nx.refl _,.inl ⟨h5,h6,fun _=>h4⟩⟩
theorem JW {g g': Gr} {n: Nat} (e:g'.mem=g.mem):∀ k,k<n->AV k (eF g k) (eF g' k):=fun k hk=>by
 have:eF g' k=eF g k:=by unfold eF;rw[e]
 rw[this];exact AV.refl _ _
theorem RH {n: Nat} {g: Gr} (G:OkG g n) (x:Ac):OkG (gQ g x).1 n/\((gQ g x).2=aC->(gQ g x).1=g)/\∀ k,k<n->AV k (eF g k) (eF (gQ g x).1 k):=by
 have hself:OkG g n/\(False=True->g=g)/\∀ k,k<n->AV k (eF g k) (eF g k):=⟨G,fun _=>rfl,fun k _=>AV.refl _ _⟩
 have hs:∀ b:Bool,OkG ((g,b):Gr×Bool).1 n/\(((g,b):Gr×Bool).2=aC->((g,b):Gr×Bool).1=g)/\∀ k,k<n->AV k (eF g k) (eF ((g,b):Gr×Bool).1 k):=fun b=>⟨G,fun _=>rfl,fun k _=>AV.refl _ _⟩
 have Ob:mV g x=aB->∃ a b:Nat,x.a=(a:Int)/\x.b=(b:Int)/\a<n/\b<n/\a≠b:=fun ht=>by
  simp only[mV,bI,decide_eq_true_eq] at ht;rw[G.ml] at ht;obtain⟨a,e1,h1⟩:=qE ht.1;obtain⟨b,e2,h2⟩:=qE ht.2.1;exact⟨a,b,e1,e2,h1,h2,fun e=>ht.2.2 (by rw[e1,e2,e])⟩
 have hset:∀ {a:Nat},a<n->∀ {m':Mb},m'=eF g a->g.set a m'=g:=fun {a} ha {m'} e=>by
  have hal:a<g.mem.length:=by rw[G.ml];exact ha
  have e2:m'=g.mem[a]:=by rw[e];simp[eF,hal]
  rw[Gr.set,e2,List.set_getElem_self]
 unfold gQ;by_cases c3:x.kind=3
 ·rw[if_pos c3]
  by_cases c2:mV g x=aB
  ·rw[if_pos c2]
   cases e:g.dS.findIdx? (fun y=>decide (y.fr=x.a/\y.to=x.b)) with
   | none=>exact hs _
   | some i =>
    have hi:=(List.findIdx?_eq_some_iff_getElem.1 e).1;exact⟨(G.land hi).1,fun h=>(by cases h),G.Zl hi⟩
  ·rw[if_neg c2];exact hs _
 ·rw[if_neg c3]
  by_cases c0:inB x.a 0 ((g.mem.length:Int)-1)=aC\/ou g x.a.toNat=aC
  ·rw[if_pos c0];exact hs _
  ·rw[if_neg c0]
   simp only[not_or] at c0;rw[G.ml] at c0;obtain⟨a,ea,ha⟩:=qE (by simpa using c0.1)
   have M:=G.mem a ha;have et:x.a.toNat=a:=by rw[ea];rfl
   rw[et];by_cases c1:x.kind=1
   ·rw[if_pos c1]
    obtain⟨k1,k2,k3,k4,k5,k6,k7⟩:=JR M x.txt;exact⟨G.to ha k1,fun h=>hset ha (k2 h),G.JV ha ⟨k4,.inl ⟨k5,k6,fun hd=>by rw[Zk hd]⟩⟩⟩
   ·rw[if_neg c1]
    by_cases c2:x.kind=2
    ·rw[if_pos c2]
     by_cases c4:mV g x=aB
     ·rw[if_pos c4]
      obtain⟨a',b,e1,e2,h1,h2,h3⟩:=Ob c4;rw[e1,e2];obtain⟨p1,p2,p3⟩:=G.push h1 h2 h3;exact⟨p1,fun h=>(by cases h),JW p2⟩
     ·rw[if_neg c4];exact hs _
    ·rw[if_neg c2]
     by_cases c4:x.kind=4
     ·rw[if_pos c4]
      have T:=stepM M;exact⟨G.to ha T.ok,fun h=>(by cases h),G.JV ha ⟨T.nx,.inr rfl⟩⟩
     ·rw[if_neg c4]
      by_cases c5:x.kind=5
      ·rw[if_pos c5]
       by_cases c6:mV g x=aB
       ·rw[if_pos c6]
        obtain⟨k1,k2,k3,k4,k5,k6,k7⟩:=Ew M x.b;exact⟨G.to ha k1,fun h=>hset ha (k2 h),G.JV ha ⟨k4,.inl ⟨k5,k6,fun hd=>by rw[Ux hd]⟩⟩⟩
       ·rw[if_neg c6];exact hs _
      ·rw[if_neg c5]
       by_cases c6:x.kind=6
       ·rw[if_pos c6]
        exact⟨⟨G.n5,G.ml,by simp only[bQ];exact G.ul,G.pJ,G.mem,G.kU⟩,fun h=>(by cases h),JW rfl⟩
       ·rw[if_neg c6]
        by_cases c7:x.kind=7
        ·rw[if_pos c7,ea]
         obtain⟨p1,p2,p3⟩:=OkG.all ha (List.range g.mem.length) G (fun y hy=>by rw[G.ml] at hy;exact List.mem_range.1 hy)
         exact⟨p1,fun h=>(by cases h),JW p2⟩
        ·rw[if_neg c7];exact hs _
def oJ (g:Gr) (k:Nat):Bool:=iG (eF g k)&&(decide ((eF g k).id=(k:Int))&&decide ((eF g k).n=(g.mem.length:Int)))
theorem VR {g: Gr} (h:¬ 1<=g.mem.length):jA g=aC:=by simp only[jA,decide_eq_false h,Bool.false_and]
theorem VT {g: Gr} (h:¬ g.mem.length<=5):jA g=aC:=by simp only[jA,decide_eq_false h,Bool.false_and,Bool.and_false]
theorem VU {g: Gr} (h:¬ g.up.length=g.mem.length):jA g=aC:=by simp only[jA,decide_eq_false h,Bool.false_and,Bool.and_false]
theorem VW {g: Gr} (h:¬ g.dS.length<=200):jA g=aC:=by simp only[jA,decide_eq_false h,Bool.false_and,Bool.and_false]
theorem VX {g: Gr} (hk:k<g.mem.length) (h:oJ g k=aC):jA g=aC:=by
 have:(List.range g.mem.length).all (fun i=>iG (eF g i)&&(decide ((eF g i).id=(i:Int))&&decide ((eF g i).n=(g.mem.length:Int))))=aC:=by
  rw[List.all_eq_false];exact⟨k,List.mem_range.2 hk,by rw[show (iG (eF g k)&&(decide ((eF g k).id=(k:Int))&&decide ((eF g k).n=(g.mem.length:Int))))=oJ g k from rfl,h];simp⟩
 simp only[jA,this,Bool.false_and,Bool.and_false]
theorem VY {g: Gr} (hk:k<g.dS.length) (h:pI (fF g k) (g.mem.length:Int)=aC):jA g=aC:=by
 have:g.dS.all (fun x=>pI x (g.mem.length:Int))=aC:=by
  rw[List.all_eq_false];exact⟨fF g k,List.mem_of_getElem? (nH hk),by simp[h]⟩
 simp only[jA,this,Bool.false_and,Bool.and_false]
theorem Om {g: Gr} (h1:1<=g.mem.length) (h2:g.mem.length<=5) (h3:g.up.length=g.mem.length) (h4:g.dS.length<=200) (h5:∀ k,k<g.mem.length->oJ g k=aB) (h6:∀ k,k<g.dS.length->pI (fF g k) (g.mem.length:Int)=aB):jA g=aB:=by
 have e5:(List.range g.mem.length).all (fun i=>iG (eF g i)&&(decide ((eF g i).id=(i:Int))&&decide ((eF g i).n=(g.mem.length:Int))))=aB:=by
  rw[bJ];intro k hk;exact h5 k (List.mem_range.1 hk)
 have e6:g.dS.all (fun x=>pI x (g.mem.length:Int))=aB:=by
  rw[bJ];intro x hx;obtain⟨j,hj,rfl⟩:=bg.1 hx;have:=h6 j hj;simpa[fF,List.getD,hj] using this
 simp only[jA,h1,h2,h3,h4,e5,e6,decide_true,Bool.true_and]
theorem Bx.g3 (h:Bx w B T #[x0,x1,x2]):w.cell? ⟨B,0,ak⟩=au x0/\w.cell? ⟨B,1,ak⟩=au x1/\w.cell? ⟨B,2,ak⟩=au x2 :=
 ⟨h.at 0 rfl,h.at 1 rfl,h.at 2 rfl⟩
theorem Bx.r10 {x8 x9: aJ} (h:Bx w B T #[x0,x1,x2,x3,x4,x5,x6,x7,x8,x9]):(w.cell? ⟨B,0,ak⟩=au x0/\w.cell? ⟨B,1,ak⟩=au x1)/\(w.cell? ⟨B,2,ak⟩=au x2/\w.cell? ⟨B,3,ak⟩=au x3/\w.cell? ⟨B,4,ak⟩=au x4/\w.cell? ⟨B,5,ak⟩=au x5)/\w.cell? ⟨B,6,ak⟩=au x6/\w.cell? ⟨B,7,ak⟩=au x7/\w.cell? ⟨B,8,ak⟩=au x8/\w.cell? ⟨B,9,ak⟩=au x9 :=
 ⟨⟨h.at 0 rfl,h.at 1 rfl⟩,⟨h.at 2 rfl,h.at 3 rfl,h.at 4 rfl,h.at 5 rfl⟩,h.at 6 rfl,h.at 7 rfl,h.at 8 rfl,h.at 9 rfl⟩
theorem Ho (A:Ga) (g:Gr) (w:aI) (hv:wZ w A g) :
  dF dA 37 #[gX A g] w fun e w'=>e=aK (aF (jA g))/\Below w.heap.size w w':=by
 have hB0:=dX w (aH (iW A g) 28);have hx:=Bx.new w 28 (iW A g);have h0:=hv.below hB0;generalize hW:w.alloc (aH (iW A g) 28)=W at *;obtain⟨mem,up,dS⟩:=g;obtain⟨ma,mc,ua,uc,la,lc⟩:=A;have hw0:w.alloc (aH #[aj ma mem.length mc,aj ua up.length uc,aj la dS.length lc] 28)=W:=hW;obtain⟨c0,c1,c2⟩:=Bx.g3 hx;have HX:=dP hx;have HV:=dP h0;have lm:=h0.lm;have lu:=h0.lu;have ll:=h0.ll;simp only at lm lu ll c0 c1 c2
 unfold dD at lm lu ll;have HB0:=dP hB0;unfold gX iW;clear hv hx hW hB0 h0;simp only
 by_cases h1:1<=mem.length;rotate_left
 ·have gn:(mem.length:Int)<1:=by omega
  have HZ:aG (jA ⟨mem,up,dS⟩=aC):=VR (g:=⟨mem,up,dS⟩) h1;go_enter Tryz.func37,Tryz.ntmps37
  go_wp2;go_ret
  exact⟨dZ (by rw[HZ.out]),HB0.out⟩
 have g1:¬ ((mem.length:Int)<1):=by omega
 by_cases h2:mem.length<=5;rotate_left
 ·have gn:(5:Int)<mem.length:=by omega
  have HZ:aG (jA ⟨mem,up,dS⟩=aC):=VT (g:=⟨mem,up,dS⟩) h2;go_enter Tryz.func37,Tryz.ntmps37
  go_wp2;go_ret
  exact⟨dZ (by rw[HZ.out]),HB0.out⟩
 have g2:¬ ((5:Int)<mem.length):=by omega
 by_cases h3:up.length=mem.length;rotate_left
 ·have gn:((up.length:Int) != (mem.length:Int))=aB:=by simp;omega
  have HZ:aG (jA ⟨mem,up,dS⟩=aC):=VU (g:=⟨mem,up,dS⟩) h3;clear h3;go_enter Tryz.func37,Tryz.ntmps37
  go_wp2;go_ret
  exact⟨dZ (by rw[HZ.out]),HB0.out⟩
 have g3:((up.length:Int) != (mem.length:Int))=aC:=by simp;omega
 have KU:=dP h3;clear h3;by_cases h4:dS.length<=200;rotate_left
 ·have gn:(200:Int)<dS.length:=by omega
  have HZ:aG (jA ⟨mem,up,dS⟩=aC):=VW (g:=⟨mem,up,dS⟩) h4;go_enter Tryz.func37,Tryz.ntmps37
  go_wp2;go_ret
  exact⟨dZ (by rw[HZ.out]),HB0.out⟩
 have g4:¬ ((200:Int)<dS.length):=by omega
 go_enter Tryz.func37,Tryz.ntmps37
 go_wp2;clear hw0 g1 g2 g3 g4 c0 c1 c2
 go_loopw [4] (fun i wr=>∃ k:Nat,k<=mem.length/\i=ah aA k/\(∀ j,j<k->oJ ⟨mem,up,dS⟩ j=aB)/\Below W.heap.size W wr) (fun i _=>mem.length-(dG i).toNat)
 case atStart=>exact⟨0,cZ _,rfl,fun j hj=>by omega,dw _ _⟩
 case round =>
  obtain⟨k,hk,rfl,hall,hgr⟩:=hrel;have HA:=dP hall;have HG:=dP hgr;obtain⟨c0,c1,c2⟩:=Bx.g3 (HX.out.below hgr);clear hall;by_cases hlt:k<mem.length
  ·have k1:(k:Int)<mem.length:=by omega
   have k0:(0:Int)<=k:=by omega
   obtain⟨b,off,Ak,hma,⟨d0,d1,d2,d3,d4⟩,hms⟩:=(HV.out.below hgr).member (k:=k) hlt;simp only at hma d0 d1 d2 d3 d4
   have HY:aG (oJ ⟨mem,up,dS⟩ k=aB->∀ j,j<k+1->oJ ⟨mem,up,dS⟩ j=aB):=fun h1 j hj=>by
    rcases aW.1 hj with h|h
    ·exact HA.out j h
    ·rw[h];exact h1
   have kP:aG (oJ ⟨mem,up,dS⟩ k=aC->jA ⟨mem,up,dS⟩=aC):=fun h=>VX (g:=⟨mem,up,dS⟩) hlt h
   have BG:aG (oJ ⟨mem,up,dS⟩ k=(iG (eF ⟨mem,up,dS⟩ k)&&(decide ((eF ⟨mem,up,dS⟩ k).id=(k:Int))&&decide ((eF ⟨mem,up,dS⟩ k).n=(mem.length:Int))))):=rfl;generalize oJ ⟨mem,up,dS⟩ k=on at *;generalize eF ⟨mem,up,dS⟩ k=m at *;have hM:∀ X,Below wr.heap.size wr X->dF dA 73 #[iU Ak m] X fun e w'=>e=aK (aF (iG m))/\Below X.heap.size X w':=fun X h=>Zf Ak m X (hms.below h)
   have hwn:=dX wr (aH (iq Ak m) 47);have hxn:=Bx.new wr 47 (iq Ak m);subst hma;clear hms hgr;generalize iG m=ob at *;obtain⟨id,n,rows,dR,done⟩:=m;obtain⟨ra,rc,sa,sc⟩:=Ak;simp only[iU,iq] at d0 d1 d2 d3 d4 hM hwn hxn BG;generalize hWn:wr.alloc (aH #[ah aA id,ah aA n,aj ra rows.length rc,aj sa dR.length sc,aF done] 47)=Wn at *;have hMn:=hM Wn hwn;have tC:=dP (eU HG.out hwn);have HXn:=dP hxn;obtain⟨e0,e1,e2,e3,e4⟩:=Bx.r5 hxn;clear hM hwn hxn;have HB1:aG (∀ X,Below W.heap.size W X->Below w.heap.size w X):=fun X h=>eU HB0.out h
   cases ob with
   | false =>
    have HZ:aG (jA ⟨mem,up,dS⟩=aC):=kP.out (by rw[BG.out];rfl)
    go_wp2_with (go_at_call 73;refine hMn.mono ?_;rintro e w1 ⟨rfl,hb1⟩;have mD:aG (Below W.heap.size W w1):=(eU tC.out hb1);clear e0 e1 e2 e3 e4;obtain⟨e0,e1,e2,e3,e4⟩:=Bx.r5 (HXn.out.below hb1);clear hb1)
    go_ret
    exact⟨dZ (by rw[HZ.out]),HB1.out _ mD.out⟩
   | true =>
   by_cases hid:id=(k:Int);rotate_left
   ·have gid:(id != (k:Int))=aB:=by simpa using hid
    have HZ:aG (jA ⟨mem,up,dS⟩=aC):=kP.out (by rw[BG.out,decide_eq_false hid];rfl)
    clear hid;go_wp2_with (go_at_call 73;refine hMn.mono ?_;rintro e w1 ⟨rfl,hb1⟩;have mD:aG (Below W.heap.size W w1):=(eU tC.out hb1);clear e0 e1 e2 e3 e4;obtain⟨e0,e1,e2,e3,e4⟩:=Bx.r5 (HXn.out.below hb1);clear hb1)
    go_ret
    exact⟨dZ (by rw[HZ.out]),HB1.out _ mD.out⟩
   have gid:(id != (k:Int))=aC:=by simpa using hid
   by_cases hn:n=(mem.length:Int);rotate_left
   ·have gn:(n != (mem.length:Int))=aB:=by simpa using hn
    have HZ:aG (jA ⟨mem,up,dS⟩=aC):=kP.out (by rw[BG.out,decide_eq_false hn];simp)
    clear hn hid;go_wp2_with (go_at_call 73;refine hMn.mono ?_;rintro e w1 ⟨rfl,hb1⟩;have mD:aG (Below W.heap.size W w1):=(eU tC.out hb1);clear e0 e1 e2 e3 e4;obtain⟨e0,e1,e2,e3,e4⟩:=Bx.r5 (HXn.out.below hb1);clear hb1)
    go_ret
    exact⟨dZ (by rw[HZ.out]),HB1.out _ mD.out⟩
   have gn:(n != (mem.length:Int))=aC:=by simpa using hn
   have HN:aG (∀ j,j<k+1->oJ ⟨mem,up,dS⟩ j=aB):=HY.out (by rw[BG.out,decide_eq_true hid,decide_eq_true hn];rfl)
   clear hid hn;go_wp2_with (go_at_call 73;refine hMn.mono ?_;rintro e w1 ⟨rfl,hb1⟩;have mD:aG (Below W.heap.size W w1):=(eU tC.out hb1);clear e0 e1 e2 e3 e4;obtain⟨e0,e1,e2,e3,e4⟩:=Bx.r5 (HXn.out.below hb1);clear hb1)
   go_roundw
   case rel=>exact⟨k+1,by omega,by go_num,HN.out,mD.out⟩
   case measure=>simp[dG];omega
  ·have k1:¬ ((k:Int)<mem.length):=by omega
   have BA:aG (∀ j,j<mem.length->oJ ⟨mem,up,dS⟩ j=aB):=fun j hj=>HA.out j (by omega)
   have hwn:wrap64 ((mem.length:Int)-1)=(mem.length:Int)-1:=by unfold wrap64;omega
   clear HA hgr;go_wp2;clear c0 c1 c2;generalize wr=V at *
   go_loopw [6] (fun i wr=>∃ k:Nat,k<=dS.length/\i=ah aA k/\(∀ j,j<k->pI (fF ⟨mem,up,dS⟩ j) (mem.length:Int)=aB)/\Below W.heap.size W wr) (fun i _=>dS.length-(dG i).toNat)
   case atStart=>exact⟨0,cZ _,rfl,fun j hj=>by omega,HG.out⟩
   case round =>
    obtain⟨q,hq,rfl,hall,hgr⟩:=hrel;have HA:=dP hall;have HG2:=dP hgr;obtain⟨c0,c1,c2⟩:=Bx.g3 (HX.out.below hgr);clear hall;have HB1:aG (∀ X,Below W.heap.size W X->Below w.heap.size w X):=fun X h=>eU HB0.out h
    by_cases hlq:q<dS.length
    ·have q1:(q:Int)<dS.length:=by omega
     have q0:(0:Int)<=q:=by omega
     obtain⟨b,off,Ak,hla,d0,d1,⟨⟨d2,d3,d4,d5⟩,d6,d7,d8,d9⟩,hrs⟩:=(HV.out.below hgr).letter (k:=q) hlq;simp only at hla d0 d1 d2 d3 d4 d5 d6 d7 d8 d9
     rw[Nat.add_assoc] at d3 d4 d5 d6 d7 d8 d9
     have HY:aG (pI (fF ⟨mem,up,dS⟩ q) (mem.length:Int)=aB->∀ j,j<q+1->pI (fF ⟨mem,up,dS⟩ j) (mem.length:Int)=aB):=fun h1 j hj=>by
      rcases aW.1 hj with h|h
      ·exact HA.out j h
      ·rw[h];exact h1
     have kP:aG (pI (fF ⟨mem,up,dS⟩ q) (mem.length:Int)=aC->jA ⟨mem,up,dS⟩=aC):=fun h=>VY (g:=⟨mem,up,dS⟩) hlq h
     generalize fF ⟨mem,up,dS⟩ q=x at *;obtain⟨fr,tt,r⟩:=x;have BG:aG (pI ⟨fr,tt,r⟩ (mem.length:Int)=(inB fr 0 ((mem.length:Int)-1)&&(inB tt 0 ((mem.length:Int)-1)&&(decide (fr≠tt)&&gu r (mem.length:Int))))):=rfl;generalize pI ⟨fr,tt,r⟩ (mem.length:Int)=on at *;have hR:∀ X,Below wr.heap.size wr X->dF dA 74 #[iK Ak r,ah aA (mem.length:Int)] X fun e w'=>e=aK (aF (gu r (mem.length:Int)))/\Below X.heap.size X w':=fun X h=>G8 Ak r _ X (hrs.below h)
     have hwN:=dX wr (aH #[ah aA fr,ah aA tt,ah aA r.ver,aj Ak.ta r.txt.length Ak.tc,aj Ak.ga r.got.length Ak.gc,aj Ak.sa r.dQ.length Ak.sc,aF r.wed,aF r.dV,ah aA r.dW,aj Ak.ma r.dU.length Ak.mc] 68);have hxn:=Bx.new wr 68 #[ah aA fr,ah aA tt,ah aA r.ver,aj Ak.ta r.txt.length Ak.tc,aj Ak.ga r.got.length Ak.gc,aj Ak.sa r.dQ.length Ak.sc,aF r.wed,aF r.dV,ah aA r.dW,aj Ak.ma r.dU.length Ak.mc];subst hla;clear hrs hgr;generalize gu r (mem.length:Int)=ob at *;obtain⟨ver,txt,got,dQ,wed,dV,dW,dU⟩:=r;obtain⟨ta,tc,ga,gc,sa,sc,na,nc⟩:=Ak;simp only[iK,fQ] at d0 d1 d2 d3 d4 d5 d6 d7 d8 d9 hR hwN hxn;generalize hWn:wr.alloc (aH #[ah aA fr,ah aA tt,ah aA ver,aj ta txt.length tc,aj ga got.length gc,aj sa dQ.length sc,aF wed,aF dV,ah aA dW,aj na dU.length nc] 68)=Wn at *;have EH:=hR Wn hwN;have tC:=dP (eU HG2.out hwN);obtain⟨⟨e0,e1⟩,⟨e2,e3,e4,e5⟩,e6,e7,e8,e9⟩:=Bx.r10 hxn;clear hR hwN hxn
     cases p1:inB fr 0 ((mem.length:Int)-1) with
     | false =>
      have HZ:aG (jA ⟨mem,up,dS⟩=aC):=kP.out (by rw[BG.out,p1];rfl)
      go_wp2_with (go_at_call 40;refine fV (gI _ _ _ _) ?_)
      go_ret
      exact⟨dZ (by rw[HZ.out]),HB1.out _ tC.out⟩
     | true =>
     cases p2:inB tt 0 ((mem.length:Int)-1) with
     | false =>
      have HZ:aG (jA ⟨mem,up,dS⟩=aC):=kP.out (by rw[BG.out,p2];simp)
      go_wp2_with (go_at_call 40;refine fV (gI _ _ _ _) ?_)
      go_ret
      exact⟨dZ (by rw[HZ.out]),HB1.out _ tC.out⟩
     | true =>
     by_cases p3:fr=tt
     ·have g3:(fr==tt)=aB:=by simpa using p3
      have HZ:aG (jA ⟨mem,up,dS⟩=aC):=kP.out (by rw[BG.out,decide_eq_false (fun h=>h p3)];simp)
      clear p3;go_wp2_with (go_at_call 40;refine fV (gI _ _ _ _) ?_)
      go_ret
      exact⟨dZ (by rw[HZ.out]),HB1.out _ tC.out⟩
     have g3:(fr==tt)=aC:=by simpa using p3
     have xg:aG (on=ob):=by rw[aG,BG.out,p1,p2,decide_eq_true p3];rfl
     clear p3
     cases ob with
     | false =>
      have HZ:=dP (kP.out xg.out);go_wp2_with (first|(go_at_call 40;refine fV (gI _ _ _ _) ?_)|(go_at_call 74;refine EH.mono ?_;rintro e w1 ⟨rfl,hb1⟩;have mD:aG (Below W.heap.size W w1):=(eU tC.out hb1);clear hb1))
      go_ret
      exact⟨dZ (by rw[HZ.out]),HB1.out _ mD.out⟩
     | true =>
      have HN:=dP (HY.out xg.out);go_wp2_with (first|(go_at_call 40;refine fV (gI _ _ _ _) ?_)|(go_at_call 74;refine EH.mono ?_;rintro e w1 ⟨rfl,hb1⟩;have mD:aG (Below W.heap.size W w1):=(eU tC.out hb1);clear hb1))
      go_roundw
      case rel=>exact⟨q+1,by omega,by go_num,HN.out,mD.out⟩
      case measure=>simp[dG];omega
    ·have q1:¬ ((q:Int)<dS.length):=by omega
     have HZ:aG (jA ⟨mem,up,dS⟩=aB):=Om (g:=⟨mem,up,dS⟩) h1 h2 KU.out h4 BA.out (fun j hj=>HA.out j (by simp only at hj;omega))
     go_wp2;go_ret
     exact⟨dZ (by rw[HZ.out]),HB1.out _ HG2.out⟩
theorem Tryz.infoMl:(Tryz.prog.info? 68).map (fun i=>(i.zero,i.size,i.bytes))=au (au (aP #[ah aA 0,ah aA 0,ah aA 0,aj ak 0 0,aj ak 0 0,aj ak 0 0,aF aC,aF aC,ah aA 0,aj ak 0 0]),10,136):=by kernel_rfl
theorem nI {w': aI} {b: Nat} {v: aJ} (hw:eX f w w') (hn:¬ f b) (h:w.cell? ⟨b,i,ak⟩=au v):w'.cell? ⟨b,i,ak⟩=au v:=(bf (hw.block b (aX _ _ h) hn)).trans h
def yU (x:Ml) (A:Ra):Array aJ:=#[ah aA x.fr,ah aA x.to,ah aA x.row.ver,aj A.ta x.row.txt.length A.tc,aj A.ga x.row.got.length A.gc,aj A.sa x.row.dQ.length A.sc,aF x.row.wed,aF x.row.dV,ah aA x.row.dW,aj A.ma x.row.dU.length A.mc]
theorem JX {A: Ra} {x: Ml} (h:gB w (jM x.row) (jr A x.row) f):gB w (kS x) (yU x A).toList f:=vF (vF (Ez h))
theorem Gw.Uy {X1: aI} {g: Gr} {la: Option dH} {lc: Nat} (how:dY.ow X (iH 10 kS g.dS) (aj la g.dS.length lc) f) (hfl:∀ b,f b->b<X.heap.size)
  (hput:∀ (X1:aI) (L:List Ml) (u':aJ) (f':Fp),eX f X X1->dY.ow X1 (iH 10 kS L) u' f'->(∀ b,f' b->f b\/X.heap.size<=b)->X1.cell? ⟨B,o+2,ak⟩=au (aj la g.dS.length lc)/\X1.frozen? ⟨B,o+2,ak⟩=aC/\Gw w (X1.setCell ⟨B,o+2,ak⟩ u') B o { g with dS:=L } fp bb off c)
  (hb:Below X.heap.size X X1) {x:Ml} {Ar:Ra} {fr:Fp} (hr:gB X1 (jM x.row) (jr Ar x.row) fr) (hfr:∀ b,fr b->X.heap.size<=b) (hl:g.dS.length<=1000000) :
  ∀ Y,Same Y (X1.alloc (aH (yU x Ar) 68))->∃ v' w4,(bU #[26,26] 26 #[aj la g.dS.length lc,aj (au ⟨X1.heap.size,0,ak⟩) 1 1]).run dA Y=.ok v' w4 /\
   ∃ a' c',v'=aj a' (g.dS.length+1) c'/\eX f X w4/\w4.cell? ⟨B,o+2,ak⟩=au (aj la g.dS.length lc)/\w4.frozen? ⟨B,o+2,ak⟩=aC/\Gw w (w4.setCell ⟨B,o+2,ak⟩ (aj a' (g.dS.length+1) c')) B o { g with dS:=g.dS++[x] } fp bb off c:=by
 intro Y hY;have lg:=(dX X1 _).trans (hY.below.mono (dX X1 _).size);have sZ:=eU hb lg;have BX:=hb.size;have uQ:=JX (gG hr lg);obtain⟨a',c',w4,fp',k1,k2,k3,k4⟩:=sW (P:=dA) rD (w:=Y) 26 26 68 _ 136 Tryz.underlying26 Tryz.infoMl rfl (by omega) (x:=x) (dY.ig how sZ) uQ (fun b h1 h2=>by have:=hfl b h1;have:=hfr b h2;omega) (tu uQ (zK x)) X1.heap.size 68 (by rw[hY.heap];exact heap_alloc_new X1 _) (by unfold dD;omega) (by omega)
 have hw:eX f X w4:=(eX.of_below (f:=f) sZ).trans k3 (fun _ _ h=>h)
 obtain ⟨q1,q2,q3⟩ := hput w4 (g.dS ++ [x]) (aj a' (g.dS.length + 1) c') fp' hw k2 (fun b hb1 => by
  rcases k4 b hb1 with k|k|k
  ·exact .inl k
  ·exact .inr (hfr b k)
  ·right
   have:=sZ.size
   omega)
 exact⟨_,w4,k1,a',c',rfl,hw,q1,q2,q3⟩
def PS (B o bb i rb j:Nat) (v2 v0 vr x0 x1 x2 x3 x4 x5 x6 x7:aJ) (X:aI):Prop:=X.cell? ⟨B,o+2,ak⟩=au v2/\X.cell? ⟨B,o,ak⟩=au v0/\X.cell? ⟨bb,i,ak⟩=au vr/\X.cell? ⟨rb,j,ak⟩=au x0/\X.cell? ⟨rb,j+1,ak⟩=au x1/\X.cell? ⟨rb,j+2,ak⟩=au x2/\X.cell? ⟨rb,j+3,ak⟩=au x3/\X.cell? ⟨rb,j+4,ak⟩=au x4/\X.cell? ⟨rb,j+5,ak⟩=au x5/\X.cell? ⟨rb,j+6,ak⟩=au x6/\X.cell? ⟨rb,j+7,ak⟩=au x7
theorem PS.wrt (h:PS B o bb i rb j v2 v0 vr x0 x1 x2 x3 x4 x5 x6 x7 X) (hw:eX f X Y) (h1:¬ f B) (h2:¬ f bb) (h3:¬ f rb):PS B o bb i rb j v2 v0 vr x0 x1 x2 x3 x4 x5 x6 x7 Y:=by
 obtain⟨a,b,c,d0,d1,d2,d3,d4,d5,d6,d7⟩:=h;exact⟨nI hw h1 a,nI hw h1 b,nI hw h2 c,nI hw h3 d0,nI hw h3 d1,nI hw h3 d2,nI hw h3 d3,nI hw h3 d4,nI hw h3 d5,nI hw h3 d6,nI hw h3 d7⟩
theorem PS.below (h:PS B o bb i rb j v2 v0 vr x0 x1 x2 x3 x4 x5 x6 x7 X) (hb:Below X.heap.size X Y):PS B o bb i rb j v2 v0 vr x0 x1 x2 x3 x4 x5 x6 x7 Y:=h.wrt (f:=fun _=>False) (eX.of_below hb) id id id
theorem KY (B o:Nat) (g:Gr) (n a b:Nat) (fp:Fp) (w:aI) (h:iP w B o (fZ g) fp) (ok:OkG g n) (ha:a<n) :
  dF dA 99 #[aO (au ⟨B,o,ak⟩),ah aA (a:Int),ah aA (b:Int)] w fun e w'=>e=aK (.tuple #[])/\fH w w' B o (fZ (jT g (a:Int) (b:Int))) fp:=by
 have gq:=iD;have jq:=ok.n5;have hal:a<g.mem.length:=by rw[ok.ml];exact ha
 have M:=ok.mem a ha;have har:a<(eF g a).rows.length:=by rw[M.len];exact ha
 have R:=M.ok a ha;have EI:=ok.pJ;obtain⟨bb,off,c,G0⟩:=Gw.start h (by omega)
 obtain⟨u,f,f0,hu,hfz,how,hfB,hBl,hfl,hmem,hap,hput⟩:=G0.full;have how':=how;obtain⟨la,lc,_,_,_,rfl,_⟩:=how';obtain⟨rb,ro,rc,Ak,p1,p2,p3,⟨⟨d0,d1,d2,d3⟩,d4,d5,d6,d7⟩,hrs⟩:=al8 hmem (rX hal) har R.fit;have c0:=G0.mem;have nT:=dP G0;have Dw:=dP hput;have rP:=dP how;have Oo:=dP hfl;have KZ:aG (¬ f B/\¬ f bb/\¬ f rb):=⟨hfB,(hap _ p1).1,(hap _ p2).1⟩;have Oq:aG (jT g (a:Int) (b:Int)=if g.dS.length<200 then { g with dS:=g.dS++[⟨(a:Int),(b:Int),dO (eF g a).rows a⟩] } else g):=by rw[aG,jT];simp only[Int.toNat_natCast]
 have hln:=R.ln;have IU:=dP hrs;clear hput how hfl hap hmem h hrs p1 p2 hfB G0;by_cases hlt:g.dS.length<200;rotate_left
 ·have g2:¬ ((g.dS.length:Int)<200):=by omega
  have HZ:aG (jT g (a:Int) (b:Int)=g):=by rw[aG,Oq.out,if_neg hlt]
  clear d0 d1 d2 d3 d4 d5 d6 d7 p3;go_enter Tryz.func99,Tryz.ntmps99
  go_wp2;go_end0;exact⟨rfl,by rw[HZ.out];exact nT.out.iw⟩
 have g2:(g.dS.length:Int)<200:=by omega
 have HZ:aG (jT g (a:Int) (b:Int)={ g with dS:=g.dS++[⟨(a:Int),(b:Int),dO (eF g a).rows a⟩] }):=by rw[aG,Oq.out,if_pos hlt]
 have a0:(0:Int)<=a:=by omega
 have a1:(a:Int)<g.mem.length:=by omega
 have a2:(a:Int)<((eF g a).rows.length:Int):=by omega
 have hS0:PS B o bb (off+a*5+2) rb (ro+a*8) (aj la g.dS.length lc) (aj (au ⟨bb,off,ak⟩) g.mem.length c) (aj (au ⟨rb,ro,ak⟩) (eF g a).rows.length rc) (ah aA (dO (eF g a).rows a).ver) (aj Ak.ta (dO (eF g a).rows a).txt.length Ak.tc) (aj Ak.ga (dO (eF g a).rows a).got.length Ak.gc) (aj Ak.sa (dO (eF g a).rows a).dQ.length Ak.sc) (aF (dO (eF g a).rows a).wed) (aF (dO (eF g a).rows a).dV) (ah aA (dO (eF g a).rows a).dW) (aj Ak.ma (dO (eF g a).rows a).dU.length Ak.mc) w:=⟨hu,c0,p3,d0,d1,d2,d3,d4,d5,d6,d7⟩;have F6:=dP hS0;generalize hrr:dO (eF g a).rows a=r at *;have hbd:=(Same.drewN w 1).below;clear d0 d1 d2 d3 d4 d5 d6 d7 p3 c0 Oq hrr M R;go_enter Tryz.func99,Tryz.ntmps99
 go_wp2_with fail
 clear hu;refine lU (S:=PS B o bb (off+a*5+2) rb (ro+a*8) (aj la g.dS.length lc) (aj (au ⟨bb,off,ak⟩) g.mem.length c) (aj (au ⟨rb,ro,ak⟩) (eF g a).rows.length rc) (ah aA r.ver) (aj Ak.ta r.txt.length Ak.tc) (aj Ak.ga r.got.length Ak.gc) (aj Ak.sa r.dQ.length Ak.sc) (aF r.wed) (aF r.dV) (ah aA r.dW) (aj Ak.ma r.dU.length Ak.mc)) 24 gq ((hS0.below hbd)) fun hHeld=>?_
 refine fE (i:=0) rfl ?_;refine fE (i:=1) rfl ?_;refine fE (i:=2) rfl ?_;refine fE (i:=3) rfl ?_;refine fC (i:=4) rfl hHeld ?_;refine fE (i:=5) rfl ?_;refine fE (i:=6) rfl ?_;refine fE (i:=7) rfl ?_;refine fE (i:=8) rfl ?_;refine fE (i:=9) rfl ?_;refine fC (i:=10) rfl hHeld ?_;refine fE (i:=11) rfl ?_;refine fE (i:=12) rfl ?_;refine fE (i:=13) rfl ?_;refine fC (i:=14) rfl hHeld ?_;refine fE (i:=15) rfl ?_;refine fE (i:=16) rfl ?_;refine fC (i:=17) rfl hHeld ?_;refine iJ (i:=18) rfl fun K hK=>?_
 go_simp
 go_at_call 76
 refine (yG Ak r _ (IU.out.below hbd) hln.1 hln.2.1 hln.2.2.1 hln.2.2.2).mono ?_;rintro e w1 ⟨Ar,rfl,fr,hr1,hr2,hr3⟩;have hb1:=eU hbd hr3;have hA:=Gw.Uy (x:=⟨(a:Int),(b:Int),r⟩) rP.out Oo.out Dw.out hb1 hr1 (fun b hb=>hr2 b hb) (by omega)
 refine hK.out _ _ (F6.out.below hb1) (fun eP=>?_)
 clear hK hHeld;have hHeld:=eP;try simp only[iC]
 unfold iK;unfold fQ;unfold yU at hA;refine fE (i:=19) rfl ?_;refine iJ (i:=20) rfl fun K hK=>?_
 go_simp;refine hK.out _ _ (F6.out.below (hb1.trans ((dX w1 _).mono hb1.size))) (fun eP=>?_)
 clear hK hHeld;have hHeld:=eP;try simp only[iC]
 refine iJ (i:=21) rfl fun K hK=>?_
 refine jH (by rfl) _ _ _ _ (by rfl) (aj la g.dS.length lc) _ (by rfl) (by rfl) hA ⟨rfl,rfl,rfl,rfl⟩ ?_
 rintro v9 w4 ⟨a9,c9,rfl,hw4,q1,q2,EJ⟩;refine hK.out _ _ (F6.out.wrt hw4 KZ.out.1 KZ.out.2.1 KZ.out.2.2) (fun eP=>?_)
 clear hK hHeld;have hHeld:=eP;try simp only[iC]
 refine fE (i:=22) rfl ?_;refine fE (i:=23) rfl ?_;refine oV rfl fun K hK=>?_
 go_simp;refine hK.out _ _ ?_;have La:=dP EJ;clear EJ hA hr1 hr2 hr3 q1 q2 hw4;generalize w4.setCell ⟨B,o+2,ak⟩ (aj a9 (g.dS.length+1) c9)=W9 at *;go_wp2;go_end0;exact⟨rfl,by rw[HZ.out];exact La.out.iw⟩
def oG (g:Gr) (a:Int) (k:Nat):Gr:=(List.range k).foldl (fun g (i:Nat)=>if (i:Int)=a then g else jT g a (i:Int)) g
theorem yH (g:Gr) (a:Int) (k:Nat):oG g a (k+1)=if (k:Int)=a then oG g a k else jT (oG g a k) a (k:Int):=by
 unfold oG;rw[List.range_succ,List.foldl_append]
 rfl
theorem JY {g:Gr} {n a:Nat} (ok:OkG g n) (ha:a<n):∀ k,k<=n->OkG (oG g (a:Int) k) n
 | 0,_=>ok
 | k+1,hk=>by
  have ih:=JY ok ha k (by omega)
  rw[yH]
  split
  ·exact ih
  ·rename_i hne
   exact (ih.push ha (by omega) (fun e=>hne (by rw[e]))).1
theorem Lc (B o:Nat) (g:Gr) (n a:Nat) (fp:Fp) (w:aI) (h:iP w B o (fZ g) fp) (ok:OkG g n) (ha:a<n) :
  dF dA 78 #[aO (au ⟨B,o,ak⟩),ah aA (a:Int)] w fun e w'=>e=aK (.tuple #[])/\fH w w' B o (fZ (oC g (a:Int))) fp:=by
 have jq:=ok.n5;have HZ:aG (oC g (a:Int)=oG g (a:Int) n):=by rw[aG,oC,oG,ok.ml]
 have H0:=dP (fH.refl h);have iE:=dP (JY ok ha)
 have HP:aG (∀ (k:Nat) (wr:aI),k<n->fH w wr B o (fZ (oG g (a:Int) k)) fp->dF dA 99 #[aO (au ⟨B,o,ak⟩),ah aA (a:Int),ah aA (k:Int)] wr fun e w'=>e=aK (.tuple #[])/\fH w w' B o (fZ (jT (oG g (a:Int) k) (a:Int) (k:Int))) fp):=fun k wr hk hb=>by
  obtain⟨gU,hp,_,hgo⟩:=hb.next;exact (KY B o _ n a k gU wr hp (iE.out k (by omega)) ha).mono (fun e w' ⟨e1,e2⟩=>⟨e1,hgo _ _ rfl e2⟩)
 clear h;go_enter Tryz.func78,Tryz.ntmps78
 go_wp2
 go_loopw [4] (fun i wr=>∃ k:Nat,k<=n/\i=ah aA (k:Int)/\fH w wr B o (fZ (oG g (a:Int) k)) fp) (fun i _=>n-(dG i).toNat)
 case atStart=>exact⟨0,cZ _,rfl,H0.out⟩
 case round =>
  obtain⟨k,hk,rfl,hb⟩:=hrel;obtain⟨gU,hp,_,_⟩:=hb.next;have I5:=iE.out k hk;obtain⟨bb,off,c,G0⟩:=Gw.start hp (by rw[I5.ml];omega)
  have c0:=G0.mem;rw[I5.ml] at c0;have HB:=dP hb;clear hb hp G0 I5;by_cases hlt:k<n
  ·have k1:(k:Int)<n:=by omega
   have Ld:=HP.out k wr hlt HB.out;by_cases hka:(k:Int)=a
   ·have g1:((k:Int) != (a:Int))=aC:=by simpa using hka
    have HN:aG (fH w wr B o (fZ (oG g (a:Int) (k+1))) fp):=by rw[aG,yH,if_pos hka];exact HB.out
    clear hka Ld;go_wp2;go_roundw
    case rel=>exact⟨k+1,by omega,by go_num,HN.out⟩
    case measure=>simp[dG];omega
   ·have g1:((k:Int) != (a:Int))=aB:=by simpa using hka
    have HM:aG (jT (oG g (a:Int) k) (a:Int) (k:Int)=oG g (a:Int) (k+1)):=by rw[aG,yH,if_neg hka]
    clear hka;go_wp2_with (go_at_call 99;refine Ld.mono ?_;rintro e w1 ⟨rfl,hb1⟩;have HB1:aG (fH w w1 B o (fZ (oG g (a:Int) (k+1))) fp):=(by rw[aG,<- HM.out];exact hb1);clear hb1)
    go_roundw
    case rel=>exact⟨k+1,by omega,by go_num,HB1.out⟩
    case measure=>simp[dG];omega
  ·have k1:¬ ((k:Int)<n):=by omega
   have e:k=n:=by omega
   have HF:aG (fH w wr B o (fZ (oC g (a:Int))) fp):=by rw[aG,HZ.out,<- e];exact HB.out
   clear e;go_wp2;go_end0;exact⟨rfl,HF.out⟩
theorem Ot {n: Int} (h:inB n 1 5=aC\/inB id 0 (n-1)=aC):kM id n=(kY,aC):=by
 unfold kM;rw[if_neg];rintro⟨h1,h2⟩;rcases h with h|h
 ·rw[h] at h1;cases h1
 ·rw[h] at h2;cases h2
theorem VZ {n: Int} (h1:inB n 1 5=aB) (h2:inB id 0 (n-1)=aB):kM id n=(⟨id,n,bV n.toNat (jS n),[],aC⟩,aB):=by
 unfold kM;rw[if_pos ⟨h1,h2⟩]
theorem Zm (w:aI) (id n:Int):MO w ((w.alloc (aH #[ah aA 0,ah aA 0,aj ak 0 0,aj ak 0 0,aF aC] 47)).alloc (aH #[ah aA id,ah aA n,aj ak 0 0,aj ak 0 0,aF aC] 47)) (w.heap.size+1) ⟨ak,0,ak,0⟩ ⟨id,n,[],[],aC⟩ (fun _=>False):=by
 have x1:=Bx.new (w.alloc (aH #[ah aA 0,ah aA 0,aj ak 0 0,aj ak 0 0,aF aC] 47)) 47 #[ah aA id,ah aA n,aj ak 0 0,aj ak 0 0,aF aC];rw[bH] at x1;exact⟨x1,VJ _,fun b h=>h.elim,by omega,(dX w _).trans ((dX _ _).mono (dX w _).size)⟩
theorem Ou (id n:Int) (w:aI) :
  dF dA 41 #[ah aA id,ah aA n] w fun e w'=>IK w w' e (kM id n).1 (kM id n).2:=by
 have gq:=iD;have hb0:=dX w (aH #[ah aA 0,ah aA 0,aj ak 0 0,aj ak 0 0,aF aC] 47);have hx:=Bx.new w 47 #[ah aA 0,ah aA 0,aj ak 0 0,aj ak 0 0,aF aC];have T0:=Zm w id n;have HR0:aG (Bx ((w.alloc (aH #[ah aA 0,ah aA 0,aj ak 0 0,aj ak 0 0,aF aC] 47)).alloc (aH #[ah aA id,ah aA n,aj ak 0 0,aj ak 0 0,aF aC] 47)) w.heap.size 47 #[ah aA 0,ah aA 0,aj ak 0 0,aj ak 0 0,aF aC]):=hx.alloc _
 cases e1:inB n 1 5 with
 | false =>
  have HZ:aG (kM id n=(kY,aC)):=Ot (.inl e1);generalize hW:w.alloc (aH #[ah aA 0,ah aA 0,aj ak 0 0,aj ak 0 0,aF aC] 47)=W at *;have HB0:aG (Below w.heap.size w W):=hb0;obtain⟨c0,c1,c2,c3,c4⟩:=Bx.r5 hx;obtain⟨f0,f1,f2,f3,f4⟩:=hx.f5;clear hx hb0 T0 HR0;go_enter Tryz.func41,Tryz.ntmps41
  go_wp2_with (go_at_call 40;refine fV (gI _ _ _ _) ?_)
  refine bY (v:=.tuple #[iU ⟨ak,0,ak,0⟩ kY,aF aC]) (by simp[results,Tryz.results41,go_sem,iU,iq,kY, *]) rfl ?_
  rw[HZ.out];exact⟨_,rfl,EC ((qG W w.heap.size).below HB0.out HB0.out.size (fun b h=>by rw[h];exact cO _))⟩
 | true =>
 have jq:=iZ.1 e1;have wn:wrap64 (n-1)=n-1:=by unfold wrap64;omega
 cases e2:inB id 0 (n-1) with
 | false =>
  have HZ:=dP (Ot (.inr e2));generalize hW:w.alloc (aH #[ah aA 0,ah aA 0,aj ak 0 0,aj ak 0 0,aF aC] 47)=W at *;have HB0:aG (Below w.heap.size w W):=hb0;obtain⟨c0,c1,c2,c3,c4⟩:=Bx.r5 hx;obtain⟨f0,f1,f2,f3,f4⟩:=hx.f5;clear hx hb0 T0 HR0;go_enter Tryz.func41,Tryz.ntmps41
  go_wp2_with (go_at_call 40;refine fV (gI _ _ _ _) ?_)
  refine bY (v:=.tuple #[iU ⟨ak,0,ak,0⟩ kY,aF aC]) (by simp[results,Tryz.results41,go_sem,iU,iq,kY, *]) rfl ?_
  rw[HZ.out];exact⟨_,rfl,EC ((qG W w.heap.size).below HB0.out HB0.out.size (fun b h=>by rw[h];exact cO _))⟩
 | true =>
 obtain⟨N,rfl⟩:∃ N:Nat,n=(N:Int):=⟨n.toNat,by omega⟩
 have HZ:aG (kM id (N:Int)=(⟨id,(N:Int),bV N (jS (N:Int)),[],aC⟩,aB)):=by rw[aG,VZ e1 e2];rfl
 have HT0:=dP T0;clear hx hb0 T0;go_enter Tryz.func41,Tryz.ntmps41
 go_wp2_with (go_at_call 40;refine fV (gI _ _ _ _) ?_)
 clear e1 e2 wn
 go_loopw [7] (fun i wr=>∃ k:Nat,k<=N/\i=ah aA (k:Int)/\∃ A R fp,aG (R=bV k (jS (N:Int)))/\MO w wr (w.heap.size+1) A ⟨id,(N:Int),R,[],aC⟩ fp/\Bx wr w.heap.size 47 #[ah aA 0,ah aA 0,aj ak 0 0,aj ak 0 0,aF aC]) (fun i _=>N-(dG i).toNat)
 case atStart=>exact⟨0,cZ _,rfl,_,[],_,rfl,HT0.out,HR0.out⟩
 case round =>
  obtain⟨k,hk,rfl,A,R,fp,hR,M,hres⟩:=hrel;by_cases hlt:k<N
  ·have k1:(k:Int)<N:=by omega
   have hRl:R.length<=1000000:=by rw[hR.out,List.length_replicate];omega
   have BF:=dP hres;have HM:=dP M;have c2:wr.drew.cell? ⟨w.heap.size+1,2,ak⟩=au (aj A.ra R.length A.rc):=M.own.at 2 rfl;have hbd:=(Same.drewN wr 1).below;clear M hres;go_wp2_with fail
   refine lU (S:=fun X:aI=>X.cell? ⟨w.heap.size+1,2,ak⟩=au (aj A.ra R.length A.rc)) 7 gq (c2) fun hHeld=>?_
   refine fC (i:=0) rfl hHeld ?_;refine fC (i:=1) rfl hHeld ?_;refine fE (i:=2) rfl ?_;refine iJ (i:=3) rfl fun K hK=>?_
   go_simp
   go_at_call 80
   refine (NK _ _).mono ?_;rintro e w1 ⟨Ar,rfl,fr,hr1,hr2,hr3⟩;have hb1:=eU hbd hr3;have hA:=HM.out.push hb1 hr1 (fun b hb=>hr2 b hb) hRl
   have d2:w1.cell? ⟨w.heap.size+1,2,ak⟩=au (aj A.ra R.length A.rc):=(HM.out.own.below hb1).at 2 rfl;have d3:=((HM.out.own.below hb1).alloc (aH (fQ Ar (jS (N:Int))) 44)).at 2 rfl;refine hK.out _ _ d2 (fun eP=>?_)
   clear hK hHeld;have hHeld:=eP;try simp only[iC]
   unfold iK;unfold fQ at hA d3 ⊢;refine iJ (i:=4) rfl fun K hK=>?_
   go_simp;refine hK.out _ _ d3 (fun eP=>?_)
   clear hK hHeld;have hHeld:=eP;try simp only[iC]
   refine iJ (i:=5) rfl fun K hK=>?_
   refine jH (by rfl) _ _ _ _ (by rfl) (aj A.ra R.length A.rc) _ (by rfl) (by rfl) hA ⟨rfl,rfl,rfl,rfl⟩ ?_
   rintro v9 w4 ⟨a9,c9,rfl,q1,q2,b4,b5,fp9,vY⟩;refine hK.out _ _ q1 (fun eP=>?_)
   clear hK hHeld;have hHeld:=eP;try simp only[iC]
   refine fC (i:=6) rfl hHeld ?_;refine oV rfl fun K hK=>?_
   go_simp;refine hK.out _ _ ?_;have jL:=dP vY;have Dv:aG (Bx (w4.setCell ⟨w.heap.size+1,2,ak⟩ (aj a9 (R.length+1) c9)) w.heap.size 47 #[ah aA 0,ah aA 0,aj ak 0 0,aj ak 0 0,aF aC]):=(b5.block w.heap.size (Nat.lt_succ_self _)).trans BF.out;have EF:aG (R++[jS (N:Int)]=bV (k+1) (jS (N:Int))):=by rw[aG,hR.out,List.replicate_succ']
   clear vY hA d2 d3 hr1 hr2 hr3;generalize w4.setCell ⟨w.heap.size+1,2,ak⟩ (aj a9 (R.length+1) c9)=W9 at *;go_wp2;go_roundw
   case rel=>exact⟨k+1,by omega,by go_num,_,_,_,EF,jL.out,Dv.out⟩
   case measure=>simp[dG];omega
  ·have k1:¬ ((k:Int)<N):=by omega
   have e:k=N:=by omega
   have HRN:aG (R=bV N (jS (N:Int))):=by rw[aG,hR.out,e]
   clear e;obtain⟨o0,o1,o2,o3,o4⟩:=Bx.r5 M.own;obtain⟨r0,r1,r2,r3,r4⟩:=Bx.r5 hres;obtain⟨f0,f1,f2,f3,f4⟩:=hres.f5;have HA:aG (kE w (((((wr.setCell ⟨w.heap.size,0,ak⟩ (ah aA id)).setCell ⟨w.heap.size,1,ak⟩ (ah aA (N:Int))).setCell ⟨w.heap.size,2,ak⟩ (aj A.ra R.length A.rc)).setCell ⟨w.heap.size,3,ak⟩ (aj A.sa 0 A.sc)).setCell ⟨w.heap.size,4,ak⟩ (aF aC)) (jB ⟨id,(N:Int),R,[],aC⟩) (jC A ⟨id,(N:Int),R,[],aC⟩)):=M.ans (cO _) (Nat.le_succ _);simp only[List.length_nil] at o0 o1 o2 o3 o4;clear M hres hR;go_wp2;refine bY (v:=.tuple #[iU A ⟨id,(N:Int),R,[],aC⟩,aF aB]) (by simp[results,Tryz.results41,go_sem,iU,iq, *]) rfl ?_
   rw[HZ.out,<- HRN.out];exact⟨_,rfl,HA.out⟩
end Go.Proofs.YtafimeakbdmkjaaGreat