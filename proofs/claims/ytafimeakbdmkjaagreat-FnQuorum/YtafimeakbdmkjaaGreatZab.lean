/-
  Texts in one.
-/
import Derived.Test.YtafimeakbdmkjaaGreatZaa
import Derived.Deep.AppendLies
import Derived.Lib.AppendZeros
import Derived.Deep.LoopGhost
import Derived.Laws.IdiomStrings
import Derived.Deep.RegionHeld3
import Derived.BigQuiet
namespace Go.Proofs.YtafimeakbdmkjaaGreat
set_option linter.unusedVariables false
set_option linter.unusedSimpArgs false
open Go.RowKit Go.Sort
set_option maxRecDepth 100000
set_option maxHeartbeats 12800000
def oC (a:Option Addr):Prop:=∀ x,a=some x→∃ b off,x=⟨b,off,none⟩
theorem Ey:oC none:=fun x h=>by cases h
theorem jG (b off:Nat):oC (some ⟨b,off,none⟩):=fun x h=>by cases h;exact⟨b,off,rfl⟩
def dR (w:World) (s:Nat) (a:Option Addr) (n c:Nat) (xs:List Value) (G:Option Nat):Prop :=
 (n=0∧c=0∧xs=[]∧G=none∧oC a)∨∃ g off,a=some ⟨g,off,none⟩∧fA w s g off n c xs∧G=some g
theorem dR.nil (w:World) (s:Nat) {a:Option Addr} (ha:oC a):dR w s a 0 0 [] none:=.inl ⟨rfl,rfl,rfl,rfl,ha⟩
theorem dR.plain {w:World} {s:Nat} {a:Option Addr} {n c:Nat} {xs:List Value} {G:Option Nat} (h:dR w s a n c xs G):oC a:=by
 rcases h with ⟨_,_,_,_,h⟩|⟨g,off,rfl,_,_⟩
 ·exact h
 ·exact jG _ _
theorem dR.of {w:World} {s g off n c:Nat} {xs:List Value} (h:fA w s g off n c xs):dR w s (some ⟨g,off,none⟩) n c xs (some g):=.inr ⟨g,off,rfl,h,rfl⟩
theorem dR.len {w:World} {s:Nat} {a:Option Addr} {n c:Nat} {xs:List Value} {G:Option Nat} (h:dR w s a n c xs G):xs.length=n*s:=by
 rcases h with ⟨rfl,_,rfl,_⟩|⟨g,off,_,h,_⟩
 ·simp
 ·exact h.len
theorem dR.le {w:World} {s:Nat} {a:Option Addr} {n c:Nat} {xs:List Value} {G:Option Nat} (h:dR w s a n c xs G):n≤c∧c≤maxLen:=by
 rcases h with ⟨rfl,rfl,rfl,_⟩|⟨g,off,_,h,_⟩
 ·exact⟨Nat.le_refl _,Nat.zero_le _⟩
 ·exact⟨h.le,h.max⟩
theorem dR.lt {w:World} {s:Nat} {a:Option Addr} {n c:Nat} {xs:List Value} {G:Option Nat} (h:dR w s a n c xs G) {g:Nat} (hg:G=some g):g<w.heap.size:=by
 rcases h with ⟨_,_,_,h,_⟩|⟨g',off,_,h,h'⟩
 ·rw[h] at hg;cases hg
 ·rw[h'] at hg;cases hg;exact h.blk
theorem dR.frame {w w':World} {s:Nat} {a:Option Addr} {n c:Nat} {xs:List Value} {G:Option Nat} (h:dR w s a n c xs G) (hs:w.heap.size≤w'.heap.size) (e:∀ g,G=some g→w'.heap[g]?=w.heap[g]?):dR w' s a n c xs G:=by
 rcases h with h|⟨g,off,ha,h,h'⟩
 ·exact .inl h
 ·exact .inr ⟨g,off,ha,h.of_block (e g h') (Nat.lt_of_lt_of_le h.blk hs),h'⟩
theorem dR.cell {w:World} {s:Nat} {a:Option Addr} {n c:Nat} {xs:List Value} {G:Option Nat} (h:dR w s a n c xs G) (hn:0<n):∃ g off,a=some ⟨g,off,none⟩∧G=some g∧(∀ j,j<n*s→w.cell? ⟨g,off+j,none⟩=xs[j]?)∧∀ j,j<n*s→w.frozen? ⟨g,off+j,none⟩=false:=by
 rcases h with ⟨h0,_⟩|⟨g,off,ha,h,h'⟩
 ·omega
 ·exact⟨g,off,ha,h',h.cell,fun j hj=>h.free j (Nat.lt_of_lt_of_le hj (Nat.mul_le_mul_right _ h.le))⟩
theorem FU {w:World} {s g off n c:Nat} {xs:List Value} (h:fA w s g off n c xs) {j:Nat} (hj:j<n*s) (v:Value):fA (w.setCell ⟨g,off+j,none⟩ v) s g off n c (xs.set j v):=by
 have hl:=h.len;have hc:w.cell? ⟨g,off+j,none⟩=some (xs[j]'(by omega)):=by rw[h.cell j hj,List.getElem?_eq_getElem (by omega)]
 refine⟨by simpa using hl,h.le,h.max,by simp[World.setCell];exact h.blk,fun k hk=>?_,fun k hk=>?_,fun k hk=>by rw[World.frozen?_setCell];exact h.free k hk⟩
 ·by_cases e:j=k
  ·subst e
   rw[World.cell?_setCell_same _ _ _ hc];simp[show j<xs.length by omega]
  ·rw[World.cell?_setCell_other _ _ _ _ (by simp[e]),h.cell k hk]
   simp[e]
 ·by_cases e:j=k
  ·subst e;rw[World.cell?_setCell_same _ _ _ hc];rfl
  ·rw[World.cell?_setCell_other _ _ _ _ (by simp[e])];exact h.some k hk
section
variable {P:Program} (w:World)
theorem jR (t ty e:TypeId) (i:TypeInfo) (z:Value) (s bytes:Nat) (ht:P.underlying t=some (.slice e)) (hi:P.info? e=some i) (hz:i.zero=some z)
  (hsize:i.size=s) (hby:i.bytes=bytes) (hzs:z.cells.size=s) (hsz:0<s)
  (a:Option Addr) (n cap:Nat) (xs:List Value) (G:Option Nat) (ho:dR w s a n cap xs G)
  (x:Option Addr) (m c:Nat) (news:List Value) (hl:news.length=m*s) (hnews:m=0∨∃ ad,x=some ad∧∀ j u,news[j]?=some u→w.cell? (ad.add j)=some u) (h1:∀ u∈news,u.oneCell'=true)
  (h63:n+m≤maxLen) (hbytes:(n+m)*bytes≤140737488355328) :
  ∃ a' cap' G' w',(Builtin.append_ #[t,t] ty #[.slice a n cap,.slice x m c]).run P w=.ok (.slice a' (n+m) cap') w' ∧
   dR w' s a' (n+m) cap' (xs++news) G'∧w.grownBy w' G∧(G'=G∨G'=some w.heap.size):=by
 by_cases hm:m=0
 ·subst hm
  have hn0:news=[]:=List.eq_nil_of_length_eq_zero (by simpa using hl)
  subst hn0;have hle:=ho.le.1
  have hr:(Builtin.append_ #[t,t] ty #[.slice a n cap,.slice x 0 c]).run P w=.ok (.slice a n cap) w:=by
   cases a<;>cases x<;>simp[Builtin.append_,run_underlying ht,sizeOf,typeInfo,hi,Builtin.lenOf,hle,Builtin.firstCells,loadCells,loadCellsFrom,storeCells]
  exact⟨a,cap,G,w,hr,by simpa using ho,ng w _,.inl rfl⟩
 ·rcases hnews with h0|⟨ad,rfl,hnews⟩
  ·exact absurd h0 hm
  ·rcases ho with ⟨rfl,rfl,rfl,rfl,hpl⟩|⟨g,off,rfl,ho,rfl⟩
   ·cases a with
    | none =>
     obtain⟨v',w',hr,hown,hgr,hnil,hat⟩:=run_append_own_at (P:=P) w 0 t ty e i z s bytes ht hi hz hsize hby hzs hsz (.slice none 0 0) 0 [] (World.ownsRow_nil w 0 e s) ad m c news hl hnews h1 h63 hbytes (Nat.zero_le _);obtain⟨g',cap',rfl,_,hO⟩:=fA.pq hown (fun h=>hm (hnil.1 h).2)
     refine⟨some ⟨g',0,none⟩,cap',some g',w',hr,.inr ⟨g',0,rfl,by simpa using hO,rfl⟩,hgr,.inr ?_⟩
     rcases hat with h|h
     ·simp[Value.ownBlock] at h
     ·simpa[Value.ownBlock] using h
    | some b =>
     have hg:=run_append_arg_grows (P:=P) w t ty e i z s bytes ht hi hz hsize hby hzs hsz b 0 0 [] (by simp) (by simp) ad m c news hl hnews (by omega) h63 hbytes
     obtain⟨v',w',hr,hown,hgr⟩:=hg;obtain⟨g',cap',rfl,hb,hlt⟩:=hown.form (by omega)
     obtain⟨g2,cap2,hv2,_,hO⟩:=fA.pq hown (by intro h;cases h)
     cases hv2
     refine⟨some ⟨g',0,none⟩,cap',some g',w',hr,.inr ⟨g',0,rfl,by simpa using hO,rfl⟩,hgr,.inr ?_⟩
     have hr2:=run_append_grow (P:=P) w t ty e i z ht hi hz b 0 0 [] (by simp) (by simp) ad m c news (by rw[hsize];exact hl) hnews (by omega) (by simp only[maxLen] at h63;omega) (growslice_fits (by omega) (by rw[hby];exact hbytes))
     rw[hr2] at hr;simp only[Result.ok.injEq,Value.slice.injEq,Option.some.injEq,Addr.mk.injEq] at hr;rw[hr.1.1.1]
   ·obtain⟨g',off',cap',w',hr,h2,h3,h4⟩:=zN (P:=P) w t ty e i z s bytes ht hi hz hsize hby hzs hsz g off n cap xs ho ad m c news hl hnews h1 h63 hbytes
    exact⟨_,cap',some g',w',hr,.inr ⟨g',off',rfl,h2,rfl⟩,h3,h4.imp (fun h=>by rw[h]) (fun h=>by rw[h])⟩
theorem Ji {o:Oper} {act:Act} {K:Act→World→Prop} {Q:Exit→Act→World→Prop} (sl x:Operand) (t:TypeId)
  (hop:o.op=.call { callee:=.builtin .append,args:=#[sl,x],argTypes:=#[t,t] })
  (e:TypeId) (i:TypeInfo) (z:Value) (s bytes:Nat) (ht:P.underlying t=some (.slice e)) (hi:P.info? e=some i) (hz:i.zero=some z)
  (hsize:i.size=s) (hby:i.bytes=bytes) (hzs:z.cells.size=s) (hsz:0<s)
  (a:Option Addr) (n cap:Nat) (xs:List Value) (G:Option Nat) (hs:act.eval sl=.slice a n cap) (ho:dR w s a n cap xs G)
  (y:Option Addr) (m c:Nat) (news:List Value) (hx:act.eval x=.slice y m c) (hl:news.length=m*s) (hnews:m=0∨∃ ad,y=some ad∧∀ j u,news[j]?=some u→w.cell? (ad.add j)=some u) (h1:∀ u∈news,u.oneCell'=true)
  (h63:n+m≤maxLen) (hbytes:(n+m)*bytes≤140737488355328)
  (h:∀ a' cap' G' w',dR w' s a' (n+m) cap' (xs++news) G'→w.grownBy w' G→(G'=G∨G'=some w.heap.size)→K (act.put o.dst (.slice a' (n+m) cap')) w'):o.wp P act w K Q:=by
 obtain⟨a',cap',G',w',hr,h2,h3,h4⟩:=jR (P:=P) w t o.type e i z s bytes ht hi hz hsize hby hzs hsz a n cap xs G ho y m c news hl hnews h1 h63 hbytes;unfold Oper.wp execOp;simp only[hop,resolve,invoke,builtin,Sem.run_bind,Sem.run_pure,Result.andThen_ok,List.map_toArray,List.map_cons,List.map_nil,hs,hx,hr]
 exact h a' cap' G' w' h2 h3 h4
theorem DY {ops:Array Oper} {rest:List Oper} {o:Oper} {act:Act} {Q:Exit→Act→World→Prop} (hgd:o.guard=none) (sl x:Operand) (t:TypeId)
  (hop:o.op=.call { callee:=.builtin .append,args:=#[sl,x],argTypes:=#[t,t] })
  (e:TypeId) (i:TypeInfo) (z:Value) (s bytes:Nat) (ht:P.underlying t=some (.slice e)) (hi:P.info? e=some i) (hz:i.zero=some z)
  (hsize:i.size=s) (hby:i.bytes=bytes) (hzs:z.cells.size=s) (hsz:0<s)
  (a:Option Addr) (n cap:Nat) (xs:List Value) (G:Option Nat) (hs:act.eval sl=.slice a n cap) (ho:dR w s a n cap xs G)
  (y:Option Addr) (m c:Nat) (news:List Value) (hx:act.eval x=.slice y m c) (hl:news.length=m*s) (hnews:m=0∨∃ ad,y=some ad∧∀ j u,news[j]?=some u→w.cell? (ad.add j)=some u) (h1:∀ u∈news,u.oneCell'=true)
  (h63:n+m≤maxLen) (hbytes:(n+m)*bytes≤140737488355328)
  (h:∀ a' cap' G' w',dR w' s a' (n+m) cap' (xs++news) G'→w.grownBy w' G→(G'=G∨G'=some w.heap.size)→wpList P ops Q rest (act.put o.dst (.slice a' (n+m) cap')) w'):wpList P ops Q (o::rest) act w :=
 wpList_plain hgd fun _ hK=>Ji w sl x t hop e i z s bytes ht hi hz hsize hby hzs hsz a n cap xs G hs ho y m c news hx hl hnews h1 h63 hbytes fun a' cap' G' w' h2 h3 h4=>hK _ _ (h a' cap' G' w' h2 h3 h4)
end
inductive aI where
 | v (x:Value)
 | sl (s n:Nat) (cs:List aI)
abbrev Fp:=Nat→Prop
mutual
def aI.ow (w:World):aI→Value→Fp→Prop
 | .v x,u,fp=>u=x∧∀ b,¬ fp b
 | .sl s n cs,u,fp=>∃ a c us G f,u=.slice a n c∧dR w s a n c us G∧bG w cs us f∧(∀ b,G=some b→¬ f b)∧∀ b,fp b↔G=some b∨f b
def bG (w:World):List aI→List Value→Fp→Prop
 | [],us,fp=>us=[]∧∀ b,¬ fp b
 | c::cs,us,fp=>∃ u us' f1 f2,us=u::us'∧aI.ow w c u f1∧bG w cs us' f2∧(∀ b,f1 b→¬ f2 b)∧∀ b,fp b↔f1 b∨f2 b
end
mutual
def aI.vw (w:World):aI→Value→Prop
 | .v x,u=>u=x
 | .sl s n cs,u => ∃ a c us,u = .slice a n c ∧ n ≤ c ∧ c ≤ maxLen ∧ us.length = n * s ∧ (n = 0 ∨
   ∃ b off,a=some ⟨b,off,none⟩∧∀ j,j<n*s→w.cell? ⟨b,off+j,none⟩=us[j]?)∧zO w cs us
def zO (w:World):List aI→List Value→Prop
 | [],us=>us=[]
 | c::cs,us=>∃ u us',us=u::us'∧aI.vw w c u∧zO w cs us'
end
theorem fJ {w:World}:∀ {cs:List aI} {us:List Value} {fp:Fp},bG w cs us fp→us.length=cs.length
 | [],us,fp,h=>by rw[h.1];rfl
 | c::cs,us,fp,h=>by
  obtain⟨u,us',f1,f2,rfl,_,h2,_⟩:=h;simp[fJ h2]
theorem FV {w:World}:∀ {cs:List aI} {us:List Value},zO w cs us→us.length=cs.length
 | [],us,h=>by rw[show us=[] from h];rfl
 | c::cs,us,h=>by
  obtain⟨u,us',rfl,_,h2⟩:=h;simp[FV h2]
mutual
theorem aI.zl {w w':World} (hs:w.heap.size≤w'.heap.size):∀ {c:aI} {u:Value} {fp:Fp},aI.ow w c u fp→(∀ b,fp b→w'.heap[b]?=w.heap[b]?)→aI.ow w' c u fp
 | .v x,u,fp,h,_=>h
 | .sl s n cs,u,fp,h,e=>by
  obtain⟨a,c,us,G,f,rfl,ho,hl,hn,hf⟩:=h;exact⟨a,c,us,G,f,rfl,ho.frame hs (fun g hg=>e g ((hf g).2 (.inl hg))),ug hs hl (fun b hb=>e b ((hf b).2 (.inr hb))),hn,hf⟩
theorem ug {w w':World} (hs:w.heap.size≤w'.heap.size):∀ {cs:List aI} {us:List Value} {fp:Fp},bG w cs us fp→(∀ b,fp b→w'.heap[b]?=w.heap[b]?)→bG w' cs us fp
 | [],us,fp,h,_=>h
 | c::cs,us,fp,h,e=>by
  obtain⟨u,us',f1,f2,rfl,h1,h2,hd,hf⟩:=h;exact⟨u,us',f1,f2,rfl,aI.zl hs h1 (fun b hb=>e b ((hf b).2 (.inl hb))),ug hs h2 (fun b hb=>e b ((hf b).2 (.inr hb))),hd,hf⟩
end
mutual
theorem aI.iT {w:World}:∀ {c:aI} {u:Value} {fp:Fp},aI.ow w c u fp→∀ b,fp b→b<w.heap.size
 | .v x,u,fp,h=>fun b hb=>absurd hb (h.2 b)
 | .sl s n cs,u,fp,h=>fun b hb=>by
  obtain⟨a,c,us,G,f,rfl,ho,hl,hn,hf⟩:=h;rcases (hf b).1 hb with hb|hb
  ·exact ho.lt hb
  ·exact eX hl b hb
theorem eX {w:World}:∀ {cs:List aI} {us:List Value} {fp:Fp},bG w cs us fp→∀ b,fp b→b<w.heap.size
 | [],us,fp,h=>fun b hb=>absurd hb (h.2 b)
 | c::cs,us,fp,h=>fun b hb=>by
  obtain⟨u,us',f1,f2,rfl,h1,h2,hd,hf⟩:=h;rcases (hf b).1 hb with hb|hb
  ·exact aI.iT h1 b hb
  ·exact eX h2 b hb
end
mutual
theorem aI.tK {w:World}:∀ {c:aI} {u:Value} {fp:Fp},aI.ow w c u fp→aI.vw w c u
 | .v x,u,fp,h=>h.1
 | .sl s n cs,u,fp,h=>by
  obtain⟨a,c,us,G,f,rfl,ho,hl,hn,hf⟩:=h;refine⟨a,c,us,rfl,ho.le.1,ho.le.2,ho.len, ?_,yG hl⟩;rcases Nat.eq_zero_or_pos n with h0|h0
  ·exact .inl h0
  ·obtain⟨g,off,ha,_,hc,_⟩:=ho.cell h0
   exact .inr ⟨g,off,ha,hc⟩
theorem yG {w:World}:∀ {cs:List aI} {us:List Value} {fp:Fp},bG w cs us fp→zO w cs us
 | [],us,fp,h=>h.1
 | c::cs,us,fp,h=>by
  obtain⟨u,us',f1,f2,rfl,h1,h2,hd,hf⟩:=h;exact⟨u,us',rfl,aI.tK h1,yG h2⟩
end
theorem aI.cZ {w w':World} {c:aI} {u:Value} {fp:Fp} (h:aI.ow w c u fp) (hb:Below w.heap.size w w'):aI.ow w' c u fp:=aI.zl hb.size h (fun b hf=>hb.block b (aI.iT h b hf))
theorem bM {w w':World} {cs:List aI} {us:List Value} {fp:Fp} (h:bG w cs us fp) (hb:Below w.heap.size w w'):bG w' cs us fp:=ug hb.size h (fun b hf=>hb.block b (eX h b hf))
theorem Q9 {w:World}:∀ {cs:List aI} {us:List Value},zO w cs us→∀ {j:Nat} {c:aI},cs[j]?=some c→∃ u,us[j]?=some u∧aI.vw w c u
 | [],us,h,j,c,hj=>by simp at hj
 | c0::cs,us,h,0,c,hj=>by
  obtain⟨u,us',rfl,h1,h2⟩:=h;simp at hj
  subst hj;exact⟨u,by simp,h1⟩
 | c0::cs,us,h,j+1,c,hj=>by
  obtain⟨u,us',rfl,h1,h2⟩:=h;obtain⟨u',hu,hv⟩:=Q9 h2 (j:=j) (c:=c) (by simpa using hj)
  exact⟨u',by simpa using hu,hv⟩
theorem aI.U6 {w:World}:∀ {c:aI} {u:Value} {f g:Fp},aI.ow w c u f→(∀ b,g b↔f b)→aI.ow w c u g
 | .v x,u,f,g,h,e=>⟨h.1,fun b hb=>h.2 b ((e b).1 hb)⟩
 | .sl s n cs,u,f,g,h,e=>by
  obtain⟨a,c,us,G,f',rfl,ho,hl,hn,hf⟩:=h;exact⟨a,c,us,G,f',rfl,ho,hl,hn,fun b=>(e b).trans (hf b)⟩
theorem xq {w:World}:∀ {cs:List aI} {us:List Value} {f g:Fp},bG w cs us f→(∀ b,g b↔f b)→bG w cs us g
 | [],us,f,g,h,e=>⟨h.1,fun b hb=>h.2 b ((e b).1 hb)⟩
 | c::cs,us,f,g,h,e=>by
  obtain⟨u,us',f1,f2,rfl,h1,h2,hd,hf⟩:=h;exact⟨u,us',f1,f2,rfl,h1,h2,hd,fun b=>(e b).trans (hf b)⟩
theorem vY {w:World}:∀ {cs:List aI} {us:List Value} {fp:Fp},bG w cs us fp→∀ {j:Nat} {c:aI},cs[j]?=some c →
  ∃ u f,us[j]?=some u∧aI.ow w c u f∧(∀ b,f b→fp b) ∧
   ∀ (w':World) (c':aI) (u':Value) (f':Fp),w.heap.size≤w'.heap.size→aI.ow w' c' u' f'→(∀ b,fp b→¬ f b→w'.heap[b]?=w.heap[b]?)→(∀ b,f' b→fp b→f b) →
    bG w' (cs.set j c') (us.set j u') (fun b=>f' b∨fp b∧¬ f b)
 | [],us,fp,h,j,c,hj=>by simp at hj
 | c0::cs,us,fp,h,0,c,hj=>by
  obtain⟨u,us',f1,f2,rfl,h1,h2,hd,hf⟩:=h;simp at hj
  subst hj;refine⟨u,f1,by simp,h1,fun b hb=>(hf b).2 (.inl hb),fun w' c' u' f' hs hc' he hd'=>?_⟩
  refine⟨u',us',f',f2,by simp,hc',ug hs h2 (fun b hb=>he b ((hf b).2 (.inr hb)) (fun h=>hd b h hb)),fun b hb hb2=>hd b (hd' b hb ((hf b).2 (.inr hb2))) hb2,fun b=>?_⟩
  constructor
  ·rintro (h|⟨h,hn⟩)
   ·exact .inl h
   ·rcases (hf b).1 h with h|h
    ·exact absurd h hn
    ·exact .inr h
  ·rintro (h|h)
   ·exact .inl h
   ·exact .inr ⟨(hf b).2 (.inr h),fun h1=>hd b h1 h⟩
 | c0::cs,us,fp,h,j+1,c,hj=>by
  obtain⟨u0,us',f1,f2,rfl,h1,h2,hd,hf⟩:=h;obtain⟨u,f,hu,hc,hsub,hput⟩:=vY h2 (j:=j) (c:=c) (by simpa using hj)
  refine⟨u,f,by simpa using hu,hc,fun b hb=>(hf b).2 (.inr (hsub b hb)),fun w' c' u' f' hs hc' he hd'=>?_⟩
  have hk:=hput w' c' u' f' hs hc' (fun b hb hn=>he b ((hf b).2 (.inr hb)) hn) (fun b hb hb2=>hd' b hb ((hf b).2 (.inr hb2)))
  refine⟨u0,us'.set j u',f1,_,by simp,aI.zl hs h1 (fun b hb=>he b ((hf b).2 (.inl hb)) (fun h=>hd b hb (hsub b h))),hk,fun b hb hb2=>?_,fun b=>?_⟩
  ·rcases hb2 with hb2|⟨hb2,_⟩
   ·exact hd b hb (hsub b (hd' b hb2 ((hf b).2 (.inl hb))))
   ·exact hd b hb hb2
  ·constructor
   ·rintro (h|⟨h,hn⟩)
    ·exact .inr (.inl h)
    ·rcases (hf b).1 h with h|h
     ·exact .inl h
     ·exact .inr (.inr ⟨h,hn⟩)
   ·rintro (h|h|⟨h,hn⟩)
    ·exact .inr ⟨(hf b).2 (.inl h),fun h'=>hd b h (hsub b h')⟩
    ·exact .inl h
    ·exact .inr ⟨(hf b).2 (.inr h),hn⟩
theorem kZ {w:World}:∀ {cs ds:List aI} {us vs:List Value} {f g:Fp},bG w cs us f→bG w ds vs g→(∀ b,f b→¬ g b)→bG w (cs++ds) (us++vs) (fun b=>f b∨g b)
 | [],ds,us,vs,f,g,h,k,hd=>by
  rw[h.1];exact xq k (fun b=>⟨fun hb=>hb.elim (fun hb=>absurd hb (h.2 b)) id,.inr⟩)
 | c::cs,ds,us,vs,f,g,h,k,hd=>by
  obtain⟨u,us',f1,f2,rfl,h1,h2,hd1,hf⟩:=h;refine⟨u,us'++vs,f1,_,rfl,h1,kZ h2 k (fun b hb=>hd b ((hf b).2 (.inr hb))),fun b hb hb2=>?_,fun b=>?_⟩
  ·rcases hb2 with hb2|hb2
   ·exact hd1 b hb hb2
   ·exact hd b ((hf b).2 (.inl hb)) hb2
  ·show f b∨g b↔_
   rw[hf b]
   constructor
   ·rintro ((h|h)|h)
    ·exact .inl h
    ·exact .inr (.inl h)
    ·exact .inr (.inr h)
   ·rintro (h|h|h)
    ·exact .inl (.inl h)
    ·exact .inl (.inr h)
    ·exact .inr h
theorem jl {w:World}:∀ {cs ds:List aI} {ws:List Value} {fp:Fp},bG w (cs++ds) ws fp→∃ us vs f g,ws=us++vs∧bG w cs us f∧bG w ds vs g∧(∀ b,f b→¬ g b)∧∀ b,fp b↔f b∨g b
 | [],ds,ws,fp,h=>⟨[],ws,fun _=>False,fp,rfl,⟨rfl,fun _ h=>h⟩,h,fun _ h=>absurd h id,fun b=>⟨.inr,fun h=>h.elim False.elim id⟩⟩
 | c::cs,ds,ws,fp,h=>by
  obtain⟨u,us',f1,f2,rfl,h1,h2,hd,hf⟩:=h;obtain⟨us,vs,f,g,rfl,k1,k2,hd2,hf2⟩:=jl h2;refine⟨u::us,vs,fun b=>f1 b∨f b,g,rfl,⟨u,us,f1,f,rfl,h1,k1,fun b hb hb2=>hd b hb ((hf2 b).2 (.inl hb2)),fun b=>Iff.rfl⟩,k2,fun b hb hg=>?_,fun b=>?_⟩
  ·rcases hb with hb|hb
   ·exact hd b hb ((hf2 b).2 (.inr hg))
   ·exact hd2 b hb hg
  ·rw[hf b,hf2 b,or_assoc]
structure aO (f:Fp) (w w':World):Prop where
 os:w'.os=w.os
 tape:w'.tape=w.tape
 output:w'.output=w.output
 size:w.heap.size≤w'.heap.size
 block:∀ b,b<w.heap.size→¬ f b→w'.heap[b]?=w.heap[b]?
theorem aO.refl (f:Fp) (w:World):aO f w w:=⟨rfl,rfl,rfl,Nat.le_refl _,fun _ _ _=>rfl⟩
theorem aO.mono {f g:Fp} {w w':World} (h:aO f w w') (hs:∀ b,b<w.heap.size→f b→g b):aO g w w':=⟨h.os,h.tape,h.output,h.size,fun b hb hn=>h.block b hb (fun hf=>hn (hs b hb hf))⟩
theorem aO.trans {f g:Fp} {w w1 w2:World} (h:aO f w w1) (k:aO g w1 w2) (hs:∀ b,b<w.heap.size→g b→f b):aO f w w2 :=
 ⟨k.os.trans h.os,k.tape.trans h.tape,k.output.trans h.output,Nat.le_trans h.size k.size,fun b hb hn=>(k.block b (Nat.lt_of_lt_of_le hb h.size) (fun hg=>hn (hs b hb hg))).trans (h.block b hb hn)⟩
theorem aO.of_below {f:Fp} {w w':World} (h:Below w.heap.size w w'):aO f w w':=⟨h.os,h.tape,h.output,h.size,fun b hb _=>h.block b hb⟩
theorem aO.below {f:Fp} {w w' v:World} {B:Nat} (h:aO f w w') (hv:Below B v w) (hB:B≤w.heap.size) (hf:∀ b,f b→B≤b):Below B v w' :=
 ⟨h.os.trans hv.os,h.tape.trans hv.tape,h.output.trans hv.output,Nat.le_trans hv.size h.size,fun b hb=>(h.block b (by omega) (fun k=>by have:=hf b k;omega)).trans (hv.block b hb)⟩
theorem aO.iZ {w w':World} {G:Option Nat} (h:w.grownBy w' G):aO (fun b=>G=some b) w w':=⟨h.os,h.tape,h.output,h.size,fun b hb hn=>h.block b hb (fun e=>hn e.symm)⟩
theorem aO.set (w:World) (g o:Nat) (v:Value):aO (fun b=>b=g) w (w.setCell ⟨g,o,none⟩ v):=(aO.iZ (uf (ng w (some g)) o v)).mono (fun b _ h=>by simpa using h.symm)
theorem aI.lU {w w':World} {c:aI} {u:Value} {fp f:Fp} (h:aI.ow w c u fp) (hw:aO f w w') (hd:∀ b,fp b→¬ f b):aI.ow w' c u fp:=aI.zl hw.size h (fun b hb=>hw.block b (aI.iT h b hb) (hd b hb))
theorem bP {w w':World} {cs:List aI} {us:List Value} {fp f:Fp} (h:bG w cs us fp) (hw:aO f w w') (hd:∀ b,fp b→¬ f b):bG w' cs us fp:=ug hw.size h (fun b hb=>hw.block b (eX h b hb) (hd b hb))
theorem dR.wrt {w w':World} {s:Nat} {a:Option Addr} {n c:Nat} {xs:List Value} {G:Option Nat} {f:Fp} (h:dR w s a n c xs G) (hw:aO f w w') (hd:∀ b,G=some b→¬ f b):dR w' s a n c xs G:=h.frame hw.size (fun g hg=>hw.block g (h.lt hg) (hd g hg))
def pl (vs:List Value):List aI:=vs.map aI.v
theorem nH {w:World}:∀ {vs us:List Value} {fp:Fp},bG w (pl vs) us fp↔us=vs∧∀ b,¬ fp b
 | [],us,fp=>Iff.rfl
 | v::vs,us,fp=>by
  constructor
  ·rintro⟨u,us',f1,f2,rfl,⟨rfl,h1⟩,h2,hd,hf⟩
   have h3:=nH.1 h2;exact⟨by rw[h3.1],fun b hb=>((hf b).1 hb).elim (h1 b) (h3.2 b)⟩
  ·rintro⟨rfl,h⟩
   exact⟨v,vs,fp,fp,rfl,⟨rfl,h⟩,nH.2 ⟨rfl,h⟩,fun b hb=>absurd hb (h b),fun b=>⟨.inl,fun h=>h.elim id id⟩⟩
theorem AB {w:World}:∀ {vs us:List Value},zO w (pl vs) us↔us=vs
 | [],us=>Iff.rfl
 | v::vs,us=>by
  constructor
  ·rintro⟨u,us',rfl,rfl,h2⟩
   rw[AB.1 h2]
  ·rintro rfl
   exact⟨v,vs,rfl,rfl,AB.2 rfl⟩
def bQ (xs:List Int):aI:=.sl 1 xs.length (pl (xs.map (Value.int .i64)))
theorem fB {w:World} {xs:List Int} {u:Value} {fp:Fp}:aI.ow w (bQ xs) u fp↔∃ a c G,u=.slice a xs.length c∧dR w 1 a xs.length c (xs.map (Value.int .i64)) G∧∀ b,fp b↔G=some b:=by
 constructor
 ·rintro⟨a,c,us,G,f,rfl,ho,hl,hn,hf⟩
  obtain⟨rfl,h0⟩:=nH.1 hl;exact⟨a,c,G,rfl,ho,fun b=>(hf b).trans ⟨fun h=>h.elim id (fun h=>absurd h (h0 b)),.inl⟩⟩
 ·rintro⟨a,c,G,rfl,ho,hf⟩
  exact⟨a,c,_,G,fun _=>False,rfl,ho,nH.2 ⟨rfl,fun _ h=>h⟩,fun _ _ h=>h,fun b=>(hf b).trans ⟨.inl,fun h=>h.elim id False.elim⟩⟩
theorem jV {w:World} {xs:List Int} {u:Value} (h:aI.vw w (bQ xs) u) (hf:Fits xs):∃ a c,u=.slice a xs.length c∧Vec w a xs.length xs∧xs.length≤c∧c≤maxLen:=by
 obtain⟨a,c,us,rfl,h1,h2,h3,h,hl⟩:=h;have e:=AB.1 hl;subst e;refine⟨a,c,rfl,⟨rfl,hf, ?_⟩,h1,h2⟩;rcases h with h|⟨b,off,ha,hc⟩
 ·exact .inl h
 ·refine .inr ⟨b,off,ha,fun i hi=>?_⟩
  rw[hc i (by omega)]
  simp[el,hi]
theorem dR.oi {w:World} {a:Option Addr} {c:Nat} {xs:List Int} {G:Option Nat} (h:dR w 1 a xs.length c (xs.map (Value.int .i64)) G):(xs=[]∧c=0∧G=none)∨∃ g off,a=some ⟨g,off,none⟩∧OI w g off xs.length c xs∧G=some g:=by
 rcases h with ⟨h1,h2,h3,h4,_⟩|h
 ·exact .inl ⟨List.eq_nil_of_length_eq_zero h1,h2,h4⟩
 ·exact .inr h
def oD (w w':World) (c:aI) (v:Value):Prop:=∃ fp,aI.ow w' c v fp∧(∀ b,fp b→w.heap.size≤b)∧Below w.heap.size w w'
def iL (w w':World) (cs:List aI) (vs:List Value):Prop:=∃ fp,bG w' cs vs fp∧(∀ b,fp b→w.heap.size≤b)∧Below w.heap.size w w'
theorem nI {α:Type} (l:List α):∀ (n i:Nat),i<n*l.length→(List.replicate n l).flatten[i]?=l[i%l.length]?
 | 0,i,h=>by simp at h
 | n+1,i,h=>by
  rw[List.replicate_succ,List.flatten_cons];by_cases hi:i<l.length
  ·rw[List.getElem?_append_left hi,Nat.mod_eq_of_lt hi]
  ·have hl:l.length≤i:=by omega
   rw[List.getElem?_append_right hl,nI l n (i-l.length) (by rw[Nat.add_mul] at h;omega),Nat.mod_eq_sub_mod hl]
theorem zn (w:World) (zs:Array Value) (s n:Nat) (e:TypeId) (hz:zs.size=s) (hs:0<s) (hn:n≤maxLen):fA (w.alloc (.cells (madeCells zs (n*s)) e)) s w.heap.size 0 n n (List.replicate n zs.toList).flatten:=by
 have hb:(w.alloc (.cells (madeCells zs (n*s)) e)).heap[w.heap.size]?=some (.cells (madeCells zs (n*s)) e (0,0)):=heap_alloc_new w _
 have hc:∀ i,i<n*s→(madeCells zs (n*s))[i]?=zs.toList[i%s]?:=fun i hi=>by
  have hm:i%s<zs.size:=by rw[hz];exact Nat.mod_lt _ hs
  have hm':i%s<zs.toList.length:=by simpa using hm
  rw[List.getElem?_eq_getElem hm'];simp[madeCells,hi,hz]
  exact getElem!_pos zs (i%s) hm
 refine⟨by simp[hz],Nat.le_refl _,hn,by simp,fun i hi=>?_,fun i hi=>?_,fun i hi=>?_⟩
 ·rw[nI _ _ _ (by simp[hz];omega)]
  simp only[World.cell?,hb,Nat.zero_add]
  rw[hc i hi];simp[hz]
 ·simp only[World.cell?,hb,Nat.zero_add]
  have:i<(madeCells zs (n*s)).size:=by rw[size_madeCells];exact hi
  simp[this]
 ·unfold World.frozen?
  rw[hb];simp
theorem CG {s g off n c:Nat}:∀ {vs:List Value} {w:World} {us:List Value} {k:Nat},fA w s g off n c us→k+vs.length≤n*s→fA (w.setCells g (off+k) vs) s g off n c (us.take k++vs++us.drop (k+vs.length))
 | [],w,us,k,h,hk=>by
  have:us.take k++[]++us.drop (k+([]:List Value).length)=us:=by simp
  rw[this];exact h
 | v::vs,w,us,k,h,hk=>by
  simp only[List.length_cons] at hk;have h1:=FU h (j:=k) (by omega) v
  have h2:=CG (vs:=vs) (k:=k+1) h1 (by omega)
  have hl:=h.len
  have e:(us.set k v).take (k+1)++vs++(us.set k v).drop (k+1+vs.length)=us.take k++(v::vs)++us.drop (k+(v::vs).length):=by
   have hku:k<us.length:=by omega
   rw[List.take_succ_eq_append_getElem (by simpa using hku),List.take_set_of_le (Nat.le_refl _),List.drop_set_of_lt (by omega)]
   simp only[List.getElem_set_self,List.append_assoc,List.singleton_append,List.length_cons]
   rw[show k+1+vs.length=k+(vs.length+1) by omega]
  rw[e] at h2;exact h2
theorem Df {w w':World} {s n m:Nat} {a':Option Addr} {c':Nat} {us news:List Value} {G G':Option Nat} {cs ds:List aI} {f fd:Fp}
  (hl:bG w cs us f) (hd:bG w ds news fd) (hG:∀ b,G=some b→¬ f b) (hGd:∀ b,G=some b→¬ fd b) (hdis:∀ b,f b→¬ fd b)
  (ho:dR w' s a' (n+m) c' (us++news) G') (hg:w.grownBy w' G) (hat:G'=G∨G'=some w.heap.size) :
  aI.ow w' (.sl s (n+m) (cs++ds)) (.slice a' (n+m) c') (fun b=>G'=some b∨f b∨fd b):=by
 have hw:=aO.iZ hg;have h1:=bP hl hw (fun b hb e=>hG b e hb)
 have h2:=bP hd hw (fun b hb e=>hGd b e hb)
 refine⟨a',c',us++news,G',fun b=>f b∨fd b,rfl,ho,kZ h1 h2 hdis,fun b e hb=>?_,fun b=>Iff.rfl⟩
 rcases hat with h|h
 ·rw[h] at e
  exact hb.elim (hG b e) (hGd b e)
 ·rw[h] at e
  cases e
  rcases hb with hb|hb
  ·exact absurd (eX hl _ hb) (Nat.lt_irrefl _)
  ·exact absurd (eX hd _ hb) (Nat.lt_irrefl _)
theorem oG {α:Type} {f:α→List aI} {s:Nat} (hs:∀ x,(f x).length=s):∀ (L:List α),(L.flatMap f).length=L.length*s
 | []=>by simp
 | y::L=>by rw[List.flatMap_cons,List.length_append,hs,oG hs L,List.length_cons,Nat.add_mul];omega
structure Same (X w:World):Prop where
 heap:X.heap=w.heap
 os:X.os=w.os
 tape:X.tape=w.tape
 output:X.output=w.output
theorem Same.below {X w:World} (h:Same X w):Below w.heap.size w X:=⟨h.os,h.tape,h.output,by rw[h.heap];exact Nat.le_refl _,fun b _=>by rw[h.heap]⟩
theorem Same.size {X w:World} (h:Same X w):X.heap.size=w.heap.size:=by rw[h.heap]
theorem Same.drewN (w:World) (n:Nat):Same (w.drewN n) w:=⟨rfl,rfl,rfl,rfl⟩
theorem gQ {P:Program} {w:World} {ops:Array Oper} {o:Oper} {a:Act} {K:Act→World→Prop} {Q:Exit→Act→World→Prop} {E:Prop} (hgd:o.guard=none) (s x:Operand) (t tn:TypeId)
  (ho:o.op=.call { callee:=.builtin .append,args:=#[s,x],argTypes:=#[t,tn] }) (vs vx:Value) (hs:a.eval s=vs) (hx:a.eval x=vx)
  {W:World} {R:Value→World→Prop} (hA:∀ X,Same X W→∃ v' w',(Builtin.append_ #[t,tn] o.type #[vs,vx]).run P X=.ok v' w'∧R v' w') (hS:Same w W) (h:∀ v' w',R v' w'→K (a.put o.dst v') w') :
  if Region.wanted o (yielded ops a.tmps)=true then Oper.wp P o a w K Q else E:=by
 have hw:Region.wanted o (yielded ops a.tmps)=true:=by simp[Region.wanted,hgd]
 rw[if_pos hw];obtain⟨v',w',hr,hR⟩:=hA w hS;exact Lib.wp_append_run w s x t tn ho vs vx hs hx v' w' hr (h v' w' hR)
theorem aZ {P:Program} {w:World} {ops:Array Oper} {rest:List Oper} {o:Oper} {a:Act} {Q:Exit→Act→World→Prop} (hgd:o.guard=none) (s x:Operand) (t tn:TypeId)
  (ho:o.op=.call { callee:=.builtin .append,args:=#[s,x],argTypes:=#[t,tn] }) (vs vx:Value) (hs:a.eval s=vs) (hx:a.eval x=vx)
  {W:World} {R:Value→World→Prop} (hA:∀ X,Same X W→∃ v' w',(Builtin.append_ #[t,tn] o.type #[vs,vx]).run P X=.ok v' w'∧R v' w') (hS:Same w W) (h:∀ v' w',R v' w'→wpList P ops Q rest (a.put o.dst v') w'):wpList P ops Q (o::rest) a w:=by
 obtain⟨v',w',hr,hR⟩:=hA w hS;exact wpList_plain hgd fun _ hK=>Lib.wp_append_run w s x t tn ho vs vx hs hx v' w' hr (hK _ _ (h v' w' hR))
theorem Ez {P:Program} (w:World) (t ty e:TypeId) (i:TypeInfo) (ht:P.underlying t=some (.slice e)) (hi:P.info? e=some i) (a:Option Addr) (n cap:Nat) (hle:n≤cap) (x:Option Addr) (c:Nat) :
  (Builtin.append_ #[t,t] ty #[.slice a n cap,.slice x 0 c]).run P w=.ok (.slice a n cap) w:=by
 cases a<;>cases x<;>simp[Builtin.append_,run_underlying ht,sizeOf,typeInfo,hi,Builtin.lenOf,hle,Builtin.firstCells,loadCells,loadCellsFrom,storeCells]
theorem oH {P:Program} (w:World) {ops:Array Oper} {rest:List Oper} {o:Oper} {act:Act} {Q:Exit→Act→World→Prop} (hgd:o.guard=none) (sl x:Operand) (t:TypeId)
  (hop:o.op=.call { callee:=.builtin .append,args:=#[sl,x],argTypes:=#[t,t] }) (e:TypeId) (i:TypeInfo) (ht:P.underlying t=some (.slice e)) (hi:P.info? e=some i)
  (a:Option Addr) (n cap:Nat) (hs:act.eval sl=.slice a n cap) (hle:n≤cap) (y:Option Addr) (c:Nat) (hx:act.eval x=.slice y 0 c)
  (h:wpList P ops Q rest (act.put o.dst (.slice a n cap)) w):wpList P ops Q (o::rest) act w :=
 wpList_plain hgd fun _ hK=>Lib.wp_append_run w sl x t t hop _ _ hs hx _ w (Ez w t o.type e i ht hi a n cap hle y c) (hK _ _ h)
theorem Bx.iV {w:World} {B:Nat} {T:TypeId} {cs:Array Value} (h:Bx w B T cs) (i:Nat) (v:Value):Bx (w.setCell ⟨B,i,none⟩ v) B T (cs.setIfInBounds i v):=by
 have hh:=h;unfold Bx;simp only[World.setCell]
 rw[Array.getElem?_modify,hh];simp
theorem Bx.wrt {w w':World} {B:Nat} {T:TypeId} {cs:Array Value} {f:Fp} (h:Bx w B T cs) (hw:aO f w w') (hn:¬ f B):Bx w' B T cs:=(hw.block B h.lt hn).trans h
theorem Bx.far {w:World} {B g i:Nat} {T:TypeId} {cs:Array Value} (h:Bx w B T cs) (hne:B≠g) (v:Value):Bx (w.setCell ⟨g,i,none⟩ v) B T cs:=h.wrt (aO.set w g i v) hne
theorem qN {w:World} {s g off n c p i:Nat} {xs:List Value} (h:fA w s g off n c xs) (hne:g≠p) (v:Value):fA (w.setCell ⟨p,i,none⟩ v) s g off n c xs :=
 h.of_block ((aO.set w p i v).block g h.blk hne) (by simp[World.setCell];exact h.blk)
theorem FW {P:Program} {w:World} (t ty e:TypeId) (i:TypeInfo) (z:Value) (s bytes:Nat) (ht:P.underlying t=some (.slice e)) (hi:P.info? e=some i) (hz:i.zero=some z)
  (hsize:i.size=s) (hby:i.bytes=bytes) (hzs:z.cells.size=s) (hsz:0<s)
  {a:Option Addr} {n c:Nat} {cs ds:List aI} {fp fd:Fp} (hO:aI.ow w (.sl s n cs) (.slice a n c) fp) {vals:List Value} (hd:bG w ds vals fd) (hdis:∀ b,fp b→¬ fd b) (hl:vals.length=s) (h1:∀ u∈vals,u.oneCell'=true)
  (nb:Nat) (T:TypeId) (hnb:w.heap[nb]?=some (.cells vals.toArray T (0,0))) (h63:n+1≤maxLen) (hbytes:(n+1)*bytes≤140737488355328) :
  ∃ a' c' w' fp',(Builtin.append_ #[t,t] ty #[.slice a n c,.slice (some ⟨nb,0,none⟩) 1 1]).run P w=.ok (.slice a' (n+1) c') w'∧aI.ow w' (.sl s (n+1) (cs++ds)) (.slice a' (n+1) c') fp'∧aO fp w w'∧∀ b,fp' b→fp b∨fd b∨b=w.heap.size:=by
 obtain⟨a0,c0,us,G,f,e0,ho,hcs,hn,hf⟩:=hO
 cases e0
 obtain⟨a',c',G',w',hr,ho',hg,hat⟩:=jR (P:=P) w t ty e i z s bytes ht hi hz hsize hby hzs hsz a n c us G ho (some ⟨nb,0,none⟩) 1 1 vals (by omega) (.inr ⟨_,rfl,World.news_of_block hnb⟩) h1 h63 hbytes
 refine⟨a',c',w',_,hr,Df hcs hd hn (fun b hb=>hdis b ((hf b).2 (.inl hb))) (fun b hb=>hdis b ((hf b).2 (.inr hb))) ho' hg hat,(aO.iZ hg).mono (fun b _ hb=>(hf b).2 (.inl hb)),fun b hb=>?_⟩
 rcases hb with hb|hb|hb
 ·rcases hat with h|h
  ·exact .inl ((hf b).2 (.inl (h ▸ hb)))
  ·rw[h] at hb;cases hb;exact .inr (.inr rfl)
 ·exact .inl ((hf b).2 (.inr hb))
 ·exact .inr (.inl hb)
theorem yg {P:Program} {w:World} (t ty e:TypeId) (i:TypeInfo) (ht:P.underlying t=some (.slice e)) (hi:P.info? e=some i) (hz:i.zero=some (.int .i64 0)) (hsize:i.size=1) (hby:i.bytes=8)
  {a:Option Addr} (ha:oC a) {x:Option Addr} {c:Nat} {xs:List Int} (hv:Vec w x xs.length xs) (hm:xs.length≤1000000) :
  ∃ a' c' w' fp',(Builtin.append_ #[t,t] ty #[.slice a 0 0,.slice x xs.length c]).run P w=.ok (.slice a' xs.length c') w'∧aI.ow w' (bQ xs) (.slice a' xs.length c') fp'∧aO (fun _=>False) w w'∧∀ b,fp' b→b=w.heap.size:=by
 have hnews:xs.length=0∨∃ ad,x=some ad∧∀ j u,(xs.map (Value.int .i64))[j]?=some u→w.cell? (ad.add j)=some u:=by
  rcases hv.2.2 with h|⟨b,off,rfl,hc⟩
  ·exact .inl h
  ·exact .inr ⟨_,rfl,lI hc⟩
 obtain⟨a',c',G',w',hr,ho',hg,hat⟩:=jR (P:=P) w t ty e i _ 1 8 ht hi hz hsize hby rfl (by omega) a 0 0 [] none (dR.nil _ _ ha) x xs.length c (xs.map (Value.int .i64)) (by simp) hnews (by simp[Value.oneCell']) (by unfold maxLen;omega) (by omega)
 simp only[Nat.zero_add,List.nil_append] at hr ho';refine⟨a',c',w',fun b=>G'=some b,hr,fB.2 ⟨a',c',G',rfl,ho',fun b=>Iff.rfl⟩,(aO.iZ hg).mono (fun b _ hb=>by cases hb),fun b hb=>?_⟩
 rcases hat with h|h
 ·rw[h] at hb;cases hb
 ·rw[h] at hb;cases hb;rfl
def It (w:World) (cs:List aI) (vs:List Value) (lo hi:Nat):Prop:=∃ f,bG w cs vs f∧∀ b,f b→lo≤b∧b<hi
theorem It.below {w w':World} {cs:List aI} {vs:List Value} {lo hi:Nat} (h:It w cs vs lo hi) (hb:Below w.heap.size w w'):It w' cs vs lo hi:=by
 obtain⟨f,h1,h2⟩:=h;exact⟨f,bM h1 hb,h2⟩
theorem It.wrt {w w':World} {cs:List aI} {vs:List Value} {lo hi:Nat} {f:Fp} (h:It w cs vs lo hi) (hw:aO f w w') (hd:∀ b,f b→b<lo∨hi≤b):It w' cs vs lo hi:=by
 obtain⟨g,h1,h2⟩:=h;refine⟨g,bP h1 hw (fun b hb hf=>?_),h2⟩
 have:=h2 b hb;rcases hd b hf with h|h<;>omega
theorem It.aj9 {w w':World} {cs:List aI} {vs:List Value} (h:iL w w' cs vs):It w' cs vs w.heap.size w'.heap.size:=by
 obtain⟨f,h1,h2,_⟩:=h;exact⟨f,h1,fun b hb=>⟨h2 b hb,eX h1 b hb⟩⟩
theorem FX {w:World} {c:aI} {v:Value} {f:Fp}:bG w [c] [v] f↔aI.ow w c v f:=by
 constructor
 ·rintro⟨u,us,f1,f2,e,h1,h2,hd,hf⟩
  cases e
  exact aI.U6 h1 (fun b=>(hf b).trans ⟨fun h=>h.elim id (fun h=>absurd h (h2.2 b)),.inl⟩)
 ·intro h
  exact⟨v,[],f,fun _=>False,rfl,h,⟨rfl,fun _ h=>h⟩,fun _ _ h=>h,fun b=>by simp⟩
theorem It.ow1 {w:World} {c:aI} {v:Value} {lo hi:Nat} (h:It w [c] [v] lo hi):∃ f,aI.ow w c v f∧∀ b,f b→lo≤b∧b<hi:=by
 obtain⟨f,h1,h2⟩:=h;exact⟨f,FX.1 h1,h2⟩
structure Pc (w:World) (B o:Nat) (vs:List Value):Prop where
 cell:∀ j,j<vs.length→w.cell? ⟨B,o+j,none⟩=vs[j]?
 free:∀ j,j<vs.length→w.frozen? ⟨B,o+j,none⟩=false
 lt:B<w.heap.size
def dN (w:World) (B o:Nat) (cs:List aI) (fp:Fp):Prop:=∃ vs,Pc w B o vs∧bG w cs vs fp∧¬ fp B
structure bC (w w':World) (B o:Nat) (cs:List aI) (fp:Fp):Prop where
 iY:∃ fp',dN w' B o cs fp'∧∀ b,fp' b→fp b∨w.heap.size≤b
 out:∀ j,j<o∨o+cs.length≤j→w'.cell? ⟨B,j,none⟩=w.cell? ⟨B,j,none⟩
 frz:∀ j,w'.frozen? ⟨B,j,none⟩=w.frozen? ⟨B,j,none⟩
 wrt:aO (fun b=>fp b∨b=B) w w'
theorem Pc.of_block {w w':World} {B o:Nat} {vs:List Value} (h:Pc w B o vs) (e:w'.heap[B]?=w.heap[B]?) (hs:w.heap.size≤w'.heap.size):Pc w' B o vs :=
 ⟨fun j hj=>by rw[World.cell?_of_block (w:=w) e];exact h.cell j hj,fun j hj=>by rw[show w'.frozen? ⟨B,o+j,none⟩=w.frozen? ⟨B,o+j,none⟩ from by simp only[World.frozen?,e]];exact h.free j hj,Nat.lt_of_lt_of_le h.lt hs⟩
theorem dN.wrt {w w':World} {B o:Nat} {cs:List aI} {fp f:Fp} (h:dN w B o cs fp) (hw:aO f w w') (hd:∀ b,fp b∨b=B→¬ f b):dN w' B o cs fp:=by
 obtain⟨vs,h1,h2,h3⟩:=h;exact⟨vs,h1.of_block (hw.block B h1.lt (hd B (.inr rfl))) hw.size,bP h2 hw (fun b hb=>hd b (.inl hb)),h3⟩
theorem dN.below {w w':World} {B o:Nat} {cs:List aI} {fp:Fp} (h:dN w B o cs fp) (hb:Below w.heap.size w w'):dN w' B o cs fp:=h.wrt (f:=fun _=>False) (aO.of_below hb) (fun _ _ h=>h)
theorem dN.lt {w:World} {B o:Nat} {cs:List aI} {fp:Fp} (h:dN w B o cs fp):B<w.heap.size:=by
 obtain⟨vs,h1,_⟩:=h;exact h1.lt
theorem dN.flt {w:World} {B o:Nat} {cs:List aI} {fp:Fp} (h:dN w B o cs fp):∀ b,fp b→b<w.heap.size:=by
 obtain⟨vs,_,h1,_⟩:=h;exact eX h1
theorem dN.nB {w:World} {B o:Nat} {cs:List aI} {fp:Fp} (h:dN w B o cs fp):¬ fp B:=by
 obtain⟨vs,_,_,h1⟩:=h;exact h1
theorem bC.refl {w:World} {B o:Nat} {cs:List aI} {fp:Fp} (h:dN w B o cs fp):bC w w B o cs fp:=⟨⟨fp,h,fun b hb=>.inl hb⟩,fun _ _=>rfl,fun _=>rfl,aO.refl _ _⟩
theorem bC.next {w w1:World} {B o:Nat} {cs1:List aI} {fp:Fp} (h:bC w w1 B o cs1 fp):∃ dD,dN w1 B o cs1 dD∧(∀ b,dD b→fp b∨w.heap.size≤b)∧∀ w2 cs2,cs2.length=cs1.length→bC w1 w2 B o cs2 dD→bC w w2 B o cs2 fp:=by
 obtain⟨⟨dD,h1,h2⟩,h3,h4,h5⟩:=h;refine⟨dD,h1,h2,fun w2 cs2 hl k=>?_⟩
 obtain⟨⟨fp2,k1,k2⟩,k3,k4,k5⟩:=k;refine⟨⟨fp2,k1,fun b hb=>?_⟩,fun j hj=>(k3 j hj).trans (h3 j (by omega)),fun j=>(k4 j).trans (h4 j),h5.trans k5 (fun b hb hk=>?_)⟩
 ·rcases k2 b hb with hb|hb
  ·exact h2 b hb
  ·exact .inr (Nat.le_trans h5.size hb)
 ·rcases hk with hk|hk
  ·rcases h2 b hk with hk|hk
   ·exact .inl hk
   ·omega
  ·exact .inr hk
theorem bC.below {w w1 w2:World} {B o:Nat} {cs:List aI} {fp:Fp} (h:bC w w1 B o cs fp) (hb:Below w1.heap.size w1 w2):bC w w2 B o cs fp:=by
 obtain⟨dD,h1,h2,h3⟩:=h.next;have e:=hb.block B h1.lt;exact h3 w2 cs rfl ⟨⟨dD,h1.below hb,fun b hb=>.inl hb⟩,fun j _=>World.cell?_of_block e,fun j=>by simp only[World.frozen?,e],aO.of_below hb⟩
theorem bC.first {w0 w w1:World} {B o:Nat} {cs:List aI} {fp:Fp} (h:bC w w1 B o cs fp) (hb:Below w0.heap.size w0 w) (hB:B<w0.heap.size) (hl:∀ b,fp b→b<w0.heap.size):bC w0 w1 B o cs fp:=by
 obtain⟨⟨dD,h1,h2⟩,h3,h4,h5⟩:=h;have e:=hb.block B hB;refine⟨⟨dD,h1,fun b hb'=>(h2 b hb').imp id (fun h=>Nat.le_trans hb.size h)⟩,fun j hj=>(h3 j hj).trans (World.cell?_of_block e),fun j=>(h4 j).trans (by simp only[World.frozen?,e]),(aO.of_below (f:=fun b=>fp b∨b=B) hb).trans h5 (fun _ _ h=>h)⟩
theorem dN.at {w:World} {B o:Nat} {cs:List aI} {fp:Fp} (h:dN w B o cs fp) {j:Nat} {c:aI} (hj:cs[j]?=some c):∃ u f,w.cell? ⟨B,o+j,none⟩=some u∧w.frozen? ⟨B,o+j,none⟩=false∧aI.ow w c u f∧(∀ b,f b→fp b)∧¬ f B ∧
  ∀ (w1:World) (c':aI) (u':Value) (f':Fp),aO f w w1→aI.ow w1 c' u' f'→(∀ b,f' b→f b∨w.heap.size≤b)→w1.cell? ⟨B,o+j,none⟩=some u∧w1.frozen? ⟨B,o+j,none⟩=false∧bC w (w1.setCell ⟨B,o+j,none⟩ u') B o (cs.set j c') fp∧(u'=u→bC w w1 B o (cs.set j c') fp):=by
 obtain⟨vs,h1,h2,h3⟩:=h;have hlen:=fJ h2
 have hjl:j<cs.length:=by
  rcases Nat.lt_or_ge j cs.length with h|h
  ·exact h
  ·rw[List.getElem?_eq_none h] at hj;cases hj
 obtain⟨u,f,hu,hc,hs,hp⟩:=vY h2 hj;have hfB:¬ f B:=fun k=>h3 (hs B k)
 have hB:=h1.lt;refine⟨u,f,(h1.cell j (by omega)).trans hu,h1.free j (by omega),hc,hs,hfB,fun w1 c' u' f' hw hc' hf'=>?_⟩
 have e1:=hw.block B hB hfB;have hP1:=h1.of_block e1 hw.size;have hlt:=eX h2;have yh:¬ f' B:=fun k=>by rcases hf' B k with k|k;exact hfB k;omega
 have hc1:w1.cell? ⟨B,o+j,none⟩=some u:=(hP1.cell j (by omega)).trans hu
 refine⟨hc1,hP1.free j (by omega),⟨⟨fun b=>f' b∨fp b∧¬ f b,⟨vs.set j u',⟨fun k hk=>?_,fun k hk=>?_,by simp[World.setCell];exact hP1.lt⟩, ?_, ?_⟩, ?_⟩,fun k hk=>?_,fun k=>?_, ?_⟩,fun e=>⟨⟨fun b=>f' b∨fp b∧¬ f b,⟨vs,hP1, ?_, ?_⟩, ?_⟩,fun k hk=>World.cell?_of_block e1,fun k=>by simp only[World.frozen?,e1],hw.mono (fun b _ hb=>.inl (hs b hb))⟩⟩
 ·by_cases ek:j=k
  ·subst ek
   rw[World.cell?_setCell_same _ _ _ hc1];simp at hk
   simp[hk]
  ·rw[World.cell?_setCell_other _ _ _ _ (by simp[ek]),hP1.cell k (by simpa using hk)]
   simp[ek]
 ·rw[World.frozen?_setCell];exact hP1.free k (by simpa using hk)
 ·have hw2:=aO.set w1 B (o+j) u'
  exact hp _ c' u' f' (Nat.le_trans hw.size hw2.size) (aI.lU hc' hw2 (fun b hb e => yh (e ▸ hb))) (fun b hb hn => (hw2.block b (Nat.lt_of_lt_of_le (hlt b hb) hw.size) (fun e => h3 (e ▸ hb))).trans (hw.block b (hlt b hb) hn)) (fun b hb hb2 => by
   rcases hf' b hb with k|k
   ·exact k
   ·have:=hlt b hb2;omega)
 ·rintro (k|⟨k,_⟩)
  ·exact yh k
  ·exact h3 k
 ·rintro b (k|⟨k,_⟩)
  ·exact (hf' b k).imp (hs b) id
  ·exact .inl k
 ·have hk2:=hk
  rw[List.length_set] at hk2;rw[World.cell?_setCell_other _ _ _ _ (by simp only[ne_eq,Addr.mk.injEq,not_and];omega)]
  exact World.cell?_of_block e1
 ·rw[World.frozen?_setCell];simp only[World.frozen?,e1]
 ·exact (hw.mono (fun b _ hb=>Or.inl (hs b hb))).trans (aO.set w1 B (o+j) u') (fun b _ hb=>.inr hb)
 ·subst e
  have := hp w1 c' u' f' hw.size hc' (fun b hb hn => hw.block b (hlt b hb) hn) (fun b hb hb2 => by
   rcases hf' b hb with k|k
   ·exact k
   ·have:=hlt b hb2;omega)
  have e2:vs.set j u'=vs:=by
   apply List.ext_getElem? ;intro i
   by_cases ei:j=i
   ·subst ei;rw[hu,List.getElem?_set_self (by omega)]
   ·simp[ei]
  rwa [e2] at this
 ·rintro (k|⟨k,_⟩)
  ·exact yh k
  ·exact h3 k
 ·rintro b (k|⟨k,_⟩)
  ·exact (hf' b k).imp (hs b) id
  ·exact .inl k
theorem au3 {w:World} {s n c:Nat} {a:Option Addr} {ds:List aI} {fp:Fp} (h:aI.ow w (.sl s n ds) (.slice a n c) fp) {k:Nat} (hk:k<n) (hs:0<s):∃ g off f,a=some ⟨g,off,none⟩∧fp g∧(∀ b,f b→fp b)∧dN w g (off+k*s) ((ds.drop (k*s)).take s) f∧g<w.heap.size ∧
  ∀ (w1:World) (es:List aI),es.length=s→bC w w1 g (off+k*s) es f→∃ fp',aI.ow w1 (.sl s n (ds.take (k*s)++es++ds.drop (k*s+s))) (.slice a n c) fp'∧(∀ b,fp' b→fp b∨w.heap.size≤b)∧aO fp w w1:=by
 obtain⟨a0,c0,us,G,f0,e0,ho,hl,hG,hf⟩:=h
 cases e0
 rcases ho with ⟨h0,_⟩|⟨g,off,rfl,ho,rfl⟩
 ·omega
 have zQ:=ho.len;have hdl:=fJ hl
 have hks:k*s+s≤n*s:=by
  have:(k+1)*s≤n*s:=Nat.mul_le_mul_right s hk;rw[Nat.add_mul,Nat.one_mul] at this;exact this
 have e1:ds=ds.take (k*s)++((ds.drop (k*s)).take s++ds.drop (k*s+s)):=by
  rw[← List.drop_drop,List.take_append_drop,List.take_append_drop]
 rw[e1] at hl;obtain⟨u1,u23,f1,f23,rfl,hl1,Jj,hd1,hf1⟩:=jl hl;obtain⟨u2,u3,f2,f3,rfl,hl2,hl3,hd2,hf2⟩:=jl Jj;have n1:u1.length=k*s:=by rw[fJ hl1,List.length_take];omega
 have n2:u2.length=s:=by rw[fJ hl2,List.length_take,List.length_drop];omega
 have hfg:∀ b,f2 b→f0 b:=fun b hb=>(hf1 b).2 (.inr ((hf2 b).2 (.inl hb)))
 have hgn:¬ f0 g:=fun hb=>hG g rfl hb
 have hblk:=ho.blk;have hle:=ho.le;have hcs:=Nat.mul_le_mul_right s hle;refine⟨g,off,f2,rfl,(hf g).2 (.inl rfl),fun b hb=>(hf b).2 (.inr (hfg b hb)),⟨u2,⟨fun j hj=>?_,fun j hj=>?_,hblk⟩,hl2,fun hb=>hgn (hfg g hb)⟩,hblk,fun w1 es hes hb=>?_⟩
 ·have:=ho.cell (k*s+j) (by omega)
  rw[Nat.add_assoc,this,List.getElem?_append_right (by omega),List.getElem?_append_left (by omega),n1]
  congr 1
  omega
 ·have:=ho.free (k*s+j) (by omega)
  rw[Nat.add_assoc];exact this
 ·obtain⟨⟨dD,⟨vs,hv1,hv2,hv3⟩,hx⟩,hout,hfr,hw⟩:=hb
  have nv:vs.length=s:=by rw[fJ hv2,hes]
  have hlt1:=eX hl1;have hlt3:=eX hl3
  have k1 : bG w1 (ds.take (k * s)) u1 f1 := bP hl1 hw (fun b hb hk => by
   rcases hk with hk|hk
   ·exact hd1 b hb ((hf2 b).2 (.inl hk))
   ·exact hgn (hk ▸ (hf1 b).2 (.inl hb)))
  have k3 : bG w1 (ds.drop (k * s + s)) u3 f3 := bP hl3 hw (fun b hb hk => by
   rcases hk with hk|hk
   ·exact hd2 b hk hb
   ·exact hgn (hk ▸ (hf1 b).2 (.inr ((hf2 b).2 (.inr hb)))))
  have k12 := kZ k1 hv2 (fun b hb hb2 => by
   rcases hx b hb2 with hk|hk
   ·exact hd1 b hb ((hf2 b).2 (.inl hk))
   ·have:=hlt1 b hb;omega)
  have U7 := kZ k12 k3 (fun b hb hb2 => by
   rcases hb with hb|hb
   ·exact hd1 b hb ((hf2 b).2 (.inr hb2))
   ·rcases hx b hb with hk|hk
    ·exact hd2 b hk hb2
    ·have:=hlt3 b hb2;omega)
  have hin:∀ b,((f1 b∨dD b)∨f3 b)→f0 b∨w.heap.size≤b:=by
   rintro b ((hb|hb)|hb)
   ·exact .inl ((hf1 b).2 (.inl hb))
   ·exact (hx b hb).imp (hfg b) id
   ·exact .inl ((hf1 b).2 (.inr ((hf2 b).2 (.inr hb))))
  refine⟨fun b=>some g=some b∨((f1 b∨dD b)∨f3 b),⟨some ⟨g,off,none⟩,c,u1++vs++u3,some g,_,rfl,.inr ⟨g,off,rfl,⟨?_,hle,ho.max,Nat.lt_of_lt_of_le hblk hw.size,fun i hi=>?_,fun i hi=>?_,fun i hi=>by rw[hfr];exact ho.free i hi⟩,rfl⟩,U7,fun b hb hk=>?_,fun b=>Iff.rfl⟩,fun b hb=>?_,hw.mono (fun b _ hb=>?_)⟩
  ·simp only[List.length_append] at zQ ⊢;omega
  ·by_cases i1:i<k*s
   ·rw[hout (off+i) (by omega),ho.cell i hi,List.getElem?_append_left (by omega),List.append_assoc,List.getElem?_append_left (by omega)]
   ·by_cases i2:i<k*s+s
    ·have:=hv1.cell (i-k*s) (by omega)
     rw[show off+i=off+k*s+(i-k*s) by omega,this,List.append_assoc,List.getElem?_append_right (by omega),List.getElem?_append_left (by omega),n1]
    ·rw[hout (off+i) (by omega),ho.cell i hi,List.getElem?_append_right (by omega),List.getElem?_append_right (by omega),List.append_assoc,List.getElem?_append_right (by omega),List.getElem?_append_right (by omega),n1,n2,nv]
  ·by_cases i1:i<k*s∨k*s+s≤i
   ·rw[hout (off+i) (by omega)];exact ho.some i hi
   ·have:=hv1.cell (i-k*s) (by omega)
    rw[show off+i=off+k*s+(i-k*s) by omega,this,List.getElem?_eq_getElem (by omega)]
    rfl
  ·cases hb
   rcases hin _ hk with hk|hk
   ·exact hgn hk
   ·omega
  ·rcases hb with hb|hb
   ·cases hb;exact .inl ((hf g).2 (.inl rfl))
   ·exact (hin b hb).imp (fun h=>(hf b).2 (.inr h)) id
  ·rcases hb with hb|hb
   ·exact (hf b).2 (.inr (hfg b hb))
   ·exact (hf b).2 (.inl (by rw[hb]))
theorem uh {α:Type} {F:α→List aI} {s:Nat} (hs:∀ x,(F x).length=s):∀ {L:List α} {k:Nat} {x:α},L[k]?=some x→((L.flatMap F).drop (k*s)).take s=F x
 | [],k,x,h=>by simp at h
 | y::L,0,x,h=>by
  simp at h
  subst h;rw[Nat.zero_mul,List.drop_zero,List.flatMap_cons,List.take_append_of_le_length (by rw[hs];exact Nat.le_refl _),List.take_of_length_le (by rw[hs];exact Nat.le_refl _)]
 | y::L,k+1,x,h=>by
  rw[List.flatMap_cons,show (k+1)*s=(F y).length+k*s by rw[hs,Nat.add_mul];omega,List.drop_append]
  simp only[List.getElem?_cons_succ] at h;have:=uh hs h;rw[Nat.add_sub_cancel_left,List.drop_eq_nil_of_le (by omega),List.nil_append]
  exact this
theorem DZ {α:Type} {F:α→List aI} {s:Nat} (hs:∀ x,(F x).length=s):∀ {L:List α} {k:Nat} (y:α),k<L.length→(L.flatMap F).take (k*s)++F y++(L.flatMap F).drop (k*s+s)=(L.set k y).flatMap F
 | [],k,y,h=>by simp at h
 | x::L,0,y,h=>by
  rw[Nat.zero_mul,List.take_zero,List.nil_append,Nat.zero_add,List.set_cons_zero,List.flatMap_cons,List.flatMap_cons,List.drop_append,List.drop_eq_nil_of_le (by rw[hs];exact Nat.le_refl _),hs,Nat.sub_self,List.drop_zero,List.nil_append]
 | x::L,k+1,y,h=>by
  have ih:=DZ hs (L:=L) (k:=k) y (by simpa using h)
  have e:(k+1)*s=(F x).length+k*s:=by rw[hs,Nat.add_mul];omega
  rw[List.set_cons_succ,List.flatMap_cons,List.flatMap_cons,← ih,e,List.take_length_add_append,show (F x).length+k*s+s=(F x).length+(k*s+s) by omega,List.drop_length_add_append]
  simp only[List.append_assoc]
def dA {α:Type} (s:Nat) (F:α→List aI) (L:List α):aI:=.sl s L.length (L.flatMap F)
theorem vZ {α:Type} {F:α→List aI} {s:Nat} (hF:∀ x,(F x).length=s) (hs:0<s) {w:World} {a:Option Addr} {c:Nat} {L:List α} {fp:Fp} (h:aI.ow w (dA s F L) (.slice a L.length c) fp) {k:Nat} {x:α} (hk:L[k]?=some x):∃ g off f,a=some ⟨g,off,none⟩∧fp g∧(∀ b,f b→fp b)∧dN w g (off+k*s) (F x) f∧g<w.heap.size ∧
  ∀ (w1:World) (y:α),bC w w1 g (off+k*s) (F y) f→∃ fp',aI.ow w1 (dA s F (L.set k y)) (.slice a L.length c) fp'∧(∀ b,fp' b→fp b∨w.heap.size≤b)∧aO fp w w1:=by
 have hkl:k<L.length:=by
  rcases Nat.lt_or_ge k L.length with h|h
  ·exact h
  ·rw[List.getElem?_eq_none h] at hk;cases hk
 obtain⟨g,off,f,h1,h2,h3,h4,h5,h6⟩:=au3 h hkl hs;rw[uh hF hk] at h4;refine⟨g,off,f,h1,h2,h3,h4,h5,fun w1 y hb=>?_⟩
 have:=h6 w1 (F y) (hF y) hb;rw[DZ hF y hkl] at this;unfold dA;rw[List.length_set];exact this
theorem dN.el {α:Type} {F:α→List aI} {s:Nat} (hF:∀ x,(F x).length=s) (hs:0<s) {w:World} {B o:Nat} {cs:List aI} {fp:Fp} (h:dN w B o cs fp) {j:Nat} {L:List α} (hj:cs[j]?=some (dA s F L)) {k:Nat} {x:α} (hk:L[k]?=some x):∃ g off c f,w.cell? ⟨B,o+j,none⟩=some (.slice (some ⟨g,off,none⟩) L.length c)∧g≠B∧fp g∧(∀ b,f b→fp b)∧dN w g (off+k*s) (F x) f ∧
  ∀ (w1:World) (y:α),bC w w1 g (off+k*s) (F y) f→bC w w1 B o (cs.set j (dA s F (L.set k y))) fp:=by
 obtain⟨u,fj,hu,hfz,hc,hsub,hnB,hput⟩:=h.at hj;obtain⟨a,c,us,G,f0,rfl,ho⟩:=hc;have hc:aI.ow w (dA s F L) (.slice a L.length c) fj:=⟨a,c,us,G,f0,rfl,ho⟩;obtain⟨g,off,f,rfl,h2,h3,h4,h5,h6⟩:=vZ hF hs hc hk;refine⟨g,off,c,f,hu,fun e=>hnB (e ▸ h2),hsub g h2,fun b hb=>hsub b (h3 b hb),h4,fun w1 y hb=>?_⟩
 obtain⟨fp',k1,k2,k3⟩:=h6 w1 y hb;have:=(hput w1 (dA s F (L.set k y)) _ fp' k3 k1 k2).2.2.2 rfl;exact this
def seqB (n s i:Int):Bool:=inB n 1 8&&inB s 0 (n-1)&&inB i 0 100000
def wo (n s i:Int):Int:=if seqB n s i then n*i+s else -1
def ql (n q:Int):Bool:=inB n 1 8&&inB q 0 800000
def D5 (n q:Int):Int:=if ql n q then q%n else -1
def D6 (n q:Int):Int:=if ql n q then q/n else -1
theorem dP {x lo hi:Int}:inB x lo hi=true↔lo≤x∧x≤hi:=by simp[inB]
theorem U8 {n s i:Int}:seqB n s i=true↔(1≤n∧n≤8)∧(0≤s∧s≤n-1)∧0≤i∧i≤100000:=by simp[seqB,dP,and_assoc]
theorem AO {n q:Int}:ql n q=true↔(1≤n∧n≤8)∧0≤q∧q≤800000:=by simp[ql,dP]
def nV (cs:List Int):Bool:=okB cs&&cs.all (fun c=>decide (c≤100000))
def bel (cs:List Int) (q:Nat):Prop:=((q/cs.length:Nat):Int)<el cs (q%cs.length)
def CJ (cs:List Int) (Z:List Int):Prop:=Z.Pairwise (·<·)∧∀ q:Int,q∈Z↔0≤q∧bel cs q.toNat
theorem zS:∀ {A B:List Int},A.Pairwise (·<·)→B.Pairwise (·<·)→(∀ q,q∈A↔q∈B)→A=B:=by
 intro A
 induction A with
 | nil =>
  intro B _ _ h
  cases B with
  | nil=>rfl
  | cons b B=>exact absurd ((h b).2 (by simp)) (by simp)
 | cons a A ih =>
  intro B hA hB h
  cases B with
  | nil=>exact absurd ((h a).1 (by simp)) (by simp)
  | cons b B =>
   rw[List.pairwise_cons] at hA hB
   have hab:a=b:=by
    have h1:=(h a).1 (by simp)
    have h2:=(h b).2 (by simp)
    rcases List.mem_cons.1 h1 with e|e
    ·exact e
    ·rcases List.mem_cons.1 h2 with e'|e'
     ·exact e'.symm
     ·have:=hB.1 a e
      have:=hA.1 b e';omega
   subst hab;rw[ih hA.2 hB.2 (fun q=>?_)]
   constructor
   ·intro hq
    rcases List.mem_cons.1 ((h q).1 (List.mem_cons_of_mem _ hq)) with e|e
    ·have:=hA.1 q hq;omega
    ·exact e
   ·intro hq
    rcases List.mem_cons.1 ((h q).2 (List.mem_cons_of_mem _ hq)) with e|e
    ·have:=hB.1 q hq;omega
    ·exact e
theorem CJ.unique {cs Z Y:List Int} (h:CJ cs Z) (k:CJ cs Y):Z=Y:=zS h.1 k.1 (fun q=>(h.2 q).trans (k.2 q).symm)
def aB (cs:List Int) (k:Nat) (b:Int):Int:=(List.range k).foldl (fun b i=>min b ((cs.length:Int)*el cs i+(i:Int))) b
def row (H:List (List Int)) (i:Nat):List Int:=H.getD i []
def vI (B:Int) (h:List Int):Prop:=(∀ i,i<h.length→0≤el h i∧el h i≤B-1)∧∀ i,i<h.length-1→el h i<el h (i+1)
instance (B:Int) (h:List Int):Decidable (vI B h):=by unfold vI;infer_instance
def YH (N B:Int) (H:List (List Int)):Prop:=(1≤N∧N≤12)∧(1≤B∧B≤12)∧(H.length:Int)=N∧((row H 0).length:Int)=B∧∀ i,i<H.length→vI B (row H i)
instance (N B:Int) (H:List (List Int)):Decidable (YH N B H):=by unfold YH;infer_instance
def bT:List Int→Int→List Int
 | [],n=>[n]
 | x::l,n=>if x<n then x::bT l n else if x=n then x::l else n::x::l
theorem jS {h:List Int} {n q:Int}:q∈bT h n↔q=n∨q∈h:=by
 induction h with
 | nil=>simp[bT]
 | cons x l ih =>
  unfold bT
  split
  ·rw[List.mem_cons,ih,List.mem_cons]
   constructor
   ·rintro (h|h|h)
    ·exact .inr (.inl h)
    ·exact .inl h
    ·exact .inr (.inr h)
   ·rintro (h|h|h)
    ·exact .inr (.inl h)
    ·exact .inl h
    ·exact .inr (.inr h)
  ·split
   ·rename_i h1 h2
    subst h2;simp
   ·simp
theorem sQ {h:List Int}:(∀ i,i<h.length-1→el h i<el h (i+1))↔h.Pairwise (·<·):=by
 rw[List.pairwise_iff_getElem]
 constructor
 ·intro hr i j hi hj hij
  have:∀ d,∀ (hd:i+d+1<h.length),el h i<el h (i+d+1):=by
   intro d
   induction d with
   | zero=>intro hd;exact hr i (by omega)
   | succ d ih=>intro hd;exact Int.lt_trans (ih (by omega)) (hr (i+d+1) (by omega))
  have h2:=this (j-i-1) (by omega)
  rw[show i+(j-i-1)+1=j by omega] at h2
  simpa[el,hi,hj] using h2
 ·intro hr i hi
  have:=hr i (i+1) (by omega) (by omega) (by omega)
  simpa[el,show i<h.length by omega,show i+1<h.length by omega] using this
theorem rC {h:List Int} {n:Int} (hr:h.Pairwise (·<·)):(bT h n).Pairwise (·<·):=by
 induction h with
 | nil=>simp[bT]
 | cons x l ih =>
  rw[List.pairwise_cons] at hr;unfold bT
  split
  ·rename_i h1
   rw[List.pairwise_cons];refine⟨fun q hq=>?_,ih hr.2⟩
   rcases jS.1 hq with h|h
   ·rw[h];exact h1
   ·exact hr.1 q h
  ·split
   ·exact List.pairwise_cons.2 hr
   ·rename_i h1 h2
    rw[List.pairwise_cons];refine⟨fun q hq=>?_,List.pairwise_cons.2 hr⟩
    rcases List.mem_cons.1 hq with h|h
    ·omega
    ·have:=hr.1 q h;omega
abbrev Ps:=Int×Int×Int
def pat (cs:List Ps) (i:Nat):Ps:=cs.getD i (0,0,0)
def U9 (N:Int) (H:List (List Int)) (cs:List Ps) (i:Nat):Prop :=
 (0≤(pat cs i).1∧(pat cs i).1≤N-1)∧(0≤(pat cs i).2.1∧(pat cs i).2.1≤N-1)∧(pat cs i).2.2∈row H (pat cs i).1.toNat∧∀ k,k<i→(pat cs k).1≠(pat cs i).1∧(pat cs k).2.1≠(pat cs i).2.1
instance (N:Int) (H:List (List Int)) (cs:List Ps) (i:Nat):Decidable (U9 N H cs i):=by unfold U9;infer_instance
def Rf (N:Int) (H:List (List Int)) (cs:List Ps):Prop:=∀ i,i<cs.length→U9 N H cs i
instance (N:Int) (H:List (List Int)) (cs:List Ps):Decidable (Rf N H cs):=by unfold Rf;infer_instance
def YI (B:Int) (H:List (List Int)):Prop:=∀ i,i<H.length→((row H i).length:Int)=B
instance (B:Int) (H:List (List Int)):Decidable (YI B H):=by unfold YI;infer_instance
structure VV (w:World) (a:Option Addr) (len cap:Nat) (H:List (List Int)):Prop where
 n:H.length=len
 le:len≤cap
 mx:cap≤maxLen
 row:∀ i,i<len→∃ b off x c,a=some ⟨b,off,none⟩∧w.cell? ⟨b,off+i,none⟩=some (.slice x (row H i).length c)∧Vec w x (row H i).length (row H i)∧(row H i).length≤c∧c≤maxLen
theorem D7 {xs:List Int} {x:Int}:x∈xs↔∃ j,j<xs.length∧el xs j=x:=by
 constructor
 ·intro h
  obtain⟨i,hi,rfl⟩:=List.getElem_of_mem h;exact⟨i,hi,by rw[o8 hi]⟩
 ·rintro⟨j,hj,rfl⟩
  exact iF hj
def qE (xs:List Int):Bool:=decide (∀ i,i<xs.length-1→el xs i<el xs (i+1))
theorem oI (a:Option Addr) (len cap:Nat) (x:Int) (xs:List Int) (w:World) (hv:Vec w a len xs) (hm:len≤maxLen) :
  Calls Tryz.prog 113 #[.slice a len cap,.int .i64 x] w fun e w'=>e=.returned (.bool (decide (x∈xs)))∧w'=w:=by
 unfold maxLen at hm;have HL:=aj hv.1;have hc:=hv.2.2;clear hv;go_enter Tryz.func113,Tryz.ntmps113
 go_wp2
 go_loop [5] (fun i=>∃ k:Nat,k≤len∧i=.int .i64 k∧∀ j,j<k→el xs j≠x) (fun i=>len-(intOf i).toNat)
 case atStart=>exact⟨0,Nat.zero_le _,rfl,fun j hj=>by omega⟩
 case round =>
  obtain⟨k,hk,rfl,hno⟩:=hrel;have HN:=aj hno;clear hno;by_cases hlt:k<len
  ·rcases hc with h0|⟨b,off,rfl,hc⟩
   ·omega
   have hck:=hc k hlt;by_cases he:el xs k=x
   ·have hb:(el xs k==x)=true:=by simpa using he
    have HF:Hid (decide (x∈xs)=true):=by rw[Hid,decide_eq_true_eq];exact D7.2 ⟨k,by rw[HL.out];exact hlt,he⟩
    clear he;go_wp2;go_ret
    exact⟨aH (by rw[HF.out]),rfl⟩
   ·have hb:(el xs k==x)=false:=by simpa using he
    have HE:=aj he;clear he;go_wp2
    go_round
    case rel => exact ⟨k + 1,by omega,by go_num,fun j hj => by
     rcases Nat.lt_succ_iff_lt_or_eq.1 hj with h|h
     ·exact HN.out j h
     ·rw[h];exact HE.out⟩
    case measure=>simp[intOf];omega
  ·have HF:Hid (decide (x∈xs)=false):=by
    rw[Hid,decide_eq_false_iff_not,D7];rintro⟨j,hj,e⟩;exact HN.out j (by rw[HL.out] at hj;omega) e
   clear hc;go_wp2;go_ret
   exact⟨aH (by rw[HF.out]),rfl⟩
theorem MZ (a:Option Addr) (len cap:Nat) (xs:List Int) (w:World) (hv:Vec w a len xs) (hm:len≤maxLen) :
  Calls Tryz.prog 112 #[.slice a len cap] w fun e w'=>e=.returned (.bool (qE xs))∧∃ n,w'=w.drewN n:=by
 unfold maxLen at hm;have HL:=aj hv.1;have hc:=hv.2.2;clear hv;go_enter Tryz.func112,Tryz.ntmps112
 go_wp2
 go_loopw [3] (fun i wr=>∃ k n:Nat,k≤len∧i=.int .i64 ((k:Int)+1)∧wr=w.drewN n∧∀ j,j<k→el xs j<el xs (j+1)) (fun i _=>(len+1)-(intOf i).toNat)
 case atStart=>exact⟨0,0,Nat.zero_le _,rfl,rfl,fun j hj=>by omega⟩
 case round =>
  obtain⟨k,n,hk,rfl,rfl,hr⟩:=hrel;have HR:=aj hr;clear hr;by_cases hlt:k+1<len
  ·rcases hc with h0|⟨b,off,rfl,hc⟩
   ·omega
   have c1:=hc (k+1) hlt;have c0:=hc k (by omega)
   have h1:(k:Int)+1<(len:Int):=by omega
   have h2:(k:Int)<(len:Int):=by omega
   have h0:(0:Int)≤(k:Int)+1:=by omega
   have h3:(0:Int)≤(k:Int):=by omega
   have e1:((k:Int)+1).toNat=k+1:=by omega
   by_cases hx:el xs k<el xs (k+1)
   ·have hd:decide (el xs (k+1)≤el xs k)=false:=by simp;omega
    have HX:=aj hx;clear hx;go_wp2_with fail
    go_quiet (fail)
    go_wp2;go_roundw
    case rel => exact ⟨k + 1,_,by omega,by go_num,rfl,fun j hj => by
     rcases Nat.lt_succ_iff_lt_or_eq.1 hj with h|h
     ·exact HR.out j h
     ·rw[h];exact HX.out⟩
    case measure=>simp[intOf];omega
   ·have hd:decide (el xs (k+1)≤el xs k)=true:=by simp;omega
    have HF:Hid (qE xs=false):=by
     rw[Hid,qE,decide_eq_false_iff_not];intro h;exact hx (h k (by rw[HL.out];omega))
    clear hx;go_wp2_with fail
    go_quiet (fail)
    go_wp2;go_ret
    exact⟨aH (by rw[HF.out]),n+nq,by simp⟩
  ·have hd:decide ((k:Int)+1<(len:Int))=false:=by simp;omega
   have HF:Hid (qE xs=true):=by
    rw[Hid,qE,decide_eq_true_eq];intro j hj;exact HR.out j (by rw[HL.out] at hj;omega)
   clear hc;go_wp2;go_ret
   exact⟨aH (by rw[HF.out]),_,rfl⟩
structure Rw where
 ver:Int
 txt:List (List UInt8)
 got:List Int
 ak:List Int
 wed:Bool
 aB:Bool
 aC:Int
 aA:List Int
def jH:Rw:=⟨0,[],[],[],false,false,0,[]⟩
def jv (l:List Int) (n:Int):Bool:=l.all (fun x=>inB x 0 (n-1))&&qE l
def jc (v:List Int) (n:Int):Bool:=okB v&&(decide ((v.length:Int)=n)&&v.all (fun x=>decide (x≤12)))
def bI (r:Rw) (n:Int):Bool :=
 inB n 1 5 && (inB r.ver 0 1000000 && (decide (r.txt.length ≤ 12) && (jc r.got n && (jv r.ak n && (r.txt.all (fun t => decide (t.length ≤ 20)) &&
  (if r.aB then r.wed&&(inB r.aC 0 (n-1)&&jc r.aA n) else decide (r.aC=0)&&decide (r.aA=[])))))))
def gB (n:Int):Rw:=if inB n 1 5 then ⟨0,[],List.replicate n.toNat 0,[],false,false,0,[]⟩ else jH
def yj (a b:Rw) (n:Int):Bool :=
 bI a n && (bI b n && (decide (a.ver ≤ b.ver) && (decide (a.txt.length ≤ b.txt.length) && (qY a.got b.got && (a.ak.all (fun x => decide (x ∈ b.ak)) && (decide (b.txt.take a.txt.length = a.txt) &&
  ((!a.wed||b.wed)&&(!a.aB||(b.aB&&decide (a.aC≤b.aC))))))))))
def sv (l:List UInt8):ByteArray:=⟨l.toArray⟩
theorem vO (l:List UInt8):(sv l).size=l.length:=by simp[sv,ByteArray.size]
theorem NH (l:List UInt8):(sv l).toList=l:=by
 have h:=ByteArray.toList_mk l;exact h
theorem Tryz.info5:(Tryz.prog.info? 5).map (fun i=>(i.zero,i.size,i.bytes))=some (some (.int .u8 0),1,1):=by kernel_rfl
section
attribute [local irreducible] sv
end
abbrev Lg:=Int×List (List UInt8)
def ak0 (l:Lg):Prop:=(1≤l.1∧l.1≤1000000)∧l.2.length≤40∧∀ i,i<l.2.length→(l.2.getD i []).length≤100
instance (l:Lg):Decidable (ak0 l):=by unfold ak0;infer_instance
def ak1 (l:Lg) (v:Int) (s:List UInt8):Prop:=v=l.1+(l.2.length:Int)∧l.2.length≠40∧s.length≤100
instance (l:Lg) (v:Int) (s:List UInt8):Decidable (ak1 l v s):=by unfold ak1;infer_instance
def ak2 (l:Lg) (v:Int):Prop:=l.1≤v∧v≤l.1+(l.2.length:Int)-1
instance (l:Lg) (v:Int):Decidable (ak2 l v):=by unfold ak2;infer_instance
section
theorem Tryz.info9:(Tryz.prog.info? 9).map (fun i=>(i.zero,i.size,i.bytes))=some (some (.string ⟨#[]⟩),1,16):=by kernel_rfl
theorem pW {T s b:Nat} {z:Value} (h:(Tryz.prog.info? T).map (fun i=>(i.zero,i.size,i.bytes))=some (some z,s,b)):∃ i,Tryz.prog.info? T=some i∧i.zero=some z∧i.size=s∧i.bytes=b:=by
 cases hq:Tryz.prog.info? T with
 | none=>rw[hq] at h;simp at h
 | some i=>rw[hq] at h;simp at h;exact⟨i,rfl,h.1,h.2.1,h.2.2⟩
def nY (zs:List (List UInt8)):List Value:=zs.map (fun s=>Value.string (sv s))
theorem ZQ (a b:List (List UInt8)):nY (a++b)=nY a++nY b:=by simp[nY]
theorem ZR (zs:List (List UInt8)):∀ u∈nY zs,u.oneCell'=true:=by
 intro u hu;simp only[nY,List.mem_map] at hu;obtain⟨s,_,rfl⟩:=hu
 rfl
def OS (w:World) (g off n cap:Nat) (zs:List (List UInt8)):Prop:=fA w 1 g off n cap (nY zs)
theorem OS.length {w:World} {g off n cap:Nat} {zs:List (List UInt8)} (h:OS w g off n cap zs):zs.length=n:=by have:=h.len;simpa[nY] using this
theorem OS.cellAt {w:World} {g off n cap:Nat} {zs:List (List UInt8)} (h:OS w g off n cap zs) {i:Nat} (hi:i<n):w.cell? ⟨g,off+i,none⟩=some (.string (sv (zs.getD i []))):=by
 have hl:=h.length;rw[h.cell i (by omega)]
 simp[nY,show i<zs.length by omega]
attribute [local irreducible] sv
end
section
attribute [local irreducible] sv
end
section
def qO (w:World) (a:Option Addr) (T:List (List UInt8)):Prop:=T.length=0∨∃ b off,a=some ⟨b,off,none⟩∧∀ i,i<T.length→w.cell? ⟨b,off+i,none⟩=some (.string (sv (T.getD i [])))
theorem qO.below {w w':World} {a:Option Addr} {T:List (List UInt8)} (h:qO w a T) (hb:Below w.heap.size w w'):qO w' a T:=by
 rcases h with h|⟨b,off,ha,hc⟩
 ·exact .inl h
 ·exact .inr ⟨b,off,ha,fun i hi=>(hb.cell (World.block_lt_of_cell? _ _ (hc i hi))).trans (hc i hi)⟩
def lM (T:List (List UInt8)):aI:=.sl 1 T.length (pl (nY T))
theorem NI (T:List (List UInt8)):(nY T).length=T.length:=by simp[nY]
theorem NJ {T:List (List UInt8)} {i:Nat} (h:i<T.length):(nY T)[i]?=some (.string (sv (T.getD i []))):=by simp[nY,h]
theorem oJ {w:World} {T:List (List UInt8)} {u:Value} {fp:Fp}:aI.ow w (lM T) u fp↔∃ a c G,u=.slice a T.length c∧dR w 1 a T.length c (nY T) G∧∀ b,fp b↔G=some b:=by
 constructor
 ·rintro⟨a,c,us,G,f,rfl,ho,hl,hn,hf⟩
  obtain⟨rfl,h0⟩:=nH.1 hl;exact⟨a,c,G,rfl,ho,fun b=>(hf b).trans ⟨fun h=>h.elim id (fun h=>absurd h (h0 b)),.inl⟩⟩
 ·rintro⟨a,c,G,rfl,ho,hf⟩
  exact⟨a,c,_,G,fun _=>False,rfl,ho,nH.2 ⟨rfl,fun _ h=>h⟩,fun _ _ h=>h,fun b=>(hf b).trans ⟨.inl,fun h=>h.elim id False.elim⟩⟩
theorem Rh {w:World} {T:List (List UInt8)} {u:Value} (h:aI.vw w (lM T) u):∃ a c,u=.slice a T.length c∧qO w a T∧T.length≤c∧c≤maxLen:=by
 obtain⟨a,c,us,rfl,h1,h2,h3,h,hl⟩:=h;have e:=AB.1 hl;subst e;refine⟨a,c,rfl, ?_,h1,h2⟩;rcases h with h|⟨b,off,ha,hc⟩
 ·exact .inl h
 ·refine .inr ⟨b,off,ha,fun i hi=>?_⟩
  rw[hc i (by omega),NJ hi]
theorem dR.os {w:World} {a:Option Addr} {c:Nat} {T:List (List UInt8)} {G:Option Nat} (h:dR w 1 a T.length c (nY T) G):(T=[]∧c=0∧G=none)∨∃ g off,a=some ⟨g,off,none⟩∧OS w g off T.length c T∧G=some g:=by
 rcases h with ⟨h1,h2,h3,h4,_⟩|h
 ·exact .inl ⟨List.eq_nil_of_length_eq_zero h1,h2,h4⟩
 ·exact .inr h
theorem qO.news {w:World} {a:Option Addr} {T:List (List UInt8)} (h:qO w a T):T.length=0∨∃ ad,a=some ad∧∀ j u,(nY T)[j]?=some u→w.cell? (ad.add j)=some u:=by
 rcases h with h|⟨b,off,rfl,hc⟩
 ·exact .inl h
 ·refine .inr ⟨_,rfl,fun j u hu=>?_⟩
  have hl:=(List.getElem?_eq_some_iff.1 hu).1;rw[NI] at hl;rw[NJ hl] at hu
  cases hu
  rw[vX];exact hc j hl
theorem qO.take {w:World} {a:Option Addr} {T:List (List UInt8)} (h:qO w a T) (k:Nat):qO w a (T.take k):=by
 rcases h with h|⟨b,off,rfl,hc⟩
 ·exact .inl (by rw[List.length_take];omega)
 ·refine .inr ⟨_,_,rfl,fun i hi=>?_⟩
  rw[List.length_take] at hi;rw[hc i (by omega)]
  simp[List.getD_eq_getElem?_getD,List.getElem?_take_of_lt (show i<k by omega)]
def yt (T:List (List UInt8)):Nat→Nat
 | 0=>0
 | k+1=>yt T k+(T.getD k []).length
theorem NK (T:List (List UInt8)):∀ {i k:Nat},i<k→(T.getD i []).length≤yt T k
 | i,0,h=>by omega
 | i,k+1,h=>by
  rcases Nat.lt_succ_iff_lt_or_eq.1 h with h|rfl
  ·have:=NK T h
   simp only[yt];omega
  ·simp only[yt];omega
attribute [local irreducible] sv
theorem ZT (w:World) (n:Nat) (hn:n≤maxLen):OS (w.alloc (.cells (madeCells #[.string ⟨#[]⟩] n) 9)) w.heap.size 0 n n (List.replicate n []):=by
 have h:=zn w #[.string ⟨#[]⟩] 1 n 9 rfl (by omega) hn
 have e:(List.replicate n (#[Value.string ⟨#[]⟩]:Array Value).toList).flatten=nY (List.replicate n []):=by
  unfold nY;rw[List.map_replicate];have:sv []=⟨#[]⟩:=by unfold sv;rfl
  rw[this];simp
 rw[e,Nat.mul_one] at h;exact h
end
section
theorem Bx.r2 {w:World} {B:Nat} {T:TypeId} {x y:Value} (h:Bx w B T #[x,y]):w.cell? ⟨B,0,none⟩=some x∧w.cell? ⟨B,1,none⟩=some y:=⟨h.at 0 rfl,h.at 1 rfl⟩
theorem P6 {P:Program} {w:World} (t ty e:TypeId) (i:TypeInfo) (ht:P.underlying t=some (.slice e)) (hi:P.info? e=some i) (hz:i.zero=some (.string ⟨#[]⟩)) (hsize:i.size=1) (hby:i.bytes=16)
  {a:Option Addr} (ha:oC a) {x:Option Addr} {c:Nat} {T:List (List UInt8)} (hv:qO w x T) (hm:T.length≤1048576) :
  ∃ a' c' w' fp',(Builtin.append_ #[t,t] ty #[.slice a 0 0,.slice x T.length c]).run P w=.ok (.slice a' T.length c') w'∧aI.ow w' (lM T) (.slice a' T.length c') fp'∧aO (fun _=>False) w w'∧∀ b,fp' b→b=w.heap.size:=by
 obtain⟨a',c',G',w',hr,ho',hg,hat⟩:=jR (P:=P) w t ty e i _ 1 16 ht hi hz hsize hby rfl (by omega) a 0 0 [] none (dR.nil _ _ ha) x T.length c (nY T) (by rw[NI];omega) hv.news (ZR T) (by unfold maxLen;omega) (by omega)
 simp only[Nat.zero_add,List.nil_append] at hr ho';refine⟨a',c',w',fun b=>G'=some b,hr,oJ.2 ⟨a',c',G',rfl,ho',fun b=>Iff.rfl⟩,(aO.iZ hg).mono (fun b _ hb=>by cases hb),fun b hb=>?_⟩
 rcases hat with h|h
 ·rw[h] at hb;cases hb
 ·rw[h] at hb;cases hb;rfl
attribute [local irreducible] sv
end
section
def Dh (w:World) (a:Option Addr) (c:Nat) (T:List (List UInt8)):Prop:=(T=[]∧c=0∧oC a)∨∃ b off,a=some ⟨b,off,none⟩∧T.length≤c∧c≤maxLen∧∀ i,i<T.length→w.cell? ⟨b,off+i,none⟩=some (.string (sv (T.getD i [])))
theorem Dh.NM {w:World} {a:Option Addr} {c:Nat} {T:List (List UInt8)} (h:Dh w a c T):qO w a T:=by
 rcases h with ⟨h,_⟩|⟨b,off,h1,h2,h3,h4⟩
 ·exact .inl (by rw[h];rfl)
 ·exact .inr ⟨b,off,h1,h4⟩
theorem Dh.below {w w':World} {a:Option Addr} {c:Nat} {T:List (List UInt8)} (h:Dh w a c T) (hb:Below w.heap.size w w'):Dh w' a c T:=by
 rcases h with h|⟨b,off,ha,h1,h2,hc⟩
 ·exact .inl h
 ·exact .inr ⟨b,off,ha,h1,h2,fun i hi=>(hb.cell (World.block_lt_of_cell? _ _ (hc i hi))).trans (hc i hi)⟩
theorem dR.txp {w:World} {a:Option Addr} {c:Nat} {T:List (List UInt8)} {G:Option Nat} (h:dR w 1 a T.length c (nY T) G):Dh w a c T:=by
 have hp:=h.plain;rcases h.os with ⟨h1,h2,_⟩|⟨g,off,h1,h2,_⟩
 ·exact .inl ⟨h1,h2,hp⟩
 ·exact .inr ⟨g,off,h1,h2.le,h2.max,fun i hi=>h2.cellAt hi⟩
theorem Jk {w:World} {a:Option Addr} {c:Nat} {T:List (List UInt8)} {fp:Fp} (h:aI.ow w (lM T) (.slice a T.length c) fp):Dh w a c T:=by
 obtain⟨a',c',G,e,ho,_⟩:=oJ.1 h
 cases e
 exact ho.txp
attribute [local irreducible] sv
end
end Go.Proofs.YtafimeakbdmkjaaGreat