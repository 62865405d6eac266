/-
  Texts in one.
-/
import Derived.Test.YtafimeakbdmkjaaGreatZaa
import Derived.Test.YtafimeakbdmkjaaGreatZae
import Derived.Test.YtafimeakbdmkjaaGreatZab
namespace Go.Proofs.YtafimeakbdmkjaaGreat
set_option linter.unusedVariables false
set_option linter.unusedSimpArgs false
open Go.RowKit Go.Sort
set_option maxRecDepth 100000
set_option maxHeartbeats 12800000
theorem zy {w:World} {u:Value} {T:List (List UInt8)} {f:Fp} (t:List UInt8) (h:aI.ow w (lM T) u f) (hl:T.length≤1000000):∃ a c,u=.slice a T.length c∧∀ Y,Same Y (w.alloc (.cells #[.string (sv t)] 9)) →
  ∃ v' w4,(Builtin.append_ #[42,42] 42 #[u,.slice (some ⟨w.heap.size,0,none⟩) 1 1]).run Tryz.prog Y=.ok v' w4∧∃ a' c' f',v'=.slice a' (T.length+1) c'∧aI.ow w4 (lM (T++[t])) v' f'∧(∀ b,f' b→f b∨w.heap.size≤b)∧aO f w w4:=by
 obtain⟨i0,hi0,hz0,hz1,hz2⟩:=pW Tryz.info9;have h':=h;obtain⟨a,c,G,rfl,ho,hf⟩:=oJ.1 h';refine⟨a,c,rfl,fun Y hY=>?_⟩
 have jg:=(aF w _).trans (hY.below.mono (aF w _).size);have hlt:=aI.iT h;obtain⟨a',c',w4,fp',k1,k2,k3,k4⟩:=FW (P:=Tryz.prog) (w:=Y) 42 42 9 i0 _ 1 16 Tryz.underlying42 hi0 hz0 hz1 hz2 rfl (by omega) (aI.cZ h jg) (nH (vs:=[.string (sv t)]).2 ⟨rfl,fun (b:Nat) (h:False)=>h⟩:bG Y (pl [.string (sv t)]) [.string (sv t)] (fun _=>False)) (fun _ _ h=>h) rfl (by intro u hu;simp at hu;rw[hu];rfl) w.heap.size 9 (by rw[hY.heap];exact heap_alloc_new w _) (by unfold maxLen;omega) (by omega)
 refine⟨_,w4,k1,a',c',fp',rfl, ?_,fun b hb=>?_,(aO.of_below (f:=f) jg).trans k3 (fun _ _ h=>h)⟩
 ·have e:lM (T++[t])=.sl 1 (T.length+1) (pl (nY T)++pl [.string (sv t)]):=by simp[lM,nY,pl]
  rw[e];exact k2
 ·rcases k4 b hb with k|k|k
  ·exact .inl k
  ·exact k.elim
  ·exact .inr (by have:=jg.size;omega)
theorem ny {w:World} {u:Value} {T:List Int} {f:Fp} (t:Int) (h:aI.ow w (bQ T) u f) (hl:T.length≤1000000):∃ a c,u=.slice a T.length c∧∀ Y,Same Y (w.alloc (.cells #[.int .i64 t] 2)) →
  ∃ v' w4,(Builtin.append_ #[41,41] 41 #[u,.slice (some ⟨w.heap.size,0,none⟩) 1 1]).run Tryz.prog Y=.ok v' w4∧∃ a' c' f',v'=.slice a' (T.length+1) c'∧aI.ow w4 (bQ (T++[t])) v' f'∧(∀ b,f' b→f b∨w.heap.size≤b)∧aO f w w4:=by
 obtain⟨i0,hi0,hz0,hz1,hz2⟩:=gX Tryz.info2n;have h':=h;obtain⟨a,c,G,rfl,ho,hf⟩:=fB.1 h';refine⟨a,c,rfl,fun Y hY=>?_⟩
 have jg:=(aF w _).trans (hY.below.mono (aF w _).size);obtain⟨a',c',w4,fp',k1,k2,k3,k4⟩:=FW (P:=Tryz.prog) (w:=Y) 41 41 2 i0 _ 1 8 Tryz.underlying41 hi0 hz0 hz1 hz2 rfl (by omega) (aI.cZ h jg) (nH (vs:=[.int .i64 t]).2 ⟨rfl,fun (b:Nat) (h:False)=>h⟩:bG Y (pl [.int .i64 t]) [.int .i64 t] (fun _=>False)) (fun _ _ h=>h) rfl (by intro u hu;simp at hu;rw[hu];rfl) w.heap.size 2 (by rw[hY.heap];exact heap_alloc_new w _) (by unfold maxLen;omega) (by omega)
 refine⟨_,w4,k1,a',c',fp',rfl, ?_,fun b hb=>?_,(aO.of_below (f:=f) jg).trans k3 (fun _ _ h=>h)⟩
 ·have e:bQ (T++[t])=.sl 1 (T.length+1) (pl (T.map (Value.int .i64))++pl [.int .i64 t]):=by simp[bQ,pl]
  rw[e];exact k2
 ·rcases k4 b hb with k|k|k
  ·exact .inl k
  ·exact k.elim
  ·exact .inr (by have:=jg.size;omega)
theorem jh {w:World} {u:Value} {T:List Int} {f:Fp} (h:aI.ow w (bQ T) u f) {k:Nat} (hk:k<T.length):∃ g o c,u=.slice (some ⟨g,o,none⟩) T.length c∧f g∧w.cell? ⟨g,o+k,none⟩=some (.int .i64 (el T k))∧w.frozen? ⟨g,o+k,none⟩=false∧∀ (y:Int),aI.ow (w.setCell ⟨g,o+k,none⟩ (.int .i64 y)) (bQ (T.set k y)) u f∧aO f w (w.setCell ⟨g,o+k,none⟩ (.int .i64 y)):=by
 obtain⟨a,c,G,rfl,ho,hf⟩:=fB.1 h;rcases ho with ⟨h0,_⟩|⟨g,off,rfl,hs,rfl⟩
 ·omega
 have hc:w.cell? ⟨g,off+k,none⟩=some (.int .i64 (el T k)):=by
  rw[hs.cell k (by omega)]
  simp[el,hk]
 refine⟨g,off,c,rfl,(hf g).2 rfl,hc,hs.free k (by have:=hs.le;omega),fun y=>⟨?_,(aO.set w g (off+k) _).mono (fun b _ hb=>(hf b).2 (by rw[hb]))⟩⟩
 refine fB.2 ⟨some ⟨g,off,none⟩,c,some g,by rw[List.length_set],.inr ⟨g,off,rfl, ?_,rfl⟩,hf⟩
 have:=FU hs (j:=k) (by omega) (.int .i64 y)
 rw[List.length_set,List.map_set];exact this
theorem Nh {w:World} {u:Value} {T:List Bool} {f:Fp} (h:aI.ow w (qR T) u f) {k:Nat} (hk:k<T.length):∃ g o c,u=.slice (some ⟨g,o,none⟩) T.length c∧f g∧w.cell? ⟨g,o+k,none⟩=some (.bool (T.getD k false))∧w.frozen? ⟨g,o+k,none⟩=false∧∀ (y:Bool),aI.ow (w.setCell ⟨g,o+k,none⟩ (.bool y)) (qR (T.set k y)) u f∧aO f w (w.setCell ⟨g,o+k,none⟩ (.bool y)):=by
 obtain⟨a,c,G,rfl,ho,hf⟩:=EN.1 h;rcases ho with ⟨h0,_⟩|⟨g,off,rfl,hs,rfl⟩
 ·omega
 have hc:w.cell? ⟨g,off+k,none⟩=some (.bool (T.getD k false)):=by
  rw[hs.cell k (by omega)]
  simp[List.getD,hk]
 refine⟨g,off,c,rfl,(hf g).2 rfl,hc,hs.free k (by have:=hs.le;omega),fun y=>⟨?_,(aO.set w g (off+k) _).mono (fun b _ hb=>(hf b).2 (by rw[hb]))⟩⟩
 refine EN.2 ⟨some ⟨g,off,none⟩,c,some g,by rw[List.length_set],.inr ⟨g,off,rfl, ?_,rfl⟩,hf⟩
 have:=FU hs (j:=k) (by omega) (.bool y)
 rw[List.length_set,List.map_set];exact this
theorem Gw.bit {w X:World} {B o:Nat} {g:Gr} {fp:Fp} {b off c:Nat} (h:Gw w X B o g fp b off c) {k:Nat} (hk:k<g.up.length):∃ ub uo uc,X.cell? ⟨B,o+1,none⟩=some (.slice (some ⟨ub,uo,none⟩) g.up.length uc)∧X.cell? ⟨ub,uo+k,none⟩=some (.bool (nM g k))∧X.frozen? ⟨ub,uo+k,none⟩=false ∧
  ∀ y:Bool,Gw w (X.setCell ⟨ub,uo+k,none⟩ (.bool y)) B o { g with up:=g.up.set k y } fp b off c:=by
 obtain⟨dD,hp,hf1,hgo⟩:=h.bU.next;obtain⟨u,f,h1,_,h2,h3,h4,h5⟩:=hp.at (j:=1) rfl;obtain⟨ub,uo,uc,rfl,k1,k2,k3,k4⟩:=Nh h2 hk;refine⟨ub,uo,uc,h1,k2,k3,fun y=>⟨?_, ?_⟩⟩
 ·exact hgo _ (dB { g with up:=g.up.set k y }) rfl ((h5 _ (qR (g.up.set k y)) (.slice (some ⟨ub,uo,none⟩) g.up.length uc) f (k4 y).2 (k4 y).1 (fun b hb=>.inl hb)).2.2.2 rfl)
 ·exact (World.cell?_of_block ((k4 y).2.block B hp.lt h4)).trans h.mem
def aI.one:aI→Prop
 | .v x=>x.oneCell'=true
 | .sl _ _ _=>True
theorem oO {w:World}:∀ {cs:List aI} {us:List Value} {f:Fp},bG w cs us f→(∀ c∈cs,c.one)→∀ u∈us,u.oneCell'=true
 | [],us,f,h,_,u,hu=>by
  obtain⟨rfl,_⟩:=h
  cases hu
 | c::cs,us,f,h,h1,u,hu=>by
  obtain⟨u0,us',f1,f2,rfl,h2,h3,_⟩:=h;rcases List.mem_cons.1 hu with e|e
  ·subst e
   have:=h1 c List.mem_cons_self
   cases c with
   | v x =>
    obtain⟨rfl,_⟩:=h2;exact this
   | sl s n cs =>
    obtain⟨a,c,us,G,f,rfl,_⟩:=h2
    rfl
  ·exact oO h3 (fun c hc=>h1 c (List.mem_cons_of_mem _ hc)) u e
theorem Z8 (r:Rw):∀ c∈eY r,c.one:=by
 intro c hc;simp only[eY,List.mem_cons,List.not_mem_nil,or_false] at hc;rcases hc with h|h|h|h|h|h|h|h<;>subst h<;>first|rfl|trivial
theorem NV (m:Mb):∀ c∈gW m,c.one:=by
 intro c hc;simp only[gW,List.mem_cons,List.not_mem_nil,or_false] at hc;rcases hc with h|h|h|h|h<;>subst h<;>first|rfl|trivial
theorem wG (x:Ml):∀ c∈gZ x,c.one:=by
 intro c hc;simp only[gZ,List.mem_cons] at hc;rcases hc with h|h|h
 ·subst h;rfl
 ·subst h;rfl
 ·exact Z8 _ c h
theorem JM {α:Type} {F:α→List aI} (hF:∀ x,∀ c∈F x,c.one) (L:List α):∀ c∈L.flatMap F,c.one:=by
 intro c hc;obtain⟨x,_,h⟩:=List.mem_flatMap.1 hc;exact hF x c h
theorem F8 {P:Program} {α:Type} {F:α→List aI} {s:Nat} (hF:∀ x,(F x).length=s) (hF1:∀ x,∀ c∈F x,c.one) {w:World} (t ty e:TypeId) (z:Value) (bytes:Nat) (ht:P.underlying t=some (.slice e)) (hi:(P.info? e).map (fun i=>(i.zero,i.size,i.bytes))=some (some z,s,bytes)) (hzs:z.cells.size=s) (hsz:0<s)
  {a:Option Addr} {c:Nat} {L M:List α} {fp fd:Fp} (hO:aI.ow w (dA s F L) (.slice a L.length c) fp) {vals:List Value} (hd:bG w (M.flatMap F) vals fd) (hdis:∀ b,fp b→¬ fd b)
  (x:Option Addr) (cx:Nat) (hnews:M.length=0∨∃ ad,x=some ad∧∀ j u,vals[j]?=some u→w.cell? (ad.add j)=some u) (h63:L.length+M.length≤maxLen) (hbytes:(L.length+M.length)*bytes≤140737488355328) :
  ∃ a' c' w' fp',(Builtin.append_ #[t,t] ty #[.slice a L.length c,.slice x M.length cx]).run P w=.ok (.slice a' (L.length+M.length) c') w'∧aI.ow w' (dA s F (L++M)) (.slice a' (L.length+M.length) c') fp'∧aO fp w w'∧∀ b,fp' b→fp b∨fd b∨b=w.heap.size:=by
 obtain⟨i,hi0,hz,hs,hb⟩:=nT hi;obtain⟨a0,c0,us,G,f,e0,ho,hcs,hn,hf⟩:=hO
 cases e0
 have hl:vals.length=M.length*s:=by rw[fJ hd,oG hF]
 obtain⟨a',c',G',w',hr,ho',hg,hat⟩:=jR (P:=P) w t ty e i z s bytes ht hi0 hz hs hb hzs hsz a L.length c us G ho x M.length cx vals hl hnews (oO hd (JM hF1 M)) h63 hbytes;refine⟨a',c',w',fun b=>G'=some b∨f b∨fd b,hr, ?_,(aO.iZ hg).mono (fun b _ hb=>(hf b).2 (.inl hb)),fun b hb=>?_⟩
 ·have:=Df hcs hd hn (fun b hb=>hdis b ((hf b).2 (.inl hb))) (fun b hb=>hdis b ((hf b).2 (.inr hb))) ho' hg hat
  unfold dA;rw[List.flatMap_append,List.length_append];exact this
 ·rcases hb with hb|hb|hb
  ·rcases hat with h|h
   ·exact .inl ((hf b).2 (.inl (h ▸ hb)))
   ·rw[h] at hb;cases hb;exact .inr (.inr rfl)
  ·exact .inl ((hf b).2 (.inr hb))
  ·exact .inr (.inl hb)
theorem NW {α:Type} {F:α→List aI} {s:Nat} (hF:∀ x,(F x).length=s) {w:World} {u:Value} {L:List α} {fp:Fp} (h:aI.ow w (dA s F L) u fp) {k:Nat} {x:α} (hk:L[k]?=some x) :
  ∃ g off c u1 u2 u3 f1 f2 f3,u=.slice (some ⟨g,off,none⟩) L.length c∧fp g∧L.length≤c∧c≤maxLen∧(∀ b,f1 b→fp b∧b≠g)∧(∀ b,f2 b→fp b∧b≠g)∧(∀ b,f3 b→fp b∧b≠g) ∧
   bG w ((L.take k).flatMap F) u1 f1∧bG w (F x) u2 f2∧bG w ((L.drop (k+1)).flatMap F) u3 f3∧(∀ b,f1 b→¬ f2 b)∧(∀ b,f1 b→¬ f3 b)∧(∀ b,f2 b→¬ f3 b) ∧
   (∀ j y,u1[j]?=some y→w.cell? ⟨g,off+j,none⟩=some y)∧(∀ j y,u2[j]?=some y→w.cell? ⟨g,off+k*s+j,none⟩=some y)∧(∀ j y,u3[j]?=some y→w.cell? ⟨g,off+(k+1)*s+j,none⟩=some y):=by
 have hkl:k<L.length:=by
  rcases Nat.lt_or_ge k L.length with h|h
  ·exact h
  ·rw[List.getElem?_eq_none h] at hk;cases hk
 obtain⟨a,c,us,G,f,rfl,ho,hcs,hn,hf⟩:=h;have hle:=ho.le;have RU:=ho.len
 have e1:L=L.take k++([x]++L.drop (k+1)):=by
  have hx:L[k]=x:=by rw[List.getElem?_eq_getElem hkl] at hk;exact Option.some.inj hk
  rw[← hx,List.singleton_append,List.getElem_cons_drop,List.take_append_drop]
 have e2:L.flatMap F=(L.take k).flatMap F++(F x++(L.drop (k+1)).flatMap F):=by
  conv=>lhs;rw[e1]
  rw[List.flatMap_append,List.flatMap_append,List.flatMap_singleton]
 rw[e2] at hcs;obtain⟨u1,u23,f1,f23,rfl,l1,Rz,d1,i1⟩:=jl hcs;obtain⟨u2,u3,f2,f3,rfl,l2,l3,d2,i2⟩:=jl Rz;have n1:u1.length=k*s:=by rw[fJ l1,oG hF,List.length_take];congr 1;omega
 have n2:u2.length=s:=by rw[fJ l2,hF]
 have n3:u3.length=(L.length-(k+1))*s:=by rw[fJ l3,oG hF,List.length_drop]
 rcases ho with ⟨h0,_⟩|⟨g,off,rfl,hs,rfl⟩
 ·omega
 have hg:fp g:=(hf g).2 (.inl rfl);have uZ:¬ f g:=hn g rfl
 have cell:∀ j y,(u1++(u2++u3))[j]?=some y→w.cell? ⟨g,off+j,none⟩=some y:=fun j y hy=>by
  have hj:j<(u1++(u2++u3)).length:=by
   rcases Nat.lt_or_ge j (u1++(u2++u3)).length with h|h
   ·exact h
   ·rw[List.getElem?_eq_none h] at hy;cases hy
  rw[hs.cell j (by omega)]
  exact hy
 have s1:∀ b,f1 b→f b:=fun b hb=>(i1 b).2 (.inl hb)
 have s2:∀ b,f2 b→f b:=fun b hb=>(i1 b).2 (.inr ((i2 b).2 (.inl hb)))
 have s3:∀ b,f3 b→f b:=fun b hb=>(i1 b).2 (.inr ((i2 b).2 (.inr hb)))
 refine⟨g,off,c,u1,u2,u3,f1,f2,f3,rfl,hg,hle.1,hle.2,fun b hb=>⟨(hf b).2 (.inr (s1 b hb)),fun e=>uZ (e ▸ s1 b hb)⟩,fun b hb=>⟨(hf b).2 (.inr (s2 b hb)),fun e=>uZ (e ▸ s2 b hb)⟩,fun b hb=>⟨(hf b).2 (.inr (s3 b hb)),fun e=>uZ (e ▸ s3 b hb)⟩,l1,l2,l3,fun b hb h2=>d1 b hb ((i2 b).2 (.inl h2)),fun b hb h2=>d1 b hb ((i2 b).2 (.inr h2)),fun b hb h2=>d2 b hb h2,fun j y hy=>?_,fun j y hy=>?_,fun j y hy=>?_⟩
 ·refine cell j y ?_
  have hj:j<u1.length:=by
   rcases Nat.lt_or_ge j u1.length with h|h
   ·exact h
   ·rw[List.getElem?_eq_none h] at hy;cases hy
  rw[List.getElem?_append_left hj];exact hy
 ·rw[Nat.add_assoc]
  refine cell _ y ?_
  have hj:j<u2.length:=by
   rcases Nat.lt_or_ge j u2.length with h|h
   ·exact h
   ·rw[List.getElem?_eq_none h] at hy;cases hy
  rw[List.getElem?_append_right (by omega),List.getElem?_append_left (by omega),n1,Nat.add_sub_cancel_left]
  exact hy
 ·rw[Nat.add_assoc]
  refine cell _ y ?_;have e:(k+1)*s=k*s+s:=by rw[Nat.add_mul,Nat.one_mul]
  rw[List.getElem?_append_right (by omega),List.getElem?_append_right (by omega),n1,n2,e,show k*s+s+j-k*s-s=j by omega]
  exact hy
theorem dN.atR {w:World} {B o:Nat} {cs:List aI} {fp:Fp} (h:dN w B o cs fp) {j:Nat} {c:aI} (hj:cs[j]?=some c):∃ u f,w.cell? ⟨B,o+j,none⟩=some u∧w.frozen? ⟨B,o+j,none⟩=false∧aI.ow w c u f∧(∀ b,f b→fp b)∧¬ f B∧(∀ (i:Nat) (ci:aI),i≠j→cs[i]?=some ci→∃ ui fi,w.cell? ⟨B,o+i,none⟩=some ui∧aI.ow w ci ui fi∧∀ b,fi b→fp b∧¬ f b) ∧
  ∀ (w1:World) (c':aI) (u':Value) (f':Fp),aO f w w1→aI.ow w1 c' u' f'→(∀ b,f' b→f b∨w.heap.size≤b)→w1.cell? ⟨B,o+j,none⟩=some u∧w1.frozen? ⟨B,o+j,none⟩=false∧bC w (w1.setCell ⟨B,o+j,none⟩ u') B o (cs.set j c') fp∧(u'=u→bC w w1 B o (cs.set j c') fp):=by
 obtain⟨vs,h1,h2,h3⟩:=h;have hlen:=fJ h2
 have hjl:j<cs.length:=by
  rcases Nat.lt_or_ge j cs.length with h|h
  ·exact h
  ·rw[List.getElem?_eq_none h] at hj;cases hj
 obtain⟨u,f,hu,hc,hs,hp⟩:=vY h2 hj;have hfB:¬ f B:=fun k=>h3 (hs B k)
 have hB:=h1.lt
 have hrest:∀ (i:Nat) (ci:aI),i≠j→cs[i]?=some ci→∃ ui fi,w.cell? ⟨B,o+i,none⟩=some ui∧aI.ow w ci ui fi∧∀ b,fi b→fp b∧¬ f b:=fun i ci hne hci=>by
  have hk:=hp w (.v (.bool false)) (.bool false) (fun _=>False) (Nat.le_refl _) ⟨rfl,fun _ h=>h⟩ (fun _ _ _=>rfl) (fun _ h=>h.elim)
  obtain⟨ui,fi,YP,hoi,hsi,_⟩:=vY hk (j:=i) (c:=ci) (by rw[List.getElem?_set_ne (Ne.symm hne)];exact hci)
  rw[List.getElem?_set_ne (Ne.symm hne)] at YP
  have hil:i<vs.length:=by
   rcases Nat.lt_or_ge i vs.length with h|h
   ·exact h
   ·rw[List.getElem?_eq_none h] at YP;cases YP
  exact⟨ui,fi,(h1.cell i hil).trans YP,hoi,fun b hb=>(hsi b hb).elim (fun h=>h.elim) id⟩
 refine⟨u,f,(h1.cell j (by omega)).trans hu,h1.free j (by omega),hc,hs,hfB,hrest,fun w1 c' u' f' hw hc' hf'=>?_⟩
 have e1:=hw.block B hB hfB;have hP1:=h1.of_block e1 hw.size;have hlt:=eX h2;have yh:¬ f' B:=fun k=>by rcases hf' B k with k|k;exact hfB k;omega
 have hc1:w1.cell? ⟨B,o+j,none⟩=some u:=(hP1.cell j (by omega)).trans hu
 refine⟨hc1,hP1.free j (by omega),⟨⟨fun b=>f' b∨fp b∧¬ f b,⟨vs.set j u',⟨fun k hk=>?_,fun k hk=>?_,by simp[World.setCell];exact hP1.lt⟩, ?_, ?_⟩, ?_⟩,fun k hk=>?_,fun k=>?_, ?_⟩,fun e=>⟨⟨fun b=>f' b∨fp b∧¬ f b,⟨vs,hP1, ?_, ?_⟩, ?_⟩,fun k hk=>World.cell?_of_block e1,fun k=>by simp only[World.frozen?,e1],hw.mono (fun b _ hb=>.inl (hs b hb))⟩⟩
 ·by_cases ek:j=k
  ·subst ek
   rw[World.cell?_setCell_same _ _ _ hc1];simp at hk
   simp[hk]
  ·rw[World.cell?_setCell_other _ _ _ _ (by simp[ek]),hP1.cell k (by simpa using hk)]
   simp[ek]
 ·rw[World.frozen?_setCell];exact hP1.free k (by simpa using hk)
 ·have hw2:=aO.set w1 B (o+j) u'
  exact hp _ c' u' f' (Nat.le_trans hw.size hw2.size) (aI.lU hc' hw2 (fun b hb e => yh (e ▸ hb))) (fun b hb hn => (hw2.block b (Nat.lt_of_lt_of_le (hlt b hb) hw.size) (fun e => h3 (e ▸ hb))).trans (hw.block b (hlt b hb) hn)) (fun b hb hb2 => by
   rcases hf' b hb with k|k
   ·exact k
   ·have:=hlt b hb2;omega)
 ·rintro (k|⟨k,_⟩)
  ·exact yh k
  ·exact h3 k
 ·rintro b (k|⟨k,_⟩)
  ·exact (hf' b k).imp (hs b) id
  ·exact .inl k
 ·have hk2:=hk
  rw[List.length_set] at hk2;rw[World.cell?_setCell_other _ _ _ _ (by simp only[ne_eq,Addr.mk.injEq,not_and];omega)]
  exact World.cell?_of_block e1
 ·rw[World.frozen?_setCell];simp only[World.frozen?,e1]
 ·exact (hw.mono (fun b _ hb=>Or.inl (hs b hb))).trans (aO.set w1 B (o+j) u') (fun b _ hb=>.inr hb)
 ·subst e
  have := hp w1 c' u' f' hw.size hc' (fun b hb hn => hw.block b (hlt b hb) hn) (fun b hb hb2 => by
   rcases hf' b hb with k|k
   ·exact k
   ·have:=hlt b hb2;omega)
  have e2:vs.set j u'=vs:=by
   apply List.ext_getElem? ;intro i
   by_cases ei:j=i
   ·subst ei;rw[hu,List.getElem?_set_self (by omega)]
   ·simp[ei]
  rwa [e2] at this
 ·rintro (k|⟨k,_⟩)
  ·exact yh k
  ·exact h3 k
 ·rintro b (k|⟨k,_⟩)
  ·exact (hf' b k).imp (hs b) id
  ·exact .inl k
theorem Gw.full {w X:World} {B o:Nat} {g:Gr} {fp:Fp} {b off c:Nat} (h:Gw w X B o g fp b off c):∃ u f f0,X.cell? ⟨B,o+2,none⟩=some u∧X.frozen? ⟨B,o+2,none⟩=false∧aI.ow X (dA 10 gZ g.aG) u f∧¬ f B∧B<X.heap.size∧(∀ b,f b→b<X.heap.size)∧aI.ow X (dA 5 gW g.mem) (.slice (some ⟨b,off,none⟩) g.mem.length c) f0∧(∀ b,f0 b→¬ f b∧b≠B) ∧
  ∀ (X1:World) (L:List Ml) (u':Value) (f':Fp),aO f X X1→aI.ow X1 (dA 10 gZ L) u' f'→(∀ b,f' b→f b∨X.heap.size≤b)→X1.cell? ⟨B,o+2,none⟩=some u∧X1.frozen? ⟨B,o+2,none⟩=false∧Gw w (X1.setCell ⟨B,o+2,none⟩ u') B o { g with aG:=L } fp b off c:=by
 obtain⟨dD,hp,hf1,hgo⟩:=h.bU.next;obtain⟨u,f,h1,hz,h2,h3,h4,hr,h5⟩:=hp.atR (j:=2) rfl;obtain⟨u0,f0,r1,r2,r3⟩:=hr 0 (dA 5 gW g.mem) (by omega) rfl
 have e0:=Option.some.inj (r1.symm.trans h.mem);subst e0;refine⟨u,f,f0,h1,hz,h2,h4,hp.lt,fun b hb=>aI.iT h2 b hb,r2,fun b hb=>⟨(r3 b hb).2,fun e=>hp.nB (e ▸ (r3 b hb).1)⟩,fun X1 L u' f' hw ho hn=>?_⟩
 obtain⟨q1,q2,q3,_⟩:=h5 X1 (dA 10 gZ L) u' f' hw ho hn;refine⟨q1,q2,hgo _ (dB { g with aG:=L }) rfl q3, ?_⟩
 have e1:X1.cell? ⟨B,o,none⟩=some (.slice (some ⟨b,off,none⟩) g.mem.length c):=(World.cell?_of_block (hw.block B hp.lt h4)).trans h.mem;have e2:=World.cell?_setCells_out B [u'] (o+2) X1 ⟨B,o,none⟩ (fun _ _=>by first|exact Or.inl (by show o<o+2;omega)|(simp;done))
 exact e2.trans e1
theorem Z9 {X:World} {b off c:Nat} {L:List Mb} {f0:Fp} (h:aI.ow X (dA 5 gW L) (.slice (some ⟨b,off,none⟩) L.length c) f0) {a k:Nat} {m:Mb} (ha:L[a]?=some m) (hk:k<m.rows.length) (hf:lV (ah m.rows k)):∃ rb ro rc Ak,f0 b∧f0 rb∧X.cell? ⟨b,off+a*5+2,none⟩=some (.slice (some ⟨rb,ro,none⟩) m.rows.length rc) ∧
  C8 X rb (ro+k*8) (.int .i64 (ah m.rows k).ver) (.slice Ak.ta (ah m.rows k).txt.length Ak.tc) (.slice Ak.ga (ah m.rows k).got.length Ak.gc) (.slice Ak.sa (ah m.rows k).ak.length Ak.sc) (.bool (ah m.rows k).wed) (.bool (ah m.rows k).aB) (.int .i64 (ah m.rows k).aC) (.slice Ak.ma (ah m.rows k).aA.length Ak.mc)∧nJ X Ak (ah m.rows k):=by
 obtain⟨g',off',f,e,h1,h2,h3,_⟩:=vZ sU (by omega) h ha
 cases e
 obtain⟨rb,ro,rc,f',r1,_,r3,r4,r5,_⟩:=h3.el (F:=eY) gI (by omega) (j:=2) (L:=m.rows) rfl (dW hk)
 obtain⟨Ak,c8,rs⟩:=r5.pv.row hf;exact⟨rb,ro,rc,Ak,h1,h2 _ r3,r1,c8,rs⟩
structure OkG (g:Gr) (n:Nat):Prop where
 n5:1≤n∧n≤5
 ml:g.mem.length=n
 ul:g.up.length=n
 lX:g.aG.length≤200
 mem:∀ i,i<n→dO (aN g i) i n
 iP:∀ x∈g.aG,∃ a b:Nat,x.fr=(a:Int)∧x.to=(b:Int)∧a<n∧b<n∧a≠b∧dL x.row n
theorem JO {g:Gr}:jf g=true↔∃ n,OkG g n:=by
 constructor
 ·intro h
  simp only[jf,qG,Bool.and_eq_true,decide_eq_true_eq,List.all_eq_true,List.mem_range] at h;obtain⟨h1,h2,h3,h4,h5,h6⟩:=h;refine⟨g.mem.length,⟨h1,h2⟩,rfl,h3,h4,fun i hi=>?_,fun x hx=>?_⟩
  ·obtain⟨k1,k2,k3⟩:=h5 i hi
   obtain⟨i',n',M⟩:=je.1 k1;have e1:i'=i:=by have:=M.hid;omega
   have e2:n'=g.mem.length:=by have:=M.hn;omega
   rw[e1,e2] at M;exact M
  ·obtain⟨k1,k2,k3,k4⟩:=h6 x hx
   obtain⟨a,ea,ha⟩:=lY k1;obtain⟨b,eb,hb⟩:=lY k2;exact⟨a,b,ea,eb,ha,hb,fun e=>k3 (by rw[ea,eb,e]),kG.1 k4⟩
 ·rintro⟨n,G⟩
  have fG:=G.n5;simp only[jf,qG,Bool.and_eq_true,decide_eq_true_eq,List.all_eq_true,List.mem_range]
  rw[G.ml];refine⟨fG.1,fG.2,G.ul,G.lX,fun i hi=>⟨je.2 ⟨i,n,G.mem i hi⟩,(G.mem i hi).hid,(G.mem i hi).hn⟩,fun x hx=>?_⟩
  obtain⟨a,b,h1,h2,h3,h4,h5,h6⟩:=G.iP x hx;exact⟨dP.2 (by rw[h1];omega),dP.2 (by rw[h2];omega),by rw[h1,h2];omega,kG.2 h6⟩
theorem MInv.okM {n:Nat} {h:Hs} {i:Nat} {m:Mb} (M:MInv n h i m) (n5:1≤n∧n≤5):dO m i n:=by
 have ok:=M.ok i M.lt
 obtain⟨s1,s2,s3⟩:m.au.length≤60∧m.au.Pairwise (·<·)∧∀ q,q<m.au.length→(0≤el m.au q∧el m.au q≤59)∧(m.done=false→el m.au q=(q:Int)):=by
  cases hd:m.done with
  | false =>
   obtain⟨h1,h2⟩:=M.qF hd;exact⟨h1,vK (fun q hq=>(h2 q hq).1),fun q hq=>⟨by rw[(h2 q hq).1];omega,fun _=>(h2 q hq).1⟩⟩
  | true =>
   obtain⟨h1,h2,h3,h4⟩:=M.fin hd
   have hx:∀ x∈m.au,0≤x∧x<((60:Nat):Int):=fun x hx=>by
    rw[h4] at hx;obtain⟨q,rfl,hq⟩:=JE (ok.aB h1).2.2.2.1 n5.2 hx;have:=n5.2;omega
   have hr:m.au.Pairwise (·<·):=by rw[h4];exact rG _ _
   exact⟨xE hr hx,hr,fun q hq=>⟨by have:=hx _ (iF hq);omega,fun h=>(by cases h)⟩⟩
 exact⟨M.hid,M.hn,n5,M.lt,M.len,s1,s2,M.ok,s3,M.jW,M.self,fun hd=>(M.fin hd).1⟩
theorem GInv.rW {n:Nat} {g:Gr} {h:Hs} {log:List Pp} (G:GInv n g h log):OkG g n :=
 ⟨G.n5,G.ml,G.ul,G.lX,fun i hi=>(G.mem i hi).okM G.n5,fun x hx=>by obtain⟨a,b,h1,h2,h3,h4,h5,_,h7⟩:=G.iP x hx;exact⟨a,b,h1,h2,h3,h4,h5,h7⟩⟩
theorem wF.rW {n:Nat} {g:Gr} (h:wF n g):OkG g n:=by obtain⟨_,_,G⟩:=h;exact G.rW
theorem OkG.to {g:Gr} {n:Nat} (G:OkG g n) {i:Nat} (hi:i<n) {m':Mb} (M:dO m' i n):OkG (g.set i m') n:=by
 have hil:i<g.mem.length:=by rw[G.ml];exact hi
 refine⟨G.n5,by simp only[Gr.set,List.length_set];exact G.ml,G.ul,G.lX,fun j hj=>?_,G.iP⟩
 rw[qH hil]
 split
 ·rename_i e;rw[e];exact M
 ·exact G.mem j hj
theorem OkG.push {g:Gr} {n:Nat} (G:OkG g n) {a b:Nat} (ha:a<n) (hb:b<n) (hab:a≠b):OkG (fZ g (a:Int) (b:Int)) n∧(fZ g (a:Int) (b:Int)).mem=g.mem∧(fZ g (a:Int) (b:Int)).up=g.up:=by
 unfold fZ
 split
 ·rename_i hl
  refine⟨⟨G.n5,G.ml,G.ul,by simp only[List.length_append,List.length_singleton];omega,G.mem,fun x hx=>?_⟩,rfl,rfl⟩
  rcases List.mem_append.1 hx with hx|hx
  ·exact G.iP x hx
  ·have:=List.mem_singleton.1 hx
   subst this;exact⟨a,b,rfl,rfl,ha,hb,hab,by simp only[Int.toNat_natCast];exact (G.mem a ha).ok a ha⟩
 ·exact⟨G,rfl,rfl⟩
theorem OkG.all {n:Nat} {a:Nat} (ha:a<n):∀ (L:List Nat) {g:Gr},OkG g n→(∀ x∈L,x<n)→OkG (L.foldl (fun g (i:Nat)=>if (i:Int)=(a:Int) then g else fZ g (a:Int) (i:Int)) g) n∧(L.foldl (fun g (i:Nat)=>if (i:Int)=(a:Int) then g else fZ g (a:Int) (i:Int)) g).mem=g.mem∧(L.foldl (fun g (i:Nat)=>if (i:Int)=(a:Int) then g else fZ g (a:Int) (i:Int)) g).up=g.up
 | [],g,G,_=>⟨G,rfl,rfl⟩
 | i::L,g,G,hL=>by
  rw[List.foldl_cons];by_cases e:(i:Int)=(a:Int)
  ·rw[if_pos e]
   exact OkG.all ha L G (fun x hx=>hL x (List.mem_cons_of_mem _ hx))
  ·rw[if_neg e]
   obtain⟨p1,p2,p3⟩:=G.push ha (hL i List.mem_cons_self) (fun e2=>e (by rw[e2]))
   obtain⟨q1,q2,q3⟩:=OkG.all ha L p1 (fun x hx=>hL x (List.mem_cons_of_mem _ hx))
   exact⟨q1,q2.trans p2,q3.trans p3⟩
theorem OkG.land {g:Gr} {n:Nat} (G:OkG g n) {i:Nat} (hi:i<g.aG.length):OkG (iU g i) n∧(iU g i).up=g.up∧(iU g i).aG=g.aG.take i++g.aG.drop (i+1)∧∀ k,k<n→aN (iU g i) k=aN g k∨∃ r:Rw,∃ a:Nat,dL r n∧aN (iU g i) k=(aX (aN g k) (a:Int) r).1:=by
 have hx:aU g i∈g.aG:=by
  unfold aU;rw[List.getD_eq_getElem?_getD,List.getElem?_eq_getElem hi];exact List.getElem_mem hi
 obtain⟨a,b,h1,h2,h3,h4,h5,h7⟩:=G.iP _ hx
 have hsub:∀ x∈g.aG.take i++g.aG.drop (i+1),x∈g.aG:=fun x hx=>by
  rcases List.mem_append.1 hx with hx|hx
  ·exact List.mem_of_mem_take hx
  ·exact List.mem_of_mem_drop hx
 have hlen:(g.aG.take i++g.aG.drop (i+1)).length≤200:=by
  have:=G.lX;simp only[List.length_append,List.length_take,List.length_drop]
  omega
 unfold iU
 split
 ·rw[h2,h1]
  simp only[Int.toNat_natCast]
  have hbl:b<g.mem.length:=by rw[G.ml];exact h4
  have key:∀ j,aN { mem:=g.mem.set b (aX (aN g b) (a:Int) (aU g i).row).1,up:=g.up,aG:=g.aG.take i++g.aG.drop (i+1) } j=if j=b then (aX (aN g b) (a:Int) (aU g i).row).1 else aN g j:=fun j=>qH (g:=g) (i:=b) (j:=j) (m:=(aX (aN g b) (a:Int) (aU g i).row).1) hbl
  refine⟨⟨G.n5,by simp only[List.length_set];exact G.ml,G.ul,hlen,fun j hj=>?_,fun x hx=>G.iP x (hsub x hx)⟩,trivial,trivial,fun k hk=>?_⟩
  ·rw[key]
   split
   ·rename_i e2;rw[e2];exact (qQ (G.mem b h4) (a:Int) _).1
   ·exact G.mem j hj
  ·rw[key]
   split
   ·rename_i e2;rw[e2];exact .inr ⟨_,a,h7,rfl⟩
   ·exact .inl rfl
 ·exact⟨⟨G.n5,G.ml,G.ul,hlen,G.mem,fun x hx=>G.iP x (hsub x hx)⟩,rfl,rfl,fun k hk=>.inl rfl⟩
def xH (k:Nat) (m m':Mb):Prop:=Nx (ah m.rows k) (ah m'.rows k)∧((m'.au=m.au∧m'.done=m.done∧(m.done=true→ah m'.rows k=ah m.rows k))∨m'=bJ m)
theorem xH.refl (k:Nat) (m:Mb):xH k m m:=⟨Nx.refl _,.inl ⟨rfl,rfl,fun _=>rfl⟩⟩
theorem Vz {m:Mb} {t:List UInt8} (h:m.done=true):(bW m t).1=m:=by rw[bW,if_pos (.inr (.inl h))]
theorem Qi {m:Mb} {w:Int} (h:m.done=true):(aW m w).1=m:=by rw[aW,if_pos (.inr (.inr (.inr (.inl h))))]
theorem OkG.F9 {g:Gr} {n:Nat} (G:OkG g n) {i:Nat} (hi:i<n) {m':Mb} (h:xH i (aN g i) m'):∀ k,k<n→xH k (aN g k) (aN (g.set i m') k):=fun k hk=>by
 have hil:i<g.mem.length:=by rw[G.ml];exact hi
 rw[qH hil]
 split
 ·rename_i e;rw[e];exact h
 ·exact xH.refl _ _
theorem OkG.VA {g:Gr} {n:Nat} (G:OkG g n) {i:Nat} (hi:i<g.aG.length):∀ k,k<n→xH k (aN g k) (aN (iU g i) k):=fun k hk=>by
 rcases (G.land hi).2.2.2 k hk with e|⟨r,a,_,e⟩
 ·rw[e];exact xH.refl _ _
 ·rw[e]
  obtain⟨h1,h2,h3,h4,h5,h6⟩:=qQ (G.mem k hk) (a:Int) r;exact⟨by rw[h4];exact Nx.refl _,.inl ⟨h5,h6,fun _=>h4⟩⟩
theorem Gf {g g':Gr} {n:Nat} (e:g'.mem=g.mem):∀ k,k<n→xH k (aN g k) (aN g' k):=fun k hk=>by
 have:aN g' k=aN g k:=by unfold aN;rw[e]
 rw[this];exact xH.refl _ _
theorem aa0 {n:Nat} {g:Gr} (G:OkG g n) (x:Ac):OkG (dQ g x).1 n∧((dQ g x).2=false→(dQ g x).1=g)∧∀ k,k<n→xH k (aN g k) (aN (dQ g x).1 k):=by
 have hself:OkG g n∧(False=True→g=g)∧∀ k,k<n→xH k (aN g k) (aN g k):=⟨G,fun _=>rfl,fun k _=>xH.refl _ _⟩
 have hs:∀ b:Bool,OkG ((g,b):Gr×Bool).1 n∧(((g,b):Gr×Bool).2=false→((g,b):Gr×Bool).1=g)∧∀ k,k<n→xH k (aN g k) (aN ((g,b):Gr×Bool).1 k):=fun b=>⟨G,fun _=>rfl,fun k _=>xH.refl _ _⟩
 have JD:jw g x=true→∃ a b:Nat,x.a=(a:Int)∧x.b=(b:Int)∧a<n∧b<n∧a≠b:=fun ht=>by
  simp only[jw,Bool.and_eq_true,decide_eq_true_eq] at ht;rw[G.ml] at ht;obtain⟨a,e1,h1⟩:=lY ht.1;obtain⟨b,e2,h2⟩:=lY ht.2.1;exact⟨a,b,e1,e2,h1,h2,fun e=>ht.2.2 (by rw[e1,e2,e])⟩
 have hset:∀ {a:Nat},a<n→∀ {m':Mb},m'=aN g a→g.set a m'=g:=fun {a} ha {m'} e=>by
  have hal:a<g.mem.length:=by rw[G.ml];exact ha
  have e2:m'=g.mem[a]:=by rw[e];simp[aN,hal]
  rw[Gr.set,e2,List.set_getElem_self]
 unfold dQ;by_cases c3:x.kind=3
 ·rw[if_pos c3]
  by_cases c2:jw g x=true
  ·rw[if_pos c2]
   cases e:g.aG.findIdx? (fun y=>decide (y.fr=x.a∧y.to=x.b)) with
   | none=>exact hs _
   | some i =>
    have hi:=(List.findIdx?_eq_some_iff_getElem.1 e).1;exact⟨(G.land hi).1,fun h=>(by cases h),G.VA hi⟩
  ·rw[if_neg c2];exact hs _
 ·rw[if_neg c3]
  by_cases c0:inB x.a 0 ((g.mem.length:Int)-1)=false∨nM g x.a.toNat=false
  ·rw[if_pos c0];exact hs _
  ·rw[if_neg c0]
   simp only[not_or] at c0;rw[G.ml] at c0;obtain⟨a,ea,ha⟩:=lY (by simpa using c0.1)
   have M:=G.mem a ha;have et:x.a.toNat=a:=by rw[ea];rfl
   rw[et];by_cases c1:x.kind=1
   ·rw[if_pos c1]
    obtain⟨k1,k2,k3,k4,k5,k6,k7⟩:=CV M x.txt;exact⟨G.to ha k1,fun h=>hset ha (k2 h),G.F9 ha ⟨k4,.inl ⟨k5,k6,fun hd=>by rw[Vz hd]⟩⟩⟩
   ·rw[if_neg c1]
    by_cases c2:x.kind=2
    ·rw[if_pos c2]
     by_cases c4:jw g x=true
     ·rw[if_pos c4]
      obtain⟨a',b,e1,e2,h1,h2,h3⟩:=JD c4;rw[e1,e2];obtain⟨p1,p2,p3⟩:=G.push h1 h2 h3;exact⟨p1,fun h=>(by cases h),Gf p2⟩
     ·rw[if_neg c4];exact hs _
    ·rw[if_neg c2]
     by_cases c4:x.kind=4
     ·rw[if_pos c4]
      have T:=stepM M;exact⟨G.to ha T.ok,fun h=>(by cases h),G.F9 ha ⟨T.nx,.inr rfl⟩⟩
     ·rw[if_neg c4]
      by_cases c5:x.kind=5
      ·rw[if_pos c5]
       by_cases c6:jw g x=true
       ·rw[if_pos c6]
        obtain⟨k1,k2,k3,k4,k5,k6,k7⟩:=AX M x.b;exact⟨G.to ha k1,fun h=>hset ha (k2 h),G.F9 ha ⟨k4,.inl ⟨k5,k6,fun hd=>by rw[Qi hd]⟩⟩⟩
       ·rw[if_neg c6];exact hs _
      ·rw[if_neg c5]
       by_cases c6:x.kind=6
       ·rw[if_pos c6]
        exact⟨⟨G.n5,G.ml,by simp only[List.length_set];exact G.ul,G.lX,G.mem,G.iP⟩,fun h=>(by cases h),Gf rfl⟩
       ·rw[if_neg c6]
        by_cases c7:x.kind=7
        ·rw[if_pos c7,ea]
         obtain⟨p1,p2,p3⟩:=OkG.all ha (List.range g.mem.length) G (fun y hy=>by rw[G.ml] at hy;exact List.mem_range.1 hy)
         exact⟨p1,fun h=>(by cases h),Gf p2⟩
        ·rw[if_neg c7];exact hs _
theorem Nj {n:Nat} {h:Hs} {log:List Pp} {i:Nat} {m:Mb} (S:lq n h log) (M:MInv n h i m) (n5:1≤n∧n≤5):m.au.length≤(bJ m).au.length∧∀ q,q<m.au.length→el m.au q=el (bJ m).au q:=by
 have T:=stepM (M.okM n5)
 cases hd:m.done with
 | true=>rw[T.dn hd];exact⟨Nat.le_refl _,fun q _=>rfl⟩
 | false =>
  cases hd2:(bJ m).done with
  | false =>
   obtain⟨t,ht⟩:=T.pre hd2;rw[← ht];refine⟨by simp,fun q hq=>?_⟩
   simp[el,List.getElem?_append_left hq]
  | true =>
   obtain⟨h',rJ,S',M',_,hm⟩:=G6 S M;obtain⟨h1,h2,h3,h4⟩:=M'.fin hd2;have ok:=M'.ok i M'.lt;obtain⟨a1,a2,a3,a4,a5⟩:=ok.aB h1;obtain⟨s1,s2⟩:=M.qF hd
   have hc:∀ q,q<m.au.length→(q:Int)∈dh (ah (bJ m).rows i).aA 12:=fun q hq=>by
    refine (GZ a4 (by omega) (fun j hj=>(ok.t h1 j hj).2)).2 ?_
    obtain⟨P,p1,p2,p3⟩:=S'.prop i _ (M'.view i M'.lt) h1;rw[← p3];exact S'.covers (by omega) p1 ((s2 q hq).2.more hm)
   obtain⟨f1,f2⟩:=EI (rG (ah (bJ m).rows i).aA 12) (fun x hx=>by obtain⟨q,e,_⟩:=JE a4 n5.2 hx;omega) hc
   rw[h4];exact⟨f1,fun q hq=>by rw[(s2 q hq).1,f2 q hq]⟩
theorem Qj {n:Nat} {g:Gr} (hg:wF n g) (x:Ac) {k:Nat} (hk:k<n) :
  ((aN g k).au.length≤(aN (dQ g x).1 k).au.length∧∀ q,q<(aN g k).au.length→el (aN g k).au q=el (aN (dQ g x).1 k).au q) ∧
  yj (ah (aN g k).rows k) (ah (aN (dQ g x).1 k).rows k) (n:Int)=true ∧
  ((aN (dQ g x).1 k).done=true→n<2*(aP n (ah (aN (dQ g x).1 k).rows k).ak).length):=by
 have G:=hg.rW;obtain⟨A1,A2,A3⟩:=aa0 G x;obtain⟨h',rJ,G'⟩:=JC hg x;obtain⟨h,log,GI⟩:=hg;obtain⟨b1,b2⟩:=A3 k hk;refine⟨?_,al0 ((G.mem k hk).ok k hk) ((A1.mem k hk).ok k hk) b1,fun hd=>((G'.mem k hk).fin hd).2.1⟩
 rcases b2 with ⟨e,_⟩|e
 ·rw[e];exact⟨Nat.le_refl _,fun q _=>rfl⟩
 ·rw[e];exact Nj GI.S (GI.mem k hk) G.n5
theorem VB {n:Nat} {r:Rw} (ok:dL r n):(aP n r.ak).length+r.ak.length=n:=by
 have hnd:r.ak.Nodup:=(iK.1 ok.kF).imp (fun h=>Int.ne_of_lt h)
 have e1:((List.range n).filter (fun (j:Nat)=>decide ((j:Int)∈r.ak))).length=r.ak.length:=by
  have e2:(((List.range n).filter (fun (j:Nat)=>decide ((j:Int)∈r.ak))).map (fun (j:Nat)=>(j:Int))).Perm r.ak:=by
   refine (List.perm_ext_iff_of_nodup ?_ hnd).2 (fun x=>?_)
   ·refine List.Pairwise.map _ (fun a b (h:a≠b)=>?_) (List.Pairwise.filter _ (List.nodup_range (n:=n)))
    intro e;exact h (by omega)
   ·simp only[List.mem_map,List.mem_filter,List.mem_range,decide_eq_true_eq]
    constructor
    ·rintro⟨j,⟨h1,h2⟩,rfl⟩;exact h2
    ·intro hx
     have:=ok.ak x hx;exact⟨x.toNat,⟨by omega,by rw[show ((x.toNat:Nat):Int)=x by omega];exact hx⟩,by omega⟩
  have:=e2.length_eq
  rwa [List.length_map] at this
 have key:∀ (L:List Nat),(L.filter (fun (j:Nat)=>decide ((j:Int)∉r.ak))).length+(L.filter (fun (j:Nat)=>decide ((j:Int)∈r.ak))).length=L.length:=by
  intro L
  induction L with
  | nil=>rfl
  | cons a L ih =>
   by_cases c:(a:Int)∈r.ak
   ·simp[List.filter_cons,c] at ih ⊢;omega
   ·simp[List.filter_cons,c] at ih ⊢;omega
 have k:=key (List.range n);rw[List.length_range] at k;rw[aP];omega
def tN (g:Gr) (k:Nat):Bool:=fO (aN g k)&&(decide ((aN g k).id=(k:Int))&&decide ((aN g k).n=(g.mem.length:Int)))
theorem al6 {g:Gr} (h:¬ 1≤g.mem.length):jf g=false:=by simp only[jf,decide_eq_false h,Bool.false_and]
theorem al7 {g:Gr} (h:¬ g.mem.length≤5):jf g=false:=by simp only[jf,decide_eq_false h,Bool.false_and,Bool.and_false]
theorem al8 {g:Gr} (h:¬ g.up.length=g.mem.length):jf g=false:=by simp only[jf,decide_eq_false h,Bool.false_and,Bool.and_false]
theorem al9 {g:Gr} (h:¬ g.aG.length≤200):jf g=false:=by simp only[jf,decide_eq_false h,Bool.false_and,Bool.and_false]
theorem am0 {g:Gr} {k:Nat} (hk:k<g.mem.length) (h:tN g k=false):jf g=false:=by
 have:(List.range g.mem.length).all (fun i=>fO (aN g i)&&(decide ((aN g i).id=(i:Int))&&decide ((aN g i).n=(g.mem.length:Int))))=false:=by
  rw[List.all_eq_false];exact⟨k,List.mem_range.2 hk,by rw[show (fO (aN g k)&&(decide ((aN g k).id=(k:Int))&&decide ((aN g k).n=(g.mem.length:Int))))=tN g k from rfl,h];simp⟩
 simp only[jf,this,Bool.false_and,Bool.and_false]
theorem am1 {g:Gr} {k:Nat} (hk:k<g.aG.length) (h:qG (aU g k) (g.mem.length:Int)=false):jf g=false:=by
 have:g.aG.all (fun x=>qG x (g.mem.length:Int))=false:=by
  rw[List.all_eq_false];exact⟨aU g k,List.mem_of_getElem? (lK hk),by simp[h]⟩
 simp only[jf,this,Bool.false_and,Bool.and_false]
theorem VD {g:Gr} (h1:1≤g.mem.length) (h2:g.mem.length≤5) (h3:g.up.length=g.mem.length) (h4:g.aG.length≤200) (h5:∀ k,k<g.mem.length→tN g k=true) (h6:∀ k,k<g.aG.length→qG (aU g k) (g.mem.length:Int)=true):jf g=true:=by
 have e5:(List.range g.mem.length).all (fun i=>fO (aN g i)&&(decide ((aN g i).id=(i:Int))&&decide ((aN g i).n=(g.mem.length:Int))))=true:=by
  rw[List.all_eq_true];intro k hk;exact h5 k (List.mem_range.1 hk)
 have e6:g.aG.all (fun x=>qG x (g.mem.length:Int))=true:=by
  rw[List.all_eq_true];intro x hx;obtain⟨j,hj,rfl⟩:=List.mem_iff_getElem.1 hx;have:=h6 j hj;simpa[aU,List.getD,hj] using this
 simp only[jf,h1,h2,h3,h4,e5,e6,decide_true,Bool.true_and]
theorem Bx.g3 {w:World} {B:Nat} {T:TypeId} {x0 x1 x2:Value} (h:Bx w B T #[x0,x1,x2]):w.cell? ⟨B,0,none⟩=some x0∧w.cell? ⟨B,1,none⟩=some x1∧w.cell? ⟨B,2,none⟩=some x2 :=
 ⟨h.at 0 rfl,h.at 1 rfl,h.at 2 rfl⟩
theorem Bx.r10 {w:World} {B:Nat} {T:TypeId} {x0 x1 x2 x3 x4 x5 x6 x7 x8 x9:Value} (h:Bx w B T #[x0,x1,x2,x3,x4,x5,x6,x7,x8,x9]):(w.cell? ⟨B,0,none⟩=some x0∧w.cell? ⟨B,1,none⟩=some x1)∧(w.cell? ⟨B,2,none⟩=some x2∧w.cell? ⟨B,3,none⟩=some x3∧w.cell? ⟨B,4,none⟩=some x4∧w.cell? ⟨B,5,none⟩=some x5)∧w.cell? ⟨B,6,none⟩=some x6∧w.cell? ⟨B,7,none⟩=some x7∧w.cell? ⟨B,8,none⟩=some x8∧w.cell? ⟨B,9,none⟩=some x9 :=
 ⟨⟨h.at 0 rfl,h.at 1 rfl⟩,⟨h.at 2 rfl,h.at 3 rfl,h.at 4 rfl,h.at 5 rfl⟩,h.at 6 rfl,h.at 7 rfl,h.at 8 rfl,h.at 9 rfl⟩
theorem Tryz.infoMl:(Tryz.prog.info? 68).map (fun i=>(i.zero,i.size,i.bytes))=some (some (.agg #[.int .i64 0,.int .i64 0,.int .i64 0,.slice none 0 0,.slice none 0 0,.slice none 0 0,.bool false,.bool false,.int .i64 0,.slice none 0 0]),10,136):=by kernel_rfl
theorem jT {f:Fp} {w w':World} {b i:Nat} {v:Value} (hw:aO f w w') (hn:¬ f b) (h:w.cell? ⟨b,i,none⟩=some v):w'.cell? ⟨b,i,none⟩=some v:=(World.cell?_of_block (hw.block b (World.block_lt_of_cell? _ _ h) hn)).trans h
def xI (x:Ml) (A:Ra):Array Value:=#[.int .i64 x.fr,.int .i64 x.to,.int .i64 x.row.ver,.slice A.ta x.row.txt.length A.tc,.slice A.ga x.row.got.length A.gc,.slice A.sa x.row.ak.length A.sc,.bool x.row.wed,.bool x.row.aB,.int .i64 x.row.aC,.slice A.ma x.row.aA.length A.mc]
theorem NY {w:World} {A:Ra} {x:Ml} {f:Fp} (h:bG w (fM x.row) (fC A x.row) f):bG w (gZ x) (xI x A).toList f:=qo (qo (AZ h))
theorem Gw.Qk {w X X1:World} {B o:Nat} {g:Gr} {fp:Fp} {bb off c:Nat} {la:Option Addr} {lc:Nat} {f:Fp} (how:aI.ow X (dA 10 gZ g.aG) (.slice la g.aG.length lc) f) (hfl:∀ b,f b→b<X.heap.size)
  (hput:∀ (X1:World) (L:List Ml) (u':Value) (f':Fp),aO f X X1→aI.ow X1 (dA 10 gZ L) u' f'→(∀ b,f' b→f b∨X.heap.size≤b)→X1.cell? ⟨B,o+2,none⟩=some (.slice la g.aG.length lc)∧X1.frozen? ⟨B,o+2,none⟩=false∧Gw w (X1.setCell ⟨B,o+2,none⟩ u') B o { g with aG:=L } fp bb off c)
  (hb:Below X.heap.size X X1) {x:Ml} {Ar:Ra} {fr:Fp} (hr:bG X1 (fM x.row) (fC Ar x.row) fr) (hfr:∀ b,fr b→X.heap.size≤b) (hl:g.aG.length≤1000000) :
  ∀ Y,Same Y (X1.alloc (.cells (xI x Ar) 68))→∃ v' w4,(Builtin.append_ #[26,26] 26 #[.slice la g.aG.length lc,.slice (some ⟨X1.heap.size,0,none⟩) 1 1]).run Tryz.prog Y=.ok v' w4 ∧
   ∃ a' c',v'=.slice a' (g.aG.length+1) c'∧aO f X w4∧w4.cell? ⟨B,o+2,none⟩=some (.slice la g.aG.length lc)∧w4.frozen? ⟨B,o+2,none⟩=false∧Gw w (w4.setCell ⟨B,o+2,none⟩ (.slice a' (g.aG.length+1) c')) B o { g with aG:=g.aG++[x] } fp bb off c:=by
 intro Y hY;have jg:=(aF X1 _).trans (hY.below.mono (aF X1 _).size);have rV:=hb.trans (jg.mono hb.size);have G8:=hb.size;have sG:=NY (bM hr jg);obtain⟨a',c',w4,fp',k1,k2,k3,k4⟩:=qI (P:=Tryz.prog) kK (w:=Y) 26 26 68 _ 136 Tryz.underlying26 Tryz.infoMl rfl (by omega) (x:=x) (aI.cZ how rV) sG (fun b h1 h2=>by have:=hfl b h1;have:=hfr b h2;omega) (oO sG (wG x)) X1.heap.size 68 (by rw[hY.heap];exact heap_alloc_new X1 _) (by unfold maxLen;omega) (by omega)
 have hw:aO f X w4:=(aO.of_below (f:=f) rV).trans k3 (fun _ _ h=>h)
 obtain ⟨q1,q2,q3⟩ := hput w4 (g.aG ++ [x]) (.slice a' (g.aG.length + 1) c') fp' hw k2 (fun b hb1 => by
  rcases k4 b hb1 with k|k|k
  ·exact .inl k
  ·exact .inr (hfr b k)
  ·right
   have:=rV.size
   omega)
 exact⟨_,w4,k1,a',c',rfl,hw,q1,q2,q3⟩
def PS (B o bb i rb j:Nat) (v2 v0 vr x0 x1 x2 x3 x4 x5 x6 x7:Value) (X:World):Prop:=X.cell? ⟨B,o+2,none⟩=some v2∧X.cell? ⟨B,o,none⟩=some v0∧X.cell? ⟨bb,i,none⟩=some vr∧X.cell? ⟨rb,j,none⟩=some x0∧X.cell? ⟨rb,j+1,none⟩=some x1∧X.cell? ⟨rb,j+2,none⟩=some x2∧X.cell? ⟨rb,j+3,none⟩=some x3∧X.cell? ⟨rb,j+4,none⟩=some x4∧X.cell? ⟨rb,j+5,none⟩=some x5∧X.cell? ⟨rb,j+6,none⟩=some x6∧X.cell? ⟨rb,j+7,none⟩=some x7
theorem PS.wrt {B o bb i rb j:Nat} {v2 v0 vr x0 x1 x2 x3 x4 x5 x6 x7:Value} {X Y:World} {f:Fp} (h:PS B o bb i rb j v2 v0 vr x0 x1 x2 x3 x4 x5 x6 x7 X) (hw:aO f X Y) (h1:¬ f B) (h2:¬ f bb) (h3:¬ f rb):PS B o bb i rb j v2 v0 vr x0 x1 x2 x3 x4 x5 x6 x7 Y:=by
 obtain⟨a,b,c,d0,d1,d2,d3,d4,d5,d6,d7⟩:=h;exact⟨jT hw h1 a,jT hw h1 b,jT hw h2 c,jT hw h3 d0,jT hw h3 d1,jT hw h3 d2,jT hw h3 d3,jT hw h3 d4,jT hw h3 d5,jT hw h3 d6,jT hw h3 d7⟩
theorem PS.below {B o bb i rb j:Nat} {v2 v0 vr x0 x1 x2 x3 x4 x5 x6 x7:Value} {X Y:World} (h:PS B o bb i rb j v2 v0 vr x0 x1 x2 x3 x4 x5 x6 x7 X) (hb:Below X.heap.size X Y):PS B o bb i rb j v2 v0 vr x0 x1 x2 x3 x4 x5 x6 x7 Y:=h.wrt (f:=fun _=>False) (aO.of_below hb) id id id
theorem Hg (B o:Nat) (g:Gr) (n a b:Nat) (fp:Fp) (w:World) (h:dN w B o (dB g) fp) (ok:OkG g n) (ha:a<n) :
  Calls Tryz.prog 99 #[.pointer (some ⟨B,o,none⟩),.int .i64 (a:Int),.int .i64 (b:Int)] w fun e w'=>e=.returned (.tuple #[])∧bC w w' B o (dB (fZ g (a:Int) (b:Int))) fp:=by
 have bH:=dH;have fG:=ok.n5;have hal:a<g.mem.length:=by rw[ok.ml];exact ha
 have M:=ok.mem a ha;have har:a<(aN g a).rows.length:=by rw[M.len];exact ha
 have R:=M.ok a ha;have Bd:=ok.lX;obtain⟨bb,off,c,G0⟩:=Gw.start h (by omega)
 obtain⟨u,f,f0,hu,hfz,how,hfB,hBl,hfl,hmem,hap,hput⟩:=G0.full;have how':=how;obtain⟨la,lc,_,_,_,rfl,_⟩:=how';obtain⟨rb,ro,rc,Ak,p1,p2,p3,⟨⟨d0,d1,d2,d3⟩,d4,d5,d6,d7⟩,hrs⟩:=Z9 hmem (vS hal) har R.fit;have c0:=G0.mem;have mP:=aj G0;have wH:=aj hput;have kL:=aj how;have EO:=aj hfl;have JQ:Hid (¬ f B∧¬ f bb∧¬ f rb):=⟨hfB,(hap _ p1).1,(hap _ p2).1⟩;have JR:Hid (fZ g (a:Int) (b:Int)=if g.aG.length<200 then { g with aG:=g.aG++[⟨(a:Int),(b:Int),ah (aN g a).rows a⟩] } else g):=by rw[Hid,fZ];simp only[Int.toNat_natCast]
 have hln:=R.ln;have RX:=aj hrs;clear hput how hfl hap hmem h hrs p1 p2 hfB G0;by_cases hlt:g.aG.length<200;rotate_left
 ·have g2:¬ ((g.aG.length:Int)<200):=by omega
  have HZ:Hid (fZ g (a:Int) (b:Int)=g):=by rw[Hid,JR.out,if_neg hlt]
  clear d0 d1 d2 d3 d4 d5 d6 d7 p3;go_enter Tryz.func99,Tryz.ntmps99
  go_wp2;go_end0;exact⟨rfl,by rw[HZ.out];exact mP.out.bU⟩
 have g2:(g.aG.length:Int)<200:=by omega
 have HZ:Hid (fZ g (a:Int) (b:Int)={ g with aG:=g.aG++[⟨(a:Int),(b:Int),ah (aN g a).rows a⟩] }):=by rw[Hid,JR.out,if_pos hlt]
 have a0:(0:Int)≤(a:Int):=by omega
 have a1:(a:Int)<(g.mem.length:Int):=by omega
 have a2:(a:Int)<((aN g a).rows.length:Int):=by omega
 have hS0:PS B o bb (off+a*5+2) rb (ro+a*8) (.slice la g.aG.length lc) (.slice (some ⟨bb,off,none⟩) g.mem.length c) (.slice (some ⟨rb,ro,none⟩) (aN g a).rows.length rc) (.int .i64 (ah (aN g a).rows a).ver) (.slice Ak.ta (ah (aN g a).rows a).txt.length Ak.tc) (.slice Ak.ga (ah (aN g a).rows a).got.length Ak.gc) (.slice Ak.sa (ah (aN g a).rows a).ak.length Ak.sc) (.bool (ah (aN g a).rows a).wed) (.bool (ah (aN g a).rows a).aB) (.int .i64 (ah (aN g a).rows a).aC) (.slice Ak.ma (ah (aN g a).rows a).aA.length Ak.mc) w:=⟨hu,c0,p3,d0,d1,d2,d3,d4,d5,d6,d7⟩;have JU:=aj hS0;generalize hrr:ah (aN g a).rows a=r at *;have hbd:=(Same.drewN w 1).below;clear d0 d1 d2 d3 d4 d5 d6 d7 p3 c0 JR hrr M R;go_enter Tryz.func99,Tryz.ntmps99
 go_wp2_with fail
 clear hu;refine jE (S:=PS B o bb (off+a*5+2) rb (ro+a*8) (.slice la g.aG.length lc) (.slice (some ⟨bb,off,none⟩) g.mem.length c) (.slice (some ⟨rb,ro,none⟩) (aN g a).rows.length rc) (.int .i64 r.ver) (.slice Ak.ta r.txt.length Ak.tc) (.slice Ak.ga r.got.length Ak.gc) (.slice Ak.sa r.ak.length Ak.sc) (.bool r.wed) (.bool r.aB) (.int .i64 r.aC) (.slice Ak.ma r.aA.length Ak.mc)) 24 bH ((hS0.below hbd)) fun hHeld=>?_
 refine aS (i:=0) rfl ?_;refine aS (i:=1) rfl ?_;refine aS (i:=2) rfl ?_;refine aS (i:=3) rfl ?_;refine aY (i:=4) rfl hHeld ?_;refine aS (i:=5) rfl ?_;refine aS (i:=6) rfl ?_;refine aS (i:=7) rfl ?_;refine aS (i:=8) rfl ?_;refine aS (i:=9) rfl ?_;refine aY (i:=10) rfl hHeld ?_;refine aS (i:=11) rfl ?_;refine aS (i:=12) rfl ?_;refine aS (i:=13) rfl ?_;refine aY (i:=14) rfl hHeld ?_;refine aS (i:=15) rfl ?_;refine aS (i:=16) rfl ?_;refine aY (i:=17) rfl hHeld ?_;refine dI (i:=18) rfl fun K hK=>?_
 go_simp
 go_at_call 76
 refine (Ba Ak r _ (RX.out.below hbd) hln.1 hln.2.1 hln.2.2.1 hln.2.2.2).mono ?_;rintro e w1 ⟨Ar,rfl,fr,hr1,hr2,hr3⟩;have hb1:=hbd.trans (hr3.mono hbd.size);have hA:=Gw.Qk (x:=⟨(a:Int),(b:Int),r⟩) kL.out EO.out wH.out hb1 hr1 (fun b hb=>hr2 b hb) (by omega)
 refine hK.out _ _ (JU.out.below hb1) (fun aK=>?_)
 clear hK hHeld;have hHeld:=aK;try simp only[dw]
 unfold bV;unfold bD;unfold xI at hA;refine aS (i:=19) rfl ?_;refine dI (i:=20) rfl fun K hK=>?_
 go_simp;refine hK.out _ _ (JU.out.below (hb1.trans ((aF w1 _).mono hb1.size))) (fun aK=>?_)
 clear hK hHeld;have hHeld:=aK;try simp only[dw]
 refine dI (i:=21) rfl fun K hK=>?_
 refine gQ (by rfl) _ _ _ _ (by rfl) (.slice la g.aG.length lc) _ (by rfl) (by rfl) hA ⟨rfl,rfl,rfl,rfl⟩ ?_
 rintro v9 w4 ⟨a9,c9,rfl,hw4,q1,q2,Bf⟩;refine hK.out _ _ (JU.out.wrt hw4 JQ.out.1 JQ.out.2.1 JQ.out.2.2) (fun aK=>?_)
 clear hK hHeld;have hHeld:=aK;try simp only[dw]
 refine aS (i:=22) rfl ?_;refine aS (i:=23) rfl ?_;refine lQ rfl fun K hK=>?_
 go_simp;refine hK.out _ _ ?_;have HG9:=aj Bf;clear Bf hA hr1 hr2 hr3 q1 q2 hw4;generalize w4.setCell ⟨B,o+2,none⟩ (.slice a9 (g.aG.length+1) c9)=W9 at *;go_wp2;go_end0;exact⟨rfl,by rw[HZ.out];exact HG9.out.bU⟩
def kM (g:Gr) (a:Int) (k:Nat):Gr:=(List.range k).foldl (fun g (i:Nat)=>if (i:Int)=a then g else fZ g a (i:Int)) g
theorem uG (g:Gr) (a:Int) (k:Nat):kM g a (k+1)=if (k:Int)=a then kM g a k else fZ (kM g a k) a (k:Int):=by
 unfold kM;rw[List.range_succ,List.foldl_append]
 rfl
theorem Gg {g:Gr} {n a:Nat} (ok:OkG g n) (ha:a<n):∀ k,k≤n→OkG (kM g (a:Int) k) n
 | 0,_=>ok
 | k+1,hk=>by
  have ih:=Gg ok ha k (by omega)
  rw[uG]
  split
  ·exact ih
  ·rename_i hne
   exact (ih.push ha (by omega) (fun e=>hne (by rw[e]))).1
theorem RY (B o:Nat) (g:Gr) (n a:Nat) (fp:Fp) (w:World) (h:dN w B o (dB g) fp) (ok:OkG g n) (ha:a<n) :
  Calls Tryz.prog 78 #[.pointer (some ⟨B,o,none⟩),.int .i64 (a:Int)] w fun e w'=>e=.returned (.tuple #[])∧bC w w' B o (dB (rO g (a:Int))) fp:=by
 have fG:=ok.n5;have HZ:Hid (rO g (a:Int)=kM g (a:Int) n):=by rw[Hid,rO,kM,ok.ml]
 have H0:=aj (bC.refl h);have cO:=aj (Gg ok ha)
 have HP:Hid (∀ (k:Nat) (wr:World),k<n→bC w wr B o (dB (kM g (a:Int) k)) fp→Calls Tryz.prog 99 #[.pointer (some ⟨B,o,none⟩),.int .i64 (a:Int),.int .i64 (k:Int)] wr fun e w'=>e=.returned (.tuple #[])∧bC w w' B o (dB (fZ (kM g (a:Int) k) (a:Int) (k:Int))) fp):=fun k wr hk hb=>by
  obtain⟨dD,hp,_,hgo⟩:=hb.next;exact (Hg B o _ n a k dD wr hp (cO.out k (by omega)) ha).mono (fun e w' ⟨e1,e2⟩=>⟨e1,hgo _ _ rfl e2⟩)
 clear h;go_enter Tryz.func78,Tryz.ntmps78
 go_wp2
 go_loopw [4] (fun i wr=>∃ k:Nat,k≤n∧i=.int .i64 (k:Int)∧bC w wr B o (dB (kM g (a:Int) k)) fp) (fun i _=>n-(intOf i).toNat)
 case atStart=>exact⟨0,Nat.zero_le _,rfl,H0.out⟩
 case round =>
  obtain⟨k,hk,rfl,hb⟩:=hrel;obtain⟨dD,hp,_,_⟩:=hb.next;have okk:=cO.out k hk;obtain⟨bb,off,c,G0⟩:=Gw.start hp (by rw[okk.ml];omega)
  have c0:=G0.mem;rw[okk.ml] at c0;have HB:=aj hb;clear hb hp G0 okk;by_cases hlt:k<n
  ·have k1:(k:Int)<(n:Int):=by omega
   have RZ:=HP.out k wr hlt HB.out;by_cases hka:(k:Int)=(a:Int)
   ·have g1:((k:Int) != (a:Int))=false:=by simpa using hka
    have HN:Hid (bC w wr B o (dB (kM g (a:Int) (k+1))) fp):=by rw[Hid,uG,if_pos hka];exact HB.out
    clear hka RZ;go_wp2;go_roundw
    case rel=>exact⟨k+1,by omega,by go_num,HN.out⟩
    case measure=>simp[intOf];omega
   ·have g1:((k:Int) != (a:Int))=true:=by simpa using hka
    have HM:Hid (fZ (kM g (a:Int) k) (a:Int) (k:Int)=kM g (a:Int) (k+1)):=by rw[Hid,uG,if_neg hka]
    clear hka;go_wp2_with (go_at_call 99;refine RZ.mono ?_;rintro e w1 ⟨rfl,hb1⟩;have HB1:Hid (bC w w1 B o (dB (kM g (a:Int) (k+1))) fp):=(by rw[Hid,← HM.out];exact hb1);clear hb1)
    go_roundw
    case rel=>exact⟨k+1,by omega,by go_num,HB1.out⟩
    case measure=>simp[intOf];omega
  ·have k1:¬ ((k:Int)<(n:Int)):=by omega
   have e:k=n:=by omega
   have HF:Hid (bC w wr B o (dB (rO g (a:Int))) fp):=by rw[Hid,HZ.out,← e];exact HB.out
   clear e;go_wp2;go_end0;exact⟨rfl,HF.out⟩
theorem JV {id n:Int} (h:inB n 1 5=false∨inB id 0 (n-1)=false):iE id n=(iG,false):=by
 unfold iE;rw[if_neg];rintro⟨h1,h2⟩;rcases h with h|h
 ·rw[h] at h1;cases h1
 ·rw[h] at h2;cases h2
theorem Si {id n:Int} (h1:inB n 1 5=true) (h2:inB id 0 (n-1)=true):iE id n=(⟨id,n,List.replicate n.toNat (gB n),[],false⟩,true):=by
 unfold iE;rw[if_pos ⟨h1,h2⟩]
theorem VE (w:World) (id n:Int):MO w ((w.alloc (.cells #[.int .i64 0,.int .i64 0,.slice none 0 0,.slice none 0 0,.bool false] 47)).alloc (.cells #[.int .i64 id,.int .i64 n,.slice none 0 0,.slice none 0 0,.bool false] 47)) (w.heap.size+1) ⟨none,0,none,0⟩ ⟨id,n,[],[],false⟩ (fun _=>False):=by
 have x1:=Bx.new (w.alloc (.cells #[.int .i64 0,.int .i64 0,.slice none 0 0,.slice none 0 0,.bool false] 47)) 47 #[.int .i64 id,.int .i64 n,.slice none 0 0,.slice none 0 0,.bool false];rw[World.size_alloc] at x1;exact⟨x1,RH _,fun b h=>h.elim,by omega,(aF w _).trans ((aF _ _).mono (aF w _).size)⟩
theorem JW (id n:Int) (w:World) :
  Calls Tryz.prog 41 #[.int .i64 id,.int .i64 n] w fun e w'=>CW w w' e (iE id n).1 (iE id n).2:=by
 have bH:=dH;have hb0:=aF w (.cells #[.int .i64 0,.int .i64 0,.slice none 0 0,.slice none 0 0,.bool false] 47);have hx:=Bx.new w 47 #[.int .i64 0,.int .i64 0,.slice none 0 0,.slice none 0 0,.bool false];have T0:=VE w id n;have HR0:Hid (Bx ((w.alloc (.cells #[.int .i64 0,.int .i64 0,.slice none 0 0,.slice none 0 0,.bool false] 47)).alloc (.cells #[.int .i64 id,.int .i64 n,.slice none 0 0,.slice none 0 0,.bool false] 47)) w.heap.size 47 #[.int .i64 0,.int .i64 0,.slice none 0 0,.slice none 0 0,.bool false]):=hx.alloc _
 cases e1:inB n 1 5 with
 | false =>
  have HZ:Hid (iE id n=(iG,false)):=JV (.inl e1);generalize hW:w.alloc (.cells #[.int .i64 0,.int .i64 0,.slice none 0 0,.slice none 0 0,.bool false] 47)=W at *;have HB0:Hid (Below w.heap.size w W):=hb0;obtain⟨c0,c1,c2,c3,c4⟩:=Bx.r5 hx;obtain⟨f0,f1,f2,f3,f4⟩:=hx.f5;clear hx hb0 T0 HR0;go_enter Tryz.func41,Tryz.ntmps41
  go_wp2_with (go_at_call 40;refine (dS _ _ _ _).mono ?_;rintro e w' ⟨rfl,hw'⟩;rw[hw'];clear hw')
  refine bodyPost_ret (v:=.tuple #[eG ⟨none,0,none,0⟩ iG,.bool false]) (by simp[results,Tryz.results41,go_sem,eG,dZ,iG, *]) rfl ?_
  rw[HZ.out];exact⟨_,rfl,A8 ((kX W w.heap.size).below HB0.out HB0.out.size (fun b h=>by rw[h];exact Nat.le_refl _))⟩
 | true =>
 have fG:=dP.1 e1;have wn:wrap64 (n-1)=n-1:=by unfold wrap64;omega
 cases e2:inB id 0 (n-1) with
 | false =>
  have HZ:=aj (JV (.inr e2));generalize hW:w.alloc (.cells #[.int .i64 0,.int .i64 0,.slice none 0 0,.slice none 0 0,.bool false] 47)=W at *;have HB0:=aj hb0;obtain⟨c0,c1,c2,c3,c4⟩:=Bx.r5 hx;obtain⟨f0,f1,f2,f3,f4⟩:=hx.f5;clear hx hb0 T0 HR0;go_enter Tryz.func41,Tryz.ntmps41
  go_wp2_with (go_at_call 40;refine (dS _ _ _ _).mono ?_;rintro e w' ⟨rfl,hw'⟩;rw[hw'];clear hw')
  refine bodyPost_ret (v:=.tuple #[eG ⟨none,0,none,0⟩ iG,.bool false]) (by simp[results,Tryz.results41,go_sem,eG,dZ,iG, *]) rfl ?_
  rw[HZ.out];exact⟨_,rfl,A8 ((kX W w.heap.size).below HB0.out HB0.out.size (fun b h=>by rw[h];exact Nat.le_refl _))⟩
 | true =>
 obtain⟨N,rfl⟩:∃ N:Nat,n=(N:Int):=⟨n.toNat,by omega⟩
 have HZ:Hid (iE id (N:Int)=(⟨id,(N:Int),List.replicate N (gB (N:Int)),[],false⟩,true)):=by rw[Hid,Si e1 e2];rfl
 have HT0:=aj T0;clear hx hb0 T0;go_enter Tryz.func41,Tryz.ntmps41
 go_wp2_with (go_at_call 40;refine (dS _ _ _ _).mono ?_;rintro e w' ⟨rfl,hw'⟩;rw[hw'];clear hw')
 clear e1 e2 wn
 go_loopw [7] (fun i wr=>∃ k:Nat,k≤N∧i=.int .i64 (k:Int)∧∃ A R fp,Hid (R=List.replicate k (gB (N:Int)))∧MO w wr (w.heap.size+1) A ⟨id,(N:Int),R,[],false⟩ fp∧Bx wr w.heap.size 47 #[.int .i64 0,.int .i64 0,.slice none 0 0,.slice none 0 0,.bool false]) (fun i _=>N-(intOf i).toNat)
 case atStart=>exact⟨0,Nat.zero_le _,rfl,_,[],_,rfl,HT0.out,HR0.out⟩
 case round =>
  obtain⟨k,hk,rfl,A,R,fp,hR,M,hres⟩:=hrel;by_cases hlt:k<N
  ·have k1:(k:Int)<(N:Int):=by omega
   have hRl:R.length≤1000000:=by rw[hR.out,List.length_replicate];omega
   have Ql:=aj hres;have HM:=aj M;have c2:wr.drew.cell? ⟨w.heap.size+1,2,none⟩=some (.slice A.ra R.length A.rc):=M.own.at 2 rfl;have hbd:=(Same.drewN wr 1).below;clear M hres;go_wp2_with fail
   refine jE (S:=fun X:World=>X.cell? ⟨w.heap.size+1,2,none⟩=some (.slice A.ra R.length A.rc)) 7 bH (c2) fun hHeld=>?_
   refine aY (i:=0) rfl hHeld ?_;refine aY (i:=1) rfl hHeld ?_;refine aS (i:=2) rfl ?_;refine dI (i:=3) rfl fun K hK=>?_
   go_simp
   go_at_call 80
   refine (Jm _ _).mono ?_;rintro e w1 ⟨Ar,rfl,fr,hr1,hr2,hr3⟩;have hb1:=hbd.trans (hr3.mono hbd.size);have hA:=HM.out.push hb1 hr1 (fun b hb=>hr2 b hb) hRl
   have d2:w1.cell? ⟨w.heap.size+1,2,none⟩=some (.slice A.ra R.length A.rc):=(HM.out.own.below hb1).at 2 rfl;have d3:=((HM.out.own.below hb1).alloc (.cells (bD Ar (gB (N:Int))) 44)).at 2 rfl;refine hK.out _ _ d2 (fun aK=>?_)
   clear hK hHeld;have hHeld:=aK;try simp only[dw]
   unfold bV;unfold bD at hA d3 ⊢;refine dI (i:=4) rfl fun K hK=>?_
   go_simp;refine hK.out _ _ d3 (fun aK=>?_)
   clear hK hHeld;have hHeld:=aK;try simp only[dw]
   refine dI (i:=5) rfl fun K hK=>?_
   refine gQ (by rfl) _ _ _ _ (by rfl) (.slice A.ra R.length A.rc) _ (by rfl) (by rfl) hA ⟨rfl,rfl,rfl,rfl⟩ ?_
   rintro v9 w4 ⟨a9,c9,rfl,q1,q2,b4,b5,fp9,Bg⟩;refine hK.out _ _ q1 (fun aK=>?_)
   clear hK hHeld;have hHeld:=aK;try simp only[dw]
   refine aY (i:=6) rfl hHeld ?_;refine lQ rfl fun K hK=>?_
   go_simp;refine hK.out _ _ ?_;have gu:=aj Bg;have au7:Hid (Bx (w4.setCell ⟨w.heap.size+1,2,none⟩ (.slice a9 (R.length+1) c9)) w.heap.size 47 #[.int .i64 0,.int .i64 0,.slice none 0 0,.slice none 0 0,.bool false]):=(b5.block w.heap.size (Nat.lt_succ_self _)).trans Ql.out;have JX:Hid (R++[gB (N:Int)]=List.replicate (k+1) (gB (N:Int))):=by rw[Hid,hR.out,List.replicate_succ']
   clear Bg hA d2 d3 hr1 hr2 hr3;generalize w4.setCell ⟨w.heap.size+1,2,none⟩ (.slice a9 (R.length+1) c9)=W9 at *;go_wp2;go_roundw
   case rel=>exact⟨k+1,by omega,by go_num,_,_,_,JX,gu.out,au7.out⟩
   case measure=>simp[intOf];omega
  ·have k1:¬ ((k:Int)<(N:Int)):=by omega
   have e:k=N:=by omega
   have HRN:Hid (R=List.replicate N (gB (N:Int))):=by rw[Hid,hR.out,e]
   clear e;obtain⟨o0,o1,o2,o3,o4⟩:=Bx.r5 M.own;obtain⟨r0,r1,r2,r3,r4⟩:=Bx.r5 hres;obtain⟨f0,f1,f2,f3,f4⟩:=hres.f5;have HA:Hid (iL w (((((wr.setCell ⟨w.heap.size,0,none⟩ (.int .i64 id)).setCell ⟨w.heap.size,1,none⟩ (.int .i64 (N:Int))).setCell ⟨w.heap.size,2,none⟩ (.slice A.ra R.length A.rc)).setCell ⟨w.heap.size,3,none⟩ (.slice A.sa 0 A.sc)).setCell ⟨w.heap.size,4,none⟩ (.bool false)) (fD ⟨id,(N:Int),R,[],false⟩) (fE A ⟨id,(N:Int),R,[],false⟩)):=M.ans (Nat.le_refl _) (Nat.le_succ _);simp only[List.length_nil] at o0 o1 o2 o3 o4;clear M hres hR;go_wp2;refine bodyPost_ret (v:=.tuple #[eG A ⟨id,(N:Int),R,[],false⟩,.bool true]) (by simp[results,Tryz.results41,go_sem,eG,dZ, *]) rfl ?_
   rw[HZ.out,← HRN.out];exact⟨_,rfl,HA.out⟩
end Go.Proofs.YtafimeakbdmkjaaGreat