/-
  Texts in one.
-/
import Derived.Test.YtafimeakbdmkjaaGreatZaf
import Derived.Test.YtafimeakbdmkjaaGreatZaa
import Derived.Test.YtafimeakbdmkjaaGreatZae
import Derived.StillTail
import Derived.Deep.Quiet
import Derived.BigQuiet
namespace Go.Proofs.YtafimeakbdmkjaaGreat
set_option linter.unusedVariables false
set_option linter.unusedSimpArgs false
open Go.RowKit Go.Sort
set_option maxRecDepth 100000
set_option maxHeartbeats 12800000
theorem Tryz.infoMb:(Tryz.prog.info? 47).map (fun i=>(i.zero,i.size,i.bytes))=some (some (.agg #[.int .i64 0,.int .i64 0,.slice none 0 0,.slice none 0 0,.bool false]),5,72):=by kernel_rfl
theorem Tryz.infoBo:(Tryz.prog.info? 4).map (fun i=>(i.zero,i.size,i.bytes))=some (some (.bool false),1,1):=by kernel_rfl
def Dn (b:Bool):List aI:=[.v (.bool b)]
theorem Gh (b:Bool):(Dn b).length=1:=rfl
theorem NZ (b:Bool):∀ c∈Dn b,c.one:=by
 intro c hc;rw[List.mem_singleton.1 hc]
 rfl
theorem sV (L:List Bool):qR L=dA 1 Dn L:=by
 unfold qR dA
 congr 1
 induction L with
 | nil=>rfl
 | cons b L ih =>
  rw[List.flatMap_cons,← ih]
  rfl
structure GO (w X:World) (o:Nat) (A:Ga) (g:Gr) (fp:Fp):Prop where
 own:Bx X o 28 (jF A g)
 ls:bG X (dB g) (gq A g) fp
 iq:∀ b,fp b→w.heap.size+2≤b∧b≠o
 lo:w.heap.size≤o
 sz:w.heap.size+2≤X.heap.size
 below:Below w.heap.size w X
theorem GO.step {w X X':World} {o:Nat} {A:Ga} {g:Gr} {fp:Fp} (h:GO w X o A g fp) (hb:Below X.heap.size X X'):GO w X' o A g fp:=⟨h.own.below hb,bM h.ls hb,h.iq,h.lo,Nat.le_trans h.sz hb.size,h.below.trans (hb.mono h.below.size)⟩
theorem GO.put {w X:World} {o:Nat} {A:Ga} {g:Gr} {fp:Fp} (h:GO w X o A g fp) {j:Nat} {c:aI} (hj:(dB g)[j]?=some c):∃ u f,(gq A g)[j]?=some u∧aI.ow X c u f∧(∀ b,f b→(w.heap.size+2≤b∧b≠o)∧b<X.heap.size) ∧
  ∀ (X1:World) (c':aI) (u':Value) (f':Fp) (A':Ga) (g':Gr),aO f X X1→aI.ow X1 c' u' f'→(∀ b,f' b→f b∨X.heap.size≤b)→(dB g).set j c'=dB g'→(gq A g).set j u'=gq A' g'→(jF A g).setIfInBounds j u'=jF A' g' →
   Bx X1 o 28 (jF A g)∧((∀ b,b<w.heap.size+2→b≠o→X1.heap[b]?=X.heap[b]?)∧Below w.heap.size w X1)∧(∀ b,b<w.heap.size+2→b≠o→(X1.setCell ⟨o,j,none⟩ u').heap[b]?=X.heap[b]?)∧∃ fp',GO w (X1.setCell ⟨o,j,none⟩ u') o A' g' fp':=by
 obtain⟨u,f,hu,hc,hs,hp⟩:=vY h.ls hj;have hlt:=eX h.ls;have hol:=h.own.lt;have hsz:=h.sz;have hlo:=h.lo;have hfo:∀ b,f b→(w.heap.size+2≤b∧b≠o)∧b<X.heap.size:=fun b hb=>⟨h.iq b (hs b hb),hlt b (hs b hb)⟩
 refine⟨u,f,hu,hc,hfo,fun X1 c' u' f' A' g' hw hc' hf' e1 e2 e3=>?_⟩
 have ho1:Bx X1 o 28 (jF A g):=h.own.wrt hw (fun hb=>(hfo o hb).1.2 rfl)
 have hw2:=aO.set X1 o j u';have hws:=hw.size;have aC2:=hw2.size
 have am2:∀ b,f' b→w.heap.size+2≤b∧b≠o:=fun b hb=>by
  rcases hf' b hb with k|k
  ·exact (hfo b k).1
  ·omega
 have k1 := hp (X1.setCell ⟨o,j,none⟩ u') c' u' f' (Nat.le_trans hw.size hw2.size) (aI.lU hc' hw2 (fun b hb e => (am2 b hb).2 e)) (fun b hb hn => (hw2.block b (Nat.lt_of_lt_of_le (hlt b hb) hw.size) (h.iq b hb).2).trans (hw.block b (hlt b hb) hn)) (fun b hb hb2 => by
  rcases hf' b hb with k|k
  ·exact k
  ·have:=hlt b hb2;omega)
 rw[e1,e2] at k1;have hb1:Below w.heap.size w X1:=hw.below h.below h.below.size (fun b hb=>by have:=(hfo b hb).1.1;omega)
 refine⟨ho1,⟨fun b hb hne=>hw.block b (by omega) (fun k=>by have:=(hfo b k).1.1;omega),hb1⟩,fun b hb hne=>(hw2.block b (by omega) hne).trans (hw.block b (by omega) (fun k=>by have:=(hfo b k).1.1;omega)),_, ?_,k1,fun b hb=>?_,h.lo,by omega, ?_⟩
 ·have:=ho1.iV j u'
  rw[e3] at this;exact this
 ·rcases hb with hb|hb
  ·exact am2 b hb
  ·exact h.iq b hb.1
 ·exact hw2.below hb1 (by omega) (fun b e=>by rw[e];exact hlo)
theorem GO.au8 {w X X1:World} {o:Nat} {A:Ga} {g:Gr} {fp:Fp} (h:GO w X o A g fp) (hb:Below X.heap.size X X1) {m:Mb} {Am:Ma} {fr:Fp} (hr:bG X1 (fD m) (fE Am m) fr) (hfr:∀ b,fr b→X.heap.size≤b) (hl:g.mem.length≤1000000) :
  ∀ Y,Same Y (X1.alloc (.cells (dZ Am m) 47))→∃ v' w4,(Builtin.append_ #[24,24] 24 #[.slice A.ma g.mem.length A.mc,.slice (some ⟨X1.heap.size,0,none⟩) 1 1]).run Tryz.prog Y=.ok v' w4 ∧
   ∃ a' c',v'=.slice a' (g.mem.length+1) c'∧Bx w4 o 28 (jF A g)∧((∀ b,b<w.heap.size+2→b≠o→w4.heap[b]?=X.heap[b]?)∧Below w.heap.size w w4)∧(∀ b,b<w.heap.size+2→b≠o→(w4.setCell ⟨o,0,none⟩ (.slice a' (g.mem.length+1) c')).heap[b]?=X.heap[b]?)∧∃ fp',GO w (w4.setCell ⟨o,0,none⟩ (.slice a' (g.mem.length+1) c')) o ⟨a',c',A.ua,A.uc,A.la,A.lc⟩ { g with mem:=g.mem++[m] } fp':=by
 intro Y hY;have jg:=(aF X1 _).trans (hY.below.mono (aF X1 _).size);have rV:=hb.trans (jg.mono hb.size);have G8:=hb.size;obtain⟨u,f,hu,hc,hfo,hput⟩:=h.put (j:=0) (c:=dA 5 gW g.mem) rfl;have hu':=(Option.some.inj hu).symm;subst hu';have sG:=EK (bM hr jg);obtain⟨a',c',w4,fp',k1,k2,k3,k4⟩:=qI (P:=Tryz.prog) sU (w:=Y) 24 24 47 _ 72 Tryz.underlying24 Tryz.infoMb rfl (by omega) (x:=m) (aI.cZ hc rV) sG (fun b h1 h2=>by have:=(hfo b h1).2;have:=hfr b h2;omega) (oO sG (NV m)) X1.heap.size 47 (by rw[hY.heap];exact heap_alloc_new X1 _) (by unfold maxLen;omega) (by omega)
 have hw:aO f X w4:=(aO.of_below (f:=f) rV).trans k3 (fun _ _ h=>h)
 obtain ⟨q1,q2,q3,q4⟩ := hput w4 (dA 5 gW (g.mem ++ [m])) (.slice a' (g.mem.length + 1) c') fp' ⟨a',c',A.ua,A.uc,A.la,A.lc⟩ { g with mem := g.mem ++ [m] } hw k2 (fun b hb1 => by
  rcases k4 b hb1 with k|k|k
  ·exact .inl k
  ·exact .inr (hfr b k)
  ·right;have:=rV.size;omega) rfl (by simp[gq]) (by simp[jF])
 exact⟨_,w4,k1,a',c',rfl,q1,q2,q3,q4⟩
theorem GO.au9 {w X X1:World} {o:Nat} {A:Ga} {g:Gr} {fp:Fp} (h:GO w X o A g fp) (hb:Below X.heap.size X X1) (b:Bool) (hl:g.up.length≤1000000) :
  ∀ Y,Same Y (X1.alloc (.cells #[.bool b] 4))→∃ v' w4,(Builtin.append_ #[25,25] 25 #[.slice A.ua g.up.length A.uc,.slice (some ⟨X1.heap.size,0,none⟩) 1 1]).run Tryz.prog Y=.ok v' w4 ∧
   ∃ a' c',v'=.slice a' (g.up.length+1) c'∧Bx w4 o 28 (jF A g)∧((∀ b,b<w.heap.size+2→b≠o→w4.heap[b]?=X.heap[b]?)∧Below w.heap.size w w4)∧(∀ b,b<w.heap.size+2→b≠o→(w4.setCell ⟨o,1,none⟩ (.slice a' (g.up.length+1) c')).heap[b]?=X.heap[b]?)∧∃ fp',GO w (w4.setCell ⟨o,1,none⟩ (.slice a' (g.up.length+1) c')) o ⟨A.ma,A.mc,a',c',A.la,A.lc⟩ { g with up:=g.up++[b] } fp':=by
 intro Y hY;have jg:=(aF X1 _).trans (hY.below.mono (aF X1 _).size);have rV:=hb.trans (jg.mono hb.size);have G8:=hb.size;obtain⟨u,f,hu,hc,hfo,hput⟩:=h.put (j:=1) (c:=qR g.up) rfl;have hu':=(Option.some.inj hu).symm;subst hu';rw[sV] at hc;have sG:bG Y (Dn b) [.bool b] (fun _=>False):=qo ⟨rfl,fun _ h=>h⟩
 obtain⟨a',c',w4,fp',k1,k2,k3,k4⟩:=qI (P:=Tryz.prog) Gh (w:=Y) 25 25 4 _ 1 Tryz.underlying25 Tryz.infoBo rfl (by omega) (x:=b) (aI.cZ hc rV) sG (fun b h1 h2=>h2) (oO sG (NZ b)) X1.heap.size 4 (by rw[hY.heap];exact heap_alloc_new X1 _) (by unfold maxLen;omega) (by omega)
 have hw:aO f X w4:=(aO.of_below (f:=f) rV).trans k3 (fun _ _ h=>h)
 rw[← sV] at k2
 obtain ⟨q1,q2,q3,q4⟩ := hput w4 (qR (g.up ++ [b])) (.slice a' (g.up.length + 1) c') fp' ⟨A.ma,A.mc,a',c',A.la,A.lc⟩ { g with up := g.up ++ [b] } hw k2 (fun b hb1 => by
  rcases k4 b hb1 with k|k|k
  ·exact .inl k
  ·exact k.elim
  ·right;have:=rV.size;omega) rfl (by simp[gq]) (by simp[jF])
 exact⟨_,w4,k1,a',c',rfl,q1,q2,q3,q4⟩
def av1 (w w':World) (e:Ending) (g:Gr):Prop:=∃ A:Ga,e=.returned (iO A g)∧iL w w' (dB g) (gq A g)
def av2 (w w':World) (e:Ending) (g:Gr) (b:Bool):Prop:=∃ A:Ga,e=.returned (.tuple #[iO A g,.bool b])∧iL w w' (dB g) (gq A g)
theorem Sj (w:World):bG w (dB nK) (gq ⟨none,0,none,0,none,0⟩ nK) (fun _=>False) :=
 xq (rQ (CX w 5 gW) (rQ (by rw[show qR nK.up=dA 1 Dn [] from sV []];exact CX w 1 Dn) (rQ (CX w 10 gZ) (⟨rfl,fun _ h=>h⟩:bG w [] [] (fun _=>False)) (fun _ _ h=>h)) (fun _ h=>absurd h id)) (fun _ h=>absurd h id)) (fun b=>by simp)
theorem Sl {w w':World} (hb:Below w.heap.size w w'):iL w w' (dB nK) (gq ⟨none,0,none,0,none,0⟩ nK):=⟨_,Sj w',fun b h=>absurd h id,hb⟩
theorem qp (w:World) (g:Nat) {a b c:Value}:aO (fun x=>x=g) w (((w.setCell ⟨g,0,none⟩ a).setCell ⟨g,1,none⟩ b).setCell ⟨g,2,none⟩ c) :=
 ((aO.set w g 0 a).trans (aO.set _ g 1 b) (fun _ _ h=>h)).trans (aO.set _ g 2 c) (fun _ _ h=>h)
theorem Bx.f3 {w:World} {B:Nat} {T:TypeId} {cs:Array Value} (h:Bx w B T cs):w.frozen? ⟨B,0,none⟩=false∧w.frozen? ⟨B,1,none⟩=false∧w.frozen? ⟨B,2,none⟩=false:=⟨h.f 0,h.f 1,h.f 2⟩
theorem GO.ans {w X:World} {o r:Nat} {A:Ga} {g:Gr} {fp:Fp} (h:GO w X o A g fp) (hr:w.heap.size≤r) (hro:r<w.heap.size+2) {a b c:Value} :
  iL w (((X.setCell ⟨r,0,none⟩ a).setCell ⟨r,1,none⟩ b).setCell ⟨r,2,none⟩ c) (dB g) (gq A g) :=
 ⟨fp,bP h.ls (qp X r) (fun b hb e=>by have:=(h.iq b hb).1;omega),fun b hb=>by have:=(h.iq b hb).1;omega,(qp X r).below h.below h.below.size (fun b e=>by omega)⟩
theorem VF (w:World):GO w ((w.alloc (.cells #[.slice none 0 0,.slice none 0 0,.slice none 0 0] 28)).alloc (.cells #[.slice none 0 0,.slice none 0 0,.slice none 0 0] 28)) (w.heap.size+1) ⟨none,0,none,0,none,0⟩ nK (fun _=>False):=by
 have x1:=Bx.new (w.alloc (.cells #[.slice none 0 0,.slice none 0 0,.slice none 0 0] 28)) 28 #[.slice none 0 0,.slice none 0 0,.slice none 0 0];rw[World.size_alloc] at x1;exact⟨x1,Sj _,fun b h=>h.elim,by omega,by simp only[World.size_alloc];omega,(aF w _).trans ((aF _ _).mono (aF w _).size)⟩
def yx (n:Int) (k:Nat):Gr:=⟨(List.range k).map (fun (i:Nat)=>(iE (i:Int) n).1),List.replicate k true,[]⟩
theorem Sm (n:Int) (k:Nat):yx n (k+1)=⟨(yx n k).mem++[(iE (k:Int) n).1],(yx n k).up++[true],[]⟩:=by
 unfold yx;simp only[List.range_succ,List.map_append,List.map_cons,List.map_nil,List.replicate_succ']
theorem Ed (n:Int) (w:World) :
  Calls Tryz.prog 12 #[.int .i64 n] w fun e w'=>av2 w w' e (dV n).1 (dV n).2:=by
 have hb0:=aF w (.cells #[.slice none 0 0,.slice none 0 0,.slice none 0 0] 28);have hx:=Bx.new w 28 #[.slice none 0 0,.slice none 0 0,.slice none 0 0];have T0:=VF w
 cases e1:inB n 1 5 with
 | false =>
  have HZ:Hid (dV n=(nK,false)):=by rw[Hid,dV,e1];rfl
  generalize hW:w.alloc (.cells #[.slice none 0 0,.slice none 0 0,.slice none 0 0] 28)=W at *;have HB0:=aj hb0;obtain⟨c0,c1,c2⟩:=Bx.g3 hx;obtain⟨f0,f1,f2⟩:=hx.f3;clear hx hb0 T0;go_enter Tryz.func12,Tryz.ntmps12
  go_wp2_with (go_at_call 40;refine (dS _ _ _ _).mono ?_;rintro e w' ⟨rfl,hw'⟩;rw[hw'];clear hw')
  refine bodyPost_ret (v:=.tuple #[iO ⟨none,0,none,0,none,0⟩ nK,.bool false]) (by simp[results,Tryz.results12,go_sem,iO,jF,nK, *]) rfl ?_
  rw[HZ.out];exact⟨_,rfl,Sl ((qp W w.heap.size).below HB0.out HB0.out.size (fun b h=>by rw[h];exact Nat.le_refl _))⟩
 | true =>
 have fG:=dP.1 e1;obtain⟨N,rfl⟩:∃ N:Nat,n=(N:Int):=⟨n.toNat,by omega⟩
 have HZ:Hid (dV (N:Int)=(yx (N:Int) N,true)):=by rw[Hid,dV,e1];rfl
 have HT0:Hid (GO w ((w.alloc (.cells #[.slice none 0 0,.slice none 0 0,.slice none 0 0] 28)).alloc (.cells #[.slice none 0 0,.slice none 0 0,.slice none 0 0] 28)) (w.heap.size+1) ⟨none,0,none,0,none,0⟩ nK (fun _=>False)):=T0
 have HR0:Hid (Bx ((w.alloc (.cells #[.slice none 0 0,.slice none 0 0,.slice none 0 0] 28)).alloc (.cells #[.slice none 0 0,.slice none 0 0,.slice none 0 0] 28)) w.heap.size 28 #[.slice none 0 0,.slice none 0 0,.slice none 0 0]):=hx.alloc _;clear hx hb0 T0;go_enter Tryz.func12,Tryz.ntmps12
 go_wp2_with (go_at_call 40;refine (dS _ _ _ _).mono ?_;rintro e w' ⟨rfl,hw'⟩;rw[hw'];clear hw')
 clear e1
 go_loopw [5] (fun i wr=>∃ k:Nat,k≤N∧i=.int .i64 (k:Int)∧∃ A g fp,Hid (g=yx (N:Int) k)∧GO w wr (w.heap.size+1) A g fp∧Bx wr w.heap.size 28 #[.slice none 0 0,.slice none 0 0,.slice none 0 0]) (fun i _=>N-(intOf i).toNat)
 case atStart=>exact⟨0,Nat.zero_le _,rfl,_,nK,_,rfl,HT0.out,HR0.out⟩
 case round =>
  obtain⟨k,hk,rfl,A,g,fp,hg,M,hres⟩:=hrel;by_cases hlt:k<N
  ·have k1:(k:Int)<(N:Int):=by omega
   have hml:g.mem.length≤1000000:=by rw[hg.out,yx];simp;omega
   have zQ:g.up.length≤1000000:=by rw[hg.out,yx];simp;omega
   have Ql:=aj hres;have HM:=aj M;have xJ:Hid (yx (N:Int) (k+1)=⟨g.mem++[(iE (k:Int) (N:Int)).1],g.up++[true],g.aG⟩):=by rw[Hid,Sm,hg.out];rfl
   clear M hres hg;have hN:=JW (k:Int) (N:Int) wr;generalize (iE (k:Int) (N:Int)).1=m at *;generalize (iE (k:Int) (N:Int)).2=fl at *;unfold CW eG dZ at hN;go_upto_region 8 with (go_at_call 41;refine hN.mono ?_;rintro e w1 ⟨Am,rfl,fr,hr1,hr2,hr3⟩)
   have hbn:=aF w1 (.cells #[.int .i64 m.id,.int .i64 m.n,.slice Am.ra m.rows.length Am.rc,.slice Am.sa m.au.length Am.sc,.bool m.done] 47);have hxn:=Bx.new w1 47 #[.int .i64 m.id,.int .i64 m.n,.slice Am.ra m.rows.length Am.rc,.slice Am.sa m.au.length Am.sc,.bool m.done];generalize hWn:w1.alloc (.cells #[.int .i64 m.id,.int .i64 m.n,.slice Am.ra m.rows.length Am.rc,.slice Am.sa m.au.length Am.sc,.bool m.done] 47)=Wn at *;have hbW:=hr3.trans (hbn.mono hr3.size);have hA:=HM.out.au8 (m:=m) (Am:=Am) hbW (bM hr1 hbn) hr2 hml;unfold dZ at hA;obtain⟨y0,y1,y2,y3,y4⟩:=Bx.r5 hxn;have N7:=HM.out.step hbW;have o0:=N7.own.at 0 rfl;have HRn:=aj (Ql.out.below hbW);clear hr1 hr2 hr3 hN hbn hxn N7;go_upto_region 9 with (at_builtin;refine aZ (by rfl) _ _ _ _ (by rfl) _ _ (by rfl) (by rfl) hA ⟨rfl,rfl,rfl,rfl⟩ ?_;rintro v2 w2 ⟨a2,e2,rfl,q1,_,q3,fp2,hM2⟩;clear o0;have o0:=q1.at 0 rfl;have oz:=q1.f 0)
   have eF:=aj hM2;have HR2:Hid (Bx (w2.setCell ⟨w.heap.size+1,0,none⟩ (.slice a2 (g.mem.length+1) e2)) w.heap.size 28 #[.slice none 0 0,.slice none 0 0,.slice none 0 0]):=(q3 w.heap.size (by omega) (by omega)).trans Ql.out
   clear hM2 q1 q3 hA o0 oz y0 y1 y2 y3 y4;generalize w2.setCell ⟨w.heap.size+1,0,none⟩ (.slice a2 (g.mem.length+1) e2)=W2 at *;have hA3:=eF.out.au9 (Below.refl _ _) true zQ;have o1:=eF.out.own.at 1 rfl;simp only at hA3 o1
   go_wp2_with (at_builtin;refine aZ (by rfl) _ _ _ _ (by rfl) _ _ (by rfl) (by rfl) hA3 ⟨rfl,rfl,rfl,rfl⟩ ?_;rintro v3 w3 ⟨a3,e3,rfl,q1,_,q3,jO,uH⟩;clear o1;have o1:=q1.at 1 rfl;have oz:=q1.f 1;have iQ:Hid (GO w (w3.setCell ⟨w.heap.size+1,1,none⟩ (.slice a3 (g.up.length+1) e3)) (w.heap.size+1) ⟨a2,e2,a3,e3,A.la,A.lc⟩ ⟨g.mem++[m],g.up++[true],g.aG⟩ jO):=uH;have HR3:Hid (Bx (w3.setCell ⟨w.heap.size+1,1,none⟩ (.slice a3 (g.up.length+1) e3)) w.heap.size 28 #[.slice none 0 0,.slice none 0 0,.slice none 0 0]):=((q3 w.heap.size (by omega) (by omega)).trans HR2.out);clear uH q1 q3 hA3)
   go_roundw
   case rel=>exact⟨k+1,by omega,by go_num,_,_,_,xJ.out.symm,iQ.out,HR3.out⟩
   case measure=>simp[intOf];omega
  ·have k1:¬ ((k:Int)<(N:Int)):=by omega
   have e:k=N:=by omega
   have HGN:Hid (g=yx (N:Int) N):=by rw[Hid,hg.out,e]
   clear e hg;obtain⟨o0,o1,o2⟩:=Bx.g3 M.own;obtain⟨r0,r1,r2⟩:=Bx.g3 hres;obtain⟨f0,f1,f2⟩:=hres.f3;have HA:Hid (iL w (((wr.setCell ⟨w.heap.size,0,none⟩ (.slice A.ma g.mem.length A.mc)).setCell ⟨w.heap.size,1,none⟩ (.slice A.ua g.up.length A.uc)).setCell ⟨w.heap.size,2,none⟩ (.slice A.la g.aG.length A.lc)) (dB g) (gq A g)):=M.ans (Nat.le_refl _) (by omega)
   clear M hres;go_wp2;refine bodyPost_ret (v:=.tuple #[iO A g,.bool true]) (by simp[results,Tryz.results12,go_sem,iO,jF, *]) rfl ?_
   rw[HZ.out,← HGN.out];exact⟨_,rfl,HA.out⟩
theorem OkG.fit {g : Gr} {n : Nat} (h : OkG g n) : Bc g := ⟨fun m hm => by
  obtain⟨j,hj,rfl⟩:=List.mem_iff_getElem.1 hm;have:=(h.mem j (by rw[← h.ml];exact hj)).fit
  simpa[aN,List.getD,hj] using this,fun y hy=>by obtain⟨_,_,_,_,_,_,_,R⟩:=h.iP y hy;exact R.fit⟩
theorem aa1 (L:List Bool):L.flatMap Dn=pl (L.map Value.bool):=by
 have:=sV L;unfold qR dA at this
 injection this with _ _ h
 exact h.symm
theorem JY {w:World} {a:Option Addr} (ha:oC a) {x:Option Addr} {c:Nat} {L:List Bool} (hv:Hf w x L) (hm:L.length≤1000000) :
  ∃ a' c' w' fp',(Builtin.append_ #[25,25] 25 #[.slice a 0 0,.slice x L.length c]).run Tryz.prog w=.ok (.slice a' L.length c') w'∧aI.ow w' (qR L) (.slice a' L.length c') fp'∧aO (fun _=>False) w w'∧∀ b,fp' b→b=w.heap.size:=by
 have e0:aI.ow w (dA 1 Dn []) (.slice a 0 0) (fun _=>False):=⟨a,0,[],none,fun _=>False,rfl,dR.nil _ _ ha,⟨rfl,fun _ h=>h⟩,fun _ _ h=>h,fun b=>by simp⟩
 have hd:bG w (L.flatMap Dn) (L.map Value.bool) (fun _=>False):=by rw[aa1];exact nH.2 ⟨rfl,fun _ h=>h⟩
 obtain ⟨a',c',w',fp',k1,k2,k3,k4⟩ := F8 (P := Tryz.prog) Gh NZ (w := w) 25 25 4 _ 1 Tryz.underlying25 Tryz.infoBo rfl (by omega) (L := []) (M := L) e0 hd (fun _ h => h.elim) x c (by
  rcases hv with h|⟨b,off,rfl,hc⟩
  ·exact .inl h
  ·refine .inr ⟨_,rfl,fun j u hu=>?_⟩
   have hj:j<L.length:=by
    rcases Nat.lt_or_ge j L.length with h|h
    ·exact h
    ·rw[List.getElem?_eq_none (by simpa using h)] at hu;cases hu
   have hcj:=hc j hj;have e:(⟨b,off,none⟩:Addr).add j=⟨b,off+j,none⟩:=by by_cases hz:j=0<;>simp[Addr.add,hz]
   rw[e,hcj,← hu];simp[List.getD,hj]) (by simp only[List.length_nil];unfold maxLen;omega) (by simp only[List.length_nil];omega)
 simp only[List.length_nil,Nat.zero_add,List.nil_append] at k1 k2;rw[← sV] at k2
 exact ⟨a',c',w',fp',k1,k2,k3,fun b hb => by
  rcases k4 b hb with k|k|k
  ·exact k.elim
  ·exact k.elim
  ·exact k⟩
section
variable {P:Program} {ops:Array Oper} {md:Region.Mode} {C:World→Prop}
def EP (P:Program) (md:Region.Mode) (ops:Array Oper) (C:World→Prop) (n:Nat) (L:Array Bool→Act→Prop):Nat→Array Bool→Act→Prop
 | 0,listed,a=>L listed a
 | f+1,listed,a=>Region.ready md ops listed≠[]∧∀ i∈Region.ready md ops listed,i<n∧qOp P ops C i (EP P md ops C n L f (listed.setIfInBounds i true)) a
theorem JZ {n g:Nat} {L:Array Bool→Act→Prop} {Q:Exit→Act→World→Prop} (hL:∀ listed a w,C w→L listed a→wpAny P md ops Q g listed a w) (f:Nat) :
  ∀ (listed:Array Bool) (a:Act) (w:World),C w→EP P md ops C n L f listed a→wpAny P md ops Q (f+g) listed a w:=by
 induction f with
 | zero=>intro listed a w hw h;rw[Nat.zero_add];exact hL _ _ _ hw h
 | succ f ih =>
  intro listed a w hw h;rw[show f+1+g=(f+g)+1 by omega]
  exact⟨fun h0=>absurd h0 h.1,fun i hi=>wpOp_of_qOp hw (fun a' w' hw' h'=>ih _ a' w' hw' h') (h.2 i hi).2⟩
theorem Nk {n i:Nat} {oi:Oper} {v:Value} {L:Array Bool→Act→Prop} (hi:ops[i]?=some oi) (hsel:∀ (j:Nat) (o:Oper) cs b,ops[j]?=some o→o.op≠.select cs b)
  (hs:Region.sinkB md ops n=true) (hc:Region.chainB md ops n=true) (hn:n<ops.size) (hin:i<n) (hdone:∀ listed a,L listed a→∀ j∈Region.ready md ops listed,n≤j) (f:Nat) :
  ∀ (listed:Array Bool) (a:Act),HeadInv md ops n listed →
   (∀ j oj,ops[j]?=some oj→j≠i→listed.getD j true=false→(∀ e∈oj.after,Region.binds md e=true→e.on≠i)→oi.apart ops oj=true) →
   i∈Region.ready md ops listed→YieldsIn P ops C oi v a →
   EP P md ops C n L f (listed.setIfInBounds i true) (a.put oi.dst v)→EP P md ops C n L (f+1) listed a:=by
 induction f with
 | zero =>
  intro listed a inv _ hr hy H;have hun:=(mem_ready.1 hr).1;refine⟨fun h=>(by rw[h] at hr;cases hr),fun j hj=>?_⟩
  have hjn:j<n:=Nat.lt_of_not_le fun h=>absurd hj (tail_waits hs hc hn inv _ i rfl hin hun j h)
  refine⟨hjn, ?_⟩;by_cases hji:j=i
  ·subst hji;exact hy.qOp hi H
  ·have:=hdone _ _ H j (ready_mono hj hji)
   omega
 | succ f ih =>
  intro listed a inv hfree hr hy H;have hun:=(mem_ready.1 hr).1;refine⟨fun h=>(by rw[h] at hr;cases hr),fun j hj=>?_⟩
  have hjn:j<n:=Nat.lt_of_not_le fun h=>absurd hj (tail_waits hs hc hn inv _ i rfl hin hun j h)
  refine⟨hjn, ?_⟩;by_cases hji:j=i
  ·subst hji;exact hy.qOp hi H
  ·have h1:=(H.2 j (ready_mono hj hji)).2
   obtain⟨hjun,oj,hoj,hall⟩:=mem_ready.1 hj
   have hnot:∀ e∈oj.after,Region.binds md e=true→e.on≠i:=fun e he hb heq=>by
    have h3:=hall e he hb;rw[heq,getD_both hun] at h3
    cases h3
   have h2:=qOp_put hoj (hfree j oj hoj hji hjun hnot) (fun cs b=>hsel i oi cs b hi) (fun cs b=>hsel j oj cs b hoj) hy h1
   refine qOp_mono (fun a' h3=>ih (listed.setIfInBounds j true) a' (inv.set hj hjn) (fun k ok hk hki hu hno=>hfree k ok hk hki ?_ hno) (ready_mono hr (Ne.symm hji)) h3.1 ?_) h2
   ·by_cases hjk:j=k
    ·subst hjk;exact hjun
    ·rw[getD_set_ne true hjk] at hu;exact hu
   ·rw[Array.setIfInBounds_comm _ _ hji]
    exact h3.2
theorem Hl {n g:Nat} {Lq:Act→Prop} (hsel:Region.noSelect ops=true) (hs:Region.sinkB md ops n=true) (hc:Region.chainB md ops n=true) (hn:n<ops.size) :
  ∀ (l:List Oper) (k:Nat) (listed:Array Bool) (a:Act),(∀ j,j<l.length→l[j]?=ops[k+j]?)→k+l.length=n→HeadInv md ops n listed →
  Region.lexHead md ops g l.length k listed=true→wpQuiet P ops C Lq l a→EP P md ops C n (fun listed' a'=>Region.seqB md ops g n listed'=true∧Lq a') l.length listed a
 | [],k,listed,a,_,hk,_,hB,h=>by
  have:k=n:=by simpa using hk
  subst this;exact⟨by simpa[Region.lexHead] using hB,h⟩
 | o::l,k,listed,a,hl,hk,inv,hB,h=>by
  have h0:ops[k]?=some o:=by simpa using (hl 0 (by simp)).symm
  simp only[List.length_cons,Region.lexHead,Bool.and_eq_true] at hB;obtain⟨⟨hr,hf⟩,hB'⟩:=hB;have hkn:k<n:=by simp only[List.length_cons] at hk;omega
  have hr':k∈Region.ready md ops listed:=by simpa using hr
  have hst:qOp P ops C k (wpQuiet P ops C Lq l) a:=by unfold qOp;simp only[h0];exact h
  obtain⟨v,hy,hK⟩:=yieldsIn_of_qOp h0 hst
  exact Nk h0 (Region.noSelect_spec hsel) hs hc hn hkn (fun listed' a' hL=>seqB_ready hL.1) l.length listed a inv (Region.free_spec h0 hf) hr' hy
   (Hl hsel hs hc hn l (k+1) _ _ (fun j hj=>by have:=hl (j+1) (by simp;omega);simpa[Nat.add_assoc,Nat.add_comm 1 j] using this) (by simp only[List.length_cons] at hk;omega) (inv.set hr' hkn) hB' hK)
end
theorem bK {P : Program} {C : World → Prop} {id : Nat} {Q : Exit → Act → World → Prop} {a : Act} {w : World} {l : List Oper} (n : Nat) (hm : P.follows .mixedOrders = true) (hB : Region.lexTailB .any l.toArray n = true) (hC : C (w.drewN 1))
    (h:wpQuiet P l.toArray C (fun a'=>∀ w', C w'→wpList P l.toArray Q (l.drop n) a' w') (l.take n) a):(Code.region id l.toArray true).wp P Q a w:=by
  simp only[Region.lexTailB, Bool.and_eq_true, decide_eq_true_eq] at hB;obtain⟨⟨⟨⟨hsel, hn⟩, hs⟩, hc⟩, hlex⟩:=hB
  have htl : (l.take n).length = n := by have : n < l.length := by simpa using hn
                                         simp; omega
  have hdl:(l.drop n).length=l.toArray.size-n:=by simp
  have inv0:HeadInv .any l.toArray n (Array.replicate l.toArray.size false) :=
    ⟨by simp, fun j oj _ hl=>(by rw[getD_replicate_false] at hl; cases hl), fun t _ ht=>getD_in (by simpa using ht) (getD_replicate_false _ _)⟩
  have H := Hl (md := .any) (g := l.toArray.size - n) hsel hs hc hn (l.take n) 0 _ a (fun j hj => by
    have hj':j<n:=by rw[htl] at hj; exact hj
    simp[hj']) (by simpa using htl) inv0 (by rw[htl]; exact hlex) h
  refine wp_region_any hm ?_
  have := JZ (C := C) (Q := Q) (g := l.toArray.size - n) (fun listed a' w' hw' hL => by
    have:=wpAny_of_seq (md:=.any) (Q':=Q) (l.drop n) n listed a' w' (fun j=>by simp[List.getElem?_drop]) (by rw[hdl]; exact hL.1) (hL.2 w' hw')
    rwa [hdl] at this) _ _ _ (w.drewN 1) hC H
  rw[htl, show n+(l.toArray.size-n)=l.toArray.size by have:n<l.toArray.size:=hn; omega] at this
  exact this
section
theorem dM {R:List Rw} {i:Nat} {r:Rw} (h:i<R.length):ah (R.set i r) i=r:=by rw[bZ h,if_pos rfl]
attribute [local irreducible] sv
theorem Bh (B o:Nat) (m:Mb) (i n:Nat) (t:List UInt8) (fp:Fp) (w:World) (h:dN w B o (gW m) fp) (ok:dO m i n) (ht:t.length≤1000000000) :
  Calls Tryz.prog 98 #[.pointer (some ⟨B,o,none⟩),.string (sv t)] w fun e w'=>e=.returned (.bool (bW m t).2)∧bC w w' B o (gW (bW m t).1) fp:=by
 have bH:=dH;have hil:i<m.rows.length:=by rw[ok.len];exact ok.lt
 obtain⟨g,off,c,M0⟩:=Mw.start h (by omega)
 obtain⟨c0,c1,c4⟩:=M0.id';have c2:=M0.rws;rw[ok.hid] at c0;have i0:(0:Int)≤(i:Int):=by omega
 have i1:(i:Int)<(m.rows.length:Int):=by omega
 have p0:∀ q:Bk w,q.w.cell? ⟨B,o,none⟩=_:=fun q=>(q.h.cell (World.block_lt_of_cell? _ _ c0)).trans c0
 have p2:∀ q:Bk w,q.w.cell? ⟨B,o+2,none⟩=_:=fun q=>(q.h.cell (World.block_lt_of_cell? _ _ c2)).trans c2
 have ig:=aj M0;clear c0 c1 c4 c2 M0 h;go_enter Tryz.func98,Tryz.ntmps98
 go_wp2_with fail
 refine eU ?_;repeat (go_big_quiet_step ((first|rfl)))
 refine wpQuiet_nil (dK fun wE aJ=>?_)
 clear p0 p2;have M1:=ig.out.step aJ;have bF:=aj M1;obtain⟨c0,c1,c4⟩:=M1.id';rw[ok.hid] at c0;obtain⟨Ak,⟨⟨d0,d1,d2,d3⟩,d4,d5,d6,d7⟩,hrs⟩:=M1.row ok.fit hil;have hr:=ok.ok i ok.lt;have ak5:=vO t
 have Ee:Hid (bW m t=if (ah m.rows i).wed=true∨m.done=true∨(ah m.rows i).txt.length=12∨20<t.length∨(ah m.rows i).ver=1000000 then (m,false) else ({ m with rows:=m.rows.set i { ah m.rows i with txt:=(ah m.rows i).txt++[t],got:=(ah m.rows i).got.set i (el (ah m.rows i).got i+1),ver:=(ah m.rows i).ver+1 } },true)):=by
  have e:m.i=i:=by unfold Mb.i;rw[ok.hid];rfl
  rw[Hid,bW,Mb.put,Mb.own,e]
 have jA:Hid (((ah m.rows i).wed=true∨m.done=true∨(ah m.rows i).txt.length=12∨20<t.length∨(ah m.rows i).ver=1000000)→bW m t=(m,false)):=fun h=>by rw[Ee.out,if_pos h]
 have uU:Hid (¬ ((ah m.rows i).wed=true∨m.done=true∨(ah m.rows i).txt.length=12∨20<t.length∨(ah m.rows i).ver=1000000)→bW m t=({ m with rows:=m.rows.set i { ah m.rows i with txt:=(ah m.rows i).txt++[t],got:=(ah m.rows i).got.set i (el (ah m.rows i).got i+1),ver:=(ah m.rows i).ver+1 } },true)):=fun h=>by rw[Ee.out,if_neg h]
 have htl:=hr.tl;clear Ee hrs d2 d3 d5 d6 d7 c1 aJ ig M1
 cases hwd:(ah m.rows i).wed with
 | true =>
  have HZ:=aj (jA.out (.inl hwd));rw[hwd] at d4;go_wp2;go_ret
  exact⟨aH (by rw[HZ.out]),by rw[HZ.out];exact bF.out.bU⟩
 | false =>
 rw[hwd] at d4
 cases hdn:m.done with
 | true =>
  have HZ:=aj (jA.out (.inr (.inl hdn)));rw[hdn] at c4;go_wp2;go_ret
  exact⟨aH (by rw[HZ.out]),by rw[HZ.out];exact bF.out.bU⟩
 | false =>
 rw[hdn] at c4;by_cases h12:(ah m.rows i).txt.length=12
 ·have HZ:Hid (bW m t=(m,false)):=jA.out (.inr (.inr (.inl h12)))
  have e12:(((ah m.rows i).txt.length:Int)==12)=true:=by rw[h12];rfl
  clear h12;go_wp2;go_ret
  exact⟨aH (by rw[HZ.out]),by rw[HZ.out];exact bF.out.bU⟩
 have e12:(((ah m.rows i).txt.length:Int)==12)=false:=by simp;omega
 by_cases h20:20<t.length
 ·have HZ:Hid (bW m t=(m,false)):=jA.out (.inr (.inr (.inr (.inl h20))))
  have e20:(20:Int)<(t.length:Int):=by omega
  go_wp2;go_ret
  exact⟨aH (by rw[HZ.out]),by rw[HZ.out];exact bF.out.bU⟩
 have e20:¬ ((20:Int)<(t.length:Int)):=by omega
 by_cases gU:(ah m.rows i).ver=1000000
 ·have HZ:Hid (bW m t=(m,false)):=jA.out (.inr (.inr (.inr (.inr gU))))
  have ev:((ah m.rows i).ver==1000000)=true:=by rw[gU];rfl
  clear gU;go_wp2;go_ret
  exact⟨aH (by rw[HZ.out]),by rw[HZ.out];exact bF.out.bU⟩
 have ev:((ah m.rows i).ver==1000000)=false:=by simpa using gU
 have HZ:Hid (bW m t=_):=uU.out (by rw[hwd,hdn];simp;omega)
 obtain⟨u,f,hu,hfz,how,hlt,hset⟩:=bF.out.at hil (j:=1) rfl;obtain⟨ta,tc,rfl,hA⟩:=zy t how (by omega)
 have HS:=aj hset;clear d1 hset jA uU how hlt;go_wp2_with (at_builtin;refine aZ (by rfl) _ _ _ _ (by rfl) _ _ (by rfl) (by rfl) hA ⟨rfl,rfl,rfl,rfl⟩ ?_;rintro v1 w1 ⟨a1,e1,f1,rfl,k1,k2,k3⟩;obtain⟨q1,q2,M2,_⟩:=HS.out w1 _ _ f1 { ah m.rows i with txt:=(ah m.rows i).txt++[t] } rfl k3 k1 k2;have eF:Hid (Mw w (w1.setCell ⟨g,off+i*8+1,none⟩ (.slice a1 ((ah m.rows i).txt.length+1) e1)) B o { m with rows:=m.rows.set i { ah m.rows i with txt:=(ah m.rows i).txt++[t] } } fp g off c):=M2;clear M2 k1 k2 k3 hA HS)
 clear q1 q2 hu hfz d0 d4 c0 c4;generalize w1.setCell ⟨g,off+i*8+1,none⟩ (.slice a1 ((ah m.rows i).txt.length+1) e1)=W5 at *;generalize hr1:({ ah m.rows i with txt:=(ah m.rows i).txt++[t] }:Rw)=r1 at *
 have hgl:r1.got=(ah m.rows i).got:=by rw[← hr1]
 have hvl:r1.ver=(ah m.rows i).ver:=by rw[← hr1]
 have zA:ah (m.rows.set i r1) i=r1:=dM hil;have qJ:i<(m.rows.set i r1).length:=by rw[List.length_set];exact hil
 have hgi:i<r1.got.length:=by rw[hgl,hr.gl];exact ok.lt
 obtain⟨u,f,hu,hfz,how,hlt,hset⟩:=eF.out.at qJ (j:=2) (cl:=bQ r1.got) (by rw[zA];rfl)
 obtain⟨gb,go,gc,rfl,hfg,hge,hgz,hgs⟩:=jh how hgi;obtain⟨c0,c1,c4⟩:=eF.out.id';simp only at c0
 rw[ok.hid] at c0;have i2:(i:Int)<(r1.got.length:Int):=by omega
 have p0:∀ q:Bk W5,q.w.cell? ⟨B,o,none⟩=_:=fun q=>(q.h.cell (World.block_lt_of_cell? _ _ c0)).trans c0
 have p2:∀ q:Bk W5,q.w.cell? ⟨g,off+i*8+2,none⟩=_:=fun q=>(q.h.cell (World.block_lt_of_cell? _ _ hu)).trans hu
 have p3:∀ q:Bk W5,q.w.cell? ⟨gb,go+i,none⟩=_:=fun q=>(q.h.cell (World.block_lt_of_cell? _ _ hge)).trans hge
 have VG:-1000≤el r1.got i∧el r1.got i≤1000:=by
  have:=hr.g12 (el r1.got i) (by rw[hgl];exact iF (by rw[← hgl];exact hgi))
  have h0:=hr.fit;have hg:=(fF hr.n5 hr.gl).1 ⟨hr.got,hr.g12⟩ i ok.lt;rw[hgl];omega
 have hwx:wrap64 (el r1.got i+1)=el r1.got i+1:=by unfold wrap64;omega
 have HH:=aj how;have HEL:Hid (el r1.got i=el (ah m.rows i).got i):=by rw[Hid,hgl]
 have HGL:=aj hgl;have HVL:=aj hvl;have Sr:=aj zA;have HR1:=aj hr1;clear hu hfz hge hgz hgs how hset c0 c1 c4 VG hgl hvl zA hr1;generalize el r1.got i=x at *;refine bK (C:=fun w'=>∃ p:Bk W5,w'=p.w) 20 bH (by kernel_rfl) ⟨⟨W5.drewN 1,bg (Below.refl _ _)⟩,rfl⟩ ?_
 simp only[List.take_succ_cons,List.take_zero]
 repeat (go_big_quiet_step ((first|rfl)))
 refine wpQuiet_nil (dK fun wE aJ=>?_)
 simp only[List.drop_succ_cons,List.drop_zero]
 have hu3:=p2 ⟨wE,aJ⟩;simp only at hu3
 have M3:=eF.out.step aJ;obtain⟨u,f3,hu,hfz,how,hlt3,hset⟩:=M3.at qJ (j:=2) (cl:=bQ r1.got) (by rw[Sr.out];rfl)
 obtain rfl:=Option.some.inj (hu.symm.trans hu3);obtain⟨gb',go',gc',e4,Qm,hge,hgz,hgs⟩:=jh how hgi
 cases e4
 obtain⟨k1,k2⟩:=hgs (x+1);obtain⟨_,_,_,sH⟩:=hset _ (bQ (r1.got.set i (x+1))) _ f3 { r1 with got:=r1.got.set i (x+1) } (by rw[Sr.out];rfl) k2 k1 (fun b hb=>.inl hb)
 have iR:=aj (sH rfl);clear sH hgs k1 k2 hset M3 how hu hu3 hfz p0 p2 p3 hlt3 hlt;go_upto_region 6 with fail
 generalize wE.setCell ⟨gb,go+i,none⟩ (.int .i64 (x+1))=W7 at *;clear hge hgz;rw[List.set_set] at iR;generalize hr2:({ r1 with got:=r1.got.set i (x+1) }:Rw)=r2 at *
 have nC:i<(m.rows.set i r2).length:=by rw[List.length_set];exact hil
 have hv2:r2.ver=(ah m.rows i).ver:=by rw[← hr2];exact HVL.out
 have hs2:ah (m.rows.set i r2) i=r2:=dM hil;obtain⟨v1,v2,jY⟩:=iR.out.put nC (j:=0) (x:=.int .i64 r2.ver) (y:=.int .i64 (r2.ver+1)) (r':={ r2 with ver:=r2.ver+1 }) (by rw[hs2];rfl) (by rw[hs2];rfl)
 have hvb:=hr.ver;have hwv:wrap64 (r2.ver+1)=r2.ver+1:=by rw[hv2];unfold wrap64;omega
 simp only[Nat.add_zero] at v1 v2 jY;rw[List.set_set] at jY;have dJ:=aj jY
 have HFin:Hid (({ m with rows:=m.rows.set i { r2 with ver:=r2.ver+1 } }:Mb)=(bW m t).1∧(bW m t).2=true):=by
  rw[Hid,HZ.out];refine⟨?_,rfl⟩;rw[← hr2,← HR1.out,HEL.out]
 clear jY hr2 hs2 hv2 HZ hvb;go_wp2;go_ret
 exact⟨aH (by rw[HFin.out.2]),by rw[← HFin.out.1];exact dJ.out.bU⟩
end
theorem Ho (B o:Nat) (m:Mb) (i n:Nat) (who:Int) (fp:Fp) (w:World) (h:dN w B o (gW m) fp) (ok:dO m i n) :
  Calls Tryz.prog 100 #[.pointer (some ⟨B,o,none⟩),.int .i64 who] w fun e w'=>e=.returned (.bool (aW m who).2)∧bC w w' B o (gW (aW m who).1) fp:=by
 have bH:=dH;have hil:i<m.rows.length:=by rw[ok.len];exact ok.lt
 obtain⟨g,off,c,M0⟩:=Mw.start h (by omega)
 obtain⟨c0,c1,c4⟩:=M0.id';have c2:=M0.rws;rw[ok.hid] at c0;have i0:(0:Int)≤(i:Int):=by omega
 have i1:(i:Int)<(m.rows.length:Int):=by omega
 have p0:∀ q:Bk w,q.w.cell? ⟨B,o,none⟩=_:=fun q=>(q.h.cell (World.block_lt_of_cell? _ _ c0)).trans c0
 have p2:∀ q:Bk w,q.w.cell? ⟨B,o+2,none⟩=_:=fun q=>(q.h.cell (World.block_lt_of_cell? _ _ c2)).trans c2
 have ig:=aj M0;clear c0 c1 c4 c2 M0 h;go_enter Tryz.func100,Tryz.ntmps100
 go_wp2_with fail
 refine eU ?_;repeat (go_big_quiet_step ((first|rfl)))
 refine wpQuiet_nil (dK fun wE aJ=>?_)
 clear p0 p2;have M1:=ig.out.step aJ;have bF:=aj M1;obtain⟨c0,c1,c4⟩:=M1.id';rw[ok.hid] at c0;rw[ok.hn] at c1;obtain⟨Ak,⟨⟨d0,d1,d2,d3⟩,d4,d5,d6,d7⟩,hrs⟩:=M1.row ok.fit hil;have hr:=ok.ok i ok.lt;have hH:=oI Ak.sa (ah m.rows i).ak.length Ak.sc who (ah m.rows i).ak wE hrs.ak hrs.ms
 have HD:Hid (aW m who=if inB who 0 ((n:Int)-1)=false∨who=(i:Int)∨who∈(ah m.rows i).ak∨m.done=true∨(ah m.rows i).ver=1000000 then (m,false) else ({ m with rows:=m.rows.set i { ah m.rows i with ak:=bT (ah m.rows i).ak who,wed:=true,ver:=(ah m.rows i).ver+1 } },true)):=by
  have e:m.i=i:=by unfold Mb.i;rw[ok.hid];rfl
  rw[Hid,aW,Mb.put,Mb.own,e,ok.hid,ok.hn]
 have jA:Hid ((inB who 0 ((n:Int)-1)=false∨who=(i:Int)∨who∈(ah m.rows i).ak∨m.done=true∨(ah m.rows i).ver=1000000)→aW m who=(m,false)):=fun h=>by rw[HD.out,if_pos h]
 have uU:Hid (¬ (inB who 0 ((n:Int)-1)=false∨who=(i:Int)∨who∈(ah m.rows i).ak∨m.done=true∨(ah m.rows i).ver=1000000)→aW m who=({ m with rows:=m.rows.set i { ah m.rows i with ak:=bT (ah m.rows i).ak who,wed:=true,ver:=(ah m.rows i).ver+1 } },true)):=fun h=>by rw[HD.out,if_neg h]
 have fG:=hr.n5;have wn:wrap64 ((n:Int)-1)=(n:Int)-1:=by unfold wrap64;omega
 have hsl:=hr.sl;have hfs:=hr.fit.2.1;clear HD hrs d1 d2 d5 d6 d7 aJ ig M1
 cases e1:inB who 0 ((n:Int)-1) with
 | false =>
  have HZ:=aj (jA.out (.inl e1));go_wp2_with (first|(go_at_call 40;refine (dS _ _ _ _).mono ?_;rintro e w' ⟨rfl,hw'⟩;rw[hw'];clear hw'))
  go_ret
  exact⟨aH (by rw[HZ.out]),by rw[HZ.out];exact bF.out.bU⟩
 | true =>
 by_cases h2:who=(i:Int)
 ·have HZ:Hid (aW m who=(m,false)):=jA.out (.inr (.inl h2))
  have e2:(who==(i:Int))=true:=by rw[h2];simp
  clear h2;go_wp2_with (first|(go_at_call 40;refine (dS _ _ _ _).mono ?_;rintro e w' ⟨rfl,hw'⟩;rw[hw'];clear hw'))
  go_ret
  exact⟨aH (by rw[HZ.out]),by rw[HZ.out];exact bF.out.bU⟩
 have e2:(who==(i:Int))=false:=by simpa using h2
 by_cases h3:who∈(ah m.rows i).ak
 ·have HZ:Hid (aW m who=(m,false)):=jA.out (.inr (.inr (.inl h3)))
  rw[decide_eq_true h3] at hH;clear h3;go_wp2_with (first|(go_at_call 40;refine (dS _ _ _ _).mono ?_;rintro e w' ⟨rfl,hw'⟩;rw[hw'];clear hw')|(go_at_call 113;refine hH.mono ?_;rintro e w' ⟨rfl,hw'⟩;rw[hw'];clear hw'))
  go_ret
  exact⟨aH (by rw[HZ.out]),by rw[HZ.out];exact bF.out.bU⟩
 rw[decide_eq_false h3] at hH
 cases hdn:m.done with
 | true =>
  have HZ:=aj (jA.out (.inr (.inr (.inr (.inl hdn)))));rw[hdn] at c4;go_wp2_with (first|(go_at_call 40;refine (dS _ _ _ _).mono ?_;rintro e w' ⟨rfl,hw'⟩;rw[hw'];clear hw')|(go_at_call 113;refine hH.mono ?_;rintro e w' ⟨rfl,hw'⟩;rw[hw'];clear hw'))
  go_ret
  exact⟨aH (by rw[HZ.out]),by rw[HZ.out];exact bF.out.bU⟩
 | false =>
 rw[hdn] at c4;by_cases gU:(ah m.rows i).ver=1000000
 ·have HZ:Hid (aW m who=(m,false)):=jA.out (.inr (.inr (.inr (.inr gU))))
  have ev:((ah m.rows i).ver==1000000)=true:=by rw[gU];rfl
  clear gU;go_wp2_with (first|(go_at_call 40;refine (dS _ _ _ _).mono ?_;rintro e w' ⟨rfl,hw'⟩;rw[hw'];clear hw')|(go_at_call 113;refine hH.mono ?_;rintro e w' ⟨rfl,hw'⟩;rw[hw'];clear hw'))
  go_ret
  exact⟨aH (by rw[HZ.out]),by rw[HZ.out];exact bF.out.bU⟩
 have ev:((ah m.rows i).ver==1000000)=false:=by simpa using gU
 have HZ:Hid (aW m who=_):=uU.out (by rw[e1,hdn];simp;exact⟨h2,h3,gU⟩)
 obtain⟨u,f,hu,hfz,how,hlt,hset⟩:=bF.out.at hil (j:=3) rfl;have how':=how;obtain⟨sa,sc,G,rfl,_,_⟩:=fB.1 how';have hP:=Jr sa sc (ah m.rows i).ak who wE f how hfs (by omega)
 have HS:=aj hset;have e3:=Option.some.inj (d3.symm.trans hu);rw[e3] at d3 hH;clear e3;clear hu hset jA uU how how' hlt h2 h3 gU;go_wp2_with (first|(go_at_call 40;refine (dS _ _ _ _).mono ?_;rintro e w' ⟨rfl,hw'⟩;rw[hw'];clear hw')|(go_at_call 113;refine hH.mono ?_;rintro e w' ⟨rfl,hw'⟩;rw[hw'];clear hw'))
 refine hP.mono ?_;rintro e w1 ⟨a1,e1',f1,rfl,k1,k2,k3⟩;obtain⟨q1,q2,M2,_⟩:=HS.out w1 _ _ f1 { ah m.rows i with ak:=bT (ah m.rows i).ak who } rfl (aO.of_below k3) k1 k2
 have eF:=aj M2;clear M2 k1 k2 k3 hP HS hH d0 d3 d4 c0 c1 c4 hfz;go_upto_region 5 with fail
 generalize w1.setCell ⟨g,off+i*8+3,none⟩ (.slice a1 (bT (ah m.rows i).ak who).length e1')=W5 at *;clear q1 q2;generalize hr1:({ ah m.rows i with ak:=bT (ah m.rows i).ak who }:Rw)=r1 at *
 have hs1:ah (m.rows.set i r1) i=r1:=dM hil;have qJ:i<(m.rows.set i r1).length:=by rw[List.length_set];exact hil
 obtain⟨v1,v2,uH⟩:=eF.out.put qJ (j:=4) (x:=.bool r1.wed) (y:=.bool true) (r':={ r1 with wed:=true }) (by rw[hs1];rfl) (by rw[hs1];rfl)
 rw[List.set_set] at uH;have iQ:=aj uH;have HR1:=aj hr1;clear uH hs1 hr1;go_upto_region 6 with fail
 generalize W5.setCell ⟨g,off+i*8+4,none⟩ (.bool true)=W7 at *;clear v1 v2;generalize hr2:({ r1 with wed:=true }:Rw)=r2 at *
 have nC:i<(m.rows.set i r2).length:=by rw[List.length_set];exact hil
 have hv2:r2.ver=(ah m.rows i).ver:=by rw[← hr2,← HR1.out]
 have hs2:ah (m.rows.set i r2) i=r2:=dM hil;obtain⟨v1,v2,jY⟩:=iQ.out.put nC (j:=0) (x:=.int .i64 r2.ver) (y:=.int .i64 (r2.ver+1)) (r':={ r2 with ver:=r2.ver+1 }) (by rw[hs2];rfl) (by rw[hs2];rfl)
 have hvb:=hr.ver;have hwv:wrap64 (r2.ver+1)=r2.ver+1:=by rw[hv2];unfold wrap64;omega
 simp only[Nat.add_zero] at v1 v2 jY;rw[List.set_set] at jY;have dJ:=aj jY
 have HFin:Hid (({ m with rows:=m.rows.set i { r2 with ver:=r2.ver+1 } }:Mb)=(aW m who).1∧(aW m who).2=true):=by
  rw[Hid,HZ.out];refine⟨?_,rfl⟩;rw[← hr2,← HR1.out]
 clear jY hr2 hs2 hv2 HZ hvb;go_wp2;go_ret
 exact⟨aH (by rw[HFin.out.2]),by rw[← HFin.out.1];exact dJ.out.bU⟩
theorem aO.setCells (g:Nat):∀ (vs:List Value) (o:Nat) (w:World),aO (fun b=>b=g) w (w.setCells g o vs)
 | [],o,w=>aO.refl _ _
 | v::vs,o,w=>(aO.set w g o v).trans (aO.setCells g vs (o+1) _) (fun _ _ h=>h)
theorem kN (g:Nat):∀ (vs:List Value) (o:Nat) (w:World) (x:Addr),(w.setCells g o vs).frozen? x=w.frozen? x
 | [],o,w,x=>rfl
 | v::vs,o,w,x=>by rw[World.setCells,kN g vs (o+1),World.frozen?_setCell]
theorem dN.all {w w1:World} {B o:Nat} {cs cs':List aI} {fp f':Fp} {vs':List Value} (h:dN w B o cs fp) (hb:Below w.heap.size w w1) (h':bG w1 cs' vs' f') (hl:cs'.length=cs.length) (hf:∀ b,f' b→w.heap.size≤b):bC w (w1.setCells B o vs') B o cs' fp:=by
 obtain⟨vs,h1,h2,h3⟩:=h;have e:=hb.block B h1.lt;have hP1:=h1.of_block e hb.size;have hlen:=fJ h2;have hlen':=fJ h';have hw:=aO.setCells B vs' o w1;have hlt:=h1.lt;have yh:¬ f' B:=fun k=>by have:=hf B k;omega
 have hsome:∀ j,j<vs'.length→(w1.cell? ⟨B,o+j,none⟩).isSome=true:=fun j hj=>by
  rw[hP1.cell j (by omega),List.getElem?_eq_getElem (by omega)]
  rfl
 refine⟨⟨f',⟨vs',⟨fun j hj=>?_,fun j hj=>?_,Nat.lt_of_lt_of_le hP1.lt hw.size⟩,bP h' hw (fun b hb' e'=>yh (e' ▸ hb')),yh⟩,fun b hb'=>.inr (hf b hb')⟩,fun j hj=>?_,fun j=>?_, ?_⟩
 ·rw[World.cell?_setCells_in B vs' o w1 hsome j hj,List.getElem?_eq_getElem hj]
 ·rw[kN];exact hP1.free j (by omega)
 ·rw[World.cell?_setCells_out B vs' o w1 _ (fun _ _=>by simp only;omega)]
  exact World.cell?_of_block e
 ·rw[kN];simp only[World.frozen?,e]
 ·exact (aO.of_below (f:=fun b=>fp b∨b=B) hb).trans hw (fun b _ k=>.inr k)
theorem Mw.J3 {w X X1:World} {B o:Nat} {m:Mb} {fp:Fp} {g off c:Nat} (h:Mw w X B o m fp g off c) {k:Nat} (hk:k<m.rows.length) (hb:Below X.heap.size X X1) {r':Rw} {Ar:Ra} {fr:Fp} (hr:bG X1 (fM r') (fC Ar r') fr) (hfr:∀ b,fr b→X.heap.size≤b) :
  Mw w ((((((((X1.setCell ⟨g,off+k*8,none⟩ (.int .i64 r'.ver)).setCell ⟨g,off+k*8+1,none⟩ (.slice Ar.ta r'.txt.length Ar.tc)).setCell ⟨g,off+k*8+2,none⟩ (.slice Ar.ga r'.got.length Ar.gc)).setCell ⟨g,off+k*8+3,none⟩ (.slice Ar.sa r'.ak.length Ar.sc)).setCell ⟨g,off+k*8+4,none⟩ (.bool r'.wed)).setCell ⟨g,off+k*8+5,none⟩ (.bool r'.aB)).setCell ⟨g,off+k*8+6,none⟩ (.int .i64 r'.aC)).setCell ⟨g,off+k*8+7,none⟩ (.slice Ar.ma r'.aA.length Ar.mc)) B o { m with rows:=m.rows.set k r' } fp g off c:=by
 obtain⟨dD,hp,hf1,hgo⟩:=h.bU.next;obtain⟨g',off',c',f,h1,hgB,hfg,hfs,hpl,hput⟩:=hp.el (F:=eY) gI (by omega) (j:=2) (L:=m.rows) rfl (dW hk)
 have e:=Option.some.inj (h1.symm.trans h.rws)
 cases e
 have hA:=hpl.all hb (AZ hr) rfl hfr;have hB:=hgo _ (gW { m with rows:=m.rows.set k r' }) rfl (hput _ r' hA)
 refine⟨hB, ?_⟩;have hr1:X1.cell? ⟨B,o+2,none⟩=some (.slice (some ⟨g,off,none⟩) m.rows.length c):=(World.cell?_of_block (hb.block B hp.lt)).trans h.rws;have:=World.cell?_setCells_out g (bD Ar r').toList (off+k*8) X1 ⟨B,o+2,none⟩ (fun e _=>absurd e.symm hgB)
 have e2:=this.trans hr1;simp only[List.length_set]
 exact e2
theorem Mw.free {w X:World} {B o:Nat} {m:Mb} {fp:Fp} {g off c:Nat} (h:Mw w X B o m fp g off c) {k:Nat} (hk:k<m.rows.length):(X.frozen? ⟨g,off+k*8,none⟩=false∧X.frozen? ⟨g,off+k*8+1,none⟩=false∧X.frozen? ⟨g,off+k*8+2,none⟩=false∧X.frozen? ⟨g,off+k*8+3,none⟩=false)∧X.frozen? ⟨g,off+k*8+4,none⟩=false∧X.frozen? ⟨g,off+k*8+5,none⟩=false∧X.frozen? ⟨g,off+k*8+6,none⟩=false∧X.frozen? ⟨g,off+k*8+7,none⟩=false:=by
 obtain⟨dD,hp,hf1,hgo⟩:=h.bU.next;obtain⟨g',off',c',f,h1,hgB,hfg,hfs,⟨vs,hpc,hov,_⟩,hput⟩:=hp.el (F:=eY) gI (by omega) (j:=2) (L:=m.rows) rfl (dW hk)
 have e:=Option.some.inj (h1.symm.trans h.rws)
 cases e
 have hl:vs.length=8:=fJ hov;exact⟨⟨hpc.free 0 (by omega),hpc.free 1 (by omega),hpc.free 2 (by omega),hpc.free 3 (by omega)⟩,hpc.free 4 (by omega),hpc.free 5 (by omega),hpc.free 6 (by omega),hpc.free 7 (by omega)⟩
theorem Bj (B o:Nat) (m:Mb) (i n:Nat) (fr:Int) (Ar:Ra) (r:Rw) (fp:Fp) (w:World) (h:dN w B o (gW m) fp) (ok:dO m i n) (hrw:nJ w Ar r) (h6:eH fr) :
  Calls Tryz.prog 123 #[.pointer (some ⟨B,o,none⟩),.int .i64 fr,bV Ar r] w fun e w'=>e=.returned (.bool (aX m fr r).2)∧bC w w' B o (gW (aX m fr r).1) fp:=by
 have bH:=dH;have hil:i<m.rows.length:=by rw[ok.len];exact ok.lt
 obtain⟨g,off,c,Hq⟩:=Mw.start h (by omega)
 have hB0:=aF w (.cells (bD Ar r) 44);have hx:=Bx.new w 44 (bD Ar r);have M0:=Hq.step hB0;have wI:=hrw.below hB0;unfold bV;unfold bD at *;generalize hW:w.alloc (.cells #[.int .i64 r.ver,.slice Ar.ta r.txt.length Ar.tc,.slice Ar.ga r.got.length Ar.gc,.slice Ar.sa r.ak.length Ar.sc,.bool r.wed,.bool r.aB,.int .i64 r.aC,.slice Ar.ma r.aA.length Ar.mc] 44)=W at *;have HX:=aj hx;have ig:=aj M0;have RX:=aj wI;obtain⟨c0,c1,c4⟩:=M0.id';have c2:=M0.rws;rw[ok.hid] at c0;rw[ok.hn] at c1;obtain⟨Ak,⟨⟨d0,d1,d2,d3⟩,d4,d5,d6,d7⟩,hrs⟩:=M0.row ok.fit hil;obtain⟨⟨x0,x1,x2,x3⟩,x4,x5,x6,x7⟩:=Bx.r8 hx;have hr:=ok.ok i ok.lt;have fG:=hr.n5;have wn:wrap64 ((n:Int)-1)=(n:Int)-1:=by unfold wrap64;omega
 have i0:(0:Int)≤(i:Int):=by omega
 have i1:(i:Int)<(m.rows.length:Int):=by omega
 have HD:Hid (aX m fr r=if inB fr 0 ((n:Int)-1)=false∨fr=(i:Int)∨fr∈(ah m.rows i).ak∨m.done=true∨bI r (n:Int)=false∨r.ver≤(ah m.rows fr.toNat).ver then (m,false) else ({ m with rows:=m.rows.set fr.toNat r },true)):=by
  have e:m.i=i:=by unfold Mb.i;rw[ok.hid];rfl
  rw[Hid,aX,Mb.own,e,ok.hid,ok.hn]
 have KI:∀ (q:Bk W) (a b d:Int),Calls Tryz.prog 40 #[.int .i64 a,.int .i64 b,.int .i64 d] q.w fun e w'=>e=.returned (.bool (inB a b d))∧Below q.w.heap.size q.w w':=fun q a b d=>(dS a b d q.w).mono (fun e w' h=>⟨h.1,by rw[h.2];exact Below.refl _ _⟩)
 have C1:∀ q:Bk W,Calls Tryz.prog 40 #[.int .i64 fr,.int .i64 0,.int .i64 ((n:Int)-1)] q.w fun e w'=>e=.returned (.bool (inB fr 0 ((n:Int)-1)))∧Below q.w.heap.size q.w w':=fun q=>KI q _ _ _
 have C2:∀ q:Bk W,Calls Tryz.prog 113 #[.slice Ak.sa (ah m.rows i).ak.length Ak.sc,.int .i64 fr] q.w fun e w'=>e=.returned (.bool (decide (fr∈(ah m.rows i).ak)))∧Below q.w.heap.size q.w w':=fun q=>(oI Ak.sa (ah m.rows i).ak.length Ak.sc fr (ah m.rows i).ak q.w (hrs.ak.below q.h (Nat.le_refl _)) hrs.ms).mono (fun e w' h=>⟨h.1,by rw[h.2];exact Below.refl _ _⟩)
 have C3:∀ q:Bk W,Calls Tryz.prog 74 #[.agg #[.int .i64 r.ver,.slice Ar.ta r.txt.length Ar.tc,.slice Ar.ga r.got.length Ar.gc,.slice Ar.sa r.ak.length Ar.sc,.bool r.wed,.bool r.aB,.int .i64 r.aC,.slice Ar.ma r.aA.length Ar.mc],.int .i64 (n:Int)] q.w fun e w'=>e=.returned (.bool (bI r (n:Int)))∧Below q.w.heap.size q.w w':=fun q=>Vf Ar r (n:Int) q.w (wI.below q.h)
 have T:∀ {x v},W.cell? x=some v→∀ q:Bk W,q.w.cell? x=some v:=fun h q=>(q.h.cell (World.block_lt_of_cell? _ _ h)).trans h
 have p0:=T c0;have p1:=T c1;have p2:=T c2;have p4:=T c4;have s3:=T d3;have y0:=T x0;have y1:=T x1;have y2:=T x2;have y3:=T x3;have y4:=T x4;have y5:=T x5;have y6:=T x6;have y7:=T x7;by_cases e1:inB fr 0 ((n:Int)-1)=true;rotate_left
 ·have e1':inB fr 0 ((n:Int)-1)=false:=by simpa using e1
  have HZ:Hid (aX m fr r=(m,false)):=by rw[Hid,HD.out,if_pos (.inl e1')]
  rw[e1'] at C1;clear c0 c1 c2 c4 d0 d1 d2 d3 d4 d5 d6 d7 x0 x1 x2 x3 x4 x5 x6 x7 T KI hrs wI M0 Hq hB0 hx h hrw HD;go_enter Tryz.func123,Tryz.ntmps123
  go_wp2_with fail
  refine eU ?_;repeat (go_big_quiet_step ((first|(go_at_call 40;exact aQ _ (C1 _))|(go_at_call 113;exact aQ _ (C2 _))|(go_at_call 74;exact aQ _ (C3 _))|rfl)))
  refine wpQuiet_nil (dK fun wE aJ=>?_)
  have lD:=aj (ig.out.step aJ);clear p0 p1 p2 p4 s3 y0 y1 y2 y3 y4 y5 y6 y7 C1 C2 C3;go_wp2;go_ret
  exact⟨aH (by rw[HZ.out]),by rw[HZ.out];exact lD.out.bU⟩
 rw[e1] at C1;have hfr:=dP.1 e1;obtain⟨F,rfl⟩:∃ F:Nat,fr=(F:Int):=⟨fr.toNat,by omega⟩
 have pJ:F<m.rows.length:=by rw[ok.len];omega
 have F0:(0:Int)≤(F:Int):=by omega
 have F1:(F:Int)<(m.rows.length:Int):=by omega
 obtain⟨Af,⟨⟨f0,_,_,_⟩,_⟩,_⟩:=M0.row ok.fit pJ;have s0:=T f0;have N8:=f0;clear f0
 have HD:Hid (aX m (F:Int) r=if (F:Int)=(i:Int)∨(F:Int)∈(ah m.rows i).ak∨m.done=true∨bI r (n:Int)=false∨r.ver≤(ah m.rows F).ver then (m,false) else ({ m with rows:=m.rows.set F r },true)):=by
  rw[Hid,HD.out,e1];simp
 clear e1;by_cases h2:(F:Int)=(i:Int)
 ·have HZ:Hid (aX m (F:Int) r=(m,false)):=by rw[Hid,HD.out,if_pos (.inl h2)]
  have g2:((F:Int)==(i:Int))=true:=by rw[h2];simp
  clear h2;clear c0 c1 c2 c4 d0 d1 d2 d3 d4 d5 d6 d7 x0 x1 x2 x3 x4 x5 x6 x7 T KI hrs wI M0 Hq hB0 hx h hrw HD N8;go_enter Tryz.func123,Tryz.ntmps123
  go_wp2_with fail
  refine eU ?_;repeat (go_big_quiet_step ((first|(go_at_call 40;exact aQ _ (C1 _))|(go_at_call 113;exact aQ _ (C2 _))|(go_at_call 74;exact aQ _ (C3 _))|rfl)))
  refine wpQuiet_nil (dK fun wE aJ=>?_)
  have lD:=aj (ig.out.step aJ);clear p0 p1 p2 p4 s3 y0 y1 y2 y3 y4 y5 y6 y7 C1 C2 C3 s0;go_wp2;go_ret
  exact⟨aH (by rw[HZ.out]),by rw[HZ.out];exact lD.out.bU⟩
 have g2:((F:Int)==(i:Int))=false:=by simpa using h2
 by_cases h3:(F:Int)∈(ah m.rows i).ak
 ·have HZ:Hid (aX m (F:Int) r=(m,false)):=by rw[Hid,HD.out,if_pos (.inr (.inl h3))]
  rw[decide_eq_true h3] at C2;clear h3;clear c0 c1 c2 c4 d0 d1 d2 d3 d4 d5 d6 d7 x0 x1 x2 x3 x4 x5 x6 x7 T KI hrs wI M0 Hq hB0 hx h hrw HD N8;go_enter Tryz.func123,Tryz.ntmps123
  go_wp2_with fail
  refine eU ?_;repeat (go_big_quiet_step ((first|(go_at_call 40;exact aQ _ (C1 _))|(go_at_call 113;exact aQ _ (C2 _))|(go_at_call 74;exact aQ _ (C3 _))|rfl)))
  refine wpQuiet_nil (dK fun wE aJ=>?_)
  have lD:=aj (ig.out.step aJ);clear p0 p1 p2 p4 s3 y0 y1 y2 y3 y4 y5 y6 y7 C1 C2 C3 s0;go_wp2;go_ret
  exact⟨aH (by rw[HZ.out]),by rw[HZ.out];exact lD.out.bU⟩
 rw[decide_eq_false h3] at C2;by_cases h4:m.done=true
 ·have HZ:Hid (aX m (F:Int) r=(m,false)):=by rw[Hid,HD.out,if_pos (.inr (.inr (.inl h4)))]
  rw[h4] at p4;clear h4;clear c0 c1 c2 c4 d0 d1 d2 d3 d4 d5 d6 d7 x0 x1 x2 x3 x4 x5 x6 x7 T KI hrs wI M0 Hq hB0 hx h hrw HD N8;go_enter Tryz.func123,Tryz.ntmps123
  go_wp2_with fail
  refine eU ?_;repeat (go_big_quiet_step ((first|(go_at_call 40;exact aQ _ (C1 _))|(go_at_call 113;exact aQ _ (C2 _))|(go_at_call 74;exact aQ _ (C3 _))|rfl)))
  refine wpQuiet_nil (dK fun wE aJ=>?_)
  have lD:=aj (ig.out.step aJ);clear p0 p1 p2 p4 s3 y0 y1 y2 y3 y4 y5 y6 y7 C1 C2 C3 s0;go_wp2;go_ret
  exact⟨aH (by rw[HZ.out]),by rw[HZ.out];exact lD.out.bU⟩
 rw[show m.done=false by simpa using h4] at p4
 by_cases h5:bI r (n:Int)=false
 ·have HZ:Hid (aX m (F:Int) r=(m,false)):=by rw[Hid,HD.out,if_pos (.inr (.inr (.inr (.inl h5))))]
  rw[h5] at C3;clear h5;clear c0 c1 c2 c4 d0 d1 d2 d3 d4 d5 d6 d7 x0 x1 x2 x3 x4 x5 x6 x7 T KI hrs wI M0 Hq hB0 hx h hrw HD N8;go_enter Tryz.func123,Tryz.ntmps123
  go_wp2_with fail
  refine eU ?_;repeat (go_big_quiet_step ((first|(go_at_call 40;exact aQ _ (C1 _))|(go_at_call 113;exact aQ _ (C2 _))|(go_at_call 74;exact aQ _ (C3 _))|rfl)))
  refine wpQuiet_nil (dK fun wE aJ=>?_)
  have lD:=aj (ig.out.step aJ);clear p0 p1 p2 p4 s3 y0 y1 y2 y3 y4 y5 y6 y7 C1 C2 C3 s0;go_wp2;go_ret
  exact⟨aH (by rw[HZ.out]),by rw[HZ.out];exact lD.out.bU⟩
 have h5':bI r (n:Int)=true:=by simpa using h5
 rw[h5'] at C3;by_cases h6':r.ver≤(ah m.rows F).ver
 ·have HZ:Hid (aX m (F:Int) r=(m,false)):=by rw[Hid,HD.out,if_pos (.inr (.inr (.inr (.inr h6'))))]
  have g6:decide (r.ver≤(ah m.rows F).ver)=true:=by simpa using h6'
  clear c0 c1 c2 c4 d0 d1 d2 d3 d4 d5 d6 d7 x0 x1 x2 x3 x4 x5 x6 x7 T KI hrs wI M0 Hq hB0 hx h hrw HD N8;go_enter Tryz.func123,Tryz.ntmps123
  go_wp2_with fail
  refine eU ?_;repeat (go_big_quiet_step ((first|(go_at_call 40;exact aQ _ (C1 _))|(go_at_call 113;exact aQ _ (C2 _))|(go_at_call 74;exact aQ _ (C3 _))|rfl)))
  refine wpQuiet_nil (dK fun wE aJ=>?_)
  have lD:=aj (ig.out.step aJ);clear p0 p1 p2 p4 s3 y0 y1 y2 y3 y4 y5 y6 y7 C1 C2 C3 s0;go_wp2;go_ret
  exact⟨aH (by rw[HZ.out]),by rw[HZ.out];exact lD.out.bU⟩
 have g6:decide (r.ver≤(ah m.rows F).ver)=false:=by simpa using h6'
 have HZ:Hid (aX m (F:Int) r=({ m with rows:=m.rows.set F r },true)):=by rw[Hid,HD.out,if_neg];rintro (k|k|k|k|k)<;>contradiction
 have hln:=(kG.1 h5').ln;clear h2 h3 h4 h5;clear c0 c1 c2 c4 d0 d1 d2 d3 d4 d5 d6 d7 x0 x1 x2 x3 x4 x5 x6 x7 T KI hrs wI M0 Hq hB0 hx h hrw HD N8;go_enter Tryz.func123,Tryz.ntmps123
 go_wp2_with fail
 refine eU ?_;repeat (go_big_quiet_step ((first|(go_at_call 40;exact aQ _ (C1 _))|(go_at_call 113;exact aQ _ (C2 _))|(go_at_call 74;exact aQ _ (C3 _))|rfl)))
 refine wpQuiet_nil (dK fun wE aJ=>?_)
 have M1:=ig.out.step aJ;have lD:=aj M1;have HXe:=aj (HX.out.below aJ);have Bl:=aj (RX.out.below aJ);clear p0 p1 p2 p4 s3 y0 y1 y2 y3 y4 y5 y6 y7 C1 C2 C3 s0 M1;go_wp2_with fail
 have KS:∀ X,Below wE.heap.size wE X→(X.cell? ⟨B,o+2,none⟩=some (.slice (some ⟨g,off,none⟩) m.rows.length c)∧X.cell? ⟨w.heap.size,0,none⟩=some (.int .i64 r.ver)∧X.cell? ⟨w.heap.size,1,none⟩=some (.slice Ar.ta r.txt.length Ar.tc)∧X.cell? ⟨w.heap.size,2,none⟩=some (.slice Ar.ga r.got.length Ar.gc)∧X.cell? ⟨w.heap.size,3,none⟩=some (.slice Ar.sa r.ak.length Ar.sc)∧X.cell? ⟨w.heap.size,4,none⟩=some (.bool r.wed)∧X.cell? ⟨w.heap.size,5,none⟩=some (.bool r.aB)∧X.cell? ⟨w.heap.size,6,none⟩=some (.int .i64 r.aC)∧X.cell? ⟨w.heap.size,7,none⟩=some (.slice Ar.ma r.aA.length Ar.mc)):=fun X hX=>by
  obtain⟨⟨x0,x1,x2,x3⟩,x4,x5,x6,x7⟩:=Bx.r8 (HXe.out.below hX);exact⟨(lD.out.step hX).rws,x0,x1,x2,x3,x4,x5,x6,x7⟩
 have hbd:=(Same.drewN wE 1).below;refine jE (S:=fun X:World=>X.cell? ⟨B,o+2,none⟩=some (.slice (some ⟨g,off,none⟩) m.rows.length c)∧X.cell? ⟨w.heap.size,0,none⟩=some (.int .i64 r.ver)∧X.cell? ⟨w.heap.size,1,none⟩=some (.slice Ar.ta r.txt.length Ar.tc)∧X.cell? ⟨w.heap.size,2,none⟩=some (.slice Ar.ga r.got.length Ar.gc)∧X.cell? ⟨w.heap.size,3,none⟩=some (.slice Ar.sa r.ak.length Ar.sc)∧X.cell? ⟨w.heap.size,4,none⟩=some (.bool r.wed)∧X.cell? ⟨w.heap.size,5,none⟩=some (.bool r.aB)∧X.cell? ⟨w.heap.size,6,none⟩=some (.int .i64 r.aC)∧X.cell? ⟨w.heap.size,7,none⟩=some (.slice Ar.ma r.aA.length Ar.mc)) 8 bH ((KS _ hbd)) fun hHeld=>?_
 refine aY (i:=0) rfl hHeld ?_;refine aY (i:=1) rfl hHeld ?_;refine aY (i:=2) rfl hHeld ?_;refine aY (i:=3) rfl hHeld ?_;refine aY (i:=4) rfl hHeld ?_;refine aY (i:=5) rfl hHeld ?_;refine dI (i:=6) rfl fun K hK=>?_
 go_simp
 go_at_call 76
 refine (Ba Ar r wE.drew (Bl.out.below hbd) hln.1 hln.2.1 hln.2.2.1 hln.2.2.2).mono ?_;rintro e w1 ⟨As,rfl,fr,hr1,hr2,hr3⟩;have hb1:=hbd.trans (hr3.mono hbd.size);have M2:=lD.out.step hb1;obtain⟨Af2,⟨⟨f0,f1,f2,f3⟩,f4,f5,f6,f7⟩,_⟩:=M2.row ok.fit pJ;obtain⟨⟨z0,z1,z2,z3⟩,z4,z5,z6,z7⟩:=M2.free pJ;have iQ:=lD.out.J3 pJ hb1 hr1 (fun b hb=>hr2 b hb)
 refine hK.out _ _ (KS _ hb1) (fun aK=>?_)
 clear hK hHeld;have hHeld:=aK;try simp only[dw]
 refine aY (i:=7) rfl hHeld ?_;unfold bV bD;refine lQ rfl fun K hK=>?_
 go_simp;refine hK.out _ _ ?_;have HB3:=iQ.bU;have HB4:=aj HB3;clear iQ HB3 M2 f0 f1 f2 f3 f4 f5 f6 f7 z0 z1 z2 z3 z4 z5 z6 z7 KS hbd hr1 hr2 hr3 hb1;go_wp2;go_ret
 exact⟨aH (by rw[HZ.out]),by rw[HZ.out];exact HB4.out⟩
end Go.Proofs.YtafimeakbdmkjaaGreat