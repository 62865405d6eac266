/-
  Texts in one: Plc Rnd Rel Rlr Rzp Frm Str Rdl Lgp Wds Stx Lgm Lgs Lga Rzs Rzo Rzf Rzn Vwp Vws Vwt Rlo Rfu Rcn Rpu Rpn Cqs Dhl Vwa Iti Vwh.
-/
import Derived.Test.YtlnmdfgcpfbleaaJaa
import Derived.Deep.LoopGhost
import Derived.Laws.IdiomStrings
import Derived.Deep.RegionHeld3
import Derived.BigQuiet
import Derived.Deep.QuietTactic
namespace Go.Proofs.Ytlnmdfgcpfbleaa
set_option linter.unusedVariables false
set_option linter.unusedSimpArgs false
open Go.RowKit Go.Sort
structure Pc (w : World) (B o : Nat) (vs : List Value) : Prop where
 cell : ∀ j,j < vs.length → w.cell? ⟨B,o + j,none⟩ = vs[j]?
 free : ∀ j,j < vs.length → w.frozen? ⟨B,o + j,none⟩ = false
 lt : B < w.heap.size
def Plc (w : World) (B o : Nat) (cs : List Cel) (fp : Fp) : Prop := ∃ vs,Pc w B o vs ∧ owL w cs vs fp ∧ ¬ fp B
structure Bcm (w w' : World) (B o : Nat) (cs : List Cel) (fp : Fp) : Prop where
 plc : ∃ fp',Plc w' B o cs fp' ∧ ∀ b,fp' b → fp b ∨ w.heap.size ≤ b
 out : ∀ j,j < o ∨ o + cs.length ≤ j → w'.cell? ⟨B,j,none⟩ = w.cell? ⟨B,j,none⟩
 frz : ∀ j,w'.frozen? ⟨B,j,none⟩ = w.frozen? ⟨B,j,none⟩
 wrt : Wrt (fun b => fp b ∨ b = B) w w'
theorem Pc.of_block {w w' : World} {B o : Nat} {vs : List Value} (h : Pc w B o vs) (e : w'.heap[B]? = w.heap[B]?) (hs : w.heap.size ≤ w'.heap.size) : Pc w' B o vs :=
 ⟨fun j hj => by rw [World.cell?_of_block (w := w) e];exact h.cell j hj,fun j hj => by rw [show w'.frozen? ⟨B,o + j,none⟩ = w.frozen? ⟨B,o + j,none⟩ from by simp only [World.frozen?,e]];exact h.free j hj,Nat.lt_of_lt_of_le h.lt hs⟩
theorem Bcm.refl {w : World} {B o : Nat} {cs : List Cel} {fp : Fp} (h : Plc w B o cs fp) : Bcm w w B o cs fp := ⟨⟨fp,h,fun b hb => .inl hb⟩,fun _ _ => rfl,fun _ => rfl,Wrt.refl _ _⟩
theorem Bcm.next {w w1 : World} {B o : Nat} {cs1 : List Cel} {fp : Fp} (h : Bcm w w1 B o cs1 fp) : ∃ fp1,Plc w1 B o cs1 fp1 ∧ (∀ b,fp1 b → fp b ∨ w.heap.size ≤ b) ∧ ∀ w2 cs2,cs2.length = cs1.length → Bcm w1 w2 B o cs2 fp1 → Bcm w w2 B o cs2 fp := by
 obtain ⟨⟨fp1,h1,h2⟩,h3,h4,h5⟩ := h
 refine ⟨fp1,h1,h2,fun w2 cs2 hl k => ?_⟩
 obtain ⟨⟨fp2,k1,k2⟩,k3,k4,k5⟩ := k
 refine ⟨⟨fp2,k1,fun b hb => ?_⟩,fun j hj => (k3 j hj).trans (h3 j (by omega)),fun j => (k4 j).trans (h4 j),h5.trans k5 (fun b hb hk => ?_)⟩
 ·rcases k2 b hb with hb | hb
  ·exact h2 b hb
  ·exact .inr (Nat.le_trans h5.size hb)
 ·rcases hk with hk | hk
  ·rcases h2 b hk with hk | hk
   ·exact .inl hk
   ·omega
  ·exact .inr hk
theorem Plc.at {w : World} {B o : Nat} {cs : List Cel} {fp : Fp} (h : Plc w B o cs fp) {j : Nat} {c : Cel} (hj : cs[j]? = some c) : ∃ u f,w.cell? ⟨B,o + j,none⟩ = some u ∧ w.frozen? ⟨B,o + j,none⟩ = false ∧ Cel.ow w c u f ∧ (∀ b,f b → fp b) ∧ ¬ f B ∧
  ∀ (w1 : World) (c' : Cel) (u' : Value) (f' : Fp),Wrt f w w1 → Cel.ow w1 c' u' f' → (∀ b,f' b → f b ∨ w.heap.size ≤ b) → w1.cell? ⟨B,o + j,none⟩ = some u ∧ w1.frozen? ⟨B,o + j,none⟩ = false ∧ Bcm w (w1.setCell ⟨B,o + j,none⟩ u') B o (cs.set j c') fp ∧ (u' = u → Bcm w w1 B o (cs.set j c') fp) := by
 obtain ⟨vs,h1,h2,h3⟩ := h
 have hlen := owL_len h2
 have hjl : j < cs.length := by
  rcases Nat.lt_or_ge j cs.length with h | h
  ·exact h
  ·rw [List.getElem?_eq_none h] at hj;cases hj
 obtain ⟨u,f,hu,hc,hs,hp⟩ := owL_at h2 hj
 have hfB : ¬ f B := fun k => h3 (hs B k)
 have hB := h1.lt
 refine ⟨u,f,(h1.cell j (by omega)).trans hu,h1.free j (by omega),hc,hs,hfB,fun w1 c' u' f' hw hc' hf' => ?_⟩
 have e1 := hw.block B hB hfB
 have hP1 := h1.of_block e1 hw.size
 have hlt := owL_lt h2
 have hf'B : ¬ f' B := fun k => by rcases hf' B k with k | k;exact hfB k;omega
 have hc1 : w1.cell? ⟨B,o + j,none⟩ = some u := (hP1.cell j (by omega)).trans hu
 refine ⟨hc1,hP1.free j (by omega),⟨⟨fun b => f' b ∨ fp b ∧ ¬ f b,⟨vs.set j u',⟨fun k hk => ?_,fun k hk => ?_,by simp [World.setCell];exact hP1.lt⟩, ?_, ?_⟩, ?_⟩,fun k hk => ?_,fun k => ?_, ?_⟩,fun e => ⟨⟨fun b => f' b ∨ fp b ∧ ¬ f b,⟨vs,hP1, ?_, ?_⟩, ?_⟩,fun k hk => World.cell?_of_block e1,fun k => by simp only [World.frozen?,e1],hw.mono (fun b _ hb => .inl (hs b hb))⟩⟩
 ·by_cases ek : j = k
  ·subst ek
   rw [World.cell?_setCell_same _ _ _ hc1]
   simp at hk
   simp [hk]
  ·rw [World.cell?_setCell_other _ _ _ _ (by simp [ek]),hP1.cell k (by simpa using hk)]
   simp [ek]
 ·rw [World.frozen?_setCell];exact hP1.free k (by simpa using hk)
 ·have hw2 := Wrt.set w1 B (o + j) u'
  exact hp _ c' u' f' (Nat.le_trans hw.size hw2.size) (Cel.ow_wrt hc' hw2 (fun b hb e => hf'B (e ▸ hb))) (fun b hb hn => (hw2.block b (Nat.lt_of_lt_of_le (hlt b hb) hw.size) (fun e => h3 (e ▸ hb))).trans (hw.block b (hlt b hb) hn)) (fun b hb hb2 => by
   rcases hf' b hb with k | k
   ·exact k
   ·have := hlt b hb2;omega)
 ·rintro (k | ⟨k,_⟩)
  ·exact hf'B k
  ·exact h3 k
 ·rintro b (k | ⟨k,_⟩)
  ·exact (hf' b k).imp (hs b) id
  ·exact .inl k
 ·have hk2 := hk
  rw [List.length_set] at hk2
  rw [World.cell?_setCell_other _ _ _ _ (by simp only [ne_eq,Addr.mk.injEq,not_and];omega)]
  exact World.cell?_of_block e1
 ·rw [World.frozen?_setCell];simp only [World.frozen?,e1]
 ·exact (hw.mono (fun b _ hb => Or.inl (hs b hb))).trans (Wrt.set w1 B (o + j) u') (fun b _ hb => .inr hb)
 ·subst e
  have := hp w1 c' u' f' hw.size hc' (fun b hb hn => hw.block b (hlt b hb) hn) (fun b hb hb2 => by
   rcases hf' b hb with k | k
   ·exact k
   ·have := hlt b hb2;omega)
  have e2 : vs.set j u' = vs := by
   apply List.ext_getElem? ;intro i
   by_cases ei : j = i
   ·subst ei;rw [hu,List.getElem?_set_self (by omega)]
   ·simp [ei]
  rwa [e2] at this
 ·rintro (k | ⟨k,_⟩)
  ·exact hf'B k
  ·exact h3 k
 ·rintro b (k | ⟨k,_⟩)
  ·exact (hf' b k).imp (hs b) id
  ·exact .inl k
theorem ow_el {w : World} {s n c : Nat} {a : Option Addr} {ds : List Cel} {fp : Fp} (h : Cel.ow w (.sl s n ds) (.slice a n c) fp) {k : Nat} (hk : k < n) (hs : 0 < s) : ∃ g off f,a = some ⟨g,off,none⟩ ∧ fp g ∧ (∀ b,f b → fp b) ∧ Plc w g (off + k * s) ((ds.drop (k * s)).take s) f ∧ g < w.heap.size ∧
  ∀ (w1 : World) (es : List Cel),es.length = s → Bcm w w1 g (off + k * s) es f → ∃ fp',Cel.ow w1 (.sl s n (ds.take (k * s) ++ es ++ ds.drop (k * s + s))) (.slice a n c) fp' ∧ (∀ b,fp' b → fp b ∨ w.heap.size ≤ b) ∧ Wrt fp w w1 := by
 obtain ⟨a0,c0,us,G,f0,e0,ho,hl,hG,hf⟩ := h
 cases e0
 rcases ho with ⟨h0,_⟩ | ⟨g,off,rfl,ho,rfl⟩
 ·omega
 have hul := ho.len
 have hdl := owL_len hl
 have hks : k * s + s ≤ n * s := by
  have : (k + 1) * s ≤ n * s := Nat.mul_le_mul_right s hk
  rw [Nat.add_mul,Nat.one_mul] at this
  exact this
 have e1 : ds = ds.take (k * s) ++ ((ds.drop (k * s)).take s ++ ds.drop (k * s + s)) := by
  rw [← List.drop_drop,List.take_append_drop,List.take_append_drop]
 rw [e1] at hl
 obtain ⟨u1,u23,f1,f23,rfl,hl1,hl23,hd1,hf1⟩ := owL_split hl
 obtain ⟨u2,u3,f2,f3,rfl,hl2,hl3,hd2,hf2⟩ := owL_split hl23
 have n1 : u1.length = k * s := by rw [owL_len hl1,List.length_take];omega
 have n2 : u2.length = s := by rw [owL_len hl2,List.length_take,List.length_drop];omega
 have hfg : ∀ b,f2 b → f0 b := fun b hb => (hf1 b).2 (.inr ((hf2 b).2 (.inl hb)))
 have hgn : ¬ f0 g := fun hb => hG g rfl hb
 have hblk := ho.blk
 have hle := ho.le
 have hcs : n * s ≤ c * s := Nat.mul_le_mul_right s hle
 refine ⟨g,off,f2,rfl,(hf g).2 (.inl rfl),fun b hb => (hf b).2 (.inr (hfg b hb)),⟨u2,⟨fun j hj => ?_,fun j hj => ?_,hblk⟩,hl2,fun hb => hgn (hfg g hb)⟩,hblk,fun w1 es hes hb => ?_⟩
 ·have := ho.cell (k * s + j) (by omega)
  rw [Nat.add_assoc,this,List.getElem?_append_right (by omega),List.getElem?_append_left (by omega),n1]
  congr 1
  omega
 ·have := ho.free (k * s + j) (by omega)
  rw [Nat.add_assoc]
  exact this
 ·obtain ⟨⟨fp1,⟨vs,hv1,hv2,hv3⟩,hx⟩,hout,hfr,hw⟩ := hb
  have nv : vs.length = s := by rw [owL_len hv2,hes]
  have hlt1 := owL_lt hl1
  have hlt3 := owL_lt hl3
  have k1 : owL w1 (ds.take (k * s)) u1 f1 := owL_wrt hl1 hw (fun b hb hk => by
   rcases hk with hk | hk
   ·exact hd1 b hb ((hf2 b).2 (.inl hk))
   ·exact hgn (hk ▸ (hf1 b).2 (.inl hb)))
  have k3 : owL w1 (ds.drop (k * s + s)) u3 f3 := owL_wrt hl3 hw (fun b hb hk => by
   rcases hk with hk | hk
   ·exact hd2 b hk hb
   ·exact hgn (hk ▸ (hf1 b).2 (.inr ((hf2 b).2 (.inr hb)))))
  have k12 := owL_append k1 hv2 (fun b hb hb2 => by
   rcases hx b hb2 with hk | hk
   ·exact hd1 b hb ((hf2 b).2 (.inl hk))
   ·have := hlt1 b hb;omega)
  have k123 := owL_append k12 k3 (fun b hb hb2 => by
   rcases hb with hb | hb
   ·exact hd1 b hb ((hf2 b).2 (.inr hb2))
   ·rcases hx b hb with hk | hk
    ·exact hd2 b hk hb2
    ·have := hlt3 b hb2;omega)
  have hin : ∀ b,((f1 b ∨ fp1 b) ∨ f3 b) → f0 b ∨ w.heap.size ≤ b := by
   rintro b ((hb | hb) | hb)
   ·exact .inl ((hf1 b).2 (.inl hb))
   ·exact (hx b hb).imp (hfg b) id
   ·exact .inl ((hf1 b).2 (.inr ((hf2 b).2 (.inr hb))))
  refine ⟨fun b => some g = some b ∨ ((f1 b ∨ fp1 b) ∨ f3 b),⟨some ⟨g,off,none⟩,c,u1 ++ vs ++ u3,some g,_,rfl,.inr ⟨g,off,rfl,⟨?_,hle,ho.max,Nat.lt_of_lt_of_le hblk hw.size,fun i hi => ?_,fun i hi => ?_,fun i hi => by rw [hfr];exact ho.free i hi⟩,rfl⟩,k123,fun b hb hk => ?_,fun b => Iff.rfl⟩,fun b hb => ?_,hw.mono (fun b _ hb => ?_)⟩
  ·simp only [List.length_append] at hul ⊢;omega
  ·by_cases i1 : i < k * s
   ·rw [hout (off + i) (by omega),ho.cell i hi,List.getElem?_append_left (by omega),List.append_assoc,List.getElem?_append_left (by omega)]
   ·by_cases i2 : i < k * s + s
    ·have := hv1.cell (i - k * s) (by omega)
     rw [show off + i = off + k * s + (i - k * s) by omega,this,List.append_assoc,List.getElem?_append_right (by omega),List.getElem?_append_left (by omega),n1]
    ·rw [hout (off + i) (by omega),ho.cell i hi,List.getElem?_append_right (by omega),List.getElem?_append_right (by omega),List.append_assoc,List.getElem?_append_right (by omega),List.getElem?_append_right (by omega),n1,n2,nv]
  ·by_cases i1 : i < k * s ∨ k * s + s ≤ i
   ·rw [hout (off + i) (by omega)];exact ho.some i hi
   ·have := hv1.cell (i - k * s) (by omega)
    rw [show off + i = off + k * s + (i - k * s) by omega,this,List.getElem?_eq_getElem (by omega)]
    rfl
  ·cases hb
   rcases hin _ hk with hk | hk
   ·exact hgn hk
   ·omega
  ·rcases hb with hb | hb
   ·cases hb;exact .inl ((hf g).2 (.inl rfl))
   ·exact (hin b hb).imp (fun h => (hf b).2 (.inr h)) id
  ·rcases hb with hb | hb
   ·exact (hf b).2 (.inr (hfg b hb))
   ·exact (hf b).2 (.inl (by rw [hb]))
theorem flat_take {α : Type} {F : α → List Cel} {s : Nat} (hs : ∀ x,(F x).length = s) : ∀ {L : List α} {k : Nat} {x : α},L[k]? = some x → ((L.flatMap F).drop (k * s)).take s = F x
 | [],k,x,h => by simp at h
 | y :: L,0,x,h => by
  simp at h
  subst h
  rw [Nat.zero_mul,List.drop_zero,List.flatMap_cons,List.take_append_of_le_length (by rw [hs];exact Nat.le_refl _),List.take_of_length_le (by rw [hs];exact Nat.le_refl _)]
 | y :: L,k + 1,x,h => by
  rw [List.flatMap_cons,show (k + 1) * s = (F y).length + k * s by rw [hs,Nat.add_mul];omega,List.drop_append]
  simp only [List.getElem?_cons_succ] at h
  have := flat_take hs h
  rw [Nat.add_sub_cancel_left,List.drop_eq_nil_of_le (by omega),List.nil_append]
  exact this
theorem flat_set {α : Type} {F : α → List Cel} {s : Nat} (hs : ∀ x,(F x).length = s) : ∀ {L : List α} {k : Nat} (y : α),k < L.length → (L.flatMap F).take (k * s) ++ F y ++ (L.flatMap F).drop (k * s + s) = (L.set k y).flatMap F
 | [],k,y,h => by simp at h
 | x :: L,0,y,h => by
  rw [Nat.zero_mul,List.take_zero,List.nil_append,Nat.zero_add,List.set_cons_zero,List.flatMap_cons,List.flatMap_cons,List.drop_append,List.drop_eq_nil_of_le (by rw [hs];exact Nat.le_refl _),hs,Nat.sub_self,List.drop_zero,List.nil_append]
 | x :: L,k + 1,y,h => by
  have ih := flat_set hs (L := L) (k := k) y (by simpa using h)
  have e : (k + 1) * s = (F x).length + k * s := by rw [hs,Nat.add_mul];omega
  rw [List.set_cons_succ,List.flatMap_cons,List.flatMap_cons,← ih,e,List.take_length_add_append,show (F x).length + k * s + s = (F x).length + (k * s + s) by omega,List.drop_length_add_append]
  simp only [List.append_assoc]
def lcl {α : Type} (s : Nat) (F : α → List Cel) (L : List α) : Cel := .sl s L.length (L.flatMap F)
theorem ow_elF {α : Type} {F : α → List Cel} {s : Nat} (hF : ∀ x,(F x).length = s) (hs : 0 < s) {w : World} {a : Option Addr} {c : Nat} {L : List α} {fp : Fp} (h : Cel.ow w (lcl s F L) (.slice a L.length c) fp) {k : Nat} {x : α} (hk : L[k]? = some x) : ∃ g off f,a = some ⟨g,off,none⟩ ∧ fp g ∧ (∀ b,f b → fp b) ∧ Plc w g (off + k * s) (F x) f ∧ g < w.heap.size ∧
  ∀ (w1 : World) (y : α),Bcm w w1 g (off + k * s) (F y) f → ∃ fp',Cel.ow w1 (lcl s F (L.set k y)) (.slice a L.length c) fp' ∧ (∀ b,fp' b → fp b ∨ w.heap.size ≤ b) ∧ Wrt fp w w1 := by
 have hkl : k < L.length := by
  rcases Nat.lt_or_ge k L.length with h | h
  ·exact h
  ·rw [List.getElem?_eq_none h] at hk;cases hk
 obtain ⟨g,off,f,h1,h2,h3,h4,h5,h6⟩ := ow_el h hkl hs
 rw [flat_take hF hk] at h4
 refine ⟨g,off,f,h1,h2,h3,h4,h5,fun w1 y hb => ?_⟩
 have := h6 w1 (F y) (hF y) hb
 rw [flat_set hF y hkl] at this
 unfold lcl
 rw [List.length_set]
 exact this
end Go.Proofs.Ytlnmdfgcpfbleaa
namespace Go.Proofs.Ytlnmdfgcpfbleaa
set_option linter.unusedVariables false
set_option linter.unusedSimpArgs false
theorem inB7 {x lo hi : Int} : inB x lo hi = true ↔ lo ≤ x ∧ x ≤ hi := by simp [inB]
def bel (cs : List Int) (q : Nat) : Prop := ((q / cs.length : Nat) : Int) < el cs (q % cs.length)
def rdy (cs : List Int) (k : Nat) (b : Int) : Int := (List.range k).foldl (fun b i => min b ((cs.length : Int) * el cs i + (i : Int))) b
set_option linter.unusedVariables false
set_option linter.unusedSimpArgs false
def row (H : List (List Int)) (i : Nat) : List Int := H.getD i []
def okRow (B : Int) (h : List Int) : Prop := (∀ i,i < h.length → 0 ≤ el h i ∧ el h i ≤ B - 1) ∧ ∀ i,i < h.length - 1 → el h i < el h (i + 1)
instance (B : Int) (h : List Int) : Decidable (okRow B h) := by unfold okRow;infer_instance
def okRel (N B : Int) (H : List (List Int)) : Prop := (1 ≤ N ∧ N ≤ 12) ∧ (1 ≤ B ∧ B ≤ 12) ∧ (H.length : Int) = N ∧ ((row H 0).length : Int) = B ∧ ∀ i,i < H.length → okRow B (row H i)
instance (N B : Int) (H : List (List Int)) : Decidable (okRel N B H) := by unfold okRel;infer_instance
def putL : List Int → Int → List Int
 | [],n => [n]
 | x :: l,n => if x < n then x :: putL l n else if x = n then x :: l else n :: x :: l
theorem rises_pairwise {h : List Int} : (∀ i,i < h.length - 1 → el h i < el h (i + 1)) ↔ h.Pairwise (· < ·) := by
 rw [List.pairwise_iff_getElem]
 constructor
 ·intro hr i j hi hj hij
  have : ∀ d,∀ (hd : i + d + 1 < h.length),el h i < el h (i + d + 1) := by
   intro d
   induction d with
   | zero => intro hd;exact hr i (by omega)
   | succ d ih => intro hd;exact Int.lt_trans (ih (by omega)) (hr (i + d + 1) (by omega))
  have h2 := this (j - i - 1) (by omega)
  rw [show i + (j - i - 1) + 1 = j by omega] at h2
  simpa [el,hi,hj] using h2
 ·intro hr i hi
  have := hr i (i + 1) (by omega) (by omega) (by omega)
  simpa [el,show i < h.length by omega,show i + 1 < h.length by omega] using this
abbrev Ps := Int × Int × Int
def pat (cs : List Ps) (i : Nat) : Ps := cs.getD i (0,0,0)
def psOk (N : Int) (H : List (List Int)) (cs : List Ps) (i : Nat) : Prop :=
 (0 ≤ (pat cs i).1 ∧ (pat cs i).1 ≤ N - 1) ∧ (0 ≤ (pat cs i).2.1 ∧ (pat cs i).2.1 ≤ N - 1) ∧ (pat cs i).2.2 ∈ row H (pat cs i).1.toNat ∧ ∀ k,k < i → (pat cs k).1 ≠ (pat cs i).1 ∧ (pat cs k).2.1 ≠ (pat cs i).2.1
instance (N : Int) (H : List (List Int)) (cs : List Ps) (i : Nat) : Decidable (psOk N H cs i) := by unfold psOk;infer_instance
def turnOk (N : Int) (H : List (List Int)) (cs : List Ps) : Prop := ∀ i,i < cs.length → psOk N H cs i
instance (N : Int) (H : List (List Int)) (cs : List Ps) : Decidable (turnOk N H cs) := by unfold turnOk;infer_instance
def fullH (B : Int) (H : List (List Int)) : Prop := ∀ i,i < H.length → ((row H i).length : Int) = B
instance (B : Int) (H : List (List Int)) : Decidable (fullH B H) := by unfold fullH;infer_instance
set_option linter.unusedVariables false
set_option linter.unusedSimpArgs false
open Go.RowKit Go.Sort
theorem el_mem10 {xs : List Int} {x : Int} : x ∈ xs ↔ ∃ j,j < xs.length ∧ el xs j = x := by
 constructor
 ·intro h
  obtain ⟨i,hi,rfl⟩ := List.getElem_of_mem h
  exact ⟨i,hi,by rw [el_eq hi]⟩
 ·rintro ⟨j,hj,rfl⟩
  exact el_mem hj
def risB (xs : List Int) : Bool := decide (∀ i,i < xs.length - 1 → el xs i < el xs (i + 1))
set_option maxHeartbeats 400000 in
theorem l1Has_any (a : Option Addr) (len cap : Nat) (x : Int) (xs : List Int) (w : World) (hv : Vec w a len xs) (hm : len ≤ maxLen) :
  Calls Try.prog 120 #[.slice a len cap,.int .i64 x] w fun e w' => e = .returned (.bool (decide (x ∈ xs))) ∧ w' = w := by
 unfold maxLen at hm
 have HL : Hid (xs.length = len) := hv.1
 have hc := hv.2.2
 clear hv
 go_enter Try.func120,Try.ntmps120
 go_wp2
 go_loop [5] (fun i => ∃ k : Nat,k ≤ len ∧ i = .int .i64 k ∧ ∀ j,j < k → el xs j ≠ x) (fun i => len - (intOf i).toNat)
 case atStart => exact ⟨0,Nat.zero_le _,rfl,fun j hj => by omega⟩
 case round =>
  obtain ⟨k,hk,rfl,hno⟩ := hrel
  have HN : Hid (∀ j,j < k → el xs j ≠ x) := hno
  clear hno
  by_cases hlt : k < len
  ·rcases hc with h0 | ⟨b,off,rfl,hc⟩
   ·omega
   have hck := hc k hlt
   by_cases he : el xs k = x
   ·have hb : (el xs k == x) = true := by simpa using he
    have HF : Hid (decide (x ∈ xs) = true) := by rw [Hid,decide_eq_true_eq];exact el_mem10.2 ⟨k,by rw [HL.out];exact hlt,he⟩
    clear he
    go_wp2
    go_ret
    exact ⟨ret_bool (by rw [HF.out]),rfl⟩
   ·have hb : (el xs k == x) = false := by simpa using he
    have HE : Hid (el xs k ≠ x) := he
    clear he
    go_wp2
    go_round
    case rel => exact ⟨k + 1,by omega,by go_num,fun j hj => by
     rcases Nat.lt_succ_iff_lt_or_eq.1 hj with h | h
     ·exact HN.out j h
     ·rw [h];exact HE.out⟩
    case measure => simp [intOf];omega
  ·have HF : Hid (decide (x ∈ xs) = false) := by
    rw [Hid,decide_eq_false_iff_not,el_mem10]
    rintro ⟨j,hj,e⟩
    exact HN.out j (by rw [HL.out] at hj;omega) e
   clear hc
   go_wp2
   go_ret
   exact ⟨ret_bool (by rw [HF.out]),rfl⟩
set_option maxHeartbeats 800000 in
theorem l1Rises_any (a : Option Addr) (len cap : Nat) (xs : List Int) (w : World) (hv : Vec w a len xs) (hm : len ≤ maxLen) :
  Calls Try.prog 121 #[.slice a len cap] w fun e w' => e = .returned (.bool (risB xs)) ∧ ∃ n,w' = w.drewN n := by
 unfold maxLen at hm
 have HL : Hid (xs.length = len) := hv.1
 have hc := hv.2.2
 clear hv
 go_enter Try.func121,Try.ntmps121
 go_wp2
 go_loopw [3] (fun i wr => ∃ k n : Nat,k ≤ len ∧ i = .int .i64 ((k : Int) + 1) ∧ wr = w.drewN n ∧ ∀ j,j < k → el xs j < el xs (j + 1)) (fun i _ => (len + 1) - (intOf i).toNat)
 case atStart => exact ⟨0,0,Nat.zero_le _,rfl,rfl,fun j hj => by omega⟩
 case round =>
  obtain ⟨k,n,hk,rfl,rfl,hr⟩ := hrel
  have HR : Hid (∀ j,j < k → el xs j < el xs (j + 1)) := hr
  clear hr
  by_cases hlt : k + 1 < len
  ·rcases hc with h0 | ⟨b,off,rfl,hc⟩
   ·omega
   have c1 := hc (k + 1) hlt
   have c0 := hc k (by omega)
   have h1 : (k : Int) + 1 < (len : Int) := by omega
   have h2 : (k : Int) < (len : Int) := by omega
   have h0 : (0 : Int) ≤ (k : Int) + 1 := by omega
   have h3 : (0 : Int) ≤ (k : Int) := by omega
   have e1 : ((k : Int) + 1).toNat = k + 1 := by omega
   by_cases hx : el xs k < el xs (k + 1)
   ·have hd : decide (el xs (k + 1) ≤ el xs k) = false := by simp;omega
    have HX : Hid (el xs k < el xs (k + 1)) := hx
    clear hx
    go_wp2_with fail
    go_quiet (fail)
    go_wp2
    go_roundw
    case rel => exact ⟨k + 1,_,by omega,by go_num,rfl,fun j hj => by
     rcases Nat.lt_succ_iff_lt_or_eq.1 hj with h | h
     ·exact HR.out j h
     ·rw [h];exact HX.out⟩
    case measure => simp [intOf];omega
   ·have hd : decide (el xs (k + 1) ≤ el xs k) = true := by simp;omega
    have HF : Hid (risB xs = false) := by
     rw [Hid,risB,decide_eq_false_iff_not]
     intro h
     exact hx (h k (by rw [HL.out];omega))
    clear hx
    go_wp2_with fail
    go_quiet (fail)
    go_wp2
    go_ret
    exact ⟨ret_bool (by rw [HF.out]),n + nq,by simp⟩
  ·have hd : decide ((k : Int) + 1 < (len : Int)) = false := by simp;omega
   have HF : Hid (risB xs = true) := by
    rw [Hid,risB,decide_eq_true_eq]
    intro j hj
    exact HR.out j (by rw [HL.out] at hj;omega)
   clear hc
   go_wp2
   go_ret
   exact ⟨ret_bool (by rw [HF.out]),_,rfl⟩
end Go.Proofs.Ytlnmdfgcpfbleaa
namespace Go.Proofs.Ytlnmdfgcpfbleaa
set_option linter.unusedVariables false
set_option linter.unusedSimpArgs false
open Go.RowKit Go.Sort
structure Rw where
 ver : Int
 txt : List (List UInt8)
 got : List Int
 sus : List Int
 wed : Bool
 rdy : Bool
 by_ : Int
 trm : List Int
def zeroRw : Rw := ⟨0,[],[],[],false,false,0,[]⟩
def susB (l : List Int) (n : Int) : Bool := l.all (fun x => inB x 0 (n - 1)) && risB l
def smB (v : List Int) (n : Int) : Bool := okB v && (decide ((v.length : Int) = n) && v.all (fun x => decide (x ≤ 12)))
def okRw (r : Rw) (n : Int) : Bool :=
 inB n 1 5 && (inB r.ver 0 1000000 && (decide (r.txt.length ≤ 12) && (smB r.got n && (susB r.sus n && (r.txt.all (fun t => decide (t.length ≤ 20)) &&
  (if r.rdy then r.wed && (inB r.by_ 0 (n - 1) && smB r.trm n) else decide (r.by_ = 0) && decide (r.trm = [])))))))
end Go.Proofs.Ytlnmdfgcpfbleaa
namespace Go.Proofs.Ytlnmdfgcpfbleaa
set_option linter.unusedVariables false
def dig (d : Nat) : UInt8 := UInt8.ofNat (48 + d)
theorem dig_val {d : Nat} (h : d < 10) : (dig d).toNat = 48 + d := by
 unfold dig
 rw [UInt8.toNat_ofNat']
 omega
def dec (n : Nat) : List UInt8 := if h : n < 10 then [dig n] else dec (n / 10) ++ [dig (n % 10)]
termination_by n
decreasing_by omega
theorem dec_small {n : Nat} (h : n < 10) : dec n = [dig n] := by unfold dec;rw [dif_pos h]
theorem dec_big {n : Nat} (h : ¬ n < 10) : dec n = dec (n / 10) ++ [dig (n % 10)] := by rw [dec,dif_neg h]
def decT (n : Nat) (s : List UInt8) : List UInt8 := if n = 0 then s else dec n ++ s
theorem decT_step {n : Nat} (s : List UInt8) : decT (n / 10) (dig (n % 10) :: s) = dec n ++ s := by
 unfold decT
 by_cases h : n < 10
 ·rw [if_pos (by omega),dec_small h,Nat.mod_eq_of_lt h];rfl
 ·rw [if_neg (by omega),dec_big h];simp
set_option linter.unusedSimpArgs false
set_option linter.unusedVariables false
open Go.RowKit Go.Sort
def sv (l : List UInt8) : ByteArray := ⟨l.toArray⟩
theorem sv_size (l : List UInt8) : (sv l).size = l.length := by simp [sv,ByteArray.size]
theorem sv_app (a b : List UInt8) : sv a ++ sv b = sv (a ++ b) := ByteArray.mk_append_mk a b
theorem sv_of (s : ByteArray) : s = sv s.data.toList := by cases s;simp [sv]
theorem one_byte (w : World) (b : UInt8) (x : Int) (hx : x = (b.toNat : Int)) : (convert 22 9 (.slice (some ⟨w.heap.size,0,none⟩) 1 1)).run Try.prog (w.alloc (.cells #[.int .u8 x] 5)) = .ok (.string (sv [b])) (w.alloc (.cells #[.int .u8 x] 5)) := by
 subst hx
 refine run_convert_bytes_back (P := Try.prog) _ 22 9 5 ⟨w.heap.size,0,none⟩ 1 [b] Try.underlying22 Try.underlying5 Try.underlying9 (fun j hj => ?_)
 have hj0 : j = 0 := by simpa using hj
 subst hj0
 have hb := heap_alloc_new w (.cells #[.int .u8 (b.toNat : Int)] 5)
 rw [add_lit0]
 simp only [World.cell?,hb]
 simp
end Go.Proofs.Ytlnmdfgcpfbleaa
namespace Go.Proofs.Ytlnmdfgcpfbleaa
set_option linter.unusedSimpArgs false
set_option linter.unusedVariables false
open Go.RowKit Go.Sort
attribute [local irreducible] sv
end Go.Proofs.Ytlnmdfgcpfbleaa
namespace Go.Proofs.Ytlnmdfgcpfbleaa
set_option linter.unusedVariables false
set_option linter.unusedSimpArgs false
abbrev Lg := Int × List (List UInt8)
def okLg (l : Lg) : Prop := (1 ≤ l.1 ∧ l.1 ≤ 1000000) ∧ l.2.length ≤ 40 ∧ ∀ i,i < l.2.length → (l.2.getD i []).length ≤ 100
instance (l : Lg) : Decidable (okLg l) := by unfold okLg;infer_instance
def addB (l : Lg) (v : Int) (s : List UInt8) : Prop := v = l.1 + (l.2.length : Int) ∧ l.2.length ≠ 40 ∧ s.length ≤ 100
instance (l : Lg) (v : Int) (s : List UInt8) : Decidable (addB l v s) := by unfold addB;infer_instance
def txtB (l : Lg) (v : Int) : Prop := l.1 ≤ v ∧ v ≤ l.1 + (l.2.length : Int) - 1
instance (l : Lg) (v : Int) : Decidable (txtB l v) := by unfold txtB;infer_instance
set_option linter.unusedSimpArgs false
set_option linter.unusedVariables false
open Go.RowKit Go.Sort
theorem Try.info9 : (Try.prog.info? 9).map (fun i => (i.zero,i.size,i.bytes)) = some (some (.string ⟨#[]⟩),1,16) := by kernel_rfl
def svs (zs : List (List UInt8)) : List Value := zs.map (fun s => Value.string (sv s))
def OS (w : World) (g off n cap : Nat) (zs : List (List UInt8)) : Prop := OSl w 1 g off n cap (svs zs)
theorem OS.length {w : World} {g off n cap : Nat} {zs : List (List UInt8)} (h : OS w g off n cap zs) : zs.length = n := by have := h.len;simpa [svs] using this
theorem OS.cellAt {w : World} {g off n cap : Nat} {zs : List (List UInt8)} (h : OS w g off n cap zs) {i : Nat} (hi : i < n) : w.cell? ⟨g,off + i,none⟩ = some (.string (sv (zs.getD i []))) := by
 have hl := h.length
 rw [h.cell i (by omega)]
 simp [svs,show i < zs.length by omega]
theorem OS.below {w w' : World} {g off n cap B : Nat} {zs : List (List UInt8)} (h : OS w g off n cap zs) (hb : Below B w w') (hg : g < B) : OS w' g off n cap zs := OSl.below h hb hg
attribute [local irreducible] sv
end Go.Proofs.Ytlnmdfgcpfbleaa
namespace Go.Proofs.Ytlnmdfgcpfbleaa
set_option linter.unusedSimpArgs false
set_option linter.unusedVariables false
open Go.RowKit Go.Sort
theorem OS.set {w : World} {g off n cap : Nat} {zs : List (List UInt8)} (h : OS w g off n cap zs) {i : Nat} (hi : i < n) (y : List UInt8) : OS (w.setCell ⟨g,off + i,none⟩ (.string (sv y))) g off n cap (zs.set i y) := by
 have hl := h.length
 have hc := h.cellAt hi
 refine ⟨by simp [svs,hl],h.le,h.max,by simp [World.setCell];exact h.blk,fun j hj => ?_,fun j hj => ?_,fun j hj => by rw [World.frozen?_setCell];exact h.free j hj⟩
 ·by_cases e : i = j
  ·subst e
   rw [World.cell?_setCell_same _ _ _ hc]
   simp [svs,show i < zs.length by omega]
  ·rw [World.cell?_setCell_other _ _ _ _ (by simp [e]),h.cell j hj]
   simp [svs,e]
 ·by_cases e : i = j
  ·subst e
   rw [World.cell?_setCell_same _ _ _ hc];rfl
  ·rw [World.cell?_setCell_other _ _ _ _ (by simp [e])];exact h.some j hj
def mtL (k : Nat) : List UInt8 := 109 :: dec k
def mkS (zs : List (List UInt8)) (k j : Nat) : List (List UInt8) := (List.range j).map (fun i => mtL (k + i)) ++ zs.drop j
theorem mkS_zero (zs : List (List UInt8)) (k : Nat) : mkS zs k 0 = zs := by simp [mkS]
theorem mkS_step {zs : List (List UInt8)} {k j : Nat} (h : j < zs.length) : (mkS zs k j).set j (mtL (k + j)) = mkS zs k (j + 1) := by
 unfold mkS
 rw [List.set_append_right _ _ (by simp)]
 simp only [List.length_map,List.length_range,Nat.sub_self]
 rw [List.drop_eq_getElem_cons h,List.set_cons_zero,List.range_succ,List.map_append,List.append_assoc]
 rfl
def marksS (n k : Nat) : List (List UInt8) := (List.range n).map (fun i => mtL (k + i))
theorem mkS_done (zs : List (List UInt8)) (k : Nat) : mkS zs k zs.length = marksS zs.length k := by simp [mkS,marksS]
attribute [local irreducible] sv
set_option maxRecDepth 100000 in
set_option maxHeartbeats 1600000 in
theorem markText_any (k : Nat) (w : World) (h1 : 1 ≤ k) (hk : k ≤ 1000000000000) :
  Calls Try.prog 142 #[.int .i64 (k : Int)] w fun e w' => e = .returned (.string (sv (mtL k))) ∧ Below w.heap.size w w' := by
 have hk0 : ¬ ((k : Int) ≤ 0) := by omega
 have hk1 : decide ((k : Int) ≤ 0) = false := by simp;omega
 have hnil : (⟨#[]⟩ : ByteArray) = sv [] := by unfold sv;rfl
 have h109 : (⟨#[109]⟩ : ByteArray) = sv [109] := by unfold sv;rfl
 go_enter Try.func142,Try.ntmps142
 go_wp2
 go_loopg [0,3] (k + 1) (fun g a s wr => ∃ (m : Nat) (l : List UInt8),m ≤ k ∧ g = m + 1 ∧ a = .int .i64 m ∧ s = .string (sv l) ∧ l.length + g ≤ k + 1 ∧ dec k = decT m l ∧ Below w.heap.size w wr)
 case atStart => exact ⟨k,[],Nat.le_refl _,rfl,rfl,by rw [← hnil],by simp,by rw [decT,if_neg (by omega)];simp,Below.refl _ _⟩
 case round =>
  obtain ⟨m,l,hm,hg,rfl,rfl,hlg,hc,hb⟩ := hrel
  have HB : Hid (Below w.heap.size w wr) := hb
  have HC : Hid (dec k = decT m l) := hc
  clear hb hc hnil
  have hsz := sv_size l
  have hs109 : (⟨#[109]⟩ : ByteArray).size = 1 := rfl
  rcases Nat.eq_zero_or_pos m with h0 | hp
  ·subst h0
   have HD : Hid ((⟨#[109]⟩ : ByteArray) ++ sv l = sv (mtL k)) := by rw [Hid,h109,sv_app,mtL,HC.out,decT,if_pos rfl];rfl
   clear h109
   go_wp2
   go_ret
   exact ⟨by rw [← HD.out];rfl,HB.out⟩
  ·have HS : Hid (dec k = decT (m / 10) (dig (m % 10) :: l)) := by rw [Hid,decT_step,HC.out,decT,if_neg (by omega)]
   have e1 : Int.tmod (m : Int) 10 = (m : Int) % 10 := Int.tmod_eq_emod_of_nonneg (by omega)
   have e2 : Int.tdiv (m : Int) 10 = (m : Int) / 10 := Int.tdiv_eq_ediv_of_nonneg (by omega)
   have hd10 : (m : Int) % 10 < 10 := by omega
   have hd0 : 0 ≤ (m : Int) % 10 := by omega
   have hcv := one_byte wr (dig (m % 10)) (48 + (m : Int) % 10) (by rw [dig_val (by omega)];omega)
   have happ : sv [dig (m % 10)] ++ sv l = sv (dig (m % 10) :: l) := sv_app _ _
   have hs1 : (sv [dig (m % 10)]).size = 1 := sv_size _
   have HB' : Hid (Below w.heap.size w (wr.alloc (.cells #[.int .u8 (48 + (m : Int) % 10)] 5))) := HB.out.alloc HB.out.size _
   have hll : l.length ≤ 1000000000002 := by omega
   have e4 : ((m / 10 : Nat) : Int) = (m : Int) / 10 := by omega
   have hpi : (0 : Int) < (m : Int) := by omega
   clear h109
   go_wp2
   go_roundg (m / 10 + 1)
   case measure => omega
   case rel => exact ⟨m / 10,dig (m % 10) :: l,by omega,rfl,by rw [e4],rfl,by rw [List.length_cons];omega,HS.out,HB'.out⟩
set_option maxRecDepth 100000 in
set_option maxHeartbeats 1600000 in
theorem markS_any (g off cap k0 n : Nat) (zs : List (List UInt8)) (w : World) (ho : OS w g off n cap zs) (hk1 : 1 ≤ k0) (hk : k0 ≤ 10000000) (hn : n ≤ 10000000) :
  Calls Try.prog 133 #[.slice (some ⟨g,off,none⟩) n cap,.int .i64 (k0 : Int)] w fun e w' => e = .returned (.int .i64 ((k0 : Int) + (n : Int))) ∧ OS w' g off n cap (marksS n k0) ∧ w.grownBy w' (some g) := by
 have hzl := ho.length
 subst hzl
 have HO0 : Hid (OS w g off zs.length cap zs) := ho
 clear ho
 go_enter Try.func133,Try.ntmps133
 go_wp2
 go_loopw [1,5] (fun q i wr => ∃ j : Nat,j ≤ zs.length ∧ i = .int .i64 j ∧ q = .int .i64 ((k0 + j : Nat) : Int) ∧ OS wr g off zs.length cap (mkS zs k0 j) ∧ w.grownBy wr (some g)) (fun _ i _ => zs.length - (intOf i).toNat)
 case atStart => exact ⟨0,Nat.zero_le _,rfl,rfl,by rw [mkS_zero];exact HO0.out,grown_refl _ _⟩
 case round =>
  obtain ⟨j,hj,rfl,rfl,hown,ht⟩ := hrel
  have HO : Hid (OS wr g off zs.length cap (mkS zs k0 j)) := hown
  have HT : Hid (w.grownBy wr (some g)) := ht
  clear hown ht HO0
  by_cases hlt : j < zs.length
  ·have hM := markText_any (k0 + j) wr (by omega) (by omega)
   have j1 : (j : Int) < (zs.length : Int) := by omega
   have j0 : (0 : Int) ≤ (j : Int) := by omega
   have HST : Hid ((mkS zs k0 j).set j (mtL (k0 + j)) = mkS zs k0 (j + 1)) := mkS_step hlt
   go_wp2_with fail
   refine hM.mono ?_
   rintro e w1 ⟨rfl,hb1⟩
   have KO : Hid (OS w1 g off zs.length cap (mkS zs k0 j)) := HO.out.below hb1 HO.out.blk
   have hc := KO.out.cellAt hlt
   have hf := KO.out.free j (by have := KO.out.le;omega)
   have KO' : Hid (OS (w1.setCell ⟨g,off + j,none⟩ (.string (sv (mtL (k0 + j))))) g off zs.length cap (mkS zs k0 (j + 1))) := by rw [Hid,← HST.out];exact KO.out.set hlt _
   have KT' : Hid (w.grownBy (w1.setCell ⟨g,off + j,none⟩ (.string (sv (mtL (k0 + j))))) (some g)) := grown_set (grown_trans HT.out ⟨hb1.os,hb1.tape,hb1.output,hb1.size,fun x hx _ => hb1.block x hx⟩) (off + j) _
   clear hb1 hM
   generalize mtL (k0 + j) = MT at *
   go_wp2
   go_roundw
   case rel => exact ⟨j + 1,by omega,by go_num,by go_num,KO'.out,KT'.out⟩
   case measure => simp [intOf];omega
  ·have hjl : j = zs.length := by omega
   subst hjl
   have HD : Hid (OS wr g off zs.length cap (marksS zs.length k0)) := by rw [Hid,← mkS_done];exact HO.out
   go_wp2
   go_ret
   exact ⟨ret_int (by omega),HD.out,HT.out⟩
end Go.Proofs.Ytlnmdfgcpfbleaa
namespace Go.Proofs.Ytlnmdfgcpfbleaa
set_option linter.unusedVariables false
set_option linter.unusedSimpArgs false
open Go.RowKit Go.Sort
def TxS (w : World) (a : Option Addr) (T : List (List UInt8)) : Prop := T.length = 0 ∨ ∃ b off,a = some ⟨b,off,none⟩ ∧ ∀ i,i < T.length → w.cell? ⟨b,off + i,none⟩ = some (.string (sv (T.getD i [])))
theorem TxS.below {w w' : World} {a : Option Addr} {T : List (List UInt8)} (h : TxS w a T) (hb : Below w.heap.size w w') : TxS w' a T := by
 rcases h with h | ⟨b,off,ha,hc⟩
 ·exact .inl h
 ·exact .inr ⟨b,off,ha,fun i hi => (hb.cell (World.block_lt_of_cell? _ _ (hc i hi))).trans (hc i hi)⟩
def scl (T : List (List UInt8)) : Cel := .sl 1 T.length (pl (svs T))
theorem svs_len (T : List (List UInt8)) : (svs T).length = T.length := by simp [svs]
theorem svs_get {T : List (List UInt8)} {i : Nat} (h : i < T.length) : (svs T)[i]? = some (.string (sv (T.getD i []))) := by simp [svs,h]
theorem ow_scl {w : World} {T : List (List UInt8)} {u : Value} {fp : Fp} : Cel.ow w (scl T) u fp ↔ ∃ a c G,u = .slice a T.length c ∧ OSo w 1 a T.length c (svs T) G ∧ ∀ b,fp b ↔ G = some b := by
 constructor
 ·rintro ⟨a,c,us,G,f,rfl,ho,hl,hn,hf⟩
  obtain ⟨rfl,h0⟩ := owL_pl.1 hl
  exact ⟨a,c,G,rfl,ho,fun b => (hf b).trans ⟨fun h => h.elim id (fun h => absurd h (h0 b)),.inl⟩⟩
 ·rintro ⟨a,c,G,rfl,ho,hf⟩
  exact ⟨a,c,_,G,fun _ => False,rfl,ho,owL_pl.2 ⟨rfl,fun _ h => h⟩,fun _ _ h => h,fun b => (hf b).trans ⟨.inl,fun h => h.elim id False.elim⟩⟩
theorem vw_scl {w : World} {T : List (List UInt8)} {u : Value} (h : Cel.vw w (scl T) u) : ∃ a c,u = .slice a T.length c ∧ TxS w a T ∧ T.length ≤ c ∧ c ≤ maxLen := by
 obtain ⟨a,c,us,rfl,h1,h2,h3,h,hl⟩ := h
 have e := vwL_pl.1 hl
 subst e
 refine ⟨a,c,rfl, ?_,h1,h2⟩
 rcases h with h | ⟨b,off,ha,hc⟩
 ·exact .inl h
 ·refine .inr ⟨b,off,ha,fun i hi => ?_⟩
  rw [hc i (by omega),svs_get hi]
theorem OSo.os {w : World} {a : Option Addr} {c : Nat} {T : List (List UInt8)} {G : Option Nat} (h : OSo w 1 a T.length c (svs T) G) : (T = [] ∧ c = 0 ∧ G = none) ∨ ∃ g off,a = some ⟨g,off,none⟩ ∧ OS w g off T.length c T ∧ G = some g := by
 rcases h with ⟨h1,h2,h3,h4,_⟩ | h
 ·exact .inl ⟨List.eq_nil_of_length_eq_zero h1,h2,h4⟩
 ·exact .inr h
def totS (T : List (List UInt8)) : Nat → Nat
 | 0 => 0
 | k + 1 => totS T k + (T.getD k []).length
def LongT (T : List (List UInt8)) : Prop := ∀ i,i < T.length → (T.getD i []).length ≤ 9223372036854775807
attribute [local irreducible] sv
set_option maxRecDepth 100000 in
set_option maxHeartbeats 800000 in
theorem szS_any (a : Option Addr) (cap : Nat) (T : List (List UInt8)) (left : Int) (w : World) (hv : TxS w a T) (hlg : LongT T) (hm : T.length ≤ maxLen) (hl : 0 ≤ left ∧ left ≤ 1048576) :
  Calls Try.prog 85 #[.slice a T.length cap,.int .i64 left] w fun e w' => ∃ q : Int,e = .returned (.int .i64 q) ∧ (q = -1 ∨ 0 ≤ q ∧ q + (T.length : Int) + (totS T T.length : Int) = left) ∧ w' = w := by
 have HV : Hid (TxS w a T) := hv
 unfold maxLen at hm
 have h1 : wrap64 (left - (T.length : Int)) = left - (T.length : Int) := by unfold wrap64;omega
 clear hv
 by_cases h : (T.length : Int) ≤ left
 ·have h2 : decide (left - (T.length : Int) < 0) = false := by simp;omega
  go_enter Try.func85,Try.ntmps85
  go_wp2_with fail
  clear h2 h1
  go_loop [1,5] (fun q i => ∃ (k : Nat) (p : Int),k ≤ T.length ∧ i = .int .i64 k ∧ q = .int .i64 p ∧ 0 ≤ p ∧ p + (T.length : Int) + (totS T k : Int) = left) (fun _ i => T.length - (intOf i).toNat)
  case atStart => exact ⟨0,left - (T.length : Int),Nat.zero_le _,rfl,rfl,by omega,by simp [totS]⟩
  case round =>
   obtain ⟨k,p,hk,rfl,rfl,hp0,hp⟩ := hrel
   by_cases hlt : k < T.length
   ·rcases HV.out with h0 | ⟨b,off,rfl,hc⟩
    ·omega
    have hck := hc k hlt
    have hll := hlg k hlt
    clear hc
    have k1 : (k : Int) < (T.length : Int) := by omega
    have k0 : (0 : Int) ≤ (k : Int) := by omega
    have HT : Hid (totS T (k + 1) = totS T k + (T.getD k []).length) := rfl
    generalize T.getD k [] = t at *
    have hsz := sv_size t
    have hwr : wrap64 (p - (t.length : Int)) = p - (t.length : Int) := by unfold wrap64;omega
    by_cases hq : (t.length : Int) ≤ p
    ·have h3 : decide (p - (t.length : Int) < 0) = false := by simp;omega
     go_wp2
     go_round
     case rel => exact ⟨k + 1,p - (t.length : Int),by omega,by go_num,rfl,by omega,by rw [HT.out];omega⟩
     case measure => simp [intOf];omega
    ·have h3 : decide (p - (t.length : Int) < 0) = true := by simp;omega
     go_wp2
     go_ret
     exact ⟨-1,rfl,.inl rfl,rfl⟩
   ·have hkl : k = T.length := by omega
    have HP : Hid (p + (T.length : Int) + (totS T T.length : Int) = left) := by rw [hkl] at hp;exact hp
    subst hkl
    go_wp2
    go_ret
    exact ⟨p,rfl,.inr ⟨hp0,HP.out⟩,rfl⟩
 ·have h2 : decide (left - (T.length : Int) < 0) = true := by simp;omega
  go_enter Try.func85,Try.ntmps85
  go_wp2
  go_ret
  exact ⟨-1,rfl,.inl rfl,rfl⟩
def cpS (T : List (List UInt8)) (k : Nat) : List (List UInt8) := T.take k ++ List.replicate (T.length - k) []
theorem cpS_zero (T : List (List UInt8)) : cpS T 0 = List.replicate T.length [] := by simp [cpS]
theorem cpS_all (T : List (List UInt8)) : cpS T T.length = T := by simp [cpS]
theorem cpS_step {T : List (List UInt8)} {k : Nat} (h : k < T.length) : (cpS T k).set k (T.getD k []) = cpS T (k + 1) := by
 unfold cpS
 have e1 : (T.take k).length = k := by rw [List.length_take];omega
 obtain ⟨d,hd⟩ : ∃ d,T.length - k = d + 1 := ⟨T.length - k - 1,by omega⟩
 have e2 : T.length - (k + 1) = d := by omega
 have e3 : T.getD k [] = T[k] := by simp [h]
 rw [hd,e2,List.replicate_succ,List.set_append_right _ _ (by omega),e1,Nat.sub_self,List.set_cons_zero,List.take_succ_eq_append_getElem h,e3,List.append_assoc]
 rfl
theorem made_os (w : World) (n : Nat) (hn : n ≤ maxLen) : OS (w.alloc (.cells (madeCells #[.string ⟨#[]⟩] n) 9)) w.heap.size 0 n n (List.replicate n []) := by
 have h := osl_made w #[.string ⟨#[]⟩] 1 n 9 rfl (by omega) hn
 have e : (List.replicate n (#[Value.string ⟨#[]⟩] : Array Value).toList).flatten = svs (List.replicate n []) := by
  unfold svs
  rw [List.map_replicate]
  have : sv [] = ⟨#[]⟩ := by unfold sv;rfl
  rw [this]
  simp
 rw [e,Nat.mul_one] at h
 exact h
set_option maxRecDepth 100000 in
set_option maxHeartbeats 1600000 in
theorem toS_any (a : Option Addr) (cap : Nat) (T : List (List UInt8)) (w : World) (hv : TxS w a T) (hm : T.length ≤ 1048576) :
  Calls Try.prog 87 #[.slice a T.length cap] w fun e w' => ∃ a' c',e = .returned (.slice a' T.length c') ∧ NewO w w' (scl T) (.slice a' T.length c') := by
 have HV : Hid (TxS w a T) := hv
 have hmk := run_make_row' (P := Try.prog) 33 9 (.string ⟨#[]⟩) 16 Try.underlying33 Try.info9 rfl .i64 .i64 T.length (by omega) (by omega)
 have HS0 : Hid (OS (w.alloc (.cells (madeCells #[.string ⟨#[]⟩] T.length) 9)) w.heap.size 0 T.length T.length (cpS T 0)) := by
  rw [Hid,cpS_zero]
  exact made_os w T.length (by unfold maxLen;omega)
 have HB0 : Hid (Below w.heap.size w (w.alloc (.cells (madeCells #[.string ⟨#[]⟩] T.length) 9))) := (Below.refl _ _).alloc (Nat.le_refl _) _
 clear hv
 go_enter Try.func87,Try.ntmps87
 go_wp2_with fail
 clear hmk
 go_loopw [4] (fun i wr => ∃ k : Nat,k ≤ T.length ∧ i = .int .i64 k ∧ OS wr w.heap.size 0 T.length T.length (cpS T k) ∧ Below w.heap.size w wr) (fun i _ => T.length - (intOf i).toNat)
 case atStart => exact ⟨0,Nat.zero_le _,rfl,HS0.out,HB0.out⟩
 case round =>
  obtain ⟨k,hk,rfl,ho,hb⟩ := hrel
  by_cases hlt : k < T.length
  ·rcases HV.out with h0 | ⟨b,off,rfl,hc⟩
   ·omega
   have hck := (hb.cell (World.block_lt_of_cell? _ _ (hc k hlt))).trans (hc k hlt)
   have hcg := ho.cellAt hlt
   have hfr := ho.free k (by omega)
   rw [Nat.zero_add] at hcg hfr
   have k1 : (k : Int) < (T.length : Int) := by omega
   have k0 : (0 : Int) ≤ (k : Int) := by omega
   have HO : Hid (OS (wr.setCell ⟨w.heap.size,k,none⟩ (.string (sv (T.getD k [])))) w.heap.size 0 T.length T.length (cpS T (k + 1))) := by
    have := ho.set hlt (T.getD k [])
    rw [Nat.zero_add,cpS_step hlt] at this
    exact this
   have HB : Hid (Below w.heap.size w (wr.setCell ⟨w.heap.size,k,none⟩ (.string (sv (T.getD k []))))) := hb.setCell (p := ⟨w.heap.size,k,none⟩) (Nat.le_refl _) _
   clear ho hb hc
   generalize T.getD k [] = t at *
   go_wp2
   go_roundw
   case rel => exact ⟨k + 1,by omega,by go_num,HO.out,HB.out⟩
   case measure => simp [intOf];omega
  ·have hkl : k = T.length := by omega
   subst hkl
   rw [cpS_all] at ho
   have HE : Hid (NewO w wr (scl T) (.slice (some ⟨w.heap.size,0,none⟩) T.length T.length)) := ⟨fun b => b = w.heap.size,ow_scl.2 ⟨_,_,some w.heap.size,rfl,OSo.of ho,fun b => by simp [eq_comm]⟩,fun b hb => by omega,hb⟩
   clear ho hb
   go_wp2
   go_ret
   exact ⟨_,_,rfl,HE.out⟩
set_option maxRecDepth 100000 in
set_option maxHeartbeats 1600000 in
theorem eqSV_any (a a' : Option Addr) (cap cap' : Nat) (T : List (List UInt8)) (w : World) (hz : TxS w a T) (hy : TxS w a' T) (hm : T.length ≤ maxLen) :
  Calls Try.prog 89 #[.slice a T.length cap,.slice a' T.length cap'] w fun e w' => e = .returned (.bool true) ∧ Grew w w' := by
 unfold maxLen at hm
 have HZ : Hid (TxS w a T) := hz
 have HY : Hid (TxS w a' T) := hy
 have hne : ((T.length : Int) != (T.length : Int)) = false := by simp
 clear hz hy
 go_enter Try.func89,Try.ntmps89
 go_wp2
 clear hne
 go_loopw [5] (fun i wr => ∃ j : Nat,j ≤ T.length ∧ i = .int .i64 j ∧ ∃ q,wr = w.drewN q) (fun i _ => T.length - (intOf i).toNat)
 case atStart => exact ⟨0,Nat.zero_le _,rfl,0,rfl⟩
 case round =>
  obtain ⟨j,hj,rfl,q,rfl⟩ := hrel
  by_cases hlt : j < T.length
  ·rcases HZ.out with h0 | ⟨b,off,rfl,hc⟩
   ·omega
   rcases HY.out with h0 | ⟨b',off',rfl,hc'⟩
   ·omega
   have c1 := hc j hlt
   have c2 := hc' j hlt
   have j1 : (j : Int) < (T.length : Int) := by omega
   have j0 : (0 : Int) ≤ (j : Int) := by omega
   generalize T.getD j [] = A at *
   have hb : ((sv A).toList == (sv A).toList) = true := by simp
   clear hc hc'
   go_wp2_with fail
   go_quiet (fail)
   go_wp2
   go_roundw
   case rel => exact ⟨j + 1,by omega,by go_num,_,rfl⟩
   case measure => simp [intOf];omega
  ·have hjl : j = T.length := by omega
   subst hjl
   go_wp2
   go_ret
   exact ⟨rfl,(Grew.refl _).drewN _⟩
set_option maxHeartbeats 400000 in
theorem markS0_any (a : Option Addr) (cap : Nat) (q : Int) (w : World) : Calls Try.prog 133 #[.slice a 0 cap,.int .i64 q] w fun e w' => e = .returned (.int .i64 q) ∧ w' = w := by
 go_enter Try.func133,Try.ntmps133
 go_wp2
 go_loop [1,5] (fun x i => x = .int .i64 q ∧ i = .int .i64 0) (fun _ _ => 0)
 case atStart => exact ⟨rfl,rfl⟩
 case round =>
  obtain ⟨rfl,rfl⟩ := hrel
  go_wp2
  go_ret
  exact ⟨rfl,rfl⟩
theorem marksS_len (n k : Nat) : (marksS n k).length = n := by simp [marksS]
end Go.Proofs.Ytlnmdfgcpfbleaa
namespace Go.Proofs.Ytlnmdfgcpfbleaa
set_option linter.unusedVariables false
set_option linter.unusedSimpArgs false
open Go.RowKit Go.Sort
attribute [local irreducible] sv
end Go.Proofs.Ytlnmdfgcpfbleaa
namespace Go.Proofs.Ytlnmdfgcpfbleaa
set_option linter.unusedVariables false
set_option linter.unusedSimpArgs false
open Go.RowKit Go.Sort
def TxP (w : World) (a : Option Addr) (c : Nat) (T : List (List UInt8)) : Prop := (T = [] ∧ c = 0 ∧ PlainA a) ∨ ∃ b off,a = some ⟨b,off,none⟩ ∧ T.length ≤ c ∧ c ≤ maxLen ∧ ∀ i,i < T.length → w.cell? ⟨b,off + i,none⟩ = some (.string (sv (T.getD i [])))
theorem TxP.txs {w : World} {a : Option Addr} {c : Nat} {T : List (List UInt8)} (h : TxP w a c T) : TxS w a T := by
 rcases h with ⟨h,_⟩ | ⟨b,off,h1,h2,h3,h4⟩
 ·exact .inl (by rw [h];rfl)
 ·exact .inr ⟨b,off,h1,h4⟩
theorem TxP.below {w w' : World} {a : Option Addr} {c : Nat} {T : List (List UInt8)} (h : TxP w a c T) (hb : Below w.heap.size w w') : TxP w' a c T := by
 rcases h with h | ⟨b,off,ha,h1,h2,hc⟩
 ·exact .inl h
 ·exact .inr ⟨b,off,ha,h1,h2,fun i hi => (hb.cell (World.block_lt_of_cell? _ _ (hc i hi))).trans (hc i hi)⟩
theorem OSo.txp {w : World} {a : Option Addr} {c : Nat} {T : List (List UInt8)} {G : Option Nat} (h : OSo w 1 a T.length c (svs T) G) : TxP w a c T := by
 have hp := h.plain
 rcases h.os with ⟨h1,h2,_⟩ | ⟨g,off,h1,h2,_⟩
 ·exact .inl ⟨h1,h2,hp⟩
 ·exact .inr ⟨g,off,h1,h2.le,h2.max,fun i hi => h2.cellAt hi⟩
theorem ow_txp {w : World} {a : Option Addr} {c : Nat} {T : List (List UInt8)} {fp : Fp} (h : Cel.ow w (scl T) (.slice a T.length c) fp) : TxP w a c T := by
 obtain ⟨a',c',G,e,ho,_⟩ := ow_scl.1 h
 cases e
 exact ho.txp
attribute [local irreducible] sv
end Go.Proofs.Ytlnmdfgcpfbleaa
namespace Go.Proofs.Ytlnmdfgcpfbleaa
set_option linter.unusedVariables false
set_option linter.unusedSimpArgs false
open Go.RowKit Go.Sort
structure Ra where
 ta : Option Addr
 tc : Nat
 ga : Option Addr
 gc : Nat
 sa : Option Addr
 sc : Nat
 ma : Option Addr
 mc : Nat
def rwC (A : Ra) (r : Rw) : Array Value := #[.int .i64 r.ver,.slice A.ta r.txt.length A.tc,.slice A.ga r.got.length A.gc,.slice A.sa r.sus.length A.sc,.bool r.wed,.bool r.rdy,.int .i64 r.by_,.slice A.ma r.trm.length A.mc]
def rwV (A : Ra) (r : Rw) : Value := .agg (rwC A r)
structure RwS (w : World) (A : Ra) (r : Rw) : Prop where
 txt : TxS w A.ta r.txt
 got : Vec w A.ga r.got.length r.got
 sus : Vec w A.sa r.sus.length r.sus
 trm : Vec w A.ma r.trm.length r.trm
 mt : r.txt.length ≤ maxLen
 mg : r.got.length ≤ maxLen
 ms : r.sus.length ≤ maxLen
 mm : r.trm.length ≤ maxLen
theorem RwS.below {w w' : World} {A : Ra} {r : Rw} (h : RwS w A r) (hb : Below w.heap.size w w') : RwS w' A r := ⟨h.txt.below hb,h.got.below hb (Nat.le_refl _),h.sus.below hb (Nat.le_refl _),h.trm.below hb (Nat.le_refl _),h.mt,h.mg,h.ms,h.mm⟩
theorem Bx.r8 {w : World} {B : Nat} {T : TypeId} {x0 x1 x2 x3 x4 x5 x6 x7 : Value} (h : Bx w B T #[x0,x1,x2,x3,x4,x5,x6,x7]) : (w.cell? ⟨B,0,none⟩ = some x0 ∧ w.cell? ⟨B,1,none⟩ = some x1 ∧ w.cell? ⟨B,2,none⟩ = some x2 ∧ w.cell? ⟨B,3,none⟩ = some x3) ∧ w.cell? ⟨B,4,none⟩ = some x4 ∧ w.cell? ⟨B,5,none⟩ = some x5 ∧ w.cell? ⟨B,6,none⟩ = some x6 ∧ w.cell? ⟨B,7,none⟩ = some x7 :=
 ⟨⟨h.at 0 rfl,h.at 1 rfl,h.at 2 rfl,h.at 3 rfl⟩,h.at 4 rfl,h.at 5 rfl,h.at 6 rfl,h.at 7 rfl⟩
theorem oneA16 (w : World) (o : Obj) : Below w.heap.size w (w.alloc o) := (Below.refl _ _).alloc (Nat.le_refl _) _
theorem susB_miss {l : List Int} {n : Int} {k : Nat} (hk : k < l.length) (h : inB (el l k) 0 (n - 1) = false) : susB l n = false := by
 have : l.all (fun x => inB x 0 (n - 1)) = false := by
  rw [List.all_eq_false]
  exact ⟨el l k,el_mem hk,by simp [h]⟩
 rw [susB,this]
 rfl
theorem susB_all {l : List Int} {n : Int} (h : ∀ k,k < l.length → inB (el l k) 0 (n - 1) = true) : susB l n = risB l := by
 have : l.all (fun x => inB x 0 (n - 1)) = true := by
  rw [List.all_eq_true]
  intro x hx
  obtain ⟨j,hj,rfl⟩ := List.mem_iff_getElem.1 hx
  have := h j hj
  simpa [el,hj] using this
 rw [susB,this]
 rfl
set_option maxRecDepth 100000 in
set_option maxHeartbeats 1600000 in
theorem susS_any (a : Option Addr) (cap : Nat) (l : List Int) (n : Int) (w : World) (hv : Vec w a l.length l) (hm : l.length ≤ maxLen) (hn : -1000 ≤ n ∧ n ≤ 1000) :
  Calls Try.prog 81 #[.slice a l.length cap,.int .i64 n] w fun e w' => e = .returned (.bool (susB l n)) ∧ Below w.heap.size w w' := by
 have hR := l1Rises_any a l.length cap l w hv hm
 have HV : Hid (Vec w a l.length l) := hv
 have hwn : wrap64 (n - 1) = n - 1 := by unfold wrap64;omega
 unfold maxLen at hm
 clear hv
 go_enter Try.func81,Try.ntmps81
 go_wp2
 go_loop [5] (fun i => ∃ k : Nat,k ≤ l.length ∧ i = .int .i64 k ∧ ∀ j,j < k → inB (el l j) 0 (n - 1) = true) (fun i => l.length - (intOf i).toNat)
 case atStart => exact ⟨0,Nat.zero_le _,rfl,fun j hj => by omega⟩
 case round =>
  obtain ⟨k,hk,rfl,hall⟩ := hrel
  have HA : Hid (∀ j,j < k → inB (el l j) 0 (n - 1) = true) := hall
  clear hall
  by_cases hlt : k < l.length
  ·rcases HV.out.2.2 with h0 | ⟨b,off,rfl,hc⟩
   ·omega
   have hck := hc k hlt
   have k1 : (k : Int) < (l.length : Int) := by omega
   have k0 : (0 : Int) ≤ (k : Int) := by omega
   have hI := fun X => l1In_any (el l k) 0 (n - 1) X
   clear hc
   cases hb : inB (el l k) 0 (n - 1) with
   | true =>
    rw [hb] at hI
    have HN : Hid (∀ j,j < k + 1 → inB (el l j) 0 (n - 1) = true) := fun j hj => by
     rcases Nat.lt_succ_iff_lt_or_eq.1 hj with h1 | h1
     ·exact HA.out j h1
     ·rw [h1];exact hb
    generalize el l k = x at *
    clear hb
    go_wp2_with (go_at_call 73;refine (hI _).mono ?_;rintro e w' ⟨rfl,hw'⟩;rw [hw'];clear hw')
    go_round
    case rel => exact ⟨k + 1,by omega,by go_num,HN.out⟩
    case measure => simp [intOf];omega
   | false =>
    rw [hb] at hI
    have HZ : Hid (susB l n = false) := susB_miss hlt hb
    generalize el l k = x at *
    clear hb
    go_wp2_with (go_at_call 73;refine (hI _).mono ?_;rintro e w' ⟨rfl,hw'⟩;rw [hw'];clear hw')
    go_ret
    exact ⟨ret_bool (by rw [HZ.out]),Below.refl _ _⟩
  ·have k1 : ¬ ((k : Int) < (l.length : Int)) := by omega
   have HZ : Hid (susB l n = risB l) := susB_all (fun j hj => HA.out j (by omega))
   generalize risB l = Q at *
   go_wp2_with (go_at_call 121;refine hR.mono ?_;rintro e w2 ⟨rfl,q,hw2⟩)
   go_ret
   exact ⟨ret_bool (by rw [HZ.out]),belowN (Below.refl _ _)⟩
theorem smB_parts {v : List Int} {n : Int} (h1 : okB v = true) (h2 : (v.length : Int) = n) (h3 : ∀ k,k < v.length → el v k ≤ 12) : smB v n = true := by
 have : v.all (fun x => decide (x ≤ 12)) = true := by
  rw [List.all_eq_true]
  intro x hx
  obtain ⟨j,hj,rfl⟩ := List.mem_iff_getElem.1 hx
  have := h3 j hj
  simpa [el,hj] using this
 rw [smB,h1,this,decide_eq_true h2]
 rfl
theorem smB_not {v : List Int} {n : Int} {k : Nat} (hk : k < v.length) (h : ¬ el v k ≤ 12) : smB v n = false := by
 have : v.all (fun x => decide (x ≤ 12)) = false := by
  rw [List.all_eq_false]
  exact ⟨el v k,el_mem hk,by simpa using h⟩
 rw [smB,this]
 simp
set_option maxRecDepth 100000 in
set_option maxHeartbeats 1600000 in
theorem trmS16_any (a : Option Addr) (cap : Nat) (l : List Int) (n : Int) (w : World) (hv : Vec w a l.length l) (hm : l.length ≤ maxLen) :
  Calls Try.prog 82 #[.slice a l.length cap,.int .i64 n] w fun e w' => e = .returned (.bool (smB l n)) ∧ w' = w := by
 have hO := specOk_any a l.length cap l w hv hm
 have HV : Hid (Vec w a l.length l) := hv
 unfold maxLen at hm
 clear hv
 cases hok : okB l with
 | false =>
  have HZ : Hid (smB l n = false) := by rw [Hid,smB,hok];rfl
  rw [hok] at hO
  clear hok
  go_enter Try.func82,Try.ntmps82
  go_wp2_with (go_at_call 25;refine hO.mono ?_;rintro e w' ⟨rfl,hw'⟩;rw [hw'];clear hw')
  go_ret
  exact ⟨ret_bool (by rw [HZ.out]),rfl⟩
 | true =>
  rw [hok] at hO
  by_cases hl : (l.length : Int) = n
  ·have e1 : ((l.length : Int) != n) = false := by simpa using hl
   have HP : Hid ((∀ k,k < l.length → el l k ≤ 12) → smB l n = true) := fun h => smB_parts hok hl h
   clear hok hl
   go_enter Try.func82,Try.ntmps82
   go_wp2_with (go_at_call 25;refine hO.mono ?_;rintro e w' ⟨rfl,hw'⟩;rw [hw'];clear hw')
   go_loop [5] (fun i => ∃ k : Nat,k ≤ l.length ∧ i = .int .i64 k ∧ ∀ j,j < k → el l j ≤ 12) (fun i => l.length - (intOf i).toNat)
   case atStart => exact ⟨0,Nat.zero_le _,rfl,fun j hj => by omega⟩
   case round =>
    obtain ⟨k,hk,rfl,hall⟩ := hrel
    have HA : Hid (∀ j,j < k → el l j ≤ 12) := hall
    clear hall
    by_cases hlt : k < l.length
    ·rcases HV.out.2.2 with h0 | ⟨b,off,rfl,hc⟩
     ·omega
     have hck := hc k hlt
     have k1 : (k : Int) < (l.length : Int) := by omega
     have k0 : (0 : Int) ≤ (k : Int) := by omega
     clear hc
     by_cases h12 : el l k ≤ 12
     ·have g12 : ¬ (12 < el l k) := by omega
      have HN : Hid (∀ j,j < k + 1 → el l j ≤ 12) := fun j hj => by
       rcases Nat.lt_succ_iff_lt_or_eq.1 hj with h1 | h1
       ·exact HA.out j h1
       ·rw [h1];exact h12
      generalize el l k = x at *
      clear h12
      go_wp2
      go_round
      case rel => exact ⟨k + 1,by omega,by go_num,HN.out⟩
      case measure => simp [intOf];omega
     ·have g12 : 12 < el l k := by omega
      have HZ : Hid (smB l n = false) := smB_not hlt h12
      generalize el l k = x at *
      clear h12
      go_wp2
      go_ret
      exact ⟨ret_bool (by rw [HZ.out]),rfl⟩
    ·have k1 : ¬ ((k : Int) < (l.length : Int)) := by omega
     have HZ : Hid (smB l n = true) := HP.out (fun j hj => HA.out j (by omega))
     go_wp2
     go_ret
     exact ⟨ret_bool (by rw [HZ.out]),rfl⟩
  ·have e1 : ((l.length : Int) != n) = true := by simpa using hl
   have HZ : Hid (smB l n = false) := by rw [Hid,smB,decide_eq_false hl];simp
   clear hok hl
   go_enter Try.func82,Try.ntmps82
   go_wp2_with (go_at_call 25;refine hO.mono ?_;rintro e w' ⟨rfl,hw'⟩;rw [hw'];clear hw')
   go_ret
   exact ⟨ret_bool (by rw [HZ.out]),rfl⟩
end Go.Proofs.Ytlnmdfgcpfbleaa
namespace Go.Proofs.Ytlnmdfgcpfbleaa
set_option linter.unusedVariables false
set_option linter.unusedSimpArgs false
open Go.RowKit Go.Sort
theorem okRw_n {r : Rw} {n : Int} (h : inB n 1 5 = false) : okRw r n = false := by rw [okRw,h];rfl
theorem okRw_v {r : Rw} {n : Int} (h : inB r.ver 0 1000000 = false) : okRw r n = false := by rw [okRw,h];simp
theorem okRw_t {r : Rw} {n : Int} (h : ¬ r.txt.length ≤ 12) : okRw r n = false := by rw [okRw,decide_eq_false h];simp
theorem okRw_g {r : Rw} {n : Int} (h : smB r.got n = false) : okRw r n = false := by rw [okRw,h];simp
theorem okRw_s {r : Rw} {n : Int} (h : susB r.sus n = false) : okRw r n = false := by rw [okRw,h];simp
theorem okRw_x {r : Rw} {n : Int} {k : Nat} (hk : k < r.txt.length) (h : ¬ (r.txt.getD k []).length ≤ 20) : okRw r n = false := by
 have : r.txt.all (fun t => decide (t.length ≤ 20)) = false := by
  rw [List.all_eq_false]
  refine ⟨r.txt[k],List.getElem_mem hk, ?_⟩
  rw [List.getD_eq_getElem?_getD,List.getElem?_eq_getElem hk] at h
  simpa using h
 rw [okRw,this]
 simp
def endB (r : Rw) (n : Int) : Bool := if r.rdy then r.wed && (inB r.by_ 0 (n - 1) && smB r.trm n) else decide (r.by_ = 0) && decide (r.trm = [])
theorem okRw_end {r : Rw} {n : Int} (h1 : inB n 1 5 = true) (h2 : inB r.ver 0 1000000 = true) (h3 : r.txt.length ≤ 12) (h4 : smB r.got n = true) (h5 : susB r.sus n = true) (h6 : ∀ k,k < r.txt.length → (r.txt.getD k []).length ≤ 20) : okRw r n = endB r n := by
 have : r.txt.all (fun t => decide (t.length ≤ 20)) = true := by
  rw [List.all_eq_true]
  intro t ht
  obtain ⟨j,hj,rfl⟩ := List.mem_iff_getElem.1 ht
  have := h6 j hj
  rw [List.getD_eq_getElem?_getD,List.getElem?_eq_getElem hj] at this
  simpa using this
 rw [okRw,h1,h2,decide_eq_true h3,h4,h5,this]
 rfl
attribute [local irreducible] sv
set_option maxRecDepth 100000 in
set_option maxHeartbeats 3200000 in
theorem rowS_any (A : Ra) (r : Rw) (n : Int) (w : World) (hv : RwS w A r) :
  Calls Try.prog 36 #[rwV A r,.int .i64 n] w fun e w' => e = .returned (.bool (okRw r n)) ∧ Below w.heap.size w w' := by
 have hB0 := oneA16 w (.cells (rwC A r) 35)
 have hx := Bx.new w 35 (rwC A r)
 have h0 := hv.below hB0
 generalize hW : w.alloc (.cells (rwC A r) 35) = W at *
 have hsz : w.heap.size < W.heap.size := hx.lt
 obtain ⟨ver,txt,got,sus,wed,rdy,by_,trm⟩ := r
 obtain ⟨ta,tc,ga,gc,sa,sc,ma,mc⟩ := A
 have hw0 : w.alloc (.cells #[.int .i64 ver,.slice ta txt.length tc,.slice ga got.length gc,.slice sa sus.length sc,.bool wed,.bool rdy,.int .i64 by_,.slice ma trm.length mc] 35) = W := hW
 obtain ⟨⟨c0,c1,c2,c3⟩,c4,c5,c6,c7⟩ := Bx.r8 hx
 have HX : Hid (Bx W w.heap.size 35 #[.int .i64 ver,.slice ta txt.length tc,.slice ga got.length gc,.slice sa sus.length sc,.bool wed,.bool rdy,.int .i64 by_,.slice ma trm.length mc]) := hx
 obtain ⟨htx,hgo,hsu,htr,mt,mg,ms,mm⟩ := h0
 simp only at htx hgo hsu htr mt mg ms mm c0 c1 c2 c3 c4 c5 c6 c7
 have HB0 : Hid (Below w.heap.size w W) := hB0
 unfold rwV rwC
 clear hv hx hW hB0
 have hVo := specOk_any ga got.length gc got W hgo mg
 simp only
 cases e1 : inB n 1 5 with
 | false =>
  have HZ : Hid (okRw ⟨ver,txt,got,sus,wed,rdy,by_,trm⟩ n = false) := okRw_n e1
  go_enter Try.func36,Try.ntmps36
  go_wp2_with (first | (go_at_call 73;refine (l1In_any _ _ _ _).mono ?_;rintro e w' ⟨rfl,hw'⟩;rw [hw'];clear hw'))
  go_ret
  exact ⟨ret_bool (by rw [HZ.out]),HB0.out⟩
 | true =>
 have hn5 := inB7.1 e1
 have hSu := susS_any sa sc sus n W hsu ms (by omega)
 have HN1 : Hid (inB n 1 5 = true) := e1
 cases e2 : inB ver 0 1000000 with
 | false =>
  have HZ : Hid (okRw ⟨ver,txt,got,sus,wed,rdy,by_,trm⟩ n = false) := okRw_v e2
  go_enter Try.func36,Try.ntmps36
  go_wp2_with (first | (go_at_call 73;refine (l1In_any _ _ _ _).mono ?_;rintro e w' ⟨rfl,hw'⟩;rw [hw'];clear hw'))
  go_ret
  exact ⟨ret_bool (by rw [HZ.out]),HB0.out⟩
 | true =>
 have HN2 : Hid (inB ver 0 1000000 = true) := e2
 by_cases h12 : txt.length ≤ 12
 rotate_left
 ·have g12 : (12 : Int) < (txt.length : Int) := by omega
  have HZ : Hid (okRw ⟨ver,txt,got,sus,wed,rdy,by_,trm⟩ n = false) := okRw_t h12
  go_enter Try.func36,Try.ntmps36
  go_wp2_with (first | (go_at_call 73;refine (l1In_any _ _ _ _).mono ?_;rintro e w' ⟨rfl,hw'⟩;rw [hw'];clear hw'))
  go_ret
  exact ⟨ret_bool (by rw [HZ.out]),HB0.out⟩
 have g12 : ¬ ((12 : Int) < (txt.length : Int)) := by omega
 cases e4 : okB got with
 | false =>
  rw [e4] at hVo
  have HZ : Hid (okRw ⟨ver,txt,got,sus,wed,rdy,by_,trm⟩ n = false) := okRw_g (by simp [smB,e4])
  go_enter Try.func36,Try.ntmps36
  go_wp2_with (first | (go_at_call 73;refine (l1In_any _ _ _ _).mono ?_;rintro e w' ⟨rfl,hw'⟩;rw [hw'];clear hw') | (go_at_call 25;refine hVo.mono ?_;rintro e w' ⟨rfl,hw'⟩;rw [hw'];clear hw'))
  go_ret
  exact ⟨ret_bool (by rw [HZ.out]),HB0.out⟩
 | true =>
 rw [e4] at hVo
 by_cases h5 : (got.length : Int) = n
 rotate_left
 ·have g5 : ((got.length : Int) != n) = true := by simpa using h5
  have HZ : Hid (okRw ⟨ver,txt,got,sus,wed,rdy,by_,trm⟩ n = false) := okRw_g (by simp [smB,h5])
  go_enter Try.func36,Try.ntmps36
  go_wp2_with (first | (go_at_call 73;refine (l1In_any _ _ _ _).mono ?_;rintro e w' ⟨rfl,hw'⟩;rw [hw'];clear hw') | (go_at_call 25;refine hVo.mono ?_;rintro e w' ⟨rfl,hw'⟩;rw [hw'];clear hw'))
  go_ret
  exact ⟨ret_bool (by rw [HZ.out]),HB0.out⟩
 have g5 : ((got.length : Int) != n) = false := by simpa using h5
 have HSM : Hid ((∀ k,k < got.length → el got k ≤ 12) → smB got n = true) := fun h => smB_parts e4 h5 h
 have HG5 : Hid ((got.length : Int) = n) := h5
 clear h5 e4
 cases e6 : susB sus n with
 | false =>
  rw [e6] at hSu
  have HZ : Hid (okRw ⟨ver,txt,got,sus,wed,rdy,by_,trm⟩ n = false) := okRw_s e6
  go_enter Try.func36,Try.ntmps36
  go_wp2_with (first | (go_at_call 73;refine (l1In_any _ _ _ _).mono ?_;rintro e w' ⟨rfl,hw'⟩;rw [hw'];clear hw') | (go_at_call 25;refine hVo.mono ?_;rintro e w' ⟨rfl,hw'⟩;rw [hw'];clear hw') | (go_at_call 81;refine hSu.mono ?_;rintro e w2 ⟨rfl,hb2⟩;obtain ⟨⟨d0,d1,d2,d3⟩,d4,d5,d6,d7⟩ := Bx.r8 (HX.out.below hb2)))
  go_ret
  exact ⟨ret_bool (by rw [HZ.out]),HB0.out.trans (hb2.mono HB0.out.size)⟩
 | true =>
 rw [e6] at hSu
 have HN6 : Hid (susB sus n = true) := e6
 clear e6
 have HTX : Hid (TxS W ta txt) := htx
 have HGO : Hid (Vec W ga got.length got) := hgo
 have HTR : Hid (Vec W ma trm.length trm) := htr
 clear htx hgo hsu htr
 go_enter Try.func36,Try.ntmps36
 go_wp2_with (first | (go_at_call 73;refine (l1In_any _ _ _ _).mono ?_;rintro e w' ⟨rfl,hw'⟩;rw [hw'];clear hw') | (go_at_call 25;refine hVo.mono ?_;rintro e w' ⟨rfl,hw'⟩;rw [hw'];clear hw') | (go_at_call 81;refine hSu.mono ?_;rintro e w2 ⟨rfl,hb2⟩;obtain ⟨⟨d0,d1,d2,d3⟩,d4,d5,d6,d7⟩ := Bx.r8 (HX.out.below hb2)))
 have HB2 : Hid (Below w.heap.size w w2) := HB0.out.trans (hb2.mono HB0.out.size)
 have HT2 : Hid (TxS w2 ta txt) := HTX.out.below hb2
 have HG2 : Hid (Vec w2 ga got.length got) := HGO.out.below hb2 (Nat.le_refl _)
 have hTr := trmS16_any ma mc trm n w2 (HTR.out.below hb2 (Nat.le_refl _)) mm
 unfold maxLen at mt mg ms mm
 clear hVo hSu hb2 c0 c1 c2 c3 c4 c5 c6 c7 hw0 g5 e1 e2 HTX HGO HTR
 go_loop [5] (fun i => ∃ k : Nat,k ≤ txt.length ∧ i = .int .i64 k ∧ ∀ j,j < k → (txt.getD j []).length ≤ 20) (fun i => txt.length - (intOf i).toNat)
 case atStart => exact ⟨0,Nat.zero_le _,rfl,fun j hj => by omega⟩
 case round =>
  obtain ⟨k,hk,rfl,hall⟩ := hrel
  have HA : Hid (∀ j,j < k → (txt.getD j []).length ≤ 20) := hall
  clear hall
  by_cases hlt : k < txt.length
  ·rcases HT2.out with h0 | ⟨b,off,rfl,hc⟩
   ·omega
   have hck := hc k hlt
   have k1 : (k : Int) < (txt.length : Int) := by omega
   have k0 : (0 : Int) ≤ (k : Int) := by omega
   clear hc
   have hszt := sv_size (txt.getD k [])
   by_cases h20 : (txt.getD k []).length ≤ 20
   ·have g20 : ¬ ((20 : Int) < ((txt.getD k []).length : Int)) := by omega
    have HN : Hid (∀ j,j < k + 1 → (txt.getD j []).length ≤ 20) := fun j hj => by
     rcases Nat.lt_succ_iff_lt_or_eq.1 hj with h1 | h1
     ·exact HA.out j h1
     ·rw [h1];exact h20
    generalize txt.getD k [] = t at *
    clear h20
    go_wp2
    go_round
    case rel => exact ⟨k + 1,by omega,by go_num,HN.out⟩
    case measure => simp [intOf];omega
   ·have g20 : (20 : Int) < ((txt.getD k []).length : Int) := by omega
    have HZ : Hid (okRw ⟨ver,txt,got,sus,wed,rdy,by_,trm⟩ n = false) := okRw_x (k := k) hlt h20
    generalize txt.getD k [] = t at *
    clear h20
    go_wp2
    go_ret
    exact ⟨ret_bool (by rw [HZ.out]),HB2.out⟩
  ·have k1 : ¬ ((k : Int) < (txt.length : Int)) := by omega
   have HAll : Hid (∀ j,j < txt.length → (txt.getD j []).length ≤ 20) := fun j hj => HA.out j (by omega)
   clear HA HT2
   go_wp2
   go_loop [6] (fun i => ∃ m : Nat,m ≤ got.length ∧ i = .int .i64 m ∧ ∀ j,j < m → el got j ≤ 12) (fun i => got.length - (intOf i).toNat)
   case atStart => exact ⟨0,Nat.zero_le _,rfl,fun j hj => by omega⟩
   case round =>
    obtain ⟨m,hm,rfl,hall⟩ := hrel
    have HA : Hid (∀ j,j < m → el got j ≤ 12) := hall
    clear hall
    by_cases hlt2 : m < got.length
    ·rcases HG2.out.2.2 with h0 | ⟨b,off,rfl,hc⟩
     ·omega
     have hck := hc m hlt2
     have k1 : (m : Int) < (got.length : Int) := by omega
     have k0 : (0 : Int) ≤ (m : Int) := by omega
     clear hc
     by_cases h12' : el got m ≤ 12
     ·have g12' : ¬ (12 < el got m) := by omega
      have HN : Hid (∀ j,j < m + 1 → el got j ≤ 12) := fun j hj => by
       rcases Nat.lt_succ_iff_lt_or_eq.1 hj with h1 | h1
       ·exact HA.out j h1
       ·rw [h1];exact h12'
      generalize el got m = x at *
      clear h12'
      go_wp2
      go_round
      case rel => exact ⟨m + 1,by omega,by go_num,HN.out⟩
      case measure => simp [intOf];omega
     ·have g12' : 12 < el got m := by omega
      have HZ : Hid (okRw ⟨ver,txt,got,sus,wed,rdy,by_,trm⟩ n = false) := okRw_g (smB_not (v := got) hlt2 h12')
      generalize el got m = x at *
      clear h12'
      go_wp2
      go_ret
      exact ⟨ret_bool (by rw [HZ.out]),HB2.out⟩
    ·have k1 : ¬ ((m : Int) < (got.length : Int)) := by omega
     have HE : Hid (okRw ⟨ver,txt,got,sus,wed,rdy,by_,trm⟩ n = endB ⟨ver,txt,got,sus,wed,rdy,by_,trm⟩ n) := okRw_end HN1.out HN2.out h12 (HSM.out (fun j hj => HA.out j (by omega))) HN6.out HAll.out
     clear HA HG2 HAll
     have hwn : wrap64 (n - 1) = n - 1 := by unfold wrap64;omega
     cases rdy with
     | true =>
      cases wed with
      | false =>
       have HZ : Hid (okRw ⟨ver,txt,got,sus,false,true,by_,trm⟩ n = false) := by rw [Hid,HE.out];rfl
       go_wp2
       go_ret
       exact ⟨ret_bool (by rw [HZ.out]),HB2.out⟩
      | true =>
       cases e7 : inB by_ 0 (n - 1) with
       | false =>
        have HZ : Hid (okRw ⟨ver,txt,got,sus,true,true,by_,trm⟩ n = false) := by rw [Hid,HE.out,endB];simp [e7]
        go_wp2_with (first | (go_at_call 73;refine (l1In_any _ _ _ _).mono ?_;rintro e w' ⟨rfl,hw'⟩;rw [hw'];clear hw'))
        go_ret
        exact ⟨ret_bool (by rw [HZ.out]),HB2.out⟩
       | true =>
        have HZ : Hid (okRw ⟨ver,txt,got,sus,true,true,by_,trm⟩ n = smB trm n) := by rw [Hid,HE.out,endB];simp [e7]
        generalize smB trm n = Q at *
        go_wp2_with (first | (go_at_call 73;refine (l1In_any _ _ _ _).mono ?_;rintro e w' ⟨rfl,hw'⟩;rw [hw'];clear hw') | (go_at_call 82;refine hTr.mono ?_;rintro e w' ⟨rfl,hw'⟩;rw [hw'];clear hw'))
        go_ret
        exact ⟨ret_bool (by rw [HZ.out]),HB2.out⟩
     | false =>
      have HZ : Hid (okRw ⟨ver,txt,got,sus,wed,false,by_,trm⟩ n = (decide (by_ = 0) && decide (trm = []))) := by rw [Hid,HE.out];rfl
      by_cases h7 : by_ = 0
      ·have g7 : (by_ == 0) = true := by simpa using h7
       have HZ2 : Hid (okRw ⟨ver,txt,got,sus,wed,false,by_,trm⟩ n = decide (trm = [])) := by rw [Hid,HZ.out,decide_eq_true h7];rfl
       by_cases h8 : trm = []
       ·have g8 : ((trm.length : Int) == 0) = true := by rw [h8];rfl
        have HZ3 : Hid (okRw ⟨ver,txt,got,sus,wed,false,by_,trm⟩ n = true) := by rw [Hid,HZ2.out,decide_eq_true h8]
        clear h7 h8
        go_wp2
        go_ret
        exact ⟨ret_bool (by rw [HZ3.out]),HB2.out⟩
       ·have g8 : ((trm.length : Int) == 0) = false := by
         have := List.length_pos_iff.2 h8
         simp;omega
        have HZ3 : Hid (okRw ⟨ver,txt,got,sus,wed,false,by_,trm⟩ n = false) := by rw [Hid,HZ2.out,decide_eq_false h8]
        clear h7 h8
        go_wp2
        go_ret
        exact ⟨ret_bool (by rw [HZ3.out]),HB2.out⟩
      ·have g7 : (by_ == 0) = false := by simpa using h7
       have HZ3 : Hid (okRw ⟨ver,txt,got,sus,wed,false,by_,trm⟩ n = false) := by rw [Hid,HZ.out,decide_eq_false h7];rfl
       clear h7
       go_wp2
       go_ret
       exact ⟨ret_bool (by rw [HZ3.out]),HB2.out⟩
end Go.Proofs.Ytlnmdfgcpfbleaa
namespace Go.Proofs.Ytlnmdfgcpfbleaa
set_option linter.unusedVariables false
set_option linter.unusedSimpArgs false
open Go.RowKit Go.Sort
attribute [local irreducible] sv
end Go.Proofs.Ytlnmdfgcpfbleaa
namespace Go.Proofs.Ytlnmdfgcpfbleaa
set_option linter.unusedVariables false
set_option linter.unusedSimpArgs false
open Go.RowKit Go.Sort
def rwCels (r : Rw) : List Cel := [scl r.txt,icl r.got,icl r.sus,icl r.trm]
def rwVals (A : Ra) (r : Rw) : List Value := [.slice A.ta r.txt.length A.tc,.slice A.ga r.got.length A.gc,.slice A.sa r.sus.length A.sc,.slice A.ma r.trm.length A.mc]
def AnsRw (w w' : World) (e : Ending) (r : Rw) : Prop := ∃ A : Ra,e = .returned (rwV A r) ∧ NewL w w' (rwCels r) (rwVals A r)
theorem owL4 {w : World} {c1 c2 c3 c4 : Cel} {v1 v2 v3 v4 : Value} {f1 f2 f3 f4 : Fp} (h1 : Cel.ow w c1 v1 f1) (h2 : Cel.ow w c2 v2 f2) (h3 : Cel.ow w c3 v3 f3) (h4 : Cel.ow w c4 v4 f4) (d1 : ∀ b,f1 b → ¬ (f2 b ∨ f3 b ∨ f4 b)) (d2 : ∀ b,f2 b → ¬ (f3 b ∨ f4 b)) (d3 : ∀ b,f3 b → ¬ f4 b) :
  owL w [c1,c2,c3,c4] [v1,v2,v3,v4] (fun b => f1 b ∨ f2 b ∨ f3 b ∨ f4 b) :=
 ⟨v1,_,f1,fun b => f2 b ∨ f3 b ∨ f4 b,rfl,h1,⟨v2,_,f2,fun b => f3 b ∨ f4 b,rfl,h2,⟨v3,_,f3,f4,rfl,h3,⟨v4,[],f4,fun _ => False,rfl,h4,⟨rfl,fun _ h => h⟩,fun _ _ h => h,fun b => by simp⟩,d3,fun b => Iff.rfl⟩,d2,fun b => Iff.rfl⟩,d1,fun b => Iff.rfl⟩
theorem ow_none_s (w : World) : Cel.ow w (scl []) (.slice none 0 0) (fun _ => False) := ow_scl.2 ⟨none,0,none,rfl,OSo.nil _ _ plainN,fun b => by simp⟩
theorem ow_none_i (w : World) : Cel.ow w (icl []) (.slice none 0 0) (fun _ => False) := ow_icl.2 ⟨none,0,none,rfl,OSo.nil _ _ plainN,fun b => by simp⟩
theorem wrt8 (w : World) (g : Nat) {a b c d e f h i : Value} : Wrt (fun x => x = g) w ((((((((w.setCell ⟨g,0,none⟩ a).setCell ⟨g,1,none⟩ b).setCell ⟨g,2,none⟩ c).setCell ⟨g,3,none⟩ d).setCell ⟨g,4,none⟩ e).setCell ⟨g,5,none⟩ f).setCell ⟨g,6,none⟩ h).setCell ⟨g,7,none⟩ i) :=
 (((((((Wrt.set w g 0 a).trans (Wrt.set _ g 1 b) (fun _ _ h => h)).trans (Wrt.set _ g 2 c) (fun _ _ h => h)).trans (Wrt.set _ g 3 d) (fun _ _ h => h)).trans (Wrt.set _ g 4 e) (fun _ _ h => h)).trans (Wrt.set _ g 5 f) (fun _ _ h => h)).trans (Wrt.set _ g 6 h) (fun _ _ h => h)).trans (Wrt.set _ g 7 i) (fun _ _ h => h)
theorem Bx.f8 {w : World} {B : Nat} {T : TypeId} {cs : Array Value} (h : Bx w B T cs) : (w.frozen? ⟨B,0,none⟩ = false ∧ w.frozen? ⟨B,1,none⟩ = false ∧ w.frozen? ⟨B,2,none⟩ = false ∧ w.frozen? ⟨B,3,none⟩ = false) ∧ w.frozen? ⟨B,4,none⟩ = false ∧ w.frozen? ⟨B,5,none⟩ = false ∧ w.frozen? ⟨B,6,none⟩ = false ∧ w.frozen? ⟨B,7,none⟩ = false :=
 ⟨⟨h.f 0,h.f 1,h.f 2,h.f 3⟩,h.f 4,h.f 5,h.f 6,h.f 7⟩
end Go.Proofs.Ytlnmdfgcpfbleaa
namespace Go.Proofs.Ytlnmdfgcpfbleaa
set_option linter.unusedVariables false
set_option linter.unusedSimpArgs false
abbrev Vw := Int × List Int
def okVw (v : Vw) : Prop := (1 ≤ v.1 ∧ v.1 ≤ 1000000) ∧ (1 ≤ v.2.length ∧ v.2.length ≤ 8) ∧ v.2.Pairwise (· < ·) ∧ ∀ x ∈ v.2,0 ≤ x ∧ x ≤ 99
instance (v : Vw) : Decidable (okVw v) := by unfold okVw;infer_instance
theorem el_in {xs : List Int} {i : Nat} (h : i < xs.length) : el xs i ∈ xs := by simp [el,List.getD,h]
theorem el_of {xs : List Int} {x : Int} (h : x ∈ xs) : ∃ i,i < xs.length ∧ el xs i = x := by
 obtain ⟨i,hi,e⟩ := List.mem_iff_getElem.1 h
 exact ⟨i,hi,by simp [el,List.getD,hi,e]⟩
def cntL (m l : List Int) : Nat := (m.filter (fun x => decide (x ∈ l))).length
def mjP (v : Vw) (l : List Int) : Prop := okVw v ∧ v.2.length < 2 * cntL v.2 l
instance (v : Vw) (l : List Int) : Decidable (mjP v l) := by unfold mjP;infer_instance
def lftL (m gone : List Int) : List Int := m.filter (fun x => decide (x ∉ gone))
def putsL (m come : List Int) : List Int := come.foldl putL m
def aftP (v : Vw) (gone come : List Int) : Prop := okVw v ∧ mjP v (lftL v.2 gone) ∧ okVw (v.1 + 1,putsL (lftL v.2 gone) come)
instance (v : Vw) (gone come : List Int) : Decidable (aftP v gone come) := by unfold aftP;infer_instance
set_option linter.unusedVariables false
set_option linter.unusedSimpArgs false
open Go.RowKit Go.Sort
end Go.Proofs.Ytlnmdfgcpfbleaa
namespace Go.Proofs.Ytlnmdfgcpfbleaa
set_option linter.unusedVariables false
set_option linter.unusedSimpArgs false
open Go.RowKit Go.Sort
end Go.Proofs.Ytlnmdfgcpfbleaa
namespace Go.Proofs.Ytlnmdfgcpfbleaa
set_option linter.unusedVariables false
set_option linter.unusedSimpArgs false
open Go.RowKit Go.Sort
end Go.Proofs.Ytlnmdfgcpfbleaa
namespace Go.Proofs.Ytlnmdfgcpfbleaa
set_option linter.unusedVariables false
set_option linter.unusedSimpArgs false
open Go.RowKit Go.Sort
end Go.Proofs.Ytlnmdfgcpfbleaa
namespace Go.Proofs.Ytlnmdfgcpfbleaa
set_option linter.unusedVariables false
set_option linter.unusedSimpArgs false
open Go.RowKit Go.Sort
end Go.Proofs.Ytlnmdfgcpfbleaa
namespace Go.Proofs.Ytlnmdfgcpfbleaa
set_option linter.unusedVariables false
set_option linter.unusedSimpArgs false
open Go.RowKit Go.Sort
end Go.Proofs.Ytlnmdfgcpfbleaa
namespace Go.Proofs.Ytlnmdfgcpfbleaa
set_option linter.unusedVariables false
set_option linter.unusedSimpArgs false
open Go.RowKit Go.Sort
end Go.Proofs.Ytlnmdfgcpfbleaa
namespace Go.Proofs.Ytlnmdfgcpfbleaa
set_option linter.unusedVariables false
set_option linter.unusedSimpArgs false
open Go.RowKit Go.Sort
structure Bk (B : World) where
 w : World
 h : Below B.heap.size B w
theorem wp_region_bk {P : Program} {id : Nat} {Q : Exit → Act → World → Prop} {a : Act} {w : World} {l : List Oper} (hm : P.follows .mixedOrders = true) (hB : Region.lexB .any l.toArray = true)
  (h : wpQuiet P l.toArray (fun w' => ∃ p : Bk w,w' = p.w) (fun a' => ∀ w',(∃ p : Bk w,w' = p.w) → Q .normal a' w') l a) : (Code.region id l.toArray true).wp P Q a w :=
 wp_region_quiet (C := fun w' => ∃ p : Bk w,w' = p.w) hm hB ⟨⟨w.drewN 1,belowN (Below.refl _ _)⟩,rfl⟩ (by simpa using h)
theorem bk_call {P : Program} {f : FuncId} {args : Array Value} {B : World} {v : Value} (p : Bk B) (h : Calls P f args p.w fun e w' => e = .returned v ∧ Below p.w.heap.size p.w w') : Calls P f args p.w fun e w' => e = .returned v ∧ ∃ q : Bk B,w' = q.w :=
 h.mono fun e w' h => ⟨h.1,⟨w',p.h.trans (h.2.mono p.h.size)⟩,rfl⟩
end Go.Proofs.Ytlnmdfgcpfbleaa
namespace Go.Proofs.Ytlnmdfgcpfbleaa
set_option linter.unusedVariables false
set_option linter.unusedSimpArgs false
open Go.RowKit Go.Sort
end Go.Proofs.Ytlnmdfgcpfbleaa
namespace Go.Proofs.Ytlnmdfgcpfbleaa
set_option linter.unusedVariables false
set_option linter.unusedSimpArgs false
open Go.RowKit Go.Sort
end Go.Proofs.Ytlnmdfgcpfbleaa
namespace Go.Proofs.Ytlnmdfgcpfbleaa
set_option linter.unusedVariables false
set_option linter.unusedSimpArgs false
open Go.RowKit Go.Sort
theorem touch_wrt {g : Nat} {w w' : World} (h : Touch g w w') : Wrt (fun b => b = g) w w' := (Wrt.of_grown h.grown).mono (fun b _ e => by simpa using e.symm)
end Go.Proofs.Ytlnmdfgcpfbleaa
namespace Go.Proofs.Ytlnmdfgcpfbleaa
set_option linter.unusedVariables false
set_option linter.unusedSimpArgs false
open Go.RowKit Go.Sort
def I64v (x : Int) : Prop := -9223372036854775808 ≤ x ∧ x ≤ 9223372036854775807
structure VcP (w : World) (a : Option Addr) (c : Nat) (M : List Int) : Prop where
 vec : Vec w a M.length M
 le : M.length ≤ c
 mx : c ≤ maxLen
 pl : PlainA a
 nn : a = none → c = 0
theorem VcP.below {w w' : World} {a : Option Addr} {c : Nat} {M : List Int} (h : VcP w a c M) (hb : Below w.heap.size w w') : VcP w' a c M := ⟨h.vec.below hb (Nat.le_refl _),h.le,h.mx,h.pl,h.nn⟩
theorem ow_vcp {w : World} {a : Option Addr} {c : Nat} {M : List Int} {fp : Fp} (h : Cel.ow w (icl M) (.slice a M.length c) fp) (hf : Fits M) : VcP w a c M := by
 obtain ⟨a0,c0,e0,hv,h1,h2⟩ := vw_icl (Cel.ow_vw h) hf
 cases e0
 obtain ⟨a1,c1,G,e1,hs,hG⟩ := ow_icl.1 h
 cases e1
 refine ⟨hv,h1,h2,hs.plain,fun e => ?_⟩
 rcases hs with ⟨_,h,_⟩ | ⟨g,off,ha,_⟩
 ·exact h
 ·rw [ha] at e;cases e
set_option maxHeartbeats 400000 in
theorem szI14_any (a : Option Addr) (len cap : Nat) (left : Int) (w : World) (hm : len ≤ maxLen) (hl : 0 ≤ left ∧ left ≤ 1048576) :
  Calls Try.prog 86 #[.slice a len cap,.int .i64 left] w fun e w' => e = .returned (.int .i64 (if (len : Int) ≤ left then left - (len : Int) else -1)) ∧ w' = w := by
 unfold maxLen at hm
 have h1 : wrap64 (left - (len : Int)) = left - (len : Int) := by unfold wrap64;omega
 by_cases h : (len : Int) ≤ left
 ·rw [if_pos h]
  have h2 : decide (left - (len : Int) < 0) = false := by simp;omega
  go_enter Try.func86,Try.ntmps86
  go_wp2
  go_ret
  exact ⟨rfl,rfl⟩
 ·rw [if_neg h]
  have h2 : decide (left - (len : Int) < 0) = true := by simp;omega
  go_enter Try.func86,Try.ntmps86
  go_wp2
  go_ret
  exact ⟨rfl,rfl⟩
end Go.Proofs.Ytlnmdfgcpfbleaa