/-
  Texts in one: Plc Rnd Rel Rlr Rzp Frm Str Rdl Lgp Wds Stx Lgm Lgs Lga Rzs Rzo Rzf Rzn Vwp Vws Vwt Rlo Rfu Rcn Rpu Rpn Cqs Dhl Vwa Iti Vwh Rzh Rzt Rzm Rzq Mbq Rnw Mbp Fnp Mbs Mbt Mbu Mbv.
-/
import Derived.Test.YthioodpmgifomaaJaa
import Derived.Deep.LoopGhost
import Derived.Laws.IdiomStrings
import Derived.Deep.RegionHeld3
import Derived.BigQuiet
import Derived.Deep.QuietTactic
namespace Go.Proofs.Ythioodpmgifomaa
set_option linter.unusedVariables false
set_option linter.unusedSimpArgs false
open Go.RowKit Go.Sort
structure Pc (w : World) (B o : Nat) (vs : List Value) : Prop where
 cell : ∀ j,j < vs.length → w.cell? ⟨B,o + j,none⟩ = vs[j]?
 free : ∀ j,j < vs.length → w.frozen? ⟨B,o + j,none⟩ = false
 lt : B < w.heap.size
def Plc (w : World) (B o : Nat) (cs : List Cel) (fp : Fp) : Prop := ∃ vs,Pc w B o vs ∧ owL w cs vs fp ∧ ¬ fp B
structure Bcm (w w' : World) (B o : Nat) (cs : List Cel) (fp : Fp) : Prop where
 plc : ∃ fp',Plc w' B o cs fp' ∧ ∀ b,fp' b → fp b ∨ w.heap.size ≤ b
 out : ∀ j,j < o ∨ o + cs.length ≤ j → w'.cell? ⟨B,j,none⟩ = w.cell? ⟨B,j,none⟩
 frz : ∀ j,w'.frozen? ⟨B,j,none⟩ = w.frozen? ⟨B,j,none⟩
 wrt : Wrt (fun b => fp b ∨ b = B) w w'
theorem Pc.of_block {w w' : World} {B o : Nat} {vs : List Value} (h : Pc w B o vs) (e : w'.heap[B]? = w.heap[B]?) (hs : w.heap.size ≤ w'.heap.size) : Pc w' B o vs :=
 ⟨fun j hj => by rw [World.cell?_of_block (w := w) e];exact h.cell j hj,fun j hj => by rw [show w'.frozen? ⟨B,o + j,none⟩ = w.frozen? ⟨B,o + j,none⟩ from by simp only [World.frozen?,e]];exact h.free j hj,Nat.lt_of_lt_of_le h.lt hs⟩
theorem Plc.wrt {w w' : World} {B o : Nat} {cs : List Cel} {fp f : Fp} (h : Plc w B o cs fp) (hw : Wrt f w w') (hd : ∀ b,fp b ∨ b = B → ¬ f b) : Plc w' B o cs fp := by
 obtain ⟨vs,h1,h2,h3⟩ := h
 exact ⟨vs,h1.of_block (hw.block B h1.lt (hd B (.inr rfl))) hw.size,owL_wrt h2 hw (fun b hb => hd b (.inl hb)),h3⟩
theorem Plc.below {w w' : World} {B o : Nat} {cs : List Cel} {fp : Fp} (h : Plc w B o cs fp) (hb : Below w.heap.size w w') : Plc w' B o cs fp := h.wrt (f := fun _ => False) (Wrt.of_below hb) (fun _ _ h => h)
theorem Bcm.refl {w : World} {B o : Nat} {cs : List Cel} {fp : Fp} (h : Plc w B o cs fp) : Bcm w w B o cs fp := ⟨⟨fp,h,fun b hb => .inl hb⟩,fun _ _ => rfl,fun _ => rfl,Wrt.refl _ _⟩
theorem Bcm.next {w w1 : World} {B o : Nat} {cs1 : List Cel} {fp : Fp} (h : Bcm w w1 B o cs1 fp) : ∃ fp1,Plc w1 B o cs1 fp1 ∧ (∀ b,fp1 b → fp b ∨ w.heap.size ≤ b) ∧ ∀ w2 cs2,cs2.length = cs1.length → Bcm w1 w2 B o cs2 fp1 → Bcm w w2 B o cs2 fp := by
 obtain ⟨⟨fp1,h1,h2⟩,h3,h4,h5⟩ := h
 refine ⟨fp1,h1,h2,fun w2 cs2 hl k => ?_⟩
 obtain ⟨⟨fp2,k1,k2⟩,k3,k4,k5⟩ := k
 refine ⟨⟨fp2,k1,fun b hb => ?_⟩,fun j hj => (k3 j hj).trans (h3 j (by omega)),fun j => (k4 j).trans (h4 j),h5.trans k5 (fun b hb hk => ?_)⟩
 ·rcases k2 b hb with hb | hb
  ·exact h2 b hb
  ·exact .inr (Nat.le_trans h5.size hb)
 ·rcases hk with hk | hk
  ·rcases h2 b hk with hk | hk
   ·exact .inl hk
   ·omega
  ·exact .inr hk
theorem Plc.at {w : World} {B o : Nat} {cs : List Cel} {fp : Fp} (h : Plc w B o cs fp) {j : Nat} {c : Cel} (hj : cs[j]? = some c) : ∃ u f,w.cell? ⟨B,o + j,none⟩ = some u ∧ w.frozen? ⟨B,o + j,none⟩ = false ∧ Cel.ow w c u f ∧ (∀ b,f b → fp b) ∧ ¬ f B ∧
  ∀ (w1 : World) (c' : Cel) (u' : Value) (f' : Fp),Wrt f w w1 → Cel.ow w1 c' u' f' → (∀ b,f' b → f b ∨ w.heap.size ≤ b) → w1.cell? ⟨B,o + j,none⟩ = some u ∧ w1.frozen? ⟨B,o + j,none⟩ = false ∧ Bcm w (w1.setCell ⟨B,o + j,none⟩ u') B o (cs.set j c') fp ∧ (u' = u → Bcm w w1 B o (cs.set j c') fp) := by
 obtain ⟨vs,h1,h2,h3⟩ := h
 have hlen := owL_len h2
 have hjl : j < cs.length := by
  rcases Nat.lt_or_ge j cs.length with h | h
  ·exact h
  ·rw [List.getElem?_eq_none h] at hj;cases hj
 obtain ⟨u,f,hu,hc,hs,hp⟩ := owL_at h2 hj
 have hfB : ¬ f B := fun k => h3 (hs B k)
 have hB := h1.lt
 refine ⟨u,f,(h1.cell j (by omega)).trans hu,h1.free j (by omega),hc,hs,hfB,fun w1 c' u' f' hw hc' hf' => ?_⟩
 have e1 := hw.block B hB hfB
 have hP1 := h1.of_block e1 hw.size
 have hlt := owL_lt h2
 have hf'B : ¬ f' B := fun k => by rcases hf' B k with k | k;exact hfB k;omega
 have hc1 : w1.cell? ⟨B,o + j,none⟩ = some u := (hP1.cell j (by omega)).trans hu
 refine ⟨hc1,hP1.free j (by omega),⟨⟨fun b => f' b ∨ fp b ∧ ¬ f b,⟨vs.set j u',⟨fun k hk => ?_,fun k hk => ?_,by simp [World.setCell];exact hP1.lt⟩, ?_, ?_⟩, ?_⟩,fun k hk => ?_,fun k => ?_, ?_⟩,fun e => ⟨⟨fun b => f' b ∨ fp b ∧ ¬ f b,⟨vs,hP1, ?_, ?_⟩, ?_⟩,fun k hk => World.cell?_of_block e1,fun k => by simp only [World.frozen?,e1],hw.mono (fun b _ hb => .inl (hs b hb))⟩⟩
 ·by_cases ek : j = k
  ·subst ek
   rw [World.cell?_setCell_same _ _ _ hc1]
   simp at hk
   simp [hk]
  ·rw [World.cell?_setCell_other _ _ _ _ (by simp [ek]),hP1.cell k (by simpa using hk)]
   simp [ek]
 ·rw [World.frozen?_setCell];exact hP1.free k (by simpa using hk)
 ·have hw2 := Wrt.set w1 B (o + j) u'
  exact hp _ c' u' f' (Nat.le_trans hw.size hw2.size) (Cel.ow_wrt hc' hw2 (fun b hb e => hf'B (e ▸ hb))) (fun b hb hn => (hw2.block b (Nat.lt_of_lt_of_le (hlt b hb) hw.size) (fun e => h3 (e ▸ hb))).trans (hw.block b (hlt b hb) hn)) (fun b hb hb2 => by
   rcases hf' b hb with k | k
   ·exact k
   ·have := hlt b hb2;omega)
 ·rintro (k | ⟨k,_⟩)
  ·exact hf'B k
  ·exact h3 k
 ·rintro b (k | ⟨k,_⟩)
  ·exact (hf' b k).imp (hs b) id
  ·exact .inl k
 ·have hk2 := hk
  rw [List.length_set] at hk2
  rw [World.cell?_setCell_other _ _ _ _ (by simp only [ne_eq,Addr.mk.injEq,not_and];omega)]
  exact World.cell?_of_block e1
 ·rw [World.frozen?_setCell];simp only [World.frozen?,e1]
 ·exact (hw.mono (fun b _ hb => Or.inl (hs b hb))).trans (Wrt.set w1 B (o + j) u') (fun b _ hb => .inr hb)
 ·subst e
  have := hp w1 c' u' f' hw.size hc' (fun b hb hn => hw.block b (hlt b hb) hn) (fun b hb hb2 => by
   rcases hf' b hb with k | k
   ·exact k
   ·have := hlt b hb2;omega)
  have e2 : vs.set j u' = vs := by
   apply List.ext_getElem? ;intro i
   by_cases ei : j = i
   ·subst ei;rw [hu,List.getElem?_set_self (by omega)]
   ·simp [ei]
  rwa [e2] at this
 ·rintro (k | ⟨k,_⟩)
  ·exact hf'B k
  ·exact h3 k
 ·rintro b (k | ⟨k,_⟩)
  ·exact (hf' b k).imp (hs b) id
  ·exact .inl k
theorem ow_el {w : World} {s n c : Nat} {a : Option Addr} {ds : List Cel} {fp : Fp} (h : Cel.ow w (.sl s n ds) (.slice a n c) fp) {k : Nat} (hk : k < n) (hs : 0 < s) : ∃ g off f,a = some ⟨g,off,none⟩ ∧ fp g ∧ (∀ b,f b → fp b) ∧ Plc w g (off + k * s) ((ds.drop (k * s)).take s) f ∧ g < w.heap.size ∧
  ∀ (w1 : World) (es : List Cel),es.length = s → Bcm w w1 g (off + k * s) es f → ∃ fp',Cel.ow w1 (.sl s n (ds.take (k * s) ++ es ++ ds.drop (k * s + s))) (.slice a n c) fp' ∧ (∀ b,fp' b → fp b ∨ w.heap.size ≤ b) ∧ Wrt fp w w1 := by
 obtain ⟨a0,c0,us,G,f0,e0,ho,hl,hG,hf⟩ := h
 cases e0
 rcases ho with ⟨h0,_⟩ | ⟨g,off,rfl,ho,rfl⟩
 ·omega
 have hul := ho.len
 have hdl := owL_len hl
 have hks : k * s + s ≤ n * s := by
  have : (k + 1) * s ≤ n * s := Nat.mul_le_mul_right s hk
  rw [Nat.add_mul,Nat.one_mul] at this
  exact this
 have e1 : ds = ds.take (k * s) ++ ((ds.drop (k * s)).take s ++ ds.drop (k * s + s)) := by
  rw [← List.drop_drop,List.take_append_drop,List.take_append_drop]
 rw [e1] at hl
 obtain ⟨u1,u23,f1,f23,rfl,hl1,hl23,hd1,hf1⟩ := owL_split hl
 obtain ⟨u2,u3,f2,f3,rfl,hl2,hl3,hd2,hf2⟩ := owL_split hl23
 have n1 : u1.length = k * s := by rw [owL_len hl1,List.length_take];omega
 have n2 : u2.length = s := by rw [owL_len hl2,List.length_take,List.length_drop];omega
 have hfg : ∀ b,f2 b → f0 b := fun b hb => (hf1 b).2 (.inr ((hf2 b).2 (.inl hb)))
 have hgn : ¬ f0 g := fun hb => hG g rfl hb
 have hblk := ho.blk
 have hle := ho.le
 have hcs : n * s ≤ c * s := Nat.mul_le_mul_right s hle
 refine ⟨g,off,f2,rfl,(hf g).2 (.inl rfl),fun b hb => (hf b).2 (.inr (hfg b hb)),⟨u2,⟨fun j hj => ?_,fun j hj => ?_,hblk⟩,hl2,fun hb => hgn (hfg g hb)⟩,hblk,fun w1 es hes hb => ?_⟩
 ·have := ho.cell (k * s + j) (by omega)
  rw [Nat.add_assoc,this,List.getElem?_append_right (by omega),List.getElem?_append_left (by omega),n1]
  congr 1
  omega
 ·have := ho.free (k * s + j) (by omega)
  rw [Nat.add_assoc]
  exact this
 ·obtain ⟨⟨fp1,⟨vs,hv1,hv2,hv3⟩,hx⟩,hout,hfr,hw⟩ := hb
  have nv : vs.length = s := by rw [owL_len hv2,hes]
  have hlt1 := owL_lt hl1
  have hlt3 := owL_lt hl3
  have k1 : owL w1 (ds.take (k * s)) u1 f1 := owL_wrt hl1 hw (fun b hb hk => by
   rcases hk with hk | hk
   ·exact hd1 b hb ((hf2 b).2 (.inl hk))
   ·exact hgn (hk ▸ (hf1 b).2 (.inl hb)))
  have k3 : owL w1 (ds.drop (k * s + s)) u3 f3 := owL_wrt hl3 hw (fun b hb hk => by
   rcases hk with hk | hk
   ·exact hd2 b hk hb
   ·exact hgn (hk ▸ (hf1 b).2 (.inr ((hf2 b).2 (.inr hb)))))
  have k12 := owL_append k1 hv2 (fun b hb hb2 => by
   rcases hx b hb2 with hk | hk
   ·exact hd1 b hb ((hf2 b).2 (.inl hk))
   ·have := hlt1 b hb;omega)
  have k123 := owL_append k12 k3 (fun b hb hb2 => by
   rcases hb with hb | hb
   ·exact hd1 b hb ((hf2 b).2 (.inr hb2))
   ·rcases hx b hb with hk | hk
    ·exact hd2 b hk hb2
    ·have := hlt3 b hb2;omega)
  have hin : ∀ b,((f1 b ∨ fp1 b) ∨ f3 b) → f0 b ∨ w.heap.size ≤ b := by
   rintro b ((hb | hb) | hb)
   ·exact .inl ((hf1 b).2 (.inl hb))
   ·exact (hx b hb).imp (hfg b) id
   ·exact .inl ((hf1 b).2 (.inr ((hf2 b).2 (.inr hb))))
  refine ⟨fun b => some g = some b ∨ ((f1 b ∨ fp1 b) ∨ f3 b),⟨some ⟨g,off,none⟩,c,u1 ++ vs ++ u3,some g,_,rfl,.inr ⟨g,off,rfl,⟨?_,hle,ho.max,Nat.lt_of_lt_of_le hblk hw.size,fun i hi => ?_,fun i hi => ?_,fun i hi => by rw [hfr];exact ho.free i hi⟩,rfl⟩,k123,fun b hb hk => ?_,fun b => Iff.rfl⟩,fun b hb => ?_,hw.mono (fun b _ hb => ?_)⟩
  ·simp only [List.length_append] at hul ⊢;omega
  ·by_cases i1 : i < k * s
   ·rw [hout (off + i) (by omega),ho.cell i hi,List.getElem?_append_left (by omega),List.append_assoc,List.getElem?_append_left (by omega)]
   ·by_cases i2 : i < k * s + s
    ·have := hv1.cell (i - k * s) (by omega)
     rw [show off + i = off + k * s + (i - k * s) by omega,this,List.append_assoc,List.getElem?_append_right (by omega),List.getElem?_append_left (by omega),n1]
    ·rw [hout (off + i) (by omega),ho.cell i hi,List.getElem?_append_right (by omega),List.getElem?_append_right (by omega),List.append_assoc,List.getElem?_append_right (by omega),List.getElem?_append_right (by omega),n1,n2,nv]
  ·by_cases i1 : i < k * s ∨ k * s + s ≤ i
   ·rw [hout (off + i) (by omega)];exact ho.some i hi
   ·have := hv1.cell (i - k * s) (by omega)
    rw [show off + i = off + k * s + (i - k * s) by omega,this,List.getElem?_eq_getElem (by omega)]
    rfl
  ·cases hb
   rcases hin _ hk with hk | hk
   ·exact hgn hk
   ·omega
  ·rcases hb with hb | hb
   ·cases hb;exact .inl ((hf g).2 (.inl rfl))
   ·exact (hin b hb).imp (fun h => (hf b).2 (.inr h)) id
  ·rcases hb with hb | hb
   ·exact (hf b).2 (.inr (hfg b hb))
   ·exact (hf b).2 (.inl (by rw [hb]))
theorem flat_take {α : Type} {F : α → List Cel} {s : Nat} (hs : ∀ x,(F x).length = s) : ∀ {L : List α} {k : Nat} {x : α},L[k]? = some x → ((L.flatMap F).drop (k * s)).take s = F x
 | [],k,x,h => by simp at h
 | y :: L,0,x,h => by
  simp at h
  subst h
  rw [Nat.zero_mul,List.drop_zero,List.flatMap_cons,List.take_append_of_le_length (by rw [hs];exact Nat.le_refl _),List.take_of_length_le (by rw [hs];exact Nat.le_refl _)]
 | y :: L,k + 1,x,h => by
  rw [List.flatMap_cons,show (k + 1) * s = (F y).length + k * s by rw [hs,Nat.add_mul];omega,List.drop_append]
  simp only [List.getElem?_cons_succ] at h
  have := flat_take hs h
  rw [Nat.add_sub_cancel_left,List.drop_eq_nil_of_le (by omega),List.nil_append]
  exact this
theorem flat_set {α : Type} {F : α → List Cel} {s : Nat} (hs : ∀ x,(F x).length = s) : ∀ {L : List α} {k : Nat} (y : α),k < L.length → (L.flatMap F).take (k * s) ++ F y ++ (L.flatMap F).drop (k * s + s) = (L.set k y).flatMap F
 | [],k,y,h => by simp at h
 | x :: L,0,y,h => by
  rw [Nat.zero_mul,List.take_zero,List.nil_append,Nat.zero_add,List.set_cons_zero,List.flatMap_cons,List.flatMap_cons,List.drop_append,List.drop_eq_nil_of_le (by rw [hs];exact Nat.le_refl _),hs,Nat.sub_self,List.drop_zero,List.nil_append]
 | x :: L,k + 1,y,h => by
  have ih := flat_set hs (L := L) (k := k) y (by simpa using h)
  have e : (k + 1) * s = (F x).length + k * s := by rw [hs,Nat.add_mul];omega
  rw [List.set_cons_succ,List.flatMap_cons,List.flatMap_cons,← ih,e,List.take_length_add_append,show (F x).length + k * s + s = (F x).length + (k * s + s) by omega,List.drop_length_add_append]
  simp only [List.append_assoc]
def lcl {α : Type} (s : Nat) (F : α → List Cel) (L : List α) : Cel := .sl s L.length (L.flatMap F)
theorem ow_elF {α : Type} {F : α → List Cel} {s : Nat} (hF : ∀ x,(F x).length = s) (hs : 0 < s) {w : World} {a : Option Addr} {c : Nat} {L : List α} {fp : Fp} (h : Cel.ow w (lcl s F L) (.slice a L.length c) fp) {k : Nat} {x : α} (hk : L[k]? = some x) : ∃ g off f,a = some ⟨g,off,none⟩ ∧ fp g ∧ (∀ b,f b → fp b) ∧ Plc w g (off + k * s) (F x) f ∧ g < w.heap.size ∧
  ∀ (w1 : World) (y : α),Bcm w w1 g (off + k * s) (F y) f → ∃ fp',Cel.ow w1 (lcl s F (L.set k y)) (.slice a L.length c) fp' ∧ (∀ b,fp' b → fp b ∨ w.heap.size ≤ b) ∧ Wrt fp w w1 := by
 have hkl : k < L.length := by
  rcases Nat.lt_or_ge k L.length with h | h
  ·exact h
  ·rw [List.getElem?_eq_none h] at hk;cases hk
 obtain ⟨g,off,f,h1,h2,h3,h4,h5,h6⟩ := ow_el h hkl hs
 rw [flat_take hF hk] at h4
 refine ⟨g,off,f,h1,h2,h3,h4,h5,fun w1 y hb => ?_⟩
 have := h6 w1 (F y) (hF y) hb
 rw [flat_set hF y hkl] at this
 unfold lcl
 rw [List.length_set]
 exact this
end Go.Proofs.Ythioodpmgifomaa
namespace Go.Proofs.Ythioodpmgifomaa
set_option linter.unusedVariables false
set_option linter.unusedSimpArgs false
theorem inB7 {x lo hi : Int} : inB x lo hi = true ↔ lo ≤ x ∧ x ≤ hi := by simp [inB]
def bel (cs : List Int) (q : Nat) : Prop := ((q / cs.length : Nat) : Int) < el cs (q % cs.length)
def rdy (cs : List Int) (k : Nat) (b : Int) : Int := (List.range k).foldl (fun b i => min b ((cs.length : Int) * el cs i + (i : Int))) b
set_option linter.unusedVariables false
set_option linter.unusedSimpArgs false
def row (H : List (List Int)) (i : Nat) : List Int := H.getD i []
def okRow (B : Int) (h : List Int) : Prop := (∀ i,i < h.length → 0 ≤ el h i ∧ el h i ≤ B - 1) ∧ ∀ i,i < h.length - 1 → el h i < el h (i + 1)
instance (B : Int) (h : List Int) : Decidable (okRow B h) := by unfold okRow;infer_instance
def okRel (N B : Int) (H : List (List Int)) : Prop := (1 ≤ N ∧ N ≤ 12) ∧ (1 ≤ B ∧ B ≤ 12) ∧ (H.length : Int) = N ∧ ((row H 0).length : Int) = B ∧ ∀ i,i < H.length → okRow B (row H i)
instance (N B : Int) (H : List (List Int)) : Decidable (okRel N B H) := by unfold okRel;infer_instance
def putL : List Int → Int → List Int
 | [],n => [n]
 | x :: l,n => if x < n then x :: putL l n else if x = n then x :: l else n :: x :: l
theorem rises_pairwise {h : List Int} : (∀ i,i < h.length - 1 → el h i < el h (i + 1)) ↔ h.Pairwise (· < ·) := by
 rw [List.pairwise_iff_getElem]
 constructor
 ·intro hr i j hi hj hij
  have : ∀ d,∀ (hd : i + d + 1 < h.length),el h i < el h (i + d + 1) := by
   intro d
   induction d with
   | zero => intro hd;exact hr i (by omega)
   | succ d ih => intro hd;exact Int.lt_trans (ih (by omega)) (hr (i + d + 1) (by omega))
  have h2 := this (j - i - 1) (by omega)
  rw [show i + (j - i - 1) + 1 = j by omega] at h2
  simpa [el,hi,hj] using h2
 ·intro hr i hi
  have := hr i (i + 1) (by omega) (by omega) (by omega)
  simpa [el,show i < h.length by omega,show i + 1 < h.length by omega] using this
abbrev Ps := Int × Int × Int
def pat (cs : List Ps) (i : Nat) : Ps := cs.getD i (0,0,0)
def psOk (N : Int) (H : List (List Int)) (cs : List Ps) (i : Nat) : Prop :=
 (0 ≤ (pat cs i).1 ∧ (pat cs i).1 ≤ N - 1) ∧ (0 ≤ (pat cs i).2.1 ∧ (pat cs i).2.1 ≤ N - 1) ∧ (pat cs i).2.2 ∈ row H (pat cs i).1.toNat ∧ ∀ k,k < i → (pat cs k).1 ≠ (pat cs i).1 ∧ (pat cs k).2.1 ≠ (pat cs i).2.1
instance (N : Int) (H : List (List Int)) (cs : List Ps) (i : Nat) : Decidable (psOk N H cs i) := by unfold psOk;infer_instance
def turnOk (N : Int) (H : List (List Int)) (cs : List Ps) : Prop := ∀ i,i < cs.length → psOk N H cs i
instance (N : Int) (H : List (List Int)) (cs : List Ps) : Decidable (turnOk N H cs) := by unfold turnOk;infer_instance
def fullH (B : Int) (H : List (List Int)) : Prop := ∀ i,i < H.length → ((row H i).length : Int) = B
instance (B : Int) (H : List (List Int)) : Decidable (fullH B H) := by unfold fullH;infer_instance
set_option linter.unusedVariables false
set_option linter.unusedSimpArgs false
open Go.RowKit Go.Sort
def risB (xs : List Int) : Bool := decide (∀ i,i < xs.length - 1 → el xs i < el xs (i + 1))
end Go.Proofs.Ythioodpmgifomaa
namespace Go.Proofs.Ythioodpmgifomaa
set_option linter.unusedVariables false
set_option linter.unusedSimpArgs false
open Go.RowKit Go.Sort
structure Rw where
 ver : Int
 txt : List (List UInt8)
 got : List Int
 sus : List Int
 wed : Bool
 rdy : Bool
 by_ : Int
 trm : List Int
def zeroRw : Rw := ⟨0,[],[],[],false,false,0,[]⟩
def susB (l : List Int) (n : Int) : Bool := l.all (fun x => inB x 0 (n - 1)) && risB l
def smB (v : List Int) (n : Int) : Bool := okB v && (decide ((v.length : Int) = n) && v.all (fun x => decide (x ≤ 12)))
def okRw (r : Rw) (n : Int) : Bool :=
 inB n 1 5 && (inB r.ver 0 1000000 && (decide (r.txt.length ≤ 12) && (smB r.got n && (susB r.sus n && (r.txt.all (fun t => decide (t.length ≤ 20)) &&
  (if r.rdy then r.wed && (inB r.by_ 0 (n - 1) && smB r.trm n) else decide (r.by_ = 0) && decide (r.trm = [])))))))
def newRw (n : Int) : Rw := if inB n 1 5 then ⟨0,[],List.replicate n.toNat 0,[],false,false,0,[]⟩ else zeroRw
end Go.Proofs.Ythioodpmgifomaa
namespace Go.Proofs.Ythioodpmgifomaa
set_option linter.unusedVariables false
def dig (d : Nat) : UInt8 := UInt8.ofNat (48 + d)
theorem dig_val {d : Nat} (h : d < 10) : (dig d).toNat = 48 + d := by
 unfold dig
 rw [UInt8.toNat_ofNat']
 omega
def dec (n : Nat) : List UInt8 := if h : n < 10 then [dig n] else dec (n / 10) ++ [dig (n % 10)]
termination_by n
decreasing_by omega
theorem dec_small {n : Nat} (h : n < 10) : dec n = [dig n] := by unfold dec;rw [dif_pos h]
theorem dec_big {n : Nat} (h : ¬ n < 10) : dec n = dec (n / 10) ++ [dig (n % 10)] := by rw [dec,dif_neg h]
def decT (n : Nat) (s : List UInt8) : List UInt8 := if n = 0 then s else dec n ++ s
theorem decT_step {n : Nat} (s : List UInt8) : decT (n / 10) (dig (n % 10) :: s) = dec n ++ s := by
 unfold decT
 by_cases h : n < 10
 ·rw [if_pos (by omega),dec_small h,Nat.mod_eq_of_lt h];rfl
 ·rw [if_neg (by omega),dec_big h];simp
set_option linter.unusedSimpArgs false
set_option linter.unusedVariables false
open Go.RowKit Go.Sort
def sv (l : List UInt8) : ByteArray := ⟨l.toArray⟩
theorem sv_size (l : List UInt8) : (sv l).size = l.length := by simp [sv,ByteArray.size]
theorem sv_app (a b : List UInt8) : sv a ++ sv b = sv (a ++ b) := ByteArray.mk_append_mk a b
theorem one_byte (w : World) (b : UInt8) (x : Int) (hx : x = (b.toNat : Int)) : (convert 22 9 (.slice (some ⟨w.heap.size,0,none⟩) 1 1)).run Try.prog (w.alloc (.cells #[.int .u8 x] 5)) = .ok (.string (sv [b])) (w.alloc (.cells #[.int .u8 x] 5)) := by
 subst hx
 refine run_convert_bytes_back (P := Try.prog) _ 22 9 5 ⟨w.heap.size,0,none⟩ 1 [b] Try.underlying22 Try.underlying5 Try.underlying9 (fun j hj => ?_)
 have hj0 : j = 0 := by simpa using hj
 subst hj0
 have hb := heap_alloc_new w (.cells #[.int .u8 (b.toNat : Int)] 5)
 rw [add_lit0]
 simp only [World.cell?,hb]
 simp
end Go.Proofs.Ythioodpmgifomaa
namespace Go.Proofs.Ythioodpmgifomaa
set_option linter.unusedSimpArgs false
set_option linter.unusedVariables false
open Go.RowKit Go.Sort
attribute [local irreducible] sv
end Go.Proofs.Ythioodpmgifomaa
namespace Go.Proofs.Ythioodpmgifomaa
set_option linter.unusedVariables false
set_option linter.unusedSimpArgs false
abbrev Lg := Int × List (List UInt8)
def okLg (l : Lg) : Prop := (1 ≤ l.1 ∧ l.1 ≤ 1000000) ∧ l.2.length ≤ 40 ∧ ∀ i,i < l.2.length → (l.2.getD i []).length ≤ 100
instance (l : Lg) : Decidable (okLg l) := by unfold okLg;infer_instance
def addB (l : Lg) (v : Int) (s : List UInt8) : Prop := v = l.1 + (l.2.length : Int) ∧ l.2.length ≠ 40 ∧ s.length ≤ 100
instance (l : Lg) (v : Int) (s : List UInt8) : Decidable (addB l v s) := by unfold addB;infer_instance
def txtB (l : Lg) (v : Int) : Prop := l.1 ≤ v ∧ v ≤ l.1 + (l.2.length : Int) - 1
instance (l : Lg) (v : Int) : Decidable (txtB l v) := by unfold txtB;infer_instance
set_option linter.unusedSimpArgs false
set_option linter.unusedVariables false
open Go.RowKit Go.Sort
def svs (zs : List (List UInt8)) : List Value := zs.map (fun s => Value.string (sv s))
def OS (w : World) (g off n cap : Nat) (zs : List (List UInt8)) : Prop := OSl w 1 g off n cap (svs zs)
theorem OS.length {w : World} {g off n cap : Nat} {zs : List (List UInt8)} (h : OS w g off n cap zs) : zs.length = n := by have := h.len;simpa [svs] using this
theorem OS.cellAt {w : World} {g off n cap : Nat} {zs : List (List UInt8)} (h : OS w g off n cap zs) {i : Nat} (hi : i < n) : w.cell? ⟨g,off + i,none⟩ = some (.string (sv (zs.getD i []))) := by
 have hl := h.length
 rw [h.cell i (by omega)]
 simp [svs,show i < zs.length by omega]
theorem OS.below {w w' : World} {g off n cap B : Nat} {zs : List (List UInt8)} (h : OS w g off n cap zs) (hb : Below B w w') (hg : g < B) : OS w' g off n cap zs := OSl.below h hb hg
def mid (l : List UInt8) (f i : Nat) : List UInt8 := (l.drop f).take (i - f)
attribute [local irreducible] sv
end Go.Proofs.Ythioodpmgifomaa
namespace Go.Proofs.Ythioodpmgifomaa
set_option linter.unusedSimpArgs false
set_option linter.unusedVariables false
open Go.RowKit Go.Sort
theorem OS.set {w : World} {g off n cap : Nat} {zs : List (List UInt8)} (h : OS w g off n cap zs) {i : Nat} (hi : i < n) (y : List UInt8) : OS (w.setCell ⟨g,off + i,none⟩ (.string (sv y))) g off n cap (zs.set i y) := by
 have hl := h.length
 have hc := h.cellAt hi
 refine ⟨by simp [svs,hl],h.le,h.max,by simp [World.setCell];exact h.blk,fun j hj => ?_,fun j hj => ?_,fun j hj => by rw [World.frozen?_setCell];exact h.free j hj⟩
 ·by_cases e : i = j
  ·subst e
   rw [World.cell?_setCell_same _ _ _ hc]
   simp [svs,show i < zs.length by omega]
  ·rw [World.cell?_setCell_other _ _ _ _ (by simp [e]),h.cell j hj]
   simp [svs,e]
 ·by_cases e : i = j
  ·subst e
   rw [World.cell?_setCell_same _ _ _ hc];rfl
  ·rw [World.cell?_setCell_other _ _ _ _ (by simp [e])];exact h.some j hj
def mtL (k : Nat) : List UInt8 := 109 :: dec k
def mkS (zs : List (List UInt8)) (k j : Nat) : List (List UInt8) := (List.range j).map (fun i => mtL (k + i)) ++ zs.drop j
theorem mkS_zero (zs : List (List UInt8)) (k : Nat) : mkS zs k 0 = zs := by simp [mkS]
theorem mkS_step {zs : List (List UInt8)} {k j : Nat} (h : j < zs.length) : (mkS zs k j).set j (mtL (k + j)) = mkS zs k (j + 1) := by
 unfold mkS
 rw [List.set_append_right _ _ (by simp)]
 simp only [List.length_map,List.length_range,Nat.sub_self]
 rw [List.drop_eq_getElem_cons h,List.set_cons_zero,List.range_succ,List.map_append,List.append_assoc]
 rfl
def marksS (n k : Nat) : List (List UInt8) := (List.range n).map (fun i => mtL (k + i))
theorem mkS_done (zs : List (List UInt8)) (k : Nat) : mkS zs k zs.length = marksS zs.length k := by simp [mkS,marksS]
theorem marksS_get {n k i : Nat} (h : i < n) : (marksS n k).getD i [] = mtL (k + i) := by simp [marksS,h]
attribute [local irreducible] sv
set_option maxRecDepth 100000 in
set_option maxHeartbeats 1600000 in
theorem markText_any (k : Nat) (w : World) (h1 : 1 ≤ k) (hk : k ≤ 1000000000000) :
  Calls Try.prog 131 #[.int .i64 (k : Int)] w fun e w' => e = .returned (.string (sv (mtL k))) ∧ Below w.heap.size w w' := by
 have hk0 : ¬ ((k : Int) ≤ 0) := by omega
 have hk1 : decide ((k : Int) ≤ 0) = false := by simp;omega
 have hnil : (⟨#[]⟩ : ByteArray) = sv [] := by unfold sv;rfl
 have h109 : (⟨#[109]⟩ : ByteArray) = sv [109] := by unfold sv;rfl
 go_enter Try.func131,Try.ntmps131
 go_wp2
 go_loopg [0,3] (k + 1) (fun g a s wr => ∃ (m : Nat) (l : List UInt8),m ≤ k ∧ g = m + 1 ∧ a = .int .i64 m ∧ s = .string (sv l) ∧ l.length + g ≤ k + 1 ∧ dec k = decT m l ∧ Below w.heap.size w wr)
 case atStart => exact ⟨k,[],Nat.le_refl _,rfl,rfl,by rw [← hnil],by simp,by rw [decT,if_neg (by omega)];simp,Below.refl _ _⟩
 case round =>
  obtain ⟨m,l,hm,hg,rfl,rfl,hlg,hc,hb⟩ := hrel
  have HB : Hid (Below w.heap.size w wr) := hb
  have HC : Hid (dec k = decT m l) := hc
  clear hb hc hnil
  have hsz := sv_size l
  have hs109 : (⟨#[109]⟩ : ByteArray).size = 1 := rfl
  rcases Nat.eq_zero_or_pos m with h0 | hp
  ·subst h0
   have HD : Hid ((⟨#[109]⟩ : ByteArray) ++ sv l = sv (mtL k)) := by rw [Hid,h109,sv_app,mtL,HC.out,decT,if_pos rfl];rfl
   clear h109
   go_wp2
   go_ret
   exact ⟨by rw [← HD.out];rfl,HB.out⟩
  ·have HS : Hid (dec k = decT (m / 10) (dig (m % 10) :: l)) := by rw [Hid,decT_step,HC.out,decT,if_neg (by omega)]
   have e1 : Int.tmod (m : Int) 10 = (m : Int) % 10 := Int.tmod_eq_emod_of_nonneg (by omega)
   have e2 : Int.tdiv (m : Int) 10 = (m : Int) / 10 := Int.tdiv_eq_ediv_of_nonneg (by omega)
   have hd10 : (m : Int) % 10 < 10 := by omega
   have hd0 : 0 ≤ (m : Int) % 10 := by omega
   have hcv := one_byte wr (dig (m % 10)) (48 + (m : Int) % 10) (by rw [dig_val (by omega)];omega)
   have happ : sv [dig (m % 10)] ++ sv l = sv (dig (m % 10) :: l) := sv_app _ _
   have hs1 : (sv [dig (m % 10)]).size = 1 := sv_size _
   have HB' : Hid (Below w.heap.size w (wr.alloc (.cells #[.int .u8 (48 + (m : Int) % 10)] 5))) := HB.out.alloc HB.out.size _
   have hll : l.length ≤ 1000000000002 := by omega
   have e4 : ((m / 10 : Nat) : Int) = (m : Int) / 10 := by omega
   have hpi : (0 : Int) < (m : Int) := by omega
   clear h109
   go_wp2
   go_roundg (m / 10 + 1)
   case measure => omega
   case rel => exact ⟨m / 10,dig (m % 10) :: l,by omega,rfl,by rw [e4],rfl,by rw [List.length_cons];omega,HS.out,HB'.out⟩
set_option maxRecDepth 100000 in
set_option maxHeartbeats 1600000 in
theorem markS_any (g off cap k0 n : Nat) (zs : List (List UInt8)) (w : World) (ho : OS w g off n cap zs) (hk1 : 1 ≤ k0) (hk : k0 ≤ 10000000) (hn : n ≤ 10000000) :
  Calls Try.prog 89 #[.slice (some ⟨g,off,none⟩) n cap,.int .i64 (k0 : Int)] w fun e w' => e = .returned (.int .i64 ((k0 : Int) + (n : Int))) ∧ OS w' g off n cap (marksS n k0) ∧ w.grownBy w' (some g) := by
 have hzl := ho.length
 subst hzl
 have HO0 : Hid (OS w g off zs.length cap zs) := ho
 clear ho
 go_enter Try.func89,Try.ntmps89
 go_wp2
 go_loopw [1,5] (fun q i wr => ∃ j : Nat,j ≤ zs.length ∧ i = .int .i64 j ∧ q = .int .i64 ((k0 + j : Nat) : Int) ∧ OS wr g off zs.length cap (mkS zs k0 j) ∧ w.grownBy wr (some g)) (fun _ i _ => zs.length - (intOf i).toNat)
 case atStart => exact ⟨0,Nat.zero_le _,rfl,rfl,by rw [mkS_zero];exact HO0.out,grown_refl _ _⟩
 case round =>
  obtain ⟨j,hj,rfl,rfl,hown,ht⟩ := hrel
  have HO : Hid (OS wr g off zs.length cap (mkS zs k0 j)) := hown
  have HT : Hid (w.grownBy wr (some g)) := ht
  clear hown ht HO0
  by_cases hlt : j < zs.length
  ·have hM := markText_any (k0 + j) wr (by omega) (by omega)
   have j1 : (j : Int) < (zs.length : Int) := by omega
   have j0 : (0 : Int) ≤ (j : Int) := by omega
   have HST : Hid ((mkS zs k0 j).set j (mtL (k0 + j)) = mkS zs k0 (j + 1)) := mkS_step hlt
   go_wp2_with fail
   refine hM.mono ?_
   rintro e w1 ⟨rfl,hb1⟩
   have KO : Hid (OS w1 g off zs.length cap (mkS zs k0 j)) := HO.out.below hb1 HO.out.blk
   have hc := KO.out.cellAt hlt
   have hf := KO.out.free j (by have := KO.out.le;omega)
   have KO' : Hid (OS (w1.setCell ⟨g,off + j,none⟩ (.string (sv (mtL (k0 + j))))) g off zs.length cap (mkS zs k0 (j + 1))) := by rw [Hid,← HST.out];exact KO.out.set hlt _
   have KT' : Hid (w.grownBy (w1.setCell ⟨g,off + j,none⟩ (.string (sv (mtL (k0 + j))))) (some g)) := grown_set (grown_trans HT.out ⟨hb1.os,hb1.tape,hb1.output,hb1.size,fun x hx _ => hb1.block x hx⟩) (off + j) _
   clear hb1 hM
   generalize mtL (k0 + j) = MT at *
   go_wp2
   go_roundw
   case rel => exact ⟨j + 1,by omega,by go_num,by go_num,KO'.out,KT'.out⟩
   case measure => simp [intOf];omega
  ·have hjl : j = zs.length := by omega
   subst hjl
   have HD : Hid (OS wr g off zs.length cap (marksS zs.length k0)) := by rw [Hid,← mkS_done];exact HO.out
   go_wp2
   go_ret
   exact ⟨ret_int (by omega),HD.out,HT.out⟩
set_option maxRecDepth 100000 in
set_option maxHeartbeats 1600000 in
theorem heldS_any (g off cap k0 n : Nat) (w : World) (ho : OS w g off n cap (marksS n k0)) (hk1 : 1 ≤ k0) (hk : k0 ≤ 10000000) (hn : n ≤ 10000000) :
  Calls Try.prog 126 #[.slice (some ⟨g,off,none⟩) n cap,.int .i64 (k0 : Int)] w fun e w' => e = .returned (.int .i64 ((k0 : Int) + (n : Int))) ∧ Below w.heap.size w w' := by
 have HO0 : Hid (OS w g off n cap (marksS n k0)) := ho
 clear ho
 go_enter Try.func126,Try.ntmps126
 go_wp2
 go_loopw [1,5] (fun q i wr => ∃ j : Nat,j ≤ n ∧ i = .int .i64 j ∧ q = .int .i64 ((k0 + j : Nat) : Int) ∧ Below w.heap.size w wr) (fun _ i _ => n - (intOf i).toNat)
 case atStart => exact ⟨0,Nat.zero_le _,rfl,rfl,Below.refl _ _⟩
 case round =>
  obtain ⟨j,hj,rfl,rfl,hb⟩ := hrel
  have HB : Hid (Below w.heap.size w wr) := hb
  clear hb
  by_cases hlt : j < n
  ·have HO := HO0.out.below HB.out HO0.out.blk
   have hc := HO.cellAt hlt
   rw [marksS_get hlt] at hc
   have hM := fun X => markText_any (k0 + j) X (by omega) (by omega)
   have j1 : (j : Int) < (n : Int) := by omega
   have j0 : (0 : Int) ≤ (j : Int) := by omega
   generalize mtL (k0 + j) = MT at *
   have hq : ((sv MT).toList == (sv MT).toList) = true := by simp
   have hS : ∀ X,Below wr.heap.size wr X → X.cell? ⟨g,off + j,none⟩ = some (.string (sv MT)) := fun X hX => (hX.cell (World.block_lt_of_cell? _ _ hc)).trans hc
   have bd : Below wr.heap.size wr (wr.drewN 1) := belowN (Below.refl _ _)
   clear HO hc
   go_wp2_with fail
   go_region_held3 (fun X => X.cell? ⟨g,off + j,none⟩ = some (.string (sv MT)))
    (first
     | exact hS _ b1
     | exact hS _ bd)
    (first
     | (go_at_call 131;refine (hM _).mono ?_;rintro e w1 ⟨rfl,hb1⟩;have b1 : Below wr.heap.size wr w1 := bd.trans (hb1.mono bd.size)))
   have HB' : Hid (Below w.heap.size w w1) := HB.out.trans (b1.mono HB.out.size)
   clear hM hS bd b1 hb1
   go_wp2
   go_roundw
   case rel => exact ⟨j + 1,by omega,by go_num,by go_num,HB'.out⟩
   case measure => simp [intOf];omega
  ·have hjl : j = n := by omega
   subst hjl
   go_wp2
   go_ret
   exact ⟨ret_int (by omega),HB.out⟩
end Go.Proofs.Ythioodpmgifomaa
namespace Go.Proofs.Ythioodpmgifomaa
set_option linter.unusedVariables false
set_option linter.unusedSimpArgs false
open Go.RowKit Go.Sort
def TxS (w : World) (a : Option Addr) (T : List (List UInt8)) : Prop := T.length = 0 ∨ ∃ b off,a = some ⟨b,off,none⟩ ∧ ∀ i,i < T.length → w.cell? ⟨b,off + i,none⟩ = some (.string (sv (T.getD i [])))
theorem TxS.below {w w' : World} {a : Option Addr} {T : List (List UInt8)} (h : TxS w a T) (hb : Below w.heap.size w w') : TxS w' a T := by
 rcases h with h | ⟨b,off,ha,hc⟩
 ·exact .inl h
 ·exact .inr ⟨b,off,ha,fun i hi => (hb.cell (World.block_lt_of_cell? _ _ (hc i hi))).trans (hc i hi)⟩
def scl (T : List (List UInt8)) : Cel := .sl 1 T.length (pl (svs T))
theorem svs_get {T : List (List UInt8)} {i : Nat} (h : i < T.length) : (svs T)[i]? = some (.string (sv (T.getD i []))) := by simp [svs,h]
theorem ow_scl {w : World} {T : List (List UInt8)} {u : Value} {fp : Fp} : Cel.ow w (scl T) u fp ↔ ∃ a c G,u = .slice a T.length c ∧ OSo w 1 a T.length c (svs T) G ∧ ∀ b,fp b ↔ G = some b := by
 constructor
 ·rintro ⟨a,c,us,G,f,rfl,ho,hl,hn,hf⟩
  obtain ⟨rfl,h0⟩ := owL_pl.1 hl
  exact ⟨a,c,G,rfl,ho,fun b => (hf b).trans ⟨fun h => h.elim id (fun h => absurd h (h0 b)),.inl⟩⟩
 ·rintro ⟨a,c,G,rfl,ho,hf⟩
  exact ⟨a,c,_,G,fun _ => False,rfl,ho,owL_pl.2 ⟨rfl,fun _ h => h⟩,fun _ _ h => h,fun b => (hf b).trans ⟨.inl,fun h => h.elim id False.elim⟩⟩
theorem vw_scl {w : World} {T : List (List UInt8)} {u : Value} (h : Cel.vw w (scl T) u) : ∃ a c,u = .slice a T.length c ∧ TxS w a T ∧ T.length ≤ c ∧ c ≤ maxLen := by
 obtain ⟨a,c,us,rfl,h1,h2,h3,h,hl⟩ := h
 have e := vwL_pl.1 hl
 subst e
 refine ⟨a,c,rfl, ?_,h1,h2⟩
 rcases h with h | ⟨b,off,ha,hc⟩
 ·exact .inl h
 ·refine .inr ⟨b,off,ha,fun i hi => ?_⟩
  rw [hc i (by omega),svs_get hi]
theorem OSo.os {w : World} {a : Option Addr} {c : Nat} {T : List (List UInt8)} {G : Option Nat} (h : OSo w 1 a T.length c (svs T) G) : (T = [] ∧ c = 0 ∧ G = none) ∨ ∃ g off,a = some ⟨g,off,none⟩ ∧ OS w g off T.length c T ∧ G = some g := by
 rcases h with ⟨h1,h2,h3,h4,_⟩ | h
 ·exact .inl ⟨List.eq_nil_of_length_eq_zero h1,h2,h4⟩
 ·exact .inr h
def totS (T : List (List UInt8)) : Nat → Nat
 | 0 => 0
 | k + 1 => totS T k + (T.getD k []).length
attribute [local irreducible] sv
set_option maxRecDepth 100000 in
set_option maxHeartbeats 1600000 in
theorem eqSV_any (a a' : Option Addr) (cap cap' : Nat) (T : List (List UInt8)) (w : World) (hz : TxS w a T) (hy : TxS w a' T) (hm : T.length ≤ maxLen) :
  Calls Try.prog 88 #[.slice a T.length cap,.slice a' T.length cap'] w fun e w' => e = .returned (.bool true) ∧ Grew w w' := by
 unfold maxLen at hm
 have HZ : Hid (TxS w a T) := hz
 have HY : Hid (TxS w a' T) := hy
 have hne : ((T.length : Int) != (T.length : Int)) = false := by simp
 clear hz hy
 go_enter Try.func88,Try.ntmps88
 go_wp2
 clear hne
 go_loopw [5] (fun i wr => ∃ j : Nat,j ≤ T.length ∧ i = .int .i64 j ∧ ∃ q,wr = w.drewN q) (fun i _ => T.length - (intOf i).toNat)
 case atStart => exact ⟨0,Nat.zero_le _,rfl,0,rfl⟩
 case round =>
  obtain ⟨j,hj,rfl,q,rfl⟩ := hrel
  by_cases hlt : j < T.length
  ·rcases HZ.out with h0 | ⟨b,off,rfl,hc⟩
   ·omega
   rcases HY.out with h0 | ⟨b',off',rfl,hc'⟩
   ·omega
   have c1 := hc j hlt
   have c2 := hc' j hlt
   have j1 : (j : Int) < (T.length : Int) := by omega
   have j0 : (0 : Int) ≤ (j : Int) := by omega
   generalize T.getD j [] = A at *
   have hb : ((sv A).toList == (sv A).toList) = true := by simp
   clear hc hc'
   go_wp2_with fail
   go_quiet (fail)
   go_wp2
   go_roundw
   case rel => exact ⟨j + 1,by omega,by go_num,_,rfl⟩
   case measure => simp [intOf];omega
  ·have hjl : j = T.length := by omega
   subst hjl
   go_wp2
   go_ret
   exact ⟨rfl,(Grew.refl _).drewN _⟩
set_option maxHeartbeats 400000 in
theorem markS0_any (a : Option Addr) (cap : Nat) (q : Int) (w : World) : Calls Try.prog 89 #[.slice a 0 cap,.int .i64 q] w fun e w' => e = .returned (.int .i64 q) ∧ w' = w := by
 go_enter Try.func89,Try.ntmps89
 go_wp2
 go_loop [1,5] (fun x i => x = .int .i64 q ∧ i = .int .i64 0) (fun _ _ => 0)
 case atStart => exact ⟨rfl,rfl⟩
 case round =>
  obtain ⟨rfl,rfl⟩ := hrel
  go_wp2
  go_ret
  exact ⟨rfl,rfl⟩
set_option maxHeartbeats 400000 in
theorem heldS0_any (a : Option Addr) (cap : Nat) (q : Int) (w : World) : Calls Try.prog 126 #[.slice a 0 cap,.int .i64 q] w fun e w' => e = .returned (.int .i64 q) ∧ w' = w := by
 go_enter Try.func126,Try.ntmps126
 go_wp2
 go_loop [1,5] (fun x i => x = .int .i64 q ∧ i = .int .i64 0) (fun _ _ => 0)
 case atStart => exact ⟨rfl,rfl⟩
 case round =>
  obtain ⟨rfl,rfl⟩ := hrel
  go_wp2
  go_ret
  exact ⟨rfl,rfl⟩
theorem marksS_len (n k : Nat) : (marksS n k).length = n := by simp [marksS]
end Go.Proofs.Ythioodpmgifomaa
namespace Go.Proofs.Ythioodpmgifomaa
set_option linter.unusedVariables false
set_option linter.unusedSimpArgs false
open Go.RowKit Go.Sort
attribute [local irreducible] sv
end Go.Proofs.Ythioodpmgifomaa
namespace Go.Proofs.Ythioodpmgifomaa
set_option linter.unusedVariables false
set_option linter.unusedSimpArgs false
open Go.RowKit Go.Sort
def TxP (w : World) (a : Option Addr) (c : Nat) (T : List (List UInt8)) : Prop := (T = [] ∧ c = 0 ∧ PlainA a) ∨ ∃ b off,a = some ⟨b,off,none⟩ ∧ T.length ≤ c ∧ c ≤ maxLen ∧ ∀ i,i < T.length → w.cell? ⟨b,off + i,none⟩ = some (.string (sv (T.getD i [])))
theorem TxP.txs {w : World} {a : Option Addr} {c : Nat} {T : List (List UInt8)} (h : TxP w a c T) : TxS w a T := by
 rcases h with ⟨h,_⟩ | ⟨b,off,h1,h2,h3,h4⟩
 ·exact .inl (by rw [h];rfl)
 ·exact .inr ⟨b,off,h1,h4⟩
theorem TxP.below {w w' : World} {a : Option Addr} {c : Nat} {T : List (List UInt8)} (h : TxP w a c T) (hb : Below w.heap.size w w') : TxP w' a c T := by
 rcases h with h | ⟨b,off,ha,h1,h2,hc⟩
 ·exact .inl h
 ·exact .inr ⟨b,off,ha,h1,h2,fun i hi => (hb.cell (World.block_lt_of_cell? _ _ (hc i hi))).trans (hc i hi)⟩
theorem OSo.txp {w : World} {a : Option Addr} {c : Nat} {T : List (List UInt8)} {G : Option Nat} (h : OSo w 1 a T.length c (svs T) G) : TxP w a c T := by
 have hp := h.plain
 rcases h.os with ⟨h1,h2,_⟩ | ⟨g,off,h1,h2,_⟩
 ·exact .inl ⟨h1,h2,hp⟩
 ·exact .inr ⟨g,off,h1,h2.le,h2.max,fun i hi => h2.cellAt hi⟩
theorem ow_txp {w : World} {a : Option Addr} {c : Nat} {T : List (List UInt8)} {fp : Fp} (h : Cel.ow w (scl T) (.slice a T.length c) fp) : TxP w a c T := by
 obtain ⟨a',c',G,e,ho,_⟩ := ow_scl.1 h
 cases e
 exact ho.txp
attribute [local irreducible] sv
end Go.Proofs.Ythioodpmgifomaa
namespace Go.Proofs.Ythioodpmgifomaa
set_option linter.unusedVariables false
set_option linter.unusedSimpArgs false
open Go.RowKit Go.Sort
structure Ra where
 ta : Option Addr
 tc : Nat
 ga : Option Addr
 gc : Nat
 sa : Option Addr
 sc : Nat
 ma : Option Addr
 mc : Nat
def rwC (A : Ra) (r : Rw) : Array Value := #[.int .i64 r.ver,.slice A.ta r.txt.length A.tc,.slice A.ga r.got.length A.gc,.slice A.sa r.sus.length A.sc,.bool r.wed,.bool r.rdy,.int .i64 r.by_,.slice A.ma r.trm.length A.mc]
def rwV (A : Ra) (r : Rw) : Value := .agg (rwC A r)
structure RwS (w : World) (A : Ra) (r : Rw) : Prop where
 txt : TxS w A.ta r.txt
 got : Vec w A.ga r.got.length r.got
 sus : Vec w A.sa r.sus.length r.sus
 trm : Vec w A.ma r.trm.length r.trm
 mt : r.txt.length ≤ maxLen
 mg : r.got.length ≤ maxLen
 ms : r.sus.length ≤ maxLen
 mm : r.trm.length ≤ maxLen
theorem RwS.below {w w' : World} {A : Ra} {r : Rw} (h : RwS w A r) (hb : Below w.heap.size w w') : RwS w' A r := ⟨h.txt.below hb,h.got.below hb (Nat.le_refl _),h.sus.below hb (Nat.le_refl _),h.trm.below hb (Nat.le_refl _),h.mt,h.mg,h.ms,h.mm⟩
theorem Bx.r8 {w : World} {B : Nat} {T : TypeId} {x0 x1 x2 x3 x4 x5 x6 x7 : Value} (h : Bx w B T #[x0,x1,x2,x3,x4,x5,x6,x7]) : (w.cell? ⟨B,0,none⟩ = some x0 ∧ w.cell? ⟨B,1,none⟩ = some x1 ∧ w.cell? ⟨B,2,none⟩ = some x2 ∧ w.cell? ⟨B,3,none⟩ = some x3) ∧ w.cell? ⟨B,4,none⟩ = some x4 ∧ w.cell? ⟨B,5,none⟩ = some x5 ∧ w.cell? ⟨B,6,none⟩ = some x6 ∧ w.cell? ⟨B,7,none⟩ = some x7 :=
 ⟨⟨h.at 0 rfl,h.at 1 rfl,h.at 2 rfl,h.at 3 rfl⟩,h.at 4 rfl,h.at 5 rfl,h.at 6 rfl,h.at 7 rfl⟩
theorem oneA16 (w : World) (o : Obj) : Below w.heap.size w (w.alloc o) := (Below.refl _ _).alloc (Nat.le_refl _) _
end Go.Proofs.Ythioodpmgifomaa
namespace Go.Proofs.Ythioodpmgifomaa
set_option linter.unusedVariables false
set_option linter.unusedSimpArgs false
open Go.RowKit Go.Sort
theorem okRw_n {r : Rw} {n : Int} (h : inB n 1 5 = false) : okRw r n = false := by rw [okRw,h];rfl
theorem okRw_v {r : Rw} {n : Int} (h : inB r.ver 0 1000000 = false) : okRw r n = false := by rw [okRw,h];simp
theorem okRw_g {r : Rw} {n : Int} (h : smB r.got n = false) : okRw r n = false := by rw [okRw,h];simp
theorem okRw_s {r : Rw} {n : Int} (h : susB r.sus n = false) : okRw r n = false := by rw [okRw,h];simp
def endB (r : Rw) (n : Int) : Bool := if r.rdy then r.wed && (inB r.by_ 0 (n - 1) && smB r.trm n) else decide (r.by_ = 0) && decide (r.trm = [])
attribute [local irreducible] sv
end Go.Proofs.Ythioodpmgifomaa
namespace Go.Proofs.Ythioodpmgifomaa
set_option linter.unusedVariables false
set_option linter.unusedSimpArgs false
open Go.RowKit Go.Sort
attribute [local irreducible] sv
end Go.Proofs.Ythioodpmgifomaa
namespace Go.Proofs.Ythioodpmgifomaa
set_option linter.unusedVariables false
set_option linter.unusedSimpArgs false
open Go.RowKit Go.Sort
def rwCels (r : Rw) : List Cel := [scl r.txt,icl r.got,icl r.sus,icl r.trm]
def rwVals (A : Ra) (r : Rw) : List Value := [.slice A.ta r.txt.length A.tc,.slice A.ga r.got.length A.gc,.slice A.sa r.sus.length A.sc,.slice A.ma r.trm.length A.mc]
def AnsRw (w w' : World) (e : Ending) (r : Rw) : Prop := ∃ A : Ra,e = .returned (rwV A r) ∧ NewL w w' (rwCels r) (rwVals A r)
theorem owL4 {w : World} {c1 c2 c3 c4 : Cel} {v1 v2 v3 v4 : Value} {f1 f2 f3 f4 : Fp} (h1 : Cel.ow w c1 v1 f1) (h2 : Cel.ow w c2 v2 f2) (h3 : Cel.ow w c3 v3 f3) (h4 : Cel.ow w c4 v4 f4) (d1 : ∀ b,f1 b → ¬ (f2 b ∨ f3 b ∨ f4 b)) (d2 : ∀ b,f2 b → ¬ (f3 b ∨ f4 b)) (d3 : ∀ b,f3 b → ¬ f4 b) :
  owL w [c1,c2,c3,c4] [v1,v2,v3,v4] (fun b => f1 b ∨ f2 b ∨ f3 b ∨ f4 b) :=
 ⟨v1,_,f1,fun b => f2 b ∨ f3 b ∨ f4 b,rfl,h1,⟨v2,_,f2,fun b => f3 b ∨ f4 b,rfl,h2,⟨v3,_,f3,f4,rfl,h3,⟨v4,[],f4,fun _ => False,rfl,h4,⟨rfl,fun _ h => h⟩,fun _ _ h => h,fun b => by simp⟩,d3,fun b => Iff.rfl⟩,d2,fun b => Iff.rfl⟩,d1,fun b => Iff.rfl⟩
theorem ow_none_s (w : World) : Cel.ow w (scl []) (.slice none 0 0) (fun _ => False) := ow_scl.2 ⟨none,0,none,rfl,OSo.nil _ _ plainN,fun b => by simp⟩
theorem ow_none_i (w : World) : Cel.ow w (icl []) (.slice none 0 0) (fun _ => False) := ow_icl.2 ⟨none,0,none,rfl,OSo.nil _ _ plainN,fun b => by simp⟩
theorem ans_zero {w w' : World} (hb : Below w.heap.size w w') : NewL w w' (rwCels zeroRw) (rwVals ⟨none,0,none,0,none,0,none,0⟩ zeroRw) :=
 ⟨_,owL4 (ow_none_s w') (ow_none_i w') (ow_none_i w') (ow_none_i w') (fun b h => absurd h id) (fun b h => absurd h id) (fun b h => absurd h id),fun b h => by rcases h with h | h | h | h <;> exact absurd h id,hb⟩
theorem made_oi (w : World) (n : Nat) (hn : n ≤ maxLen) : OI (w.alloc (.cells (madeCells #[.int .i64 0] n) 2)) w.heap.size 0 n n (List.replicate n 0) := by
 have h := osl_made w #[.int .i64 0] 1 n 2 rfl (by omega) hn
 rw [Nat.mul_one] at h
 have e : (List.replicate n (#[Value.int .i64 0] : Array Value).toList).flatten = (List.replicate n (0 : Int)).map (Value.int .i64) := by
  rw [List.map_replicate]
  clear h hn
  induction n with
  | zero => rfl
  | succ n ih => rw [List.replicate_succ,List.replicate_succ,List.flatten_cons,ih];rfl
 rw [e] at h
 exact h
theorem wrt8 (w : World) (g : Nat) {a b c d e f h i : Value} : Wrt (fun x => x = g) w ((((((((w.setCell ⟨g,0,none⟩ a).setCell ⟨g,1,none⟩ b).setCell ⟨g,2,none⟩ c).setCell ⟨g,3,none⟩ d).setCell ⟨g,4,none⟩ e).setCell ⟨g,5,none⟩ f).setCell ⟨g,6,none⟩ h).setCell ⟨g,7,none⟩ i) :=
 (((((((Wrt.set w g 0 a).trans (Wrt.set _ g 1 b) (fun _ _ h => h)).trans (Wrt.set _ g 2 c) (fun _ _ h => h)).trans (Wrt.set _ g 3 d) (fun _ _ h => h)).trans (Wrt.set _ g 4 e) (fun _ _ h => h)).trans (Wrt.set _ g 5 f) (fun _ _ h => h)).trans (Wrt.set _ g 6 h) (fun _ _ h => h)).trans (Wrt.set _ g 7 i) (fun _ _ h => h)
theorem Bx.f8 {w : World} {B : Nat} {T : TypeId} {cs : Array Value} (h : Bx w B T cs) : (w.frozen? ⟨B,0,none⟩ = false ∧ w.frozen? ⟨B,1,none⟩ = false ∧ w.frozen? ⟨B,2,none⟩ = false ∧ w.frozen? ⟨B,3,none⟩ = false) ∧ w.frozen? ⟨B,4,none⟩ = false ∧ w.frozen? ⟨B,5,none⟩ = false ∧ w.frozen? ⟨B,6,none⟩ = false ∧ w.frozen? ⟨B,7,none⟩ = false :=
 ⟨⟨h.f 0,h.f 1,h.f 2,h.f 3⟩,h.f 4,h.f 5,h.f 6,h.f 7⟩
set_option maxRecDepth 100000 in
set_option maxHeartbeats 3200000 in
theorem nrwS_any (n : Int) (w : World) :
  Calls Try.prog 141 #[.int .i64 n] w fun e w' => AnsRw w w' e (newRw n) := by
 have hb0 := oneA16 w (.cells #[.int .i64 0,.slice none 0 0,.slice none 0 0,.slice none 0 0,.bool false,.bool false,.int .i64 0,.slice none 0 0] 51)
 have hx := Bx.new w 51 #[.int .i64 0,.slice none 0 0,.slice none 0 0,.slice none 0 0,.bool false,.bool false,.int .i64 0,.slice none 0 0]
 have HB0 : Hid (Below w.heap.size w (w.alloc (.cells #[.int .i64 0,.slice none 0 0,.slice none 0 0,.slice none 0 0,.bool false,.bool false,.int .i64 0,.slice none 0 0] 51))) := hb0
 generalize hW : w.alloc (.cells #[.int .i64 0,.slice none 0 0,.slice none 0 0,.slice none 0 0,.bool false,.bool false,.int .i64 0,.slice none 0 0] 51) = W at *
 have hlt := hx.lt
 cases e1 : inB n 1 5 with
 | false =>
  have HZ : Hid (newRw n = zeroRw) := by rw [Hid,newRw,e1];rfl
  obtain ⟨⟨c0,c1,c2,c3⟩,c4,c5,c6,c7⟩ := hx.r8
  obtain ⟨⟨f0,f1,f2,f3⟩,f4,f5,f6,f7⟩ := hx.f8
  clear hx hb0
  go_enter Try.func141,Try.ntmps141
  go_wp2_with (go_at_call 65;refine (l1In_any _ _ _ _).mono ?_;rintro e w' ⟨rfl,hw'⟩;rw [hw'];clear hw')
  refine bodyPost_ret (v := rwV ⟨none,0,none,0,none,0,none,0⟩ zeroRw) (by simp [results,Try.results141,go_sem,rwV,rwC,zeroRw, *]) rfl ?_
  rw [HZ.out]
  exact ⟨_,rfl,ans_zero ((wrt8 W w.heap.size).below HB0.out HB0.out.size (fun b h => by rw [h];exact Nat.le_refl _))⟩
 | true =>
  have hn := inB7.1 e1
  obtain ⟨N,rfl⟩ : ∃ N : Nat,n = (N : Int) := ⟨n.toNat,by omega⟩
  have HZ : Hid (newRw (N : Int) = ⟨0,[],List.replicate N 0,[],false,false,0,[]⟩) := by rw [Hid,newRw,e1];simp
  have hmk := run_make_row' (P := Try.prog) 24 2 (.int .i64 0) 8 Try.underlying24 Try.info2 rfl .i64 .i64 N (by omega) (by omega)
  have hM := made_oi (w.alloc (.cells #[.int .i64 0,.slice none 0 0,.slice (some ⟨w.heap.size + 1,0,none⟩) N N,.slice none 0 0,.bool false,.bool false,.int .i64 0,.slice none 0 0] 51)) N (by unfold maxLen;omega)
  have hbM : Below w.heap.size w ((w.alloc (.cells #[.int .i64 0,.slice none 0 0,.slice (some ⟨w.heap.size + 1,0,none⟩) N N,.slice none 0 0,.bool false,.bool false,.int .i64 0,.slice none 0 0] 51)).alloc (.cells (madeCells #[.int .i64 0] N) 2)) := (oneA16 w _).trans ((oneA16 _ _).mono (oneA16 w _).size)
  rw [World.size_alloc] at hM
  have HA : Hid (NewL w ((w.alloc (.cells #[.int .i64 0,.slice none 0 0,.slice (some ⟨w.heap.size + 1,0,none⟩) N N,.slice none 0 0,.bool false,.bool false,.int .i64 0,.slice none 0 0] 51)).alloc (.cells (madeCells #[.int .i64 0] N) 2)) (rwCels ⟨0,[],List.replicate N 0,[],false,false,0,[]⟩) (rwVals ⟨none,0,some ⟨w.heap.size + 1,0,none⟩,N,none,0,none,0⟩ ⟨0,[],List.replicate N 0,[],false,false,0,[]⟩)) := by
   refine ⟨_,owL4 (ow_none_s _) (f2 := fun b => b = w.heap.size + 1) ?_ (ow_none_i _) (ow_none_i _) (fun b h => absurd h id) (fun b _ h => by rcases h with h | h <;> exact absurd h id) (fun b h => absurd h id),fun b h => ?_,hbM⟩
   ·refine ow_icl.2 ⟨_,N,some (w.heap.size + 1),rfl,OSo.of ?_,fun b => by simp [eq_comm]⟩
    have e : (List.replicate N (0 : Int)).length = N := List.length_replicate
    simp only [e]
    exact hM
   ·rcases h with h | h | h | h
    ·exact absurd h id
    ·rw [h];omega
    ·exact absurd h id
    ·exact absurd h id
  clear hx hb0 hM hbM hW hlt HB0
  go_enter Try.func141,Try.ntmps141
  go_wp2_with (go_at_call 65;refine (l1In_any _ _ _ _).mono ?_;rintro e w' ⟨rfl,hw'⟩;rw [hw'];clear hw')
  refine bodyPost_ret (v := rwV ⟨none,0,some ⟨w.heap.size + 1,0,none⟩,N,none,0,none,0⟩ ⟨0,[],List.replicate N 0,[],false,false,0,[]⟩) (by simp [results,Try.results141,go_sem,rwV,rwC]) rfl ?_
  rw [HZ.out]
  exact ⟨_,rfl,HA.out⟩
end Go.Proofs.Ythioodpmgifomaa
namespace Go.Proofs.Ythioodpmgifomaa
set_option linter.unusedVariables false
set_option linter.unusedSimpArgs false
abbrev Vw := Int × List Int
def okVw (v : Vw) : Prop := (1 ≤ v.1 ∧ v.1 ≤ 1000000) ∧ (1 ≤ v.2.length ∧ v.2.length ≤ 8) ∧ v.2.Pairwise (· < ·) ∧ ∀ x ∈ v.2,0 ≤ x ∧ x ≤ 99
instance (v : Vw) : Decidable (okVw v) := by unfold okVw;infer_instance
theorem el_in {xs : List Int} {i : Nat} (h : i < xs.length) : el xs i ∈ xs := by simp [el,List.getD,h]
theorem el_of {xs : List Int} {x : Int} (h : x ∈ xs) : ∃ i,i < xs.length ∧ el xs i = x := by
 obtain ⟨i,hi,e⟩ := List.mem_iff_getElem.1 h
 exact ⟨i,hi,by simp [el,List.getD,hi,e]⟩
def cntL (m l : List Int) : Nat := (m.filter (fun x => decide (x ∈ l))).length
def mjP (v : Vw) (l : List Int) : Prop := okVw v ∧ v.2.length < 2 * cntL v.2 l
instance (v : Vw) (l : List Int) : Decidable (mjP v l) := by unfold mjP;infer_instance
def lftL (m gone : List Int) : List Int := m.filter (fun x => decide (x ∉ gone))
def putsL (m come : List Int) : List Int := come.foldl putL m
def aftP (v : Vw) (gone come : List Int) : Prop := okVw v ∧ mjP v (lftL v.2 gone) ∧ okVw (v.1 + 1,putsL (lftL v.2 gone) come)
instance (v : Vw) (gone come : List Int) : Decidable (aftP v gone come) := by unfold aftP;infer_instance
set_option linter.unusedVariables false
set_option linter.unusedSimpArgs false
open Go.RowKit Go.Sort
end Go.Proofs.Ythioodpmgifomaa
namespace Go.Proofs.Ythioodpmgifomaa
set_option linter.unusedVariables false
set_option linter.unusedSimpArgs false
open Go.RowKit Go.Sort
end Go.Proofs.Ythioodpmgifomaa
namespace Go.Proofs.Ythioodpmgifomaa
set_option linter.unusedVariables false
set_option linter.unusedSimpArgs false
open Go.RowKit Go.Sort
end Go.Proofs.Ythioodpmgifomaa
namespace Go.Proofs.Ythioodpmgifomaa
set_option linter.unusedVariables false
set_option linter.unusedSimpArgs false
open Go.RowKit Go.Sort
end Go.Proofs.Ythioodpmgifomaa
namespace Go.Proofs.Ythioodpmgifomaa
set_option linter.unusedVariables false
set_option linter.unusedSimpArgs false
open Go.RowKit Go.Sort
end Go.Proofs.Ythioodpmgifomaa
namespace Go.Proofs.Ythioodpmgifomaa
set_option linter.unusedVariables false
set_option linter.unusedSimpArgs false
open Go.RowKit Go.Sort
end Go.Proofs.Ythioodpmgifomaa
namespace Go.Proofs.Ythioodpmgifomaa
set_option linter.unusedVariables false
set_option linter.unusedSimpArgs false
open Go.RowKit Go.Sort
end Go.Proofs.Ythioodpmgifomaa
namespace Go.Proofs.Ythioodpmgifomaa
set_option linter.unusedVariables false
set_option linter.unusedSimpArgs false
open Go.RowKit Go.Sort
structure Bk (B : World) where
 w : World
 h : Below B.heap.size B w
theorem wp_region_bk {P : Program} {id : Nat} {Q : Exit → Act → World → Prop} {a : Act} {w : World} {l : List Oper} (hm : P.follows .mixedOrders = true) (hB : Region.lexB .any l.toArray = true)
  (h : wpQuiet P l.toArray (fun w' => ∃ p : Bk w,w' = p.w) (fun a' => ∀ w',(∃ p : Bk w,w' = p.w) → Q .normal a' w') l a) : (Code.region id l.toArray true).wp P Q a w :=
 wp_region_quiet (C := fun w' => ∃ p : Bk w,w' = p.w) hm hB ⟨⟨w.drewN 1,belowN (Below.refl _ _)⟩,rfl⟩ (by simpa using h)
theorem bk_call {P : Program} {f : FuncId} {args : Array Value} {B : World} {v : Value} (p : Bk B) (h : Calls P f args p.w fun e w' => e = .returned v ∧ Below p.w.heap.size p.w w') : Calls P f args p.w fun e w' => e = .returned v ∧ ∃ q : Bk B,w' = q.w :=
 h.mono fun e w' h => ⟨h.1,⟨w',p.h.trans (h.2.mono p.h.size)⟩,rfl⟩
end Go.Proofs.Ythioodpmgifomaa
namespace Go.Proofs.Ythioodpmgifomaa
set_option linter.unusedVariables false
set_option linter.unusedSimpArgs false
open Go.RowKit Go.Sort
end Go.Proofs.Ythioodpmgifomaa
namespace Go.Proofs.Ythioodpmgifomaa
set_option linter.unusedVariables false
set_option linter.unusedSimpArgs false
open Go.RowKit Go.Sort
end Go.Proofs.Ythioodpmgifomaa
namespace Go.Proofs.Ythioodpmgifomaa
set_option linter.unusedVariables false
set_option linter.unusedSimpArgs false
open Go.RowKit Go.Sort
theorem touch_wrt {g : Nat} {w w' : World} (h : Touch g w w') : Wrt (fun b => b = g) w w' := (Wrt.of_grown h.grown).mono (fun b _ e => by simpa using e.symm)
end Go.Proofs.Ythioodpmgifomaa
namespace Go.Proofs.Ythioodpmgifomaa
set_option linter.unusedVariables false
set_option linter.unusedSimpArgs false
open Go.RowKit Go.Sort
def I64v (x : Int) : Prop := -9223372036854775808 ≤ x ∧ x ≤ 9223372036854775807
structure VcP (w : World) (a : Option Addr) (c : Nat) (M : List Int) : Prop where
 vec : Vec w a M.length M
 le : M.length ≤ c
 mx : c ≤ maxLen
 pl : PlainA a
 nn : a = none → c = 0
theorem VcP.below {w w' : World} {a : Option Addr} {c : Nat} {M : List Int} (h : VcP w a c M) (hb : Below w.heap.size w w') : VcP w' a c M := ⟨h.vec.below hb (Nat.le_refl _),h.le,h.mx,h.pl,h.nn⟩
theorem ow_vcp {w : World} {a : Option Addr} {c : Nat} {M : List Int} {fp : Fp} (h : Cel.ow w (icl M) (.slice a M.length c) fp) (hf : Fits M) : VcP w a c M := by
 obtain ⟨a0,c0,e0,hv,h1,h2⟩ := vw_icl (Cel.ow_vw h) hf
 cases e0
 obtain ⟨a1,c1,G,e1,hs,hG⟩ := ow_icl.1 h
 cases e1
 refine ⟨hv,h1,h2,hs.plain,fun e => ?_⟩
 rcases hs with ⟨_,h,_⟩ | ⟨g,off,ha,_⟩
 ·exact h
 ·rw [ha] at e;cases e
end Go.Proofs.Ythioodpmgifomaa
namespace Go.Proofs.Ythioodpmgifomaa
set_option linter.unusedVariables false
set_option linter.unusedSimpArgs false
open Go.RowKit Go.Sort
def szRw (r : Rw) : Nat := r.txt.length + totS r.txt r.txt.length + r.got.length + r.sus.length + r.trm.length
attribute [local irreducible] sv
set_option maxRecDepth 100000 in
set_option maxHeartbeats 1600000 in
theorem eqRw_any (A B : Ra) (r : Rw) (w : World) (hv : RwS w A r) (hu : RwS w B r) :
  Calls Try.prog 37 #[rwV A r,rwV B r] w fun e w' => e = .returned (.bool true) ∧ Below w.heap.size w w' := by
 have hB0 : Grew w ((w.alloc (.cells (rwC A r) 51)).alloc (.cells (rwC B r) 51)) := ((Grew.refl _).alloc _).alloc _
 have hx : Bx ((w.alloc (.cells (rwC A r) 51)).alloc (.cells (rwC B r) 51)) w.heap.size 51 (rwC A r) := (Bx.new w _ _).alloc _
 have hy : Bx ((w.alloc (.cells (rwC A r) 51)).alloc (.cells (rwC B r) 51)) (w.heap.size + 1) 51 (rwC B r) := by
  have := Bx.new (w.alloc (.cells (rwC A r) 51)) 51 (rwC B r)
  simpa using this
 have h0 := hv.below hB0.1
 have g0 := hu.below hB0.1
 have hT := eqSV_any A.ta B.ta A.tc B.tc r.txt _ h0.txt g0.txt h0.mt
 have hE : ∀ X,Below w.heap.size w X → ∀ (x y : Option Addr) (c d : Nat) (l : List Int),Vec w x l.length l → Vec w y l.length l → l.length ≤ maxLen → Calls Try.prog 78 #[.slice x l.length c,.slice y l.length d] X fun e w' => e = .returned (.bool true) ∧ ∃ n,w' = X.drewN n := fun X h x y c d l h1 h2 h3 => (eq_any x y l.length c l.length d l l X (h1.below h (Nat.le_refl _)) (h2.below h (Nat.le_refl _)) h3).mono (fun e w' ⟨h4,h5⟩ => ⟨by rw [h4];simp,h5⟩)
 obtain ⟨ver,txt,got,sus,wed,rdy,by_,trm⟩ := r
 obtain ⟨ta,tc,ga,gc,sa,sc,ma,mc⟩ := A
 obtain ⟨ub,uc,vb,vc,xb,xc,yb,yc⟩ := B
 have HV : Hid (RwS w ⟨ta,tc,ga,gc,sa,sc,ma,mc⟩ ⟨ver,txt,got,sus,wed,rdy,by_,trm⟩) := hv
 have HU : Hid (RwS w ⟨ub,uc,vb,vc,xb,xc,yb,yc⟩ ⟨ver,txt,got,sus,wed,rdy,by_,trm⟩) := hu
 have hG := fun X h => hE X h ga vb gc vc got HV.out.got HU.out.got HV.out.mg
 have hS := fun X h => hE X h sa xb sc xc sus HV.out.sus HU.out.sus HV.out.ms
 have hM := fun X h => hE X h ma yb mc yc trm HV.out.trm HU.out.trm HV.out.mm
 have HX : Hid (∀ X,Grew ((w.alloc (.cells (rwC ⟨ta,tc,ga,gc,sa,sc,ma,mc⟩ ⟨ver,txt,got,sus,wed,rdy,by_,trm⟩) 51)).alloc (.cells (rwC ⟨ub,uc,vb,vc,xb,xc,yb,yc⟩ ⟨ver,txt,got,sus,wed,rdy,by_,trm⟩) 51)) X → Bx X w.heap.size 51 #[.int .i64 ver,.slice ta txt.length tc,.slice ga got.length gc,.slice sa sus.length sc,.bool wed,.bool rdy,.int .i64 by_,.slice ma trm.length mc] ∧ Bx X (w.heap.size + 1) 51 #[.int .i64 ver,.slice ub txt.length uc,.slice vb got.length vc,.slice xb sus.length xc,.bool wed,.bool rdy,.int .i64 by_,.slice yb trm.length yc]) := fun X h => ⟨hx.below h.1,hy.below h.1⟩
 have HG0 : Hid (Grew w ((w.alloc (.cells (rwC ⟨ta,tc,ga,gc,sa,sc,ma,mc⟩ ⟨ver,txt,got,sus,wed,rdy,by_,trm⟩) 51)).alloc (.cells (rwC ⟨ub,uc,vb,vc,xb,xc,yb,yc⟩ ⟨ver,txt,got,sus,wed,rdy,by_,trm⟩) 51))) := hB0
 have n1 : (ver != ver) = false := by simp
 have n2 : (by_ != by_) = false := by simp
 have n3 : (wed != wed) = false := by simp
 have n4 : (rdy != rdy) = false := by simp
 unfold rwV
 unfold rwC at *
 simp only at hT ⊢
 clear hv hu hx hy h0 g0 hE hB0
 go_enter Try.func37,Try.ntmps37
 go_wp2_with fail
 refine hT.mono ?_
 rintro e w1 ⟨rfl,hg1⟩
 obtain ⟨⟨c0,c1,c2,c3⟩,c4,c5,c6,c7⟩ := Bx.r8 (HX.out w1 hg1).1
 obtain ⟨⟨d0,d1,d2,d3⟩,d4,d5,d6,d7⟩ := Bx.r8 (HX.out w1 hg1).2
 have b1 : Below w.heap.size w w1 := (HG0.out.trans hg1).1
 have bN : ∀ q,Below w.heap.size w (w1.drewN q) := fun q => belowN b1
 have HB1 : Hid (Below w.heap.size w w1) := b1
 clear hT HX HG0 hg1
 go_wp2_with fail
 refine (hG _ b1).mono ?_
 rintro e w2 ⟨rfl,q2,hw2⟩
 have b2 : Below w.heap.size w w2 := by rw [hw2];exact bN _
 have k2 : ∀ x v,w1.cell? x = some v → w2.cell? x = some v := fun x v h => by rw [hw2];exact h
 have x3 := k2 _ _ c3
 have x4 := k2 _ _ c4
 have x5 := k2 _ _ c5
 have x6 := k2 _ _ c6
 have x7 := k2 _ _ c7
 have y3 := k2 _ _ d3
 have y4 := k2 _ _ d4
 have y5 := k2 _ _ d5
 have y6 := k2 _ _ d6
 have y7 := k2 _ _ d7
 clear hw2 k2 c0 c1 c2 c3 c4 c5 c6 c7 d0 d1 d2 d3 d4 d5 d6 d7 hG bN b1 HB1
 go_wp2_with fail
 refine (hS _ b2).mono ?_
 rintro e w3 ⟨rfl,q3,hw3⟩
 have b3 : Below w.heap.size w w3 := by rw [hw3];exact belowN b2
 have k3 : ∀ x v,w2.cell? x = some v → w3.cell? x = some v := fun x v h => by rw [hw3];exact h
 have z4 := k3 _ _ x4
 have z5 := k3 _ _ x5
 have z6 := k3 _ _ x6
 have z7 := k3 _ _ x7
 have u4 := k3 _ _ y4
 have u5 := k3 _ _ y5
 have u6 := k3 _ _ y6
 have u7 := k3 _ _ y7
 clear hw3 k3 x3 x4 x5 x6 x7 y3 y4 y5 y6 y7 hS b2
 go_wp2_with fail
 refine (hM _ b3).mono ?_
 rintro e w4 ⟨rfl,q4,hw4⟩
 have HB4 : Hid (Below w.heap.size w w4) := by rw [Hid,hw4];exact belowN b3
 clear hw4 hM b3 z4 z5 z6 z7 u4 u5 u6 u7
 go_wp2
 go_ret
 exact ⟨rfl,HB4.out⟩
end Go.Proofs.Ythioodpmgifomaa
namespace Go.Proofs.Ythioodpmgifomaa
set_option linter.unusedVariables false
set_option linter.unusedSimpArgs false
open Go.RowKit Go.Sort
end Go.Proofs.Ythioodpmgifomaa
namespace Go.Proofs.Ythioodpmgifomaa
set_option linter.unusedVariables false
set_option linter.unusedSimpArgs false
open Go.RowKit Go.Sort
theorem markI_ow (u : Value) (k0 : Nat) (Z : List Int) (f : Fp) (w : World) (h : Cel.ow w (icl Z) u f) (hk : k0 ≤ 10000000) (hn : Z.length ≤ 10000000) :
  Calls Try.prog 80 #[u,.int .i64 (k0 : Int)] w fun e w' => e = .returned (.int .i64 ((k0 : Int) + (Z.length : Int))) ∧ Cel.ow w' (icl (marks Z.length k0)) u f ∧ Wrt f w w' := by
 obtain ⟨a,c,G,rfl,ho,hf⟩ := ow_icl.1 h
 rcases ho.oi with ⟨rfl,rfl,rfl⟩ | ⟨g,off,rfl,ho',rfl⟩
 ·refine (mark0_any a 0 (k0 : Int) w).mono ?_
  rintro e w' ⟨rfl,rfl⟩
  exact ⟨by simp,h,Wrt.refl _ _⟩
 ·refine (markN_any g off c k0 _ (k0 : Int) Z w ho' rfl hk hn).mono ?_
  rintro e w' ⟨rfl,h1,h2⟩
  refine ⟨rfl,ow_icl.2 ⟨_,c,some g,by rw [marks_len],by rw [marks_len];exact OSo.of h1,hf⟩,(touch_wrt h2).mono (fun b _ e => (hf b).2 (by rw [e]))⟩
theorem heldI_ow (u : Value) (k0 n : Nat) (f : Fp) (w : World) (h : Cel.ow w (icl (marks n k0)) u f) (hk : k0 ≤ 10000000) (hn : n ≤ 10000000) :
  Calls Try.prog 82 #[u,.int .i64 (k0 : Int)] w fun e w' => e = .returned (.int .i64 ((k0 : Int) + (n : Int))) ∧ w' = w := by
 obtain ⟨a,c,G,rfl,ho,hf⟩ := ow_icl.1 h
 have := ho.slc
 rw [marks_len]
 exact heldC_any a c k0 n (k0 : Int) w this rfl hk hn
theorem markS_ow (u : Value) (k0 : Nat) (T : List (List UInt8)) (f : Fp) (w : World) (h : Cel.ow w (scl T) u f) (hk1 : 1 ≤ k0) (hk : k0 ≤ 10000000) (hn : T.length ≤ 10000000) :
  Calls Try.prog 89 #[u,.int .i64 (k0 : Int)] w fun e w' => e = .returned (.int .i64 ((k0 : Int) + (T.length : Int))) ∧ Cel.ow w' (scl (marksS T.length k0)) u f ∧ Wrt f w w' := by
 obtain ⟨a',c',G,rfl,ho,hf⟩ := ow_scl.1 h
 rcases ho.os with ⟨rfl,rfl,rfl⟩ | ⟨g,off,rfl,ho',rfl⟩
 ·refine (markS0_any a' 0 (k0 : Int) w).mono ?_
  rintro e w' ⟨rfl,rfl⟩
  exact ⟨by simp,h,Wrt.refl _ _⟩
 ·refine (markS_any g off c' k0 T.length T w ho' hk1 hk hn).mono ?_
  rintro e w' ⟨rfl,h3,h4⟩
  exact ⟨rfl,ow_scl.2 ⟨_,c',some g,by rw [marksS_len],by rw [marksS_len];exact OSo.of h3,hf⟩,(Wrt.of_grown h4).mono (fun b _ e => (hf b).2 e)⟩
theorem heldS_ow (u : Value) (k0 n : Nat) (f : Fp) (w : World) (h : Cel.ow w (scl (marksS n k0)) u f) (hk1 : 1 ≤ k0) (hk : k0 ≤ 10000000) (hn : n ≤ 10000000) :
  Calls Try.prog 126 #[u,.int .i64 (k0 : Int)] w fun e w' => e = .returned (.int .i64 ((k0 : Int) + (n : Int))) ∧ Below w.heap.size w w' := by
 obtain ⟨a,c,G,rfl,ho,hf⟩ := ow_scl.1 h
 rw [marksS_len]
 rcases ho.os with ⟨e0,rfl,rfl⟩ | ⟨g,off,rfl,ho',rfl⟩
 ·have : n = 0 := by have := congrArg List.length e0;rw [marksS_len] at this;simpa using this
  subst this
  exact (heldS0_any a 0 (k0 : Int) w).mono (fun e w' ⟨h1,h2⟩ => ⟨by rw [h1];simp,by rw [h2];exact Below.refl _ _⟩)
 ·rw [marksS_len] at ho'
  exact heldS_any g off c k0 n w ho' hk1 hk hn
attribute [local irreducible] sv
end Go.Proofs.Ythioodpmgifomaa
namespace Go.Proofs.Ythioodpmgifomaa
set_option linter.unusedVariables false
set_option linter.unusedSimpArgs false
open Go.RowKit Go.Sort
def Rw64 (r : Rw) : Prop := I64v r.ver ∧ I64v r.by_
structure RwP (w : World) (A : Ra) (r : Rw) : Prop where
 txt : TxP w A.ta A.tc r.txt
 got : VcP w A.ga A.gc r.got
 sus : VcP w A.sa A.sc r.sus
 trm : VcP w A.ma A.mc r.trm
 i64 : Rw64 r
 sz : szRw r ≤ 1048576
theorem RwP.below {w w' : World} {A : Ra} {r : Rw} (h : RwP w A r) (hb : Below w.heap.size w w') : RwP w' A r := ⟨h.txt.below hb,h.got.below hb,h.sus.below hb,h.trm.below hb,h.i64,h.sz⟩
theorem RwP.rws {w : World} {A : Ra} {r : Rw} (h : RwP w A r) : RwS w A r := by
 have hs := h.sz
 unfold szRw at hs
 exact ⟨h.txt.txs,h.got.vec,h.sus.vec,h.trm.vec,by unfold maxLen;omega,by unfold maxLen;omega,by unfold maxLen;omega,by unfold maxLen;omega⟩
def FitR (r : Rw) : Prop := Fits r.got ∧ Fits r.sus ∧ Fits r.trm
theorem it_parts {w : World} {A : Ra} {r : Rw} {lo hi : Nat} (h : It w (rwCels r) (rwVals A r) lo hi) : ∃ f1 f2 f3 f4,Cel.ow w (scl r.txt) (.slice A.ta r.txt.length A.tc) f1 ∧ Cel.ow w (icl r.got) (.slice A.ga r.got.length A.gc) f2 ∧ Cel.ow w (icl r.sus) (.slice A.sa r.sus.length A.sc) f3 ∧ Cel.ow w (icl r.trm) (.slice A.ma r.trm.length A.mc) f4 := by
 obtain ⟨f,h1,_⟩ := h
 obtain ⟨u1,us1,f1,g1,e1,o1,h2,_⟩ := h1
 cases e1
 obtain ⟨u2,us2,f2,g2,e2,o2,h3,_⟩ := h2
 cases e2
 obtain ⟨u3,us3,f3,g3,e3,o3,h4,_⟩ := h3
 cases e3
 obtain ⟨u4,us4,f4,g4,e4,o4,h5,_⟩ := h4
 cases e4
 exact ⟨f1,f2,f3,f4,o1,o2,o3,o4⟩
theorem it_rwp {w : World} {A : Ra} {r : Rw} {lo hi : Nat} (h : It w (rwCels r) (rwVals A r) lo hi) (hf : FitR r) (h6 : Rw64 r) (hs : szRw r ≤ 1048576) : RwP w A r := by
 obtain ⟨f1,f2,f3,f4,o1,o2,o3,o4⟩ := it_parts h
 exact ⟨ow_txp o1,ow_vcp o2 hf.1,ow_vcp o3 hf.2.1,ow_vcp o4 hf.2.2,h6,hs⟩
def ImplRowOk : Prop := ∀ (A : Ra) (r : Rw) (n : Int) (w : World),RwP w A r → I64v n → Calls Try.prog 100 #[rwV A r,.int .i64 n] w fun e w' => e = .returned (.bool (okRw r n)) ∧ Below w.heap.size w w'
def ImplNewRow : Prop := ∀ (n : Int) (w : World),I64v n → Calls Try.prog 105 #[.int .i64 n] w fun e w' => AnsRw w w' e (newRw n)
end Go.Proofs.Ythioodpmgifomaa
namespace Go.Proofs.Ythioodpmgifomaa
set_option linter.unusedVariables false
set_option linter.unusedSimpArgs false
open Go.RowKit Go.Sort
structure Nx (r r' : Rw) : Prop where
 ver : r.ver ≤ r'.ver
 txt : r.txt <+: r'.txt
 got : ∀ i,el r.got i ≤ el r'.got i
 sus : ∀ x ∈ r.sus,x ∈ r'.sus
 wed : r.wed = true → r'.wed = true ∧ r'.got = r.got ∧ r'.txt = r.txt
 rdy : r.rdy = true → r'.rdy = true ∧ r.by_ ≤ r'.by_ ∧ (r'.by_ = r.by_ → r'.trm = r.trm)
def Chain (l : List Rw) : Prop := l.Pairwise (fun new old => Nx old new)
abbrev Hs := Nat → List Rw
structure Half (n : Nat) (Q : List Nat) : Prop where
 nd : Q.Nodup
 lt : ∀ x ∈ Q,x < n
 half : n < 2 * Q.length
structure Pp where
 b : Nat
 T : List Int
 Q : List Nat
 p : Nat → Rw
 Qo : List Nat
 po : Nat → Rw
structure PpOk (n : Nat) (h : Hs) (P : Pp) (rest : List Pp) : Prop where
 bn : P.b < n
 half : Half n P.Q
 mem : ∀ j ∈ P.Q,P.p j ∈ h j
 wed : ∀ j ∈ P.Q,(P.p j).wed = true
 low : ∀ j ∈ P.Q,∀ x : Nat,x < P.b → (x : Int) ∈ (P.p j).sus
 row : ∃ r ∈ h P.b,r.rdy = true ∧ r.by_ = (P.b : Int) ∧ r.trm = P.T
 top : (∀ j ∈ P.Q,(P.p j).rdy = false) ∨ ∃ j ∈ P.Q,(P.p j).rdy = true ∧ (∀ k ∈ P.Q,(P.p k).rdy = true → (P.p k).by_ ≤ (P.p j).by_) ∧ ∃ P' ∈ rest,(P'.b : Int) = (P.p j).by_ ∧ P'.T = P.T
 oh : Half n P.Qo
 om : ∀ j ∈ P.Qo,P.po j ∈ h j
 ow : ∀ j ∈ P.Qo,(P.po j).wed = true ∧ (P.po j).rdy = false
 oT : ∀ s,s < n → (∀ j ∈ P.Qo,el P.T s ≤ el (P.po j).got s) ∧ ∃ j ∈ P.Qo,el P.T s = el (P.po j).got s
 os : ∀ i,i < n → i ∉ P.Qo → ∀ j ∈ P.Qo,(i : Int) ∈ (P.po j).sus
def LogOk (n : Nat) (h : Hs) : List Pp → Prop
 | [] => True
 | P :: rest => PpOk n h P rest ∧ LogOk n h rest
structure Story (n : Nat) (h : Hs) (log : List Pp) : Prop where
 chain : ∀ j,Chain (h j)
 acc : ∀ j,∀ r ∈ h j,r.rdy = true → ∃ r0 ∈ h j,Nx r0 r ∧ r0.rdy = true ∧ r0.by_ = r.by_ ∧ r0.by_ ∉ r0.sus
 prop : ∀ j,∀ r ∈ h j,r.rdy = true → ∃ P ∈ log,(P.b : Int) = r.by_ ∧ P.T = r.trm
 log : LogOk n h log
def Stab (n : Nat) (h : Hs) (q : Nat) : Prop := ∀ j,j < n → ∃ r ∈ h j,((q / n : Nat) : Int) < el r.got (q % n)
end Go.Proofs.Ythioodpmgifomaa
namespace Go.Proofs.Ythioodpmgifomaa
set_option linter.unusedVariables false
set_option linter.unusedSimpArgs false
def wrow (cs : List Int) (k j : Nat) : List Int := ((List.range j).filter (fun i => decide ((k : Int) < el cs i))).map (fun i : Nat => (cs.length : Int) * (k : Int) + (i : Int))
def wovs (cs : List Int) (M : Nat) : List Int := (List.range M).flatMap (fun k => wrow cs k cs.length)
theorem wovs_succ (cs : List Int) (M : Nat) : wovs cs (M + 1) = wovs cs M ++ wrow cs M cs.length := by simp [wovs,List.range_succ]
theorem mem_wrow {cs : List Int} {k j : Nat} {q : Int} : q ∈ wrow cs k j ↔ ∃ i : Nat,i < j ∧ (k : Int) < el cs i ∧ q = (cs.length : Int) * (k : Int) + (i : Int) := by
 simp only [wrow,List.mem_map,List.mem_filter,List.mem_range,decide_eq_true_eq]
 constructor
 ·rintro ⟨i,⟨h1,h2⟩,h3⟩;exact ⟨i,h1,h2,h3.symm⟩
 ·rintro ⟨i,h1,h2,h3⟩;exact ⟨i,⟨h1,h2⟩,h3.symm⟩
theorem mem_wovs {cs : List Int} {M : Nat} {q : Int} : q ∈ wovs cs M ↔ ∃ k i : Nat,k < M ∧ i < cs.length ∧ (k : Int) < el cs i ∧ q = (cs.length : Int) * (k : Int) + (i : Int) := by
 simp only [wovs,List.mem_flatMap,List.mem_range,mem_wrow]
 constructor
 ·rintro ⟨k,hk,i,h⟩;exact ⟨k,i,hk,h⟩
 ·rintro ⟨k,i,hk,h⟩;exact ⟨k,hk,i,h⟩
theorem wrow_rises (cs : List Int) (k j : Nat) : (wrow cs k j).Pairwise (· < ·) := by
 unfold wrow
 rw [List.pairwise_map]
 exact ((List.pairwise_lt_range (n := j)).filter _).imp (fun hab => by omega)
theorem wovs_rises (cs : List Int) (M : Nat) : (wovs cs M).Pairwise (· < ·) := by
 induction M with
 | zero => simp [wovs]
 | succ M ih =>
  rw [wovs_succ,List.pairwise_append]
  refine ⟨ih,wrow_rises _ _ _,fun a ha b hb => ?_⟩
  obtain ⟨k,i,hk,hi,_,rfl⟩ := mem_wovs.1 ha
  obtain ⟨i',_,_,rfl⟩ := mem_wrow.1 hb
  have h1 : (cs.length : Int) * ((k : Int) + 1) ≤ (cs.length : Int) * (M : Int) := Int.mul_le_mul_of_nonneg_left (by omega) (by omega)
  rw [Int.mul_add,Int.mul_one] at h1
  omega
set_option linter.unusedVariables false
set_option linter.unusedSimpArgs false
open Go.RowKit Go.Sort
structure Mb where
 id : Int
 n : Int
 rows : List Rw
 sung : List Int
 done : Bool
def zeroMb : Mb := ⟨0,0,[],[],false⟩
def rowN (R : List Rw) (j : Nat) : Rw := R.getD j zeroRw
def Mb.i (m : Mb) : Nat := m.id.toNat
def Mb.own (m : Mb) : Rw := rowN m.rows m.i
def okSg (m : Mb) : Bool := (List.range m.sung.length).all (fun i => inB (el m.sung i) 0 59 && (m.done || decide (el m.sung i = (i : Int))))
def okMb (m : Mb) : Bool :=
 inB m.n 1 5 && (inB m.id 0 (m.n - 1) && (decide ((m.rows.length : Int) = m.n) && (decide (m.sung.length ≤ 60) && (risB m.sung && (m.rows.all (fun r => okRw r m.n) && (okSg m &&
  (decide (el m.own.got m.i = (m.own.txt.length : Int)) && (decide (m.id ∉ m.own.sus) && (!m.done || m.own.rdy)))))))))
def newMb (id n : Int) : Mb × Bool := if inB n 1 5 = true ∧ inB id 0 (n - 1) = true then (⟨id,n,List.replicate n.toNat (newRw n),[],false⟩,true) else (zeroMb,false)
def leftN (n : Nat) (sus : List Int) : List Nat := (List.range n).filter (fun j => decide ((j : Int) ∉ sus))
end Go.Proofs.Ythioodpmgifomaa
namespace Go.Proofs.Ythioodpmgifomaa
set_option linter.unusedVariables false
set_option linter.unusedSimpArgs false
def fl (al : List Bool) (i : Nat) : Bool := al.getD i false
set_option linter.unusedVariables false
set_option linter.unusedSimpArgs false
open Go.RowKit Go.Sort
structure OkR (r : Rw) (n : Nat) : Prop where
 n5 : 1 ≤ n ∧ n ≤ 5
 ver : 0 ≤ r.ver ∧ r.ver ≤ 1000000
 tl : r.txt.length ≤ 12
 ts : ∀ t ∈ r.txt,t.length ≤ 20
 got : okB r.got = true
 gl : r.got.length = n
 g12 : ∀ x ∈ r.got,x ≤ 12
 sus : ∀ x ∈ r.sus,0 ≤ x ∧ x < (n : Int)
 ris : risB r.sus = true
 rdy : r.rdy = true → r.wed = true ∧ (0 ≤ r.by_ ∧ r.by_ < (n : Int)) ∧ okB r.trm = true ∧ r.trm.length = n ∧ ∀ x ∈ r.trm,x ≤ 12
 not : r.rdy = false → r.by_ = 0 ∧ r.trm = []
theorem smB_iff {v : List Int} {n : Nat} : smB v (n : Int) = true ↔ okB v = true ∧ v.length = n ∧ ∀ x ∈ v,x ≤ 12 := by
 simp only [smB,Bool.and_eq_true,decide_eq_true_eq,List.all_eq_true]
 constructor
 ·rintro ⟨h1,h2,h3⟩;exact ⟨h1,by omega,h3⟩
 ·rintro ⟨h1,h2,h3⟩;exact ⟨h1,by omega,h3⟩
theorem okRw_iff {r : Rw} {n : Nat} : okRw r (n : Int) = true ↔ OkR r n := by
 constructor
 ·intro h
  simp only [okRw,Bool.and_eq_true,decide_eq_true_eq,List.all_eq_true,susB] at h
  obtain ⟨h1,h2,h3,h4,⟨h5,h6⟩,h7,h8⟩ := h
  have h1 := inB7.1 h1
  have h2 := inB7.1 h2
  obtain ⟨g1,g2,g3⟩ := smB_iff.1 h4
  refine ⟨by omega,h2,h3,h7,g1,g2,g3,fun x hx => by have := inB7.1 (h5 x hx);omega,h6,fun hr => ?_,fun hr => ?_⟩
  ·rw [if_pos hr] at h8
   simp only [Bool.and_eq_true] at h8
   obtain ⟨k1,k2,k3⟩ := h8
   have k2 := inB7.1 k2
   obtain ⟨t1,t2,t3⟩ := smB_iff.1 k3
   exact ⟨k1,by omega,t1,t2,t3⟩
  ·rw [hr] at h8
   simp at h8
   exact h8
 ·intro h
  simp only [okRw,Bool.and_eq_true,decide_eq_true_eq,List.all_eq_true,susB]
  have := h.n5
  have := h.ver
  refine ⟨inB7.2 (by omega),inB7.2 (by omega),h.tl,smB_iff.2 ⟨h.got,h.gl,h.g12⟩,⟨fun x hx => inB7.2 (by have := h.sus x hx;omega),h.ris⟩,h.ts, ?_⟩
  cases hr : r.rdy with
  | true =>
   obtain ⟨k1,k2,k3,k4,k5⟩ := h.rdy hr
   rw [if_pos rfl]
   simp only [Bool.and_eq_true]
   exact ⟨k1,inB7.2 (by omega),smB_iff.2 ⟨k3,k4,k5⟩⟩
  | false =>
   obtain ⟨k1,k2⟩ := h.not hr
   simp [k1,k2]
structure MInv (n : Nat) (h : Hs) (i : Nat) (m : Mb) : Prop where
 hid : m.id = (i : Int)
 hn : m.n = (n : Int)
 lt : i < n
 len : m.rows.length = n
 head : ∃ t,h i = rowN m.rows i :: t
 view : ∀ j,j < n → rowN m.rows j ∈ h j
 ok : ∀ j,j < n → OkR (rowN m.rows j) n
 self : (i : Int) ∉ (rowN m.rows i).sus
 gle : ∀ j,j < n → el (rowN m.rows i).got j ≤ ((rowN m.rows j).txt.length : Int)
 gown : el (rowN m.rows i).got i = ((rowN m.rows i).txt.length : Int)
 song : m.done = false → m.sung.length ≤ 60 ∧ ∀ q,q < m.sung.length → el m.sung q = (q : Int) ∧ Stab n h q
 fin : m.done = true → (rowN m.rows i).rdy = true ∧ n < 2 * (leftN n (rowN m.rows i).sus).length ∧ (∀ j ∈ leftN n (rowN m.rows i).sus,∃ q ∈ h j,q.rdy = true ∧ q.by_ = (rowN m.rows i).by_ ∧ q.trm = (rowN m.rows i).trm ∧ (i : Int) ∉ q.sus) ∧ m.sung = wovs (rowN m.rows i).trm 12
theorem rowN_set {R : List Rw} {i j : Nat} {o : Rw} (hi : i < R.length) : rowN (R.set i o) j = if j = i then o else rowN R j := by
 unfold rowN
 rw [List.getD_eq_getElem?_getD,List.getD_eq_getElem?_getD,List.getElem?_set]
 by_cases e : i = j
 ·subst e;simp [hi]
 ·rw [if_neg e,if_neg (Ne.symm e)]
end Go.Proofs.Ythioodpmgifomaa
namespace Go.Proofs.Ythioodpmgifomaa
set_option linter.unusedVariables false
set_option linter.unusedSimpArgs false
open Go.RowKit Go.Sort
theorem ris_iff {xs : List Int} : risB xs = true ↔ xs.Pairwise (· < ·) := by rw [risB,decide_eq_true_iff,rises_pairwise]
theorem small_iff {v : List Int} {n : Nat} (hn : 1 ≤ n ∧ n ≤ 5) (hl : v.length = n) : (okB v = true ∧ ∀ x ∈ v,x ≤ 12) ↔ ∀ j,j < n → 0 ≤ el v j ∧ el v j ≤ 12 := by
 constructor
 ·rintro ⟨h1,h2⟩ j hj
  have := okB_el h1 (i := j) (by omega)
  exact ⟨this.1,h2 _ (el_mem (by omega))⟩
 ·intro h
  refine ⟨okB_true_of (by omega) (by omega) (fun j hj => ?_),fun x hx => ?_⟩
  ·have := h j (by omega)
   simp [inB]
   omega
  ·obtain ⟨j,hj,rfl⟩ := List.mem_iff_getElem.1 hx
   have := (h j (by omega)).2
   simpa [el,hj] using this
end Go.Proofs.Ythioodpmgifomaa
namespace Go.Proofs.Ythioodpmgifomaa
set_option linter.unusedVariables false
set_option linter.unusedSimpArgs false
open Go.RowKit Go.Sort
end Go.Proofs.Ythioodpmgifomaa
namespace Go.Proofs.Ythioodpmgifomaa
set_option linter.unusedVariables false
set_option linter.unusedSimpArgs false
open Go.RowKit Go.Sort
theorem upto_rises {s : List Int} (h : ∀ q,q < s.length → el s q = (q : Int)) : s.Pairwise (· < ·) := rises_pairwise.1 (fun i hi => by rw [h i (by omega),h (i + 1) (by omega)];omega)
end Go.Proofs.Ythioodpmgifomaa