/-
  Texts in one: Cel Cei Csp Its Sdk Dvo Rnd Rel Rlr Rzp Frm Str Rdl Lgp Wds Stx Lgm Lgs Lga Rzs Rzn Vwp.
-/
import Derived.Test.YtlnmdfgcpfbleaaJaa
import Derived.Lib.AppendZeros
import Derived.Deep.LoopGhost
import Derived.Laws.IdiomStrings
import Derived.Deep.RegionHeld3
import Derived.BigQuiet
namespace Go.Proofs.Ytlnmdfgcpfbleaa
set_option linter.unusedVariables false
set_option linter.unusedSimpArgs false
open Go.RowKit Go.Sort
inductive Cel where
 | v (x : Value)
 | sl (s n : Nat) (cs : List Cel)
abbrev Fp := Nat → Prop
mutual
def Cel.ow (w : World) : Cel → Value → Fp → Prop
 | .v x,u,fp => u = x ∧ ∀ b,¬ fp b
 | .sl s n cs,u,fp => ∃ a c us G f,u = .slice a n c ∧ OSo w s a n c us G ∧ owL w cs us f ∧ (∀ b,G = some b → ¬ f b) ∧ ∀ b,fp b ↔ G = some b ∨ f b
def owL (w : World) : List Cel → List Value → Fp → Prop
 | [],us,fp => us = [] ∧ ∀ b,¬ fp b
 | c :: cs,us,fp => ∃ u us' f1 f2,us = u :: us' ∧ Cel.ow w c u f1 ∧ owL w cs us' f2 ∧ (∀ b,f1 b → ¬ f2 b) ∧ ∀ b,fp b ↔ f1 b ∨ f2 b
end
mutual
def Cel.vw (w : World) : Cel → Value → Prop
 | .v x,u => u = x
 | .sl s n cs,u => ∃ a c us,u = .slice a n c ∧ n ≤ c ∧ c ≤ maxLen ∧ us.length = n * s ∧ (n = 0 ∨
   ∃ b off,a = some ⟨b,off,none⟩ ∧ ∀ j,j < n * s → w.cell? ⟨b,off + j,none⟩ = us[j]?) ∧ vwL w cs us
def vwL (w : World) : List Cel → List Value → Prop
 | [],us => us = []
 | c :: cs,us => ∃ u us',us = u :: us' ∧ Cel.vw w c u ∧ vwL w cs us'
end
mutual
theorem Cel.ow_frame {w w' : World} (hs : w.heap.size ≤ w'.heap.size) : ∀ {c : Cel} {u : Value} {fp : Fp},Cel.ow w c u fp → (∀ b,fp b → w'.heap[b]? = w.heap[b]?) → Cel.ow w' c u fp
 | .v x,u,fp,h,_ => h
 | .sl s n cs,u,fp,h,e => by
  obtain ⟨a,c,us,G,f,rfl,ho,hl,hn,hf⟩ := h
  exact ⟨a,c,us,G,f,rfl,ho.frame hs (fun g hg => e g ((hf g).2 (.inl hg))),owL_frame hs hl (fun b hb => e b ((hf b).2 (.inr hb))),hn,hf⟩
theorem owL_frame {w w' : World} (hs : w.heap.size ≤ w'.heap.size) : ∀ {cs : List Cel} {us : List Value} {fp : Fp},owL w cs us fp → (∀ b,fp b → w'.heap[b]? = w.heap[b]?) → owL w' cs us fp
 | [],us,fp,h,_ => h
 | c :: cs,us,fp,h,e => by
  obtain ⟨u,us',f1,f2,rfl,h1,h2,hd,hf⟩ := h
  exact ⟨u,us',f1,f2,rfl,Cel.ow_frame hs h1 (fun b hb => e b ((hf b).2 (.inl hb))),owL_frame hs h2 (fun b hb => e b ((hf b).2 (.inr hb))),hd,hf⟩
end
mutual
theorem Cel.ow_lt {w : World} : ∀ {c : Cel} {u : Value} {fp : Fp},Cel.ow w c u fp → ∀ b,fp b → b < w.heap.size
 | .v x,u,fp,h => fun b hb => absurd hb (h.2 b)
 | .sl s n cs,u,fp,h => fun b hb => by
  obtain ⟨a,c,us,G,f,rfl,ho,hl,hn,hf⟩ := h
  rcases (hf b).1 hb with hb | hb
  ·exact ho.lt hb
  ·exact owL_lt hl b hb
theorem owL_lt {w : World} : ∀ {cs : List Cel} {us : List Value} {fp : Fp},owL w cs us fp → ∀ b,fp b → b < w.heap.size
 | [],us,fp,h => fun b hb => absurd hb (h.2 b)
 | c :: cs,us,fp,h => fun b hb => by
  obtain ⟨u,us',f1,f2,rfl,h1,h2,hd,hf⟩ := h
  rcases (hf b).1 hb with hb | hb
  ·exact Cel.ow_lt h1 b hb
  ·exact owL_lt h2 b hb
end
mutual
theorem Cel.ow_vw {w : World} : ∀ {c : Cel} {u : Value} {fp : Fp},Cel.ow w c u fp → Cel.vw w c u
 | .v x,u,fp,h => h.1
 | .sl s n cs,u,fp,h => by
  obtain ⟨a,c,us,G,f,rfl,ho,hl,hn,hf⟩ := h
  refine ⟨a,c,us,rfl,ho.le.1,ho.le.2,ho.len, ?_,owL_vw hl⟩
  rcases Nat.eq_zero_or_pos n with h0 | h0
  ·exact .inl h0
  ·obtain ⟨g,off,ha,_,hc,_⟩ := ho.cell h0
   exact .inr ⟨g,off,ha,hc⟩
theorem owL_vw {w : World} : ∀ {cs : List Cel} {us : List Value} {fp : Fp},owL w cs us fp → vwL w cs us
 | [],us,fp,h => h.1
 | c :: cs,us,fp,h => by
  obtain ⟨u,us',f1,f2,rfl,h1,h2,hd,hf⟩ := h
  exact ⟨u,us',rfl,Cel.ow_vw h1,owL_vw h2⟩
end
theorem Cel.ow_below {w w' : World} {c : Cel} {u : Value} {fp : Fp} (h : Cel.ow w c u fp) (hb : Below w.heap.size w w') : Cel.ow w' c u fp := Cel.ow_frame hb.size h (fun b hf => hb.block b (Cel.ow_lt h b hf))
theorem owL_below {w w' : World} {cs : List Cel} {us : List Value} {fp : Fp} (h : owL w cs us fp) (hb : Below w.heap.size w w') : owL w' cs us fp := owL_frame hb.size h (fun b hf => hb.block b (owL_lt h b hf))
theorem Cel.ow_congr {w : World} : ∀ {c : Cel} {u : Value} {f g : Fp},Cel.ow w c u f → (∀ b,g b ↔ f b) → Cel.ow w c u g
 | .v x,u,f,g,h,e => ⟨h.1,fun b hb => h.2 b ((e b).1 hb)⟩
 | .sl s n cs,u,f,g,h,e => by
  obtain ⟨a,c,us,G,f',rfl,ho,hl,hn,hf⟩ := h
  exact ⟨a,c,us,G,f',rfl,ho,hl,hn,fun b => (e b).trans (hf b)⟩
theorem owL_congr {w : World} : ∀ {cs : List Cel} {us : List Value} {f g : Fp},owL w cs us f → (∀ b,g b ↔ f b) → owL w cs us g
 | [],us,f,g,h,e => ⟨h.1,fun b hb => h.2 b ((e b).1 hb)⟩
 | c :: cs,us,f,g,h,e => by
  obtain ⟨u,us',f1,f2,rfl,h1,h2,hd,hf⟩ := h
  exact ⟨u,us',f1,f2,rfl,h1,h2,hd,fun b => (e b).trans (hf b)⟩
theorem owL_at {w : World} : ∀ {cs : List Cel} {us : List Value} {fp : Fp},owL w cs us fp → ∀ {j : Nat} {c : Cel},cs[j]? = some c →
  ∃ u f,us[j]? = some u ∧ Cel.ow w c u f ∧ (∀ b,f b → fp b) ∧
   ∀ (w' : World) (c' : Cel) (u' : Value) (f' : Fp),w.heap.size ≤ w'.heap.size → Cel.ow w' c' u' f' → (∀ b,fp b → ¬ f b → w'.heap[b]? = w.heap[b]?) → (∀ b,f' b → fp b → f b) →
    owL w' (cs.set j c') (us.set j u') (fun b => f' b ∨ fp b ∧ ¬ f b)
 | [],us,fp,h,j,c,hj => by simp at hj
 | c0 :: cs,us,fp,h,0,c,hj => by
  obtain ⟨u,us',f1,f2,rfl,h1,h2,hd,hf⟩ := h
  simp at hj
  subst hj
  refine ⟨u,f1,by simp,h1,fun b hb => (hf b).2 (.inl hb),fun w' c' u' f' hs hc' he hd' => ?_⟩
  refine ⟨u',us',f',f2,by simp,hc',owL_frame hs h2 (fun b hb => he b ((hf b).2 (.inr hb)) (fun h => hd b h hb)),fun b hb hb2 => hd b (hd' b hb ((hf b).2 (.inr hb2))) hb2,fun b => ?_⟩
  constructor
  ·rintro (h | ⟨h,hn⟩)
   ·exact .inl h
   ·rcases (hf b).1 h with h | h
    ·exact absurd h hn
    ·exact .inr h
  ·rintro (h | h)
   ·exact .inl h
   ·exact .inr ⟨(hf b).2 (.inr h),fun h1 => hd b h1 h⟩
 | c0 :: cs,us,fp,h,j + 1,c,hj => by
  obtain ⟨u0,us',f1,f2,rfl,h1,h2,hd,hf⟩ := h
  obtain ⟨u,f,hu,hc,hsub,hput⟩ := owL_at h2 (j := j) (c := c) (by simpa using hj)
  refine ⟨u,f,by simpa using hu,hc,fun b hb => (hf b).2 (.inr (hsub b hb)),fun w' c' u' f' hs hc' he hd' => ?_⟩
  have hk := hput w' c' u' f' hs hc' (fun b hb hn => he b ((hf b).2 (.inr hb)) hn) (fun b hb hb2 => hd' b hb ((hf b).2 (.inr hb2)))
  refine ⟨u0,us'.set j u',f1,_,by simp,Cel.ow_frame hs h1 (fun b hb => he b ((hf b).2 (.inl hb)) (fun h => hd b hb (hsub b h))),hk,fun b hb hb2 => ?_,fun b => ?_⟩
  ·rcases hb2 with hb2 | ⟨hb2,_⟩
   ·exact hd b hb (hsub b (hd' b hb2 ((hf b).2 (.inl hb))))
   ·exact hd b hb hb2
  ·constructor
   ·rintro (h | ⟨h,hn⟩)
    ·exact .inr (.inl h)
    ·rcases (hf b).1 h with h | h
     ·exact .inl h
     ·exact .inr (.inr ⟨h,hn⟩)
   ·rintro (h | h | ⟨h,hn⟩)
    ·exact .inr ⟨(hf b).2 (.inl h),fun h' => hd b h (hsub b h')⟩
    ·exact .inl h
    ·exact .inr ⟨(hf b).2 (.inr h),hn⟩
theorem owL_append {w : World} : ∀ {cs ds : List Cel} {us vs : List Value} {f g : Fp},owL w cs us f → owL w ds vs g → (∀ b,f b → ¬ g b) → owL w (cs ++ ds) (us ++ vs) (fun b => f b ∨ g b)
 | [],ds,us,vs,f,g,h,k,hd => by
  rw [h.1]
  exact owL_congr k (fun b => ⟨fun hb => hb.elim (fun hb => absurd hb (h.2 b)) id,.inr⟩)
 | c :: cs,ds,us,vs,f,g,h,k,hd => by
  obtain ⟨u,us',f1,f2,rfl,h1,h2,hd1,hf⟩ := h
  refine ⟨u,us' ++ vs,f1,_,rfl,h1,owL_append h2 k (fun b hb => hd b ((hf b).2 (.inr hb))),fun b hb hb2 => ?_,fun b => ?_⟩
  ·rcases hb2 with hb2 | hb2
   ·exact hd1 b hb hb2
   ·exact hd b ((hf b).2 (.inl hb)) hb2
  ·show f b ∨ g b ↔ _
   rw [hf b]
   constructor
   ·rintro ((h | h) | h)
    ·exact .inl h
    ·exact .inr (.inl h)
    ·exact .inr (.inr h)
   ·rintro (h | h | h)
    ·exact .inl (.inl h)
    ·exact .inl (.inr h)
    ·exact .inr h
end Go.Proofs.Ytlnmdfgcpfbleaa
namespace Go.Proofs.Ytlnmdfgcpfbleaa
set_option linter.unusedVariables false
set_option linter.unusedSimpArgs false
open Go.RowKit Go.Sort
structure Wrt (f : Fp) (w w' : World) : Prop where
 os : w'.os = w.os
 tape : w'.tape = w.tape
 output : w'.output = w.output
 size : w.heap.size ≤ w'.heap.size
 block : ∀ b,b < w.heap.size → ¬ f b → w'.heap[b]? = w.heap[b]?
theorem Wrt.mono {f g : Fp} {w w' : World} (h : Wrt f w w') (hs : ∀ b,b < w.heap.size → f b → g b) : Wrt g w w' := ⟨h.os,h.tape,h.output,h.size,fun b hb hn => h.block b hb (fun hf => hn (hs b hb hf))⟩
theorem Wrt.trans {f g : Fp} {w w1 w2 : World} (h : Wrt f w w1) (k : Wrt g w1 w2) (hs : ∀ b,b < w.heap.size → g b → f b) : Wrt f w w2 :=
 ⟨k.os.trans h.os,k.tape.trans h.tape,k.output.trans h.output,Nat.le_trans h.size k.size,fun b hb hn => (k.block b (Nat.lt_of_lt_of_le hb h.size) (fun hg => hn (hs b hb hg))).trans (h.block b hb hn)⟩
theorem Wrt.below {f : Fp} {w w' v : World} {B : Nat} (h : Wrt f w w') (hv : Below B v w) (hB : B ≤ w.heap.size) (hf : ∀ b,f b → B ≤ b) : Below B v w' :=
 ⟨h.os.trans hv.os,h.tape.trans hv.tape,h.output.trans hv.output,Nat.le_trans hv.size h.size,fun b hb => (h.block b (by omega) (fun k => by have := hf b k;omega)).trans (hv.block b hb)⟩
theorem Wrt.of_grown {w w' : World} {G : Option Nat} (h : w.grownBy w' G) : Wrt (fun b => G = some b) w w' := ⟨h.os,h.tape,h.output,h.size,fun b hb hn => h.block b hb (fun e => hn e.symm)⟩
theorem Wrt.set (w : World) (g o : Nat) (v : Value) : Wrt (fun b => b = g) w (w.setCell ⟨g,o,none⟩ v) := (Wrt.of_grown (grown_set (grown_refl w (some g)) o v)).mono (fun b _ h => by simpa using h.symm)
theorem Cel.ow_wrt {w w' : World} {c : Cel} {u : Value} {fp f : Fp} (h : Cel.ow w c u fp) (hw : Wrt f w w') (hd : ∀ b,fp b → ¬ f b) : Cel.ow w' c u fp := Cel.ow_frame hw.size h (fun b hb => hw.block b (Cel.ow_lt h b hb) (hd b hb))
theorem owL_wrt {w w' : World} {cs : List Cel} {us : List Value} {fp f : Fp} (h : owL w cs us fp) (hw : Wrt f w w') (hd : ∀ b,fp b → ¬ f b) : owL w' cs us fp := owL_frame hw.size h (fun b hb => hw.block b (owL_lt h b hb) (hd b hb))
def pl (vs : List Value) : List Cel := vs.map Cel.v
theorem owL_pl {w : World} : ∀ {vs us : List Value} {fp : Fp},owL w (pl vs) us fp ↔ us = vs ∧ ∀ b,¬ fp b
 | [],us,fp => Iff.rfl
 | v :: vs,us,fp => by
  constructor
  ·rintro ⟨u,us',f1,f2,rfl,⟨rfl,h1⟩,h2,hd,hf⟩
   have h3 := owL_pl.1 h2
   exact ⟨by rw [h3.1],fun b hb => ((hf b).1 hb).elim (h1 b) (h3.2 b)⟩
  ·rintro ⟨rfl,h⟩
   exact ⟨v,vs,fp,fp,rfl,⟨rfl,h⟩,owL_pl.2 ⟨rfl,h⟩,fun b hb => absurd hb (h b),fun b => ⟨.inl,fun h => h.elim id id⟩⟩
theorem vwL_pl {w : World} : ∀ {vs us : List Value},vwL w (pl vs) us ↔ us = vs
 | [],us => Iff.rfl
 | v :: vs,us => by
  constructor
  ·rintro ⟨u,us',rfl,rfl,h2⟩
   rw [vwL_pl.1 h2]
  ·rintro rfl
   exact ⟨v,vs,rfl,rfl,vwL_pl.2 rfl⟩
def icl (xs : List Int) : Cel := .sl 1 xs.length (pl (xs.map (Value.int .i64)))
theorem ow_icl {w : World} {xs : List Int} {u : Value} {fp : Fp} : Cel.ow w (icl xs) u fp ↔ ∃ a c G,u = .slice a xs.length c ∧ OSo w 1 a xs.length c (xs.map (Value.int .i64)) G ∧ ∀ b,fp b ↔ G = some b := by
 constructor
 ·rintro ⟨a,c,us,G,f,rfl,ho,hl,hn,hf⟩
  obtain ⟨rfl,h0⟩ := owL_pl.1 hl
  exact ⟨a,c,G,rfl,ho,fun b => (hf b).trans ⟨fun h => h.elim id (fun h => absurd h (h0 b)),.inl⟩⟩
 ·rintro ⟨a,c,G,rfl,ho,hf⟩
  exact ⟨a,c,_,G,fun _ => False,rfl,ho,owL_pl.2 ⟨rfl,fun _ h => h⟩,fun _ _ h => h,fun b => (hf b).trans ⟨.inl,fun h => h.elim id False.elim⟩⟩
theorem vw_icl {w : World} {xs : List Int} {u : Value} (h : Cel.vw w (icl xs) u) (hf : Fits xs) : ∃ a c,u = .slice a xs.length c ∧ Vec w a xs.length xs ∧ xs.length ≤ c ∧ c ≤ maxLen := by
 obtain ⟨a,c,us,rfl,h1,h2,h3,h,hl⟩ := h
 have e := vwL_pl.1 hl
 subst e
 refine ⟨a,c,rfl,⟨rfl,hf, ?_⟩,h1,h2⟩
 rcases h with h | ⟨b,off,ha,hc⟩
 ·exact .inl h
 ·refine .inr ⟨b,off,ha,fun i hi => ?_⟩
  rw [hc i (by omega)]
  simp [el,hi]
theorem OSo.oi {w : World} {a : Option Addr} {c : Nat} {xs : List Int} {G : Option Nat} (h : OSo w 1 a xs.length c (xs.map (Value.int .i64)) G) : (xs = [] ∧ c = 0 ∧ G = none) ∨ ∃ g off,a = some ⟨g,off,none⟩ ∧ OI w g off xs.length c xs ∧ G = some g := by
 rcases h with ⟨h1,h2,h3,h4,_⟩ | h
 ·exact .inl ⟨List.eq_nil_of_length_eq_zero h1,h2,h4⟩
 ·exact .inr h
def NewL (w w' : World) (cs : List Cel) (vs : List Value) : Prop := ∃ fp,owL w' cs vs fp ∧ (∀ b,fp b → w.heap.size ≤ b) ∧ Below w.heap.size w w'
theorem getElem?_flatten_replicate {α : Type} (l : List α) : ∀ (n i : Nat),i < n * l.length → (List.replicate n l).flatten[i]? = l[i % l.length]?
 | 0,i,h => by simp at h
 | n + 1,i,h => by
  rw [List.replicate_succ,List.flatten_cons]
  by_cases hi : i < l.length
  ·rw [List.getElem?_append_left hi,Nat.mod_eq_of_lt hi]
  ·have hl : l.length ≤ i := by omega
   rw [List.getElem?_append_right hl,getElem?_flatten_replicate l n (i - l.length) (by rw [Nat.add_mul] at h;omega),Nat.mod_eq_sub_mod hl]
theorem osl_made (w : World) (zs : Array Value) (s n : Nat) (e : TypeId) (hz : zs.size = s) (hs : 0 < s) (hn : n ≤ maxLen) : OSl (w.alloc (.cells (madeCells zs (n * s)) e)) s w.heap.size 0 n n (List.replicate n zs.toList).flatten := by
 have hb : (w.alloc (.cells (madeCells zs (n * s)) e)).heap[w.heap.size]? = some (.cells (madeCells zs (n * s)) e (0,0)) := heap_alloc_new w _
 have hc : ∀ i,i < n * s → (madeCells zs (n * s))[i]? = zs.toList[i % s]? := fun i hi => by
  have hm : i % s < zs.size := by rw [hz];exact Nat.mod_lt _ hs
  have hm' : i % s < zs.toList.length := by simpa using hm
  rw [List.getElem?_eq_getElem hm']
  simp [madeCells,hi,hz]
  exact getElem!_pos zs (i % s) hm
 refine ⟨by simp [hz],Nat.le_refl _,hn,by simp,fun i hi => ?_,fun i hi => ?_,fun i hi => ?_⟩
 ·rw [getElem?_flatten_replicate _ _ _ (by simp [hz];omega)]
  simp only [World.cell?,hb,Nat.zero_add]
  rw [hc i hi]
  simp [hz]
 ·simp only [World.cell?,hb,Nat.zero_add]
  have : i < (madeCells zs (n * s)).size := by rw [size_madeCells];exact hi
  simp [this]
 ·unfold World.frozen?
  rw [hb]
  simp
end Go.Proofs.Ytlnmdfgcpfbleaa
namespace Go.Proofs.Ytlnmdfgcpfbleaa
set_option linter.unusedVariables false
set_option linter.unusedSimpArgs false
open Go.RowKit Go.Sort
structure Same (X w : World) : Prop where
 heap : X.heap = w.heap
 os : X.os = w.os
 tape : X.tape = w.tape
 output : X.output = w.output
theorem Same.below {X w : World} (h : Same X w) : Below w.heap.size w X := ⟨h.os,h.tape,h.output,by rw [h.heap];exact Nat.le_refl _,fun b _ => by rw [h.heap]⟩
theorem Same.drewN (w : World) (n : Nat) : Same (w.drewN n) w := ⟨rfl,rfl,rfl,rfl⟩
theorem step_append_of {P : Program} {w : World} {ops : Array Oper} {o : Oper} {a : Act} {K : Act → World → Prop} {Q : Exit → Act → World → Prop} {E : Prop} (hgd : o.guard = none) (s x : Operand) (t tn : TypeId)
  (ho : o.op = .call { callee := .builtin .append,args := #[s,x],argTypes := #[t,tn] }) (vs vx : Value) (hs : a.eval s = vs) (hx : a.eval x = vx)
  {W : World} {R : Value → World → Prop} (hA : ∀ X,Same X W → ∃ v' w',(Builtin.append_ #[t,tn] o.type #[vs,vx]).run P X = .ok v' w' ∧ R v' w') (hS : Same w W) (h : ∀ v' w',R v' w' → K (a.put o.dst v') w') :
  if Region.wanted o (yielded ops a.tmps) = true then Oper.wp P o a w K Q else E := by
 have hw : Region.wanted o (yielded ops a.tmps) = true := by simp [Region.wanted,hgd]
 rw [if_pos hw]
 obtain ⟨v',w',hr,hR⟩ := hA w hS
 exact Lib.wp_append_run w s x t tn ho vs vx hs hx v' w' hr (h v' w' hR)
theorem wpList_append_of {P : Program} {w : World} {ops : Array Oper} {rest : List Oper} {o : Oper} {a : Act} {Q : Exit → Act → World → Prop} (hgd : o.guard = none) (s x : Operand) (t tn : TypeId)
  (ho : o.op = .call { callee := .builtin .append,args := #[s,x],argTypes := #[t,tn] }) (vs vx : Value) (hs : a.eval s = vs) (hx : a.eval x = vx)
  {W : World} {R : Value → World → Prop} (hA : ∀ X,Same X W → ∃ v' w',(Builtin.append_ #[t,tn] o.type #[vs,vx]).run P X = .ok v' w' ∧ R v' w') (hS : Same w W) (h : ∀ v' w',R v' w' → wpList P ops Q rest (a.put o.dst v') w') : wpList P ops Q (o :: rest) a w := by
 obtain ⟨v',w',hr,hR⟩ := hA w hS
 exact wpList_plain hgd fun _ hK => Lib.wp_append_run w s x t tn ho vs vx hs hx v' w' hr (hK _ _ (h v' w' hR))
theorem run_append_none {P : Program} (w : World) (t ty e : TypeId) (i : TypeInfo) (ht : P.underlying t = some (.slice e)) (hi : P.info? e = some i) (a : Option Addr) (n cap : Nat) (hle : n ≤ cap) (x : Option Addr) (c : Nat) :
  (Builtin.append_ #[t,t] ty #[.slice a n cap,.slice x 0 c]).run P w = .ok (.slice a n cap) w := by
 cases a <;> cases x <;> simp [Builtin.append_,run_underlying ht,sizeOf,typeInfo,hi,Builtin.lenOf,hle,Builtin.firstCells,loadCells,loadCellsFrom,storeCells]
theorem wpList_append_none {P : Program} (w : World) {ops : Array Oper} {rest : List Oper} {o : Oper} {act : Act} {Q : Exit → Act → World → Prop} (hgd : o.guard = none) (sl x : Operand) (t : TypeId)
  (hop : o.op = .call { callee := .builtin .append,args := #[sl,x],argTypes := #[t,t] }) (e : TypeId) (i : TypeInfo) (ht : P.underlying t = some (.slice e)) (hi : P.info? e = some i)
  (a : Option Addr) (n cap : Nat) (hs : act.eval sl = .slice a n cap) (hle : n ≤ cap) (y : Option Addr) (c : Nat) (hx : act.eval x = .slice y 0 c)
  (h : wpList P ops Q rest (act.put o.dst (.slice a n cap)) w) : wpList P ops Q (o :: rest) act w :=
 wpList_plain hgd fun _ hK => Lib.wp_append_run w sl x t t hop _ _ hs hx _ w (run_append_none w t o.type e i ht hi a n cap hle y c) (hK _ _ h)
theorem Bx.setC {w : World} {B : Nat} {T : TypeId} {cs : Array Value} (h : Bx w B T cs) (i : Nat) (v : Value) : Bx (w.setCell ⟨B,i,none⟩ v) B T (cs.setIfInBounds i v) := by
 have hh : w.heap[B]? = some (.cells cs T (0,0)) := h
 unfold Bx
 simp only [World.setCell]
 rw [Array.getElem?_modify,hh]
 simp
theorem Bx.wrt {w w' : World} {B : Nat} {T : TypeId} {cs : Array Value} {f : Fp} (h : Bx w B T cs) (hw : Wrt f w w') (hn : ¬ f B) : Bx w' B T cs := (hw.block B h.lt hn).trans h
theorem Bx.far {w : World} {B g i : Nat} {T : TypeId} {cs : Array Value} (h : Bx w B T cs) (hne : B ≠ g) (v : Value) : Bx (w.setCell ⟨g,i,none⟩ v) B T cs := h.wrt (Wrt.set w g i v) hne
theorem ints_copied {P : Program} {w : World} (t ty e : TypeId) (i : TypeInfo) (ht : P.underlying t = some (.slice e)) (hi : P.info? e = some i) (hz : i.zero = some (.int .i64 0)) (hsize : i.size = 1) (hby : i.bytes = 8)
  {a : Option Addr} (ha : PlainA a) {x : Option Addr} {c : Nat} {xs : List Int} (hv : Vec w x xs.length xs) (hm : xs.length ≤ 1000000) :
  ∃ a' c' w' fp',(Builtin.append_ #[t,t] ty #[.slice a 0 0,.slice x xs.length c]).run P w = .ok (.slice a' xs.length c') w' ∧ Cel.ow w' (icl xs) (.slice a' xs.length c') fp' ∧ Wrt (fun _ => False) w w' ∧ ∀ b,fp' b → b = w.heap.size := by
 have hnews : xs.length = 0 ∨ ∃ ad,x = some ad ∧ ∀ j u,(xs.map (Value.int .i64))[j]? = some u → w.cell? (ad.add j) = some u := by
  rcases hv.2.2 with h | ⟨b,off,rfl,hc⟩
  ·exact .inl h
  ·exact .inr ⟨_,rfl,num_news hc⟩
 obtain ⟨a',c',G',w',hr,ho',hg,hat⟩ := run_append_oo (P := P) w t ty e i _ 1 8 ht hi hz hsize hby rfl (by omega) a 0 0 [] none (OSo.nil _ _ ha) x xs.length c (xs.map (Value.int .i64)) (by simp) hnews (by simp [Value.oneCell']) (by unfold maxLen;omega) (by omega)
 simp only [Nat.zero_add,List.nil_append] at hr ho'
 refine ⟨a',c',w',fun b => G' = some b,hr,ow_icl.2 ⟨a',c',G',rfl,ho',fun b => Iff.rfl⟩,(Wrt.of_grown hg).mono (fun b _ hb => by cases hb),fun b hb => ?_⟩
 rcases hat with h | h
 ·rw [h] at hb;cases hb
 ·rw [h] at hb;cases hb;rfl
end Go.Proofs.Ytlnmdfgcpfbleaa
namespace Go.Proofs.Ytlnmdfgcpfbleaa
set_option linter.unusedVariables false
set_option linter.unusedSimpArgs false
open Go.RowKit Go.Sort
def It (w : World) (cs : List Cel) (vs : List Value) (lo hi : Nat) : Prop := ∃ f,owL w cs vs f ∧ ∀ b,f b → lo ≤ b ∧ b < hi
theorem It.below {w w' : World} {cs : List Cel} {vs : List Value} {lo hi : Nat} (h : It w cs vs lo hi) (hb : Below w.heap.size w w') : It w' cs vs lo hi := by
 obtain ⟨f,h1,h2⟩ := h
 exact ⟨f,owL_below h1 hb,h2⟩
theorem It.of_new {w w' : World} {cs : List Cel} {vs : List Value} (h : NewL w w' cs vs) : It w' cs vs w.heap.size w'.heap.size := by
 obtain ⟨f,h1,h2,_⟩ := h
 exact ⟨f,h1,fun b hb => ⟨h2 b hb,owL_lt h1 b hb⟩⟩
theorem owL_one {w : World} {c : Cel} {v : Value} {f : Fp} : owL w [c] [v] f ↔ Cel.ow w c v f := by
 constructor
 ·rintro ⟨u,us,f1,f2,e,h1,h2,hd,hf⟩
  cases e
  exact Cel.ow_congr h1 (fun b => (hf b).trans ⟨fun h => h.elim id (fun h => absurd h (h2.2 b)),.inl⟩)
 ·intro h
  exact ⟨v,[],f,fun _ => False,rfl,h,⟨rfl,fun _ h => h⟩,fun _ _ h => h,fun b => by simp⟩
end Go.Proofs.Ytlnmdfgcpfbleaa
namespace Go.Proofs.Ytlnmdfgcpfbleaa
set_option linter.unusedVariables false
set_option linter.unusedSimpArgs false
open Go.RowKit Go.Sort
theorem CurAt.wrt {w w' : World} {p : Nat} {a : Option Addr} {len cap : Nat} {f : Fp} (h : CurAt w p a len cap) (hw : Wrt f w w') (hp : ¬ f p) : CurAt w' p a len cap := by
 have hlt := h.lt
 obtain ⟨i,x,hi,hh⟩ := h
 exact ⟨i,x,hi,(hw.block p hlt hp).trans hh⟩
theorem Cc.wrt {w X X' : World} {p : Nat} {a : Option Addr} {len cap : Nat} {bs : Nat → Int} {f : Fp} (h : Cc w X p a len cap bs) (hw : Wrt f X X') (hp : ¬ f p) (hl : ∀ b,f b → w.heap.size ≤ b) : Cc w X' p a len cap bs :=
 ⟨h.cur.wrt hw hp,h.code,hw.below h.below h.below.size hl,h.off,h.hl,h.hp⟩
theorem grown_wrt {X Y Y' : World} {p : Nat} {f : Fp} (h : X.grownBy Y (some p)) (hw : Wrt f Y Y') (hl : ∀ b,f b → X.heap.size ≤ b) : X.grownBy Y' (some p) :=
 ⟨hw.os.trans h.os,hw.tape.trans h.tape,hw.output.trans h.output,Nat.le_trans h.size hw.size,fun b hb hn => (hw.block b (Nat.lt_of_lt_of_le hb h.size) (fun e => by have := hl b e;omega)).trans (h.block b hb hn)⟩
structure SD (w X Y : World) (p : Nat) (a : Option Addr) (len cap : Nat) (bs : Nat → Int) (T : TypeId) (o : Nat) (Z C : Array Value) (cs : List Cel) (vs : List Value) (fp : Fp) : Prop where
 cc : Cc w Y p a len cap bs
 res : Bx Y X.heap.size T Z
 own : Bx Y o T C
 ls : owL Y cs vs fp
 fpl : ∀ b,fp b → X.heap.size < b ∧ b ≠ o
 hpo : p < X.heap.size
 ho : X.heap.size < o
 gr : X.grownBy Y (some p)
section
variable {w X Y Y' : World} {p : Nat} {a : Option Addr} {len cap : Nat} {bs : Nat → Int} {T : TypeId} {o : Nat} {Z C : Array Value} {cs : List Cel} {vs : List Value} {fp : Fp}
theorem SD.lt (h : SD w X Y p a len cap bs T o Z C cs vs fp) : w.heap.size ≤ X.heap.size := by have := h.cc.hp;have := h.hpo;omega
theorem SD.drawn (h : SD w X Y p a len cap bs T o Z C cs vs fp) (hg : Y.grownBy Y' (some p)) (hc : Cc w Y' p a len cap bs) : SD w X Y' p a len cap bs T o Z C cs vs fp := by
 have h1 := h.hpo
 have h2 := h.ho
 exact ⟨hc,h.res.grown hg (by simp;omega),h.own.grown hg (by simp;omega),owL_wrt h.ls (Wrt.of_grown hg) (fun b hb e => by cases e;have := (h.fpl _ hb).1;omega),h.fpl,h1,h2,grown_trans h.gr hg⟩
theorem SD.step (h : SD w X Y p a len cap bs T o Z C cs vs fp) (hb : Below Y.heap.size Y Y') : SD w X Y' p a len cap bs T o Z C cs vs fp :=
 ⟨h.cc.step hb,h.res.below hb,h.own.below hb,owL_below h.ls hb,h.fpl,h.hpo,h.ho,grown_trans h.gr ⟨hb.os,hb.tape,hb.output,hb.size,fun x hx _ => hb.block x hx⟩⟩
theorem SD.drewN (h : SD w X Y p a len cap bs T o Z C cs vs fp) (n : Nat) : SD w X (Y.drewN n) p a len cap bs T o Z C cs vs fp := h.step (Same.drewN Y n).below
theorem SD.set (h : SD w X Y p a len cap bs T o Z C cs vs fp) (i : Nat) (v : Value) : SD w X (Y.setCell ⟨o,i,none⟩ v) p a len cap bs T o Z (C.setIfInBounds i v) cs vs fp := by
 have h1 := h.hpo
 have h2 := h.ho
 have h3 := h.lt
 have hw := Wrt.set Y o i v
 exact ⟨h.cc.wrt hw (by omega) (fun b e => by omega),h.res.far (by omega) v,h.own.setC i v,owL_wrt h.ls hw (fun b hb e => (h.fpl b hb).2 e),h.fpl,h1,h2,grown_wrt h.gr hw (fun b e => by omega)⟩
theorem SD.new (h : SD w X Y p a len cap bs T o Z C cs vs fp) {j : Nat} {c c' : Cel} {u' : Value} {f' : Fp} (hj : cs[j]? = some c) (hc : Cel.ow Y c' u' f') (hf : ∀ b,f' b → X.heap.size < b ∧ b ≠ o) (hd : ∀ b,f' b → ¬ fp b) : ∃ fp',SD w X Y p a len cap bs T o Z C (cs.set j c') (vs.set j u') fp' := by
 obtain ⟨u,f,hu,ho,hs,hp⟩ := owL_at h.ls hj
 exact ⟨_,h.cc,h.res,h.own,hp Y c' u' f' (Nat.le_refl _) hc (fun _ _ _ => rfl) (fun b hb k => absurd k (hd b hb)),fun b hb => by rcases hb with hb | hb;exact hf b hb;exact h.fpl b hb.1,h.hpo,h.ho,h.gr⟩
theorem SD.at (h : SD w X Y p a len cap bs T o Z C cs vs fp) {j : Nat} {c : Cel} (hj : cs[j]? = some c) : ∃ u f,vs[j]? = some u ∧ Cel.ow Y c u f ∧ (∀ b,f b → fp b) ∧
  ∀ (Y' : World) (c' : Cel) (u' : Value) (f' : Fp),Wrt f Y Y' → Cel.ow Y' c' u' f' → (∀ b,f' b → f b ∨ Y.heap.size ≤ b) → ∃ fp',SD w X Y' p a len cap bs T o Z C (cs.set j c') (vs.set j u') fp' := by
 obtain ⟨u,f,hu,ho,hs,hp⟩ := owL_at h.ls hj
 refine ⟨u,f,hu,ho,hs,fun Y' c' u' f' hw hc' hf' => ?_⟩
 have h1 := h.hpo
 have h2 := h.ho
 have h3 := h.lt
 have hl : ∀ b,fp b → b < Y.heap.size := owL_lt h.ls
 have hol := h.own.lt
 have k : ∀ b,f b → X.heap.size < b ∧ b ≠ o := fun b hb => h.fpl b (hs b hb)
 refine ⟨_,h.cc.wrt hw (fun e => by have := (k _ e).1;omega) (fun b e => by have := (k _ e).1;omega),h.res.wrt hw (fun e => by have := (k _ e).1;omega),h.own.wrt hw (fun e => (k _ e).2 rfl),hp Y' c' u' f' hw.size hc' (fun b hb hn => hw.block b (hl b hb) hn) (fun b hb hb2 => ?_),fun b hb => ?_,h1,h2,grown_wrt h.gr hw (fun b e => by have := (k _ e).1;omega)⟩
 ·rcases hf' b hb with h5 | h5
  ·exact h5
  ·have := hl b hb2;omega
 ·rcases hb with hb | hb
  ·rcases hf' b hb with h5 | h5
   ·exact k b h5
   ·exact ⟨by omega,by omega⟩
  ·exact h.fpl b hb.1
theorem SD.ans (h : SD w X Y p a len cap bs T o Z C cs vs fp) (hw : Wrt (fun b => b = X.heap.size) Y Y') : owL Y' cs vs fp ∧ (∀ b,fp b → X.heap.size ≤ b) ∧ Cc w Y' p a len cap bs ∧ X.grownBy Y' (some p) := by
 have h1 := h.hpo
 have h3 := h.lt
 exact ⟨owL_wrt h.ls hw (fun b hb e => by have := (h.fpl b hb).1;omega),fun b hb => by have := (h.fpl b hb).1;omega,h.cc.wrt hw (by omega) (fun b e => by omega),grown_wrt h.gr hw (fun b e => by omega)⟩
end
end Go.Proofs.Ytlnmdfgcpfbleaa
namespace Go.Proofs.Ytlnmdfgcpfbleaa
set_option linter.unusedVariables false
set_option linter.unusedSimpArgs false
open Go.RowKit Go.Sort
def DrawnO (w w' : World) (v : Value) (p : Nat) (a : Option Addr) (len cap : Nat) : Prop :=
 ∃ a' zs c G,v = .slice a' (List.length zs) c ∧ OSo w' 1 a' (List.length zs) c (zs.map (Value.int .i64)) G ∧ (∀ g,G = some g → w.heap.size ≤ g) ∧ Fits zs ∧ List.length zs ≤ 16 ∧ CurAt w' p a len cap ∧ w.grownBy w' (some p)
theorem oi_tail {w : World} {g off n c : Nat} {zs : List Int} (h : OI w g off n c zs) (h1 : 1 ≤ zs.length) : OI w g (off + 1) zs.tail.length (c - 1) zs.tail := by
 have hl : zs.length = n := by have := h.len;simpa using this
 have hle := h.le
 refine ⟨by simp,by rw [List.length_tail];omega,Nat.le_trans (Nat.sub_le _ _) h.max,h.blk,fun i hi => ?_,fun i hi => ?_,fun i hi => ?_⟩
 ·rw [List.length_tail] at hi
  have := h.cell (i + 1) (by omega)
  rw [show off + 1 + i = off + (i + 1) by omega,this]
  simp
 ·have := h.some (i + 1) (by omega)
  rw [show off + 1 + i = off + (i + 1) by omega]
  exact this
 ·have := h.free (i + 1) (by omega)
  rw [show off + 1 + i = off + (i + 1) by omega]
  exact this
set_option maxRecDepth 100000 in
set_option maxHeartbeats 3200000 in
theorem vecO_any (p : Nat) (a : Option Addr) (len cap : Nat) (bs : Nat → Int) (N : Nat) (n : Int) (hN : n = (N : Int)) (w : World) (hcur : CurAt w p a len cap) (hv : BVec w a len bs) (hp : OffB a len p) (hl : len ≤ 4096) (hn : N ≤ 16) :
  Calls Try.prog 58 #[.pointer (some ⟨p,0,none⟩),.int .i64 n] w fun e w' => ∃ v,e = .returned v ∧ DrawnO w w' v p a len cap := by
 subst hN
 have hpl := hcur.lt
 obtain ⟨i0,hi0,hz0,hz1,hz2⟩ := info_parts Try.info2
 go_enter Try.func58,Try.ntmps58
 go_wp2
 go_loopw [1,5] (fun q v wr => ∃ (k : Nat) (zs : List Int),k ≤ N ∧ zs.length = k ∧ q = .int .i64 ((N : Int) - (k : Int)) ∧ Small zs ∧ wr.ownsRow w.heap.size 2 1 v k (zs.map (Value.int .i64)) ∧ CurAt wr p a len cap ∧ w.grownBy wr (some p)) (fun q _ _ => (intOf q).toNat)
 case atStart => exact ⟨0,[],Nat.zero_le _,rfl,by simp,fun z hz => by simp at hz,owns_empty w,hcur.alloc _,World.grownBy_alloc _ _ _⟩
 case round =>
  obtain ⟨k,zs,hk,hzl,rfl,hsm,hown,hc,hg⟩ := hrel
  have HZ : Hid (zs.length = k) := hzl
  have HS : Hid (Small zs) := hsm
  have HG : Hid (w.grownBy wr (some p)) := hg
  have HO : Hid (wr.ownsRow w.heap.size 2 1 u5 k (zs.map (Value.int .i64))) := hown
  have hvr := hv.grown hg hp
  clear hzl hsm hg hown
  by_cases hlt : k < N
  ·go_wp2_with fail
   refine (below_any p a len cap bs 6 _ hc hvr hp hl (by omega)).mono ?_
   rintro e w2 ⟨x,rfl,hx0,hx1,hx2,hc2,hg2⟩
   have hx6 : x ≤ 6 := by have := hx1 (by omega);omega
   have hown2 := HO.out.kept hg2 (.inr (owns_ne HO.out hpl))
   have hs2 : w.heap.size ≤ w2.heap.size := Nat.le_trans HG.out.size hg2.size
   clear hx1 hx2
   go_wp2_with (at_builtin;refine wpList_append_lies _ rfl _ _ _ rfl w.heap.size 2 i0 _ 1 8 Try.underlying24 hi0 hz0 hz1 hz2 rfl (by omega) u5 k _ rfl (hown2.alloc _) ⟨w2.heap.size,0,none⟩ 1 1 [.int .i64 x] rfl rfl (World.news_of_block (cs := #[.int .i64 x]) (t := 2) (fr := (0,0)) (heap_alloc_new w2 _)) (by simp [Value.oneCell']) (by omega) (by unfold maxLen;omega) (by omega) (by simp;omega) (w2.heap.size + 1) (by simp) ?_;intro g cap3 w3 hown3 hgrow hat hlt3)
   have R : Hid (w3.ownsRow w.heap.size 2 1 (.slice (some ⟨g,0,none⟩) (k + 1) cap3) (k + 1) ((zs ++ [x]).map (Value.int .i64))) := by
    rw [Hid,List.map_append];exact hown3
   have RC : Hid (CurAt w3 p a len cap) := (hc2.alloc _).grown hgrow (owns_ne HO.out hpl)
   have RG : Hid (w.grownBy w3 (some p)) := grown_more (grown_trans (grown_trans HG.out hg2) (World.grownBy_alloc _ _ _)) hgrow (fun r hr => (HO.out.lt r hr).1)
   have RS : Hid (Small (zs ++ [x])) := HS.out.snoc hx0 hx6
   clear hown3 hgrow hat hlt3 hown2 hc2 hg2 hc hvr hs2
   go_wp2
   go_roundw
   case rel => exact ⟨k + 1,zs ++ [x],by omega,by simp [HZ.out],by go_num,RS.out,R.out,RC.out,RG.out⟩
   case measure => simp [intOf];omega
  ·have hkN : k = N := by omega
   subst hkN
   by_cases h1 : 1 ≤ k
   ·obtain ⟨g,c,hu,hgB,ho⟩ := own_of_ownsRow HO.out HZ.out.symm h1
    rw [HZ.out] at hu
    subst hu
    have hgp : g ≠ p := by omega
    go_wp2_with fail
    refine (once_any p a len cap bs 12 _ hc hvr hp hl (by omega)).mono ?_
    rintro e w2 ⟨x,rfl,hc2,hg2⟩
    have ho2 := ho.grown hg2 hgp
    have own2 := HO.out.kept hg2 (.inr (owns_ne HO.out hpl))
    have hv2 := hvr.grown hg2 hp
    have HG2 := grown_trans HG.out hg2
    have hpos : (0 : Int) < (k : Int) := by omega
    clear ho hvr hc hg2
    cases x
    ·go_wp2
     go_ret
     exact ⟨_,rfl,_,zs,c,some g,by rw [HZ.out];rfl,OSo.of (OI.own ho2),fun b e => by cases e;exact hgB,HS.out.fits,by have := HZ.out;omega,hc2,HG2⟩
    ·go_wp2_with fail
     refine (below_any p a len cap bs 3 _ hc2 hv2 hp hl (by omega)).mono ?_
     rintro e w3 ⟨y,rfl,hy0,hy1,hy2,hc3,hg3⟩
     have ho3 := ho2.grown hg3 hgp
     have own3 := own2.kept hg3 (.inr (owns_ne own2 hpl))
     have hv3 := hv2.grown hg3 hp
     have HG3 := grown_trans HG2 hg3
     have hy3 := hy1 (by omega)
     clear ho2 hc2 hv2 hg3 HG2 hy1 hy2 own2
     rcases (by omega : y = 0 ∨ y = 1 ∨ y = 2) with hy | hy | hy
     ·subst hy
      go_wp2_with fail
      have ho3' : OwnAt (w3.alloc (.cells #[.int .i64 (-1),.int .i64 1000000,.int .i64 1000001,.int .i64 4611686018427387904] 2)) g c zs := ho3.of_block (Below.heap_alloc _ _ _ ho3.lt)
      have hv3' := hv3.grown (World.grownBy_alloc w3 (.cells #[.int .i64 (-1),.int .i64 1000000,.int .i64 1000001,.int .i64 4611686018427387904] 2) (some p)) hp
      have hp3 : p < w3.heap.size := hc3.lt
      refine (below_any p a len cap bs 4 _ (hc3.alloc _) hv3' hp hl (by omega)).mono ?_
      rintro e w4 ⟨z,rfl,hz0',hz1',hz2',hc4,hg4⟩
      have hblk := (hg4.block w3.heap.size (by simp) (by simp;omega)).trans (heap_alloc_new w3 _)
      have ho4 := ho3'.grown hg4 hgp
      have HG4 := grown_trans (grown_trans HG3 (World.grownBy_alloc w3 _ _)) hg4
      have e0 : w4.cell? ⟨w3.heap.size,0,none⟩ = some (.int .i64 (-1)) := by simp [World.cell?,hblk]
      have e1 : w4.cell? ⟨w3.heap.size,1,none⟩ = some (.int .i64 1000000) := by simp [World.cell?,hblk]
      have e2 : w4.cell? ⟨w3.heap.size,2,none⟩ = some (.int .i64 1000001) := by simp [World.cell?,hblk]
      have e3 : w4.cell? ⟨w3.heap.size,3,none⟩ = some (.int .i64 4611686018427387904) := by simp [World.cell?,hblk]
      have hcg := ho4.cell (i := 0) (by rw [HZ.out];omega)
      have hfg := ho4.frozen 0
      have HO4 : Hid (OwnAt w4 g c zs) := ho4
      have HC4 : Hid (CurAt w4 p a len cap) := hc4
      have HGG : Hid (w.grownBy w4 (some p)) := HG4
      have hz4 := hz1' (by omega)
      clear hz1' hz2' hblk hg4 HG4 ho4 hc4 ho3' hv3' ho3 hv3 hc3 HG3 own3
      have FIN : Hid (∀ v : Int,-9223372036854775808 ≤ v ∧ v ≤ 9223372036854775807 → DrawnO w (w4.setCell ⟨g,0,none⟩ (.int .i64 v)) (.slice (some ⟨g,0,none⟩) k c) p a len cap) := fun v hv =>
       ⟨_,zs.set 0 v,c,some g,by rw [List.length_set,HZ.out],OSo.of (OI.own (HO4.out.set 0 v)),fun b e => by cases e;exact hgB,fits_set HS.out.fits 0 hv,by rw [List.length_set];have := HZ.out;omega,HC4.out.set hgp _ _,grown_setOwn HGG.out hgB _ _⟩
      rcases (by omega : z = 0 ∨ z = 1 ∨ z = 2 ∨ z = 3) with hz | hz | hz | hz
      all_goals
       subst hz
       go_wp2
       go_ret
       exact ⟨_,rfl,FIN.out _ (by omega)⟩
     ·subst hy
      have hT := own_tail ho3 HS.out.fits (by rw [HZ.out];exact h1)
      rw [HZ.out] at hT
      have hkc : k ≤ c := by have := ho3.1;rwa [HZ.out] at this
      have hcm := ho3.2.1
      have hkc' : (k : Int) ≤ (c : Int) := by omega
      have hk1 : (1 : Int) ≤ (k : Int) := by omega
      have HTO : Hid (OSo w3 1 (some ⟨g,1,none⟩) zs.tail.length (c - 1) (zs.tail.map (Value.int .i64)) (some g)) := OSo.of (oi_tail (OI.own ho3) (by rw [HZ.out];exact h1))
      have HTF : Hid (Fits zs.tail) := hT.2.1
      have HTL : Hid (Value.slice (some ⟨g,1,none⟩) (k - 1) (c - 1) = .slice (some ⟨g,1,none⟩) zs.tail.length (c - 1)) := by rw [Hid,List.length_tail,HZ.out]
      by_cases hc1 : c = 1
      ·subst hc1
       have hk1' : k = 1 := by omega
       subst hk1'
       go_wp2
       go_ret
       exact ⟨_,rfl,_,[],0,none,rfl,OSo.nil _ _ (plainS _ _),fun b e => (by cases e),fun x hx => absurd hx List.not_mem_nil,Nat.zero_le _,hc3,HG3⟩
      ·go_wp2
       go_ret
       exact ⟨_,rfl,_,zs.tail,c - 1,some g,HTL.out,HTO.out,fun b e => by cases e;exact hgB,HTF.out,by rw [List.length_tail];have := HZ.out;omega,hc3,HG3⟩
     ·subst hy
      clear ho3 hv3
      go_wp2
      go_loopw [5] (fun v wr => ∃ (m g c : Nat) (ys : List Int),v = .slice (some ⟨g,0,none⟩) m c ∧ ys.length = m ∧ 1 ≤ m ∧ m ≤ 16 ∧ Small ys ∧ wr.ownsRow w.heap.size 2 1 v m (ys.map (Value.int .i64)) ∧ CurAt wr p a len cap ∧ w.grownBy wr (some p)) (fun v _ => 16 - lenOf v)
      case atStart => exact ⟨k,g,c,zs,rfl,HZ.out,h1,by omega,HS.out,own3,hc3,HG3⟩
      case round =>
       obtain ⟨m,g2,c2,ys,rfl,hyl,hm1,hm9,hys,hown,hcc,hgg⟩ := hrel
       have hvv := hv.grown hgg hp
       have HY : Hid (ys.length = m) := hyl
       have HYS : Hid (Small ys) := hys
       clear hyl hys
       go_wp2_with fail
       refine (below_any p a len cap bs 2 _ hcc hvv hp hl (by omega)).mono ?_
       rintro e w4 ⟨z,rfl,hz0',hz1',hz2',hc4,hg4⟩
       have own4 := hown.kept hg4 (.inr (owns_ne hown hpl))
       have HG4 := grown_trans hgg hg4
       have hz4 := hz1' (by omega)
       have hs4 := HG4.size
       clear hz1' hz2' hg4 hgg hown hcc hvv
       by_cases hlt2 : (m : Int) < 8 + z
       ·go_wp2_with (at_builtin;refine wpList_append_lies _ rfl _ _ _ rfl w.heap.size 2 i0 _ 1 8 Try.underlying24 hi0 hz0 hz1 hz2 rfl (by omega) (.slice (some ⟨g2,0,none⟩) m c2) m _ rfl (own4.alloc _) ⟨w4.heap.size,0,none⟩ 1 1 [.int .i64 1] rfl rfl (World.news_of_block (cs := #[.int .i64 1]) (t := 2) (fr := (0,0)) (heap_alloc_new w4 _)) (by simp [Value.oneCell']) (by omega) (by unfold maxLen;omega) (by omega) (by simp;omega) (w4.heap.size + 1) (by simp) ?_;intro g3 cap3 w5 hown5 hgrow hat hlt5)
        have R : Hid (w5.ownsRow w.heap.size 2 1 (.slice (some ⟨g3,0,none⟩) (m + 1) cap3) (m + 1) ((ys ++ [1]).map (Value.int .i64))) := by
         rw [Hid,List.map_append];exact hown5
        have RC : Hid (CurAt w5 p a len cap) := (hc4.alloc _).grown hgrow (owns_ne own4 hpl)
        have RG : Hid (w.grownBy w5 (some p)) := grown_more (grown_trans HG4 (World.grownBy_alloc _ _ _)) hgrow (fun r hr => (own4.lt r hr).1)
        have RS : Hid (Small (ys ++ [1])) := HYS.out.snoc (by omega) (by omega)
        clear hown5 hgrow hat hlt5 own4 hc4 HG4
        go_wp2
        go_roundw
        case rel => exact ⟨m + 1,g3,cap3,ys ++ [1],rfl,by simp [HY.out],by omega,by omega,RS.out,R.out,RC.out,RG.out⟩
        case measure => simp [lenOf];omega
       ·go_wp2
        go_ret
        obtain ⟨g5,c5,hu5,hg5,hO5⟩ := OSl.of_ownsRow own4 (by intro h;cases h)
        cases hu5
        exact ⟨_,rfl,some ⟨g2,0,none⟩,ys,c2,some g2,by rw [HY.out];rfl,OSo.of (by rw [HY.out];exact hO5),fun b e => by cases e;exact hg5,HYS.out.fits,by rw [HY.out];omega,hc4,HG4⟩
   ·obtain ⟨a',c,hu,hvec,hac,hcm,hfrom⟩ := own_slice HO.out HZ.out.symm HS.out.fits
    have hz0 : zs = [] := List.eq_nil_of_length_eq_zero (by have := HZ.out;omega)
    obtain ⟨G0,HO0,HG0⟩ : ∃ G,Hid (OSo wr 1 a' zs.length c (zs.map (Value.int .i64)) G) ∧ Hid (∀ b,G = some b → w.heap.size ≤ b) := by
     by_cases hn : u5 = .slice none 0 0
     ·rw [hu] at hn
      cases hn
      exact ⟨none,by rw [Hid,hz0];exact OSo.nil _ _ plainN,fun b e => by cases e⟩
     ·obtain ⟨g5,c5,hu5,hg5,hO5⟩ := OSl.of_ownsRow HO.out hn
      rw [hu] at hu5
      cases hu5
      exact ⟨some g5,by rw [Hid,HZ.out];exact OSo.of hO5,fun b e => by cases e;exact hg5⟩
    subst hu
    have hoff : Off a' p := fun b off e => by have := hfrom b off e;omega
    go_wp2_with fail
    refine (once_any p a len cap bs 12 _ hc hvr hp hl (by omega)).mono ?_
    rintro e w2 ⟨x,rfl,hc2,hg2⟩
    have hva := hvec.grown hg2 hoff
    have HG2 := grown_trans HG.out hg2
    have HOO : Hid (OSo w2 1 a' zs.length c (zs.map (Value.int .i64)) G0) := HO0.out.frame hg2.size (fun g e => hg2.block g (HO0.out.lt e) (by have := HG0.out g e;simp;omega))
    have hpos : decide ((0 : Int) < (k : Int)) = false := by simp;omega
    clear hvec hvr hc hg2
    cases x
    all_goals
     go_wp2
     go_ret
     exact ⟨_,rfl,a',zs,c,G0,by rw [HZ.out];rfl,HOO.out,HG0.out,HS.out.fits,by have := HZ.out;omega,hc2,HG2⟩
theorem vecCO (N : Nat) (n : Int) (hN : n = (N : Int)) (hn : N ≤ 16) {w X : World} {p : Nat} {a : Option Addr} {len cap : Nat} {bs : Nat → Int} (h : Cc w X p a len cap bs) :
  Calls Try.prog 58 #[.pointer (some ⟨p,0,none⟩),.int .i64 n] X fun e w' => ∃ a' c zs fp,e = .returned (.slice a' (List.length zs) c) ∧ Cel.ow w' (icl zs) (.slice a' (List.length zs) c) fp ∧ (∀ b,fp b → X.heap.size ≤ b) ∧ Fits zs ∧ List.length zs ≤ 16 ∧ Cc w w' p a len cap bs ∧ X.grownBy w' (some p) := by
 refine (vecO_any p a len cap bs N n hN X h.cur h.bvec h.off h.hl hn).mono ?_
 rintro e w' ⟨v,rfl,a',zs,c,G,rfl,hO,hG,hf,h16,hc,hg⟩
 exact ⟨a',c,zs,fun b => G = some b,rfl,ow_icl.2 ⟨_,c,G,rfl,hO,fun b => Iff.rfl⟩,fun b hb => hG b hb,hf,h16,h.drawn hg hc,hg⟩
end Go.Proofs.Ytlnmdfgcpfbleaa
namespace Go.Proofs.Ytlnmdfgcpfbleaa
set_option linter.unusedVariables false
set_option linter.unusedSimpArgs false
theorem inB7 {x lo hi : Int} : inB x lo hi = true ↔ lo ≤ x ∧ x ≤ hi := by simp [inB]
def bel (cs : List Int) (q : Nat) : Prop := ((q / cs.length : Nat) : Int) < el cs (q % cs.length)
def rdy (cs : List Int) (k : Nat) (b : Int) : Int := (List.range k).foldl (fun b i => min b ((cs.length : Int) * el cs i + (i : Int))) b
set_option linter.unusedVariables false
set_option linter.unusedSimpArgs false
def row (H : List (List Int)) (i : Nat) : List Int := H.getD i []
def okRow (B : Int) (h : List Int) : Prop := (∀ i,i < h.length → 0 ≤ el h i ∧ el h i ≤ B - 1) ∧ ∀ i,i < h.length - 1 → el h i < el h (i + 1)
instance (B : Int) (h : List Int) : Decidable (okRow B h) := by unfold okRow;infer_instance
def okRel (N B : Int) (H : List (List Int)) : Prop := (1 ≤ N ∧ N ≤ 12) ∧ (1 ≤ B ∧ B ≤ 12) ∧ (H.length : Int) = N ∧ ((row H 0).length : Int) = B ∧ ∀ i,i < H.length → okRow B (row H i)
instance (N B : Int) (H : List (List Int)) : Decidable (okRel N B H) := by unfold okRel;infer_instance
def putL : List Int → Int → List Int
 | [],n => [n]
 | x :: l,n => if x < n then x :: putL l n else if x = n then x :: l else n :: x :: l
theorem mem_putL {h : List Int} {n q : Int} : q ∈ putL h n ↔ q = n ∨ q ∈ h := by
 induction h with
 | nil => simp [putL]
 | cons x l ih =>
  unfold putL
  split
  ·rw [List.mem_cons,ih,List.mem_cons]
   constructor
   ·rintro (h | h | h)
    ·exact .inr (.inl h)
    ·exact .inl h
    ·exact .inr (.inr h)
   ·rintro (h | h | h)
    ·exact .inr (.inl h)
    ·exact .inl h
    ·exact .inr (.inr h)
  ·split
   ·rename_i h1 h2
    subst h2
    simp
   ·simp
abbrev Ps := Int × Int × Int
def pat (cs : List Ps) (i : Nat) : Ps := cs.getD i (0,0,0)
def psOk (N : Int) (H : List (List Int)) (cs : List Ps) (i : Nat) : Prop :=
 (0 ≤ (pat cs i).1 ∧ (pat cs i).1 ≤ N - 1) ∧ (0 ≤ (pat cs i).2.1 ∧ (pat cs i).2.1 ≤ N - 1) ∧ (pat cs i).2.2 ∈ row H (pat cs i).1.toNat ∧ ∀ k,k < i → (pat cs k).1 ≠ (pat cs i).1 ∧ (pat cs k).2.1 ≠ (pat cs i).2.1
instance (N : Int) (H : List (List Int)) (cs : List Ps) (i : Nat) : Decidable (psOk N H cs i) := by unfold psOk;infer_instance
def turnOk (N : Int) (H : List (List Int)) (cs : List Ps) : Prop := ∀ i,i < cs.length → psOk N H cs i
instance (N : Int) (H : List (List Int)) (cs : List Ps) : Decidable (turnOk N H cs) := by unfold turnOk;infer_instance
def fullH (B : Int) (H : List (List Int)) : Prop := ∀ i,i < H.length → ((row H i).length : Int) = B
instance (B : Int) (H : List (List Int)) : Decidable (fullH B H) := by unfold fullH;infer_instance
set_option linter.unusedVariables false
set_option linter.unusedSimpArgs false
open Go.RowKit Go.Sort
theorem el_mem10 {xs : List Int} {x : Int} : x ∈ xs ↔ ∃ j,j < xs.length ∧ el xs j = x := by
 constructor
 ·intro h
  obtain ⟨i,hi,rfl⟩ := List.getElem_of_mem h
  exact ⟨i,hi,by rw [el_eq hi]⟩
 ·rintro ⟨j,hj,rfl⟩
  exact el_mem hj
def risB (xs : List Int) : Bool := decide (∀ i,i < xs.length - 1 → el xs i < el xs (i + 1))
set_option maxHeartbeats 400000 in
theorem l1Has_any (a : Option Addr) (len cap : Nat) (x : Int) (xs : List Int) (w : World) (hv : Vec w a len xs) (hm : len ≤ maxLen) :
  Calls Try.prog 120 #[.slice a len cap,.int .i64 x] w fun e w' => e = .returned (.bool (decide (x ∈ xs))) ∧ w' = w := by
 unfold maxLen at hm
 have HL : Hid (xs.length = len) := hv.1
 have hc := hv.2.2
 clear hv
 go_enter Try.func120,Try.ntmps120
 go_wp2
 go_loop [5] (fun i => ∃ k : Nat,k ≤ len ∧ i = .int .i64 k ∧ ∀ j,j < k → el xs j ≠ x) (fun i => len - (intOf i).toNat)
 case atStart => exact ⟨0,Nat.zero_le _,rfl,fun j hj => by omega⟩
 case round =>
  obtain ⟨k,hk,rfl,hno⟩ := hrel
  have HN : Hid (∀ j,j < k → el xs j ≠ x) := hno
  clear hno
  by_cases hlt : k < len
  ·rcases hc with h0 | ⟨b,off,rfl,hc⟩
   ·omega
   have hck := hc k hlt
   by_cases he : el xs k = x
   ·have hb : (el xs k == x) = true := by simpa using he
    have HF : Hid (decide (x ∈ xs) = true) := by rw [Hid,decide_eq_true_eq];exact el_mem10.2 ⟨k,by rw [HL.out];exact hlt,he⟩
    clear he
    go_wp2
    go_ret
    exact ⟨ret_bool (by rw [HF.out]),rfl⟩
   ·have hb : (el xs k == x) = false := by simpa using he
    have HE : Hid (el xs k ≠ x) := he
    clear he
    go_wp2
    go_round
    case rel => exact ⟨k + 1,by omega,by go_num,fun j hj => by
     rcases Nat.lt_succ_iff_lt_or_eq.1 hj with h | h
     ·exact HN.out j h
     ·rw [h];exact HE.out⟩
    case measure => simp [intOf];omega
  ·have HF : Hid (decide (x ∈ xs) = false) := by
    rw [Hid,decide_eq_false_iff_not,el_mem10]
    rintro ⟨j,hj,e⟩
    exact HN.out j (by rw [HL.out] at hj;omega) e
   clear hc
   go_wp2
   go_ret
   exact ⟨ret_bool (by rw [HF.out]),rfl⟩
set_option maxHeartbeats 800000 in
theorem l1Rises_any (a : Option Addr) (len cap : Nat) (xs : List Int) (w : World) (hv : Vec w a len xs) (hm : len ≤ maxLen) :
  Calls Try.prog 121 #[.slice a len cap] w fun e w' => e = .returned (.bool (risB xs)) ∧ ∃ n,w' = w.drewN n := by
 unfold maxLen at hm
 have HL : Hid (xs.length = len) := hv.1
 have hc := hv.2.2
 clear hv
 go_enter Try.func121,Try.ntmps121
 go_wp2
 go_loopw [3] (fun i wr => ∃ k n : Nat,k ≤ len ∧ i = .int .i64 ((k : Int) + 1) ∧ wr = w.drewN n ∧ ∀ j,j < k → el xs j < el xs (j + 1)) (fun i _ => (len + 1) - (intOf i).toNat)
 case atStart => exact ⟨0,0,Nat.zero_le _,rfl,rfl,fun j hj => by omega⟩
 case round =>
  obtain ⟨k,n,hk,rfl,rfl,hr⟩ := hrel
  have HR : Hid (∀ j,j < k → el xs j < el xs (j + 1)) := hr
  clear hr
  by_cases hlt : k + 1 < len
  ·rcases hc with h0 | ⟨b,off,rfl,hc⟩
   ·omega
   have c1 := hc (k + 1) hlt
   have c0 := hc k (by omega)
   have h1 : (k : Int) + 1 < (len : Int) := by omega
   have h2 : (k : Int) < (len : Int) := by omega
   have h0 : (0 : Int) ≤ (k : Int) + 1 := by omega
   have h3 : (0 : Int) ≤ (k : Int) := by omega
   have e1 : ((k : Int) + 1).toNat = k + 1 := by omega
   by_cases hx : el xs k < el xs (k + 1)
   ·have hd : decide (el xs (k + 1) ≤ el xs k) = false := by simp;omega
    have HX : Hid (el xs k < el xs (k + 1)) := hx
    clear hx
    go_wp2_with fail
    go_quiet (fail)
    go_wp2
    go_roundw
    case rel => exact ⟨k + 1,_,by omega,by go_num,rfl,fun j hj => by
     rcases Nat.lt_succ_iff_lt_or_eq.1 hj with h | h
     ·exact HR.out j h
     ·rw [h];exact HX.out⟩
    case measure => simp [intOf];omega
   ·have hd : decide (el xs (k + 1) ≤ el xs k) = true := by simp;omega
    have HF : Hid (risB xs = false) := by
     rw [Hid,risB,decide_eq_false_iff_not]
     intro h
     exact hx (h k (by rw [HL.out];omega))
    clear hx
    go_wp2_with fail
    go_quiet (fail)
    go_wp2
    go_ret
    exact ⟨ret_bool (by rw [HF.out]),n + nq,by simp⟩
  ·have hd : decide ((k : Int) + 1 < (len : Int)) = false := by simp;omega
   have HF : Hid (risB xs = true) := by
    rw [Hid,risB,decide_eq_true_eq]
    intro j hj
    exact HR.out j (by rw [HL.out] at hj;omega)
   clear hc
   go_wp2
   go_ret
   exact ⟨ret_bool (by rw [HF.out]),_,rfl⟩
end Go.Proofs.Ytlnmdfgcpfbleaa
namespace Go.Proofs.Ytlnmdfgcpfbleaa
set_option linter.unusedVariables false
set_option linter.unusedSimpArgs false
open Go.RowKit Go.Sort
structure Rw where
 ver : Int
 txt : List (List UInt8)
 got : List Int
 sus : List Int
 wed : Bool
 rdy : Bool
 by_ : Int
 trm : List Int
def zeroRw : Rw := ⟨0,[],[],[],false,false,0,[]⟩
def susB (l : List Int) (n : Int) : Bool := l.all (fun x => inB x 0 (n - 1)) && risB l
def smB (v : List Int) (n : Int) : Bool := okB v && (decide ((v.length : Int) = n) && v.all (fun x => decide (x ≤ 12)))
def okRw (r : Rw) (n : Int) : Bool :=
 inB n 1 5 && (inB r.ver 0 1000000 && (decide (r.txt.length ≤ 12) && (smB r.got n && (susB r.sus n && (r.txt.all (fun t => decide (t.length ≤ 20)) &&
  (if r.rdy then r.wed && (inB r.by_ 0 (n - 1) && smB r.trm n) else decide (r.by_ = 0) && decide (r.trm = [])))))))
def newRw (n : Int) : Rw := if inB n 1 5 then ⟨0,[],List.replicate n.toNat 0,[],false,false,0,[]⟩ else zeroRw
def folB (a b : Rw) (n : Int) : Bool :=
 okRw a n && (okRw b n && (decide (a.ver ≤ b.ver) && (decide (a.txt.length ≤ b.txt.length) && (underB a.got b.got && (a.sus.all (fun x => decide (x ∈ b.sus)) && (decide (b.txt.take a.txt.length = a.txt) &&
  ((!a.wed || b.wed) && (!a.rdy || (b.rdy && decide (a.by_ ≤ b.by_))))))))))
theorem under_refl16 {xs : List Int} (h : okB xs = true) : underB xs xs = true := by
 have : twoB xs xs = true := by simp [twoB,h]
 rw [underB,this,Bool.true_and]
 exact leB_true (fun j hj => Int.le_refl _)
theorem under_trans16 {xs ys zs : List Int} (h1 : underB xs ys = true) (h2 : underB ys zs = true) : underB xs zs = true := by
 simp only [underB,twoB,Bool.and_eq_true,decide_eq_true_eq] at h1 h2 ⊢
 refine ⟨⟨⟨h1.1.1.1,h2.1.1.2⟩,h1.1.2.trans h2.1.2⟩,leB_true (fun j hj => ?_)⟩
 have e1 : el xs j ≤ el ys j := by
  rcases Int.le_total (el xs j) (el ys j) with h | h
  ·exact h
  ·refine Classical.byContradiction fun hn => ?_
   have := leB_false (ys := ys) hj hn
   rw [h1.2] at this
   cases this
 have hj2 : j < ys.length := by rw [← h1.1.2];exact hj
 have e2 : el ys j ≤ el zs j := by
  refine Classical.byContradiction fun hn => ?_
  have := leB_false (ys := zs) hj2 hn
  rw [h2.2] at this
  cases this
 omega
theorem okRw_got {r : Rw} {n : Int} (h : okRw r n = true) : okB r.got = true := by
 simp only [okRw,smB,Bool.and_eq_true] at h
 exact h.2.2.2.1.1
theorem fol_self (r : Rw) (n : Int) : folB r r n = okRw r n := by
 cases h : okRw r n with
 | false => simp [folB,h]
 | true =>
  have hu := under_refl16 (okRw_got h)
  simp only [folB,h,hu,Bool.true_and,List.take_length,decide_true,Int.le_refl,Nat.le_refl]
  cases r.wed <;> cases r.rdy <;> simp
theorem fol_trans {a b c : Rw} {n : Int} (h1 : folB a b n = true) (h2 : folB b c n = true) : folB a c n = true := by
 simp only [folB,Bool.and_eq_true,decide_eq_true_eq,List.all_eq_true] at h1 h2 ⊢
 obtain ⟨a1,a2,a3,a4,a5,a6,a7,a8,a9⟩ := h1
 obtain ⟨b1,b2,b3,b4,b5,b6,b7,b8,b9⟩ := h2
 refine ⟨a1,b2,Int.le_trans a3 b3,Nat.le_trans a4 b4,under_trans16 a5 b5,fun x hx => b6 x (a6 x hx), ?_, ?_, ?_⟩
 ·have e : (c.txt.take b.txt.length).take a.txt.length = c.txt.take a.txt.length := by rw [List.take_take,Nat.min_eq_left a4]
  rw [← e,b7,a7]
 ·revert a8 b8
  cases a.wed <;> cases b.wed <;> cases c.wed <;> simp
 ·revert a9 b9
  cases a.rdy <;> cases b.rdy <;> cases c.rdy <;> simp
  omega
end Go.Proofs.Ytlnmdfgcpfbleaa
namespace Go.Proofs.Ytlnmdfgcpfbleaa
set_option linter.unusedVariables false
set_option linter.unusedSimpArgs false
set_option linter.unusedVariables false
open Go.RowKit Go.Sort
def sv (l : List UInt8) : ByteArray := ⟨l.toArray⟩
theorem sv_size (l : List UInt8) : (sv l).size = l.length := by simp [sv,ByteArray.size]
theorem sv_list (l : List UInt8) : (sv l).toList = l := by
 have h := ByteArray.toList_mk l
 exact h
theorem Try.info5 : (Try.prog.info? 5).map (fun i => (i.zero,i.size,i.bytes)) = some (some (.int .u8 0),1,1) := by kernel_rfl
end Go.Proofs.Ytlnmdfgcpfbleaa
namespace Go.Proofs.Ytlnmdfgcpfbleaa
set_option linter.unusedSimpArgs false
set_option linter.unusedVariables false
open Go.RowKit Go.Sort
attribute [local irreducible] sv
end Go.Proofs.Ytlnmdfgcpfbleaa
namespace Go.Proofs.Ytlnmdfgcpfbleaa
set_option linter.unusedVariables false
set_option linter.unusedSimpArgs false
abbrev Lg := Int × List (List UInt8)
def okLg (l : Lg) : Prop := (1 ≤ l.1 ∧ l.1 ≤ 1000000) ∧ l.2.length ≤ 40 ∧ ∀ i,i < l.2.length → (l.2.getD i []).length ≤ 100
instance (l : Lg) : Decidable (okLg l) := by unfold okLg;infer_instance
def addB (l : Lg) (v : Int) (s : List UInt8) : Prop := v = l.1 + (l.2.length : Int) ∧ l.2.length ≠ 40 ∧ s.length ≤ 100
instance (l : Lg) (v : Int) (s : List UInt8) : Decidable (addB l v s) := by unfold addB;infer_instance
def txtB (l : Lg) (v : Int) : Prop := l.1 ≤ v ∧ v ≤ l.1 + (l.2.length : Int) - 1
instance (l : Lg) (v : Int) : Decidable (txtB l v) := by unfold txtB;infer_instance
set_option linter.unusedSimpArgs false
set_option linter.unusedVariables false
open Go.RowKit Go.Sort
theorem Try.info9 : (Try.prog.info? 9).map (fun i => (i.zero,i.size,i.bytes)) = some (some (.string ⟨#[]⟩),1,16) := by kernel_rfl
theorem info_parts9 {T s b : Nat} {z : Value} (h : (Try.prog.info? T).map (fun i => (i.zero,i.size,i.bytes)) = some (some z,s,b)) : ∃ i,Try.prog.info? T = some i ∧ i.zero = some z ∧ i.size = s ∧ i.bytes = b := by
 cases hq : Try.prog.info? T with
 | none => rw [hq] at h;simp at h
 | some i => rw [hq] at h;simp at h;exact ⟨i,rfl,h.1,h.2.1,h.2.2⟩
def svs (zs : List (List UInt8)) : List Value := zs.map (fun s => Value.string (sv s))
theorem svs_app (a b : List (List UInt8)) : svs (a ++ b) = svs a ++ svs b := by simp [svs]
theorem svs_one (zs : List (List UInt8)) : ∀ u ∈ svs zs,u.oneCell' = true := by
 intro u hu
 simp only [svs,List.mem_map] at hu
 obtain ⟨s,_,rfl⟩ := hu
 rfl
def OS (w : World) (g off n cap : Nat) (zs : List (List UInt8)) : Prop := OSl w 1 g off n cap (svs zs)
theorem OS.length {w : World} {g off n cap : Nat} {zs : List (List UInt8)} (h : OS w g off n cap zs) : zs.length = n := by have := h.len;simpa [svs] using this
theorem OS.cellAt {w : World} {g off n cap : Nat} {zs : List (List UInt8)} (h : OS w g off n cap zs) {i : Nat} (hi : i < n) : w.cell? ⟨g,off + i,none⟩ = some (.string (sv (zs.getD i []))) := by
 have hl := h.length
 rw [h.cell i (by omega)]
 simp [svs,show i < zs.length by omega]
attribute [local irreducible] sv
end Go.Proofs.Ytlnmdfgcpfbleaa
namespace Go.Proofs.Ytlnmdfgcpfbleaa
set_option linter.unusedSimpArgs false
set_option linter.unusedVariables false
open Go.RowKit Go.Sort
attribute [local irreducible] sv
end Go.Proofs.Ytlnmdfgcpfbleaa
namespace Go.Proofs.Ytlnmdfgcpfbleaa
set_option linter.unusedVariables false
set_option linter.unusedSimpArgs false
open Go.RowKit Go.Sort
def TxS (w : World) (a : Option Addr) (T : List (List UInt8)) : Prop := T.length = 0 ∨ ∃ b off,a = some ⟨b,off,none⟩ ∧ ∀ i,i < T.length → w.cell? ⟨b,off + i,none⟩ = some (.string (sv (T.getD i [])))
theorem TxS.below {w w' : World} {a : Option Addr} {T : List (List UInt8)} (h : TxS w a T) (hb : Below w.heap.size w w') : TxS w' a T := by
 rcases h with h | ⟨b,off,ha,hc⟩
 ·exact .inl h
 ·exact .inr ⟨b,off,ha,fun i hi => (hb.cell (World.block_lt_of_cell? _ _ (hc i hi))).trans (hc i hi)⟩
def scl (T : List (List UInt8)) : Cel := .sl 1 T.length (pl (svs T))
theorem svs_len (T : List (List UInt8)) : (svs T).length = T.length := by simp [svs]
theorem svs_get {T : List (List UInt8)} {i : Nat} (h : i < T.length) : (svs T)[i]? = some (.string (sv (T.getD i []))) := by simp [svs,h]
theorem ow_scl {w : World} {T : List (List UInt8)} {u : Value} {fp : Fp} : Cel.ow w (scl T) u fp ↔ ∃ a c G,u = .slice a T.length c ∧ OSo w 1 a T.length c (svs T) G ∧ ∀ b,fp b ↔ G = some b := by
 constructor
 ·rintro ⟨a,c,us,G,f,rfl,ho,hl,hn,hf⟩
  obtain ⟨rfl,h0⟩ := owL_pl.1 hl
  exact ⟨a,c,G,rfl,ho,fun b => (hf b).trans ⟨fun h => h.elim id (fun h => absurd h (h0 b)),.inl⟩⟩
 ·rintro ⟨a,c,G,rfl,ho,hf⟩
  exact ⟨a,c,_,G,fun _ => False,rfl,ho,owL_pl.2 ⟨rfl,fun _ h => h⟩,fun _ _ h => h,fun b => (hf b).trans ⟨.inl,fun h => h.elim id False.elim⟩⟩
theorem OSo.os {w : World} {a : Option Addr} {c : Nat} {T : List (List UInt8)} {G : Option Nat} (h : OSo w 1 a T.length c (svs T) G) : (T = [] ∧ c = 0 ∧ G = none) ∨ ∃ g off,a = some ⟨g,off,none⟩ ∧ OS w g off T.length c T ∧ G = some g := by
 rcases h with ⟨h1,h2,h3,h4,_⟩ | h
 ·exact .inl ⟨List.eq_nil_of_length_eq_zero h1,h2,h4⟩
 ·exact .inr h
theorem TxS.news {w : World} {a : Option Addr} {T : List (List UInt8)} (h : TxS w a T) : T.length = 0 ∨ ∃ ad,a = some ad ∧ ∀ j u,(svs T)[j]? = some u → w.cell? (ad.add j) = some u := by
 rcases h with h | ⟨b,off,rfl,hc⟩
 ·exact .inl h
 ·refine .inr ⟨_,rfl,fun j u hu => ?_⟩
  have hl := (List.getElem?_eq_some_iff.1 hu).1
  rw [svs_len] at hl
  rw [svs_get hl] at hu
  cases hu
  rw [add_lit0]
  exact hc j hl
theorem TxS.take {w : World} {a : Option Addr} {T : List (List UInt8)} (h : TxS w a T) (k : Nat) : TxS w a (T.take k) := by
 rcases h with h | ⟨b,off,rfl,hc⟩
 ·exact .inl (by rw [List.length_take];omega)
 ·refine .inr ⟨_,_,rfl,fun i hi => ?_⟩
  rw [List.length_take] at hi
  rw [hc i (by omega)]
  simp [List.getD_eq_getElem?_getD,List.getElem?_take_of_lt (show i < k by omega)]
def totS (T : List (List UInt8)) : Nat → Nat
 | 0 => 0
 | k + 1 => totS T k + (T.getD k []).length
attribute [local irreducible] sv
theorem made_os (w : World) (n : Nat) (hn : n ≤ maxLen) : OS (w.alloc (.cells (madeCells #[.string ⟨#[]⟩] n) 9)) w.heap.size 0 n n (List.replicate n []) := by
 have h := osl_made w #[.string ⟨#[]⟩] 1 n 9 rfl (by omega) hn
 have e : (List.replicate n (#[Value.string ⟨#[]⟩] : Array Value).toList).flatten = svs (List.replicate n []) := by
  unfold svs
  rw [List.map_replicate]
  have : sv [] = ⟨#[]⟩ := by unfold sv;rfl
  rw [this]
  simp
 rw [e,Nat.mul_one] at h
 exact h
set_option maxRecDepth 100000 in
set_option maxHeartbeats 1600000 in
theorem likeSV_any (a a' : Option Addr) (cap cap' : Nat) (T : List (List UInt8)) (w : World) (hz : TxS w a T) (hy : TxS w a' T) (hm : T.length ≤ maxLen) :
  Calls Try.prog 83 #[.slice a T.length cap,.slice a' T.length cap'] w fun e w' => e = .returned (.bool true) ∧ Grew w w' := by
 unfold maxLen at hm
 have HZ : Hid (TxS w a T) := hz
 have HY : Hid (TxS w a' T) := hy
 have hne : ((T.length : Int) != (T.length : Int)) = false := by simp
 clear hz hy
 go_enter Try.func83,Try.ntmps83
 go_wp2
 clear hne
 go_loopw [5] (fun i wr => ∃ j : Nat,j ≤ T.length ∧ i = .int .i64 j ∧ ∃ q,wr = w.drewN q) (fun i _ => T.length - (intOf i).toNat)
 case atStart => exact ⟨0,Nat.zero_le _,rfl,0,rfl⟩
 case round =>
  obtain ⟨j,hj,rfl,q,rfl⟩ := hrel
  by_cases hlt : j < T.length
  ·rcases HZ.out with h0 | ⟨b,off,rfl,hc⟩
   ·omega
   rcases HY.out with h0 | ⟨b',off',rfl,hc'⟩
   ·omega
   have c1 := hc j hlt
   have c2 := hc' j hlt
   have j1 : (j : Int) < (T.length : Int) := by omega
   have j0 : (0 : Int) ≤ (j : Int) := by omega
   generalize T.getD j [] = A at *
   have hb : ((sv A).toList == (sv A).toList) = true := by simp
   clear hc hc'
   go_wp2_with fail
   go_quiet (fail)
   go_wp2
   go_roundw
   case rel => exact ⟨j + 1,by omega,by go_num,_,rfl⟩
   case measure => simp [intOf];omega
  ·have hjl : j = T.length := by omega
   subst hjl
   go_wp2
   go_ret
   exact ⟨rfl,(Grew.refl _).drewN _⟩
end Go.Proofs.Ytlnmdfgcpfbleaa
namespace Go.Proofs.Ytlnmdfgcpfbleaa
set_option linter.unusedVariables false
set_option linter.unusedSimpArgs false
open Go.RowKit Go.Sort
theorem txs_copied {P : Program} {w : World} (t ty e : TypeId) (i : TypeInfo) (ht : P.underlying t = some (.slice e)) (hi : P.info? e = some i) (hz : i.zero = some (.string ⟨#[]⟩)) (hsize : i.size = 1) (hby : i.bytes = 16)
  {a : Option Addr} (ha : PlainA a) {x : Option Addr} {c : Nat} {T : List (List UInt8)} (hv : TxS w x T) (hm : T.length ≤ 1048576) :
  ∃ a' c' w' fp',(Builtin.append_ #[t,t] ty #[.slice a 0 0,.slice x T.length c]).run P w = .ok (.slice a' T.length c') w' ∧ Cel.ow w' (scl T) (.slice a' T.length c') fp' ∧ Wrt (fun _ => False) w w' ∧ ∀ b,fp' b → b = w.heap.size := by
 obtain ⟨a',c',G',w',hr,ho',hg,hat⟩ := run_append_oo (P := P) w t ty e i _ 1 16 ht hi hz hsize hby rfl (by omega) a 0 0 [] none (OSo.nil _ _ ha) x T.length c (svs T) (by rw [svs_len];omega) hv.news (svs_one T) (by unfold maxLen;omega) (by omega)
 simp only [Nat.zero_add,List.nil_append] at hr ho'
 refine ⟨a',c',w',fun b => G' = some b,hr,ow_scl.2 ⟨a',c',G',rfl,ho',fun b => Iff.rfl⟩,(Wrt.of_grown hg).mono (fun b _ hb => by cases hb),fun b hb => ?_⟩
 rcases hat with h | h
 ·rw [h] at hb;cases hb
 ·rw [h] at hb;cases hb;rfl
attribute [local irreducible] sv
end Go.Proofs.Ytlnmdfgcpfbleaa
namespace Go.Proofs.Ytlnmdfgcpfbleaa
set_option linter.unusedVariables false
set_option linter.unusedSimpArgs false
open Go.RowKit Go.Sort
def TxP (w : World) (a : Option Addr) (c : Nat) (T : List (List UInt8)) : Prop := (T = [] ∧ c = 0 ∧ PlainA a) ∨ ∃ b off,a = some ⟨b,off,none⟩ ∧ T.length ≤ c ∧ c ≤ maxLen ∧ ∀ i,i < T.length → w.cell? ⟨b,off + i,none⟩ = some (.string (sv (T.getD i [])))
theorem TxP.txs {w : World} {a : Option Addr} {c : Nat} {T : List (List UInt8)} (h : TxP w a c T) : TxS w a T := by
 rcases h with ⟨h,_⟩ | ⟨b,off,h1,h2,h3,h4⟩
 ·exact .inl (by rw [h];rfl)
 ·exact .inr ⟨b,off,h1,h4⟩
theorem TxP.below {w w' : World} {a : Option Addr} {c : Nat} {T : List (List UInt8)} (h : TxP w a c T) (hb : Below w.heap.size w w') : TxP w' a c T := by
 rcases h with h | ⟨b,off,ha,h1,h2,hc⟩
 ·exact .inl h
 ·exact .inr ⟨b,off,ha,h1,h2,fun i hi => (hb.cell (World.block_lt_of_cell? _ _ (hc i hi))).trans (hc i hi)⟩
theorem OSo.txp {w : World} {a : Option Addr} {c : Nat} {T : List (List UInt8)} {G : Option Nat} (h : OSo w 1 a T.length c (svs T) G) : TxP w a c T := by
 have hp := h.plain
 rcases h.os with ⟨h1,h2,_⟩ | ⟨g,off,h1,h2,_⟩
 ·exact .inl ⟨h1,h2,hp⟩
 ·exact .inr ⟨g,off,h1,h2.le,h2.max,fun i hi => h2.cellAt hi⟩
theorem ow_txp {w : World} {a : Option Addr} {c : Nat} {T : List (List UInt8)} {fp : Fp} (h : Cel.ow w (scl T) (.slice a T.length c) fp) : TxP w a c T := by
 obtain ⟨a',c',G,e,ho,_⟩ := ow_scl.1 h
 cases e
 exact ho.txp
attribute [local irreducible] sv
end Go.Proofs.Ytlnmdfgcpfbleaa
namespace Go.Proofs.Ytlnmdfgcpfbleaa
set_option linter.unusedVariables false
set_option linter.unusedSimpArgs false
open Go.RowKit Go.Sort
structure Ra where
 ta : Option Addr
 tc : Nat
 ga : Option Addr
 gc : Nat
 sa : Option Addr
 sc : Nat
 ma : Option Addr
 mc : Nat
def rwC (A : Ra) (r : Rw) : Array Value := #[.int .i64 r.ver,.slice A.ta r.txt.length A.tc,.slice A.ga r.got.length A.gc,.slice A.sa r.sus.length A.sc,.bool r.wed,.bool r.rdy,.int .i64 r.by_,.slice A.ma r.trm.length A.mc]
def rwV (A : Ra) (r : Rw) : Value := .agg (rwC A r)
structure RwS (w : World) (A : Ra) (r : Rw) : Prop where
 txt : TxS w A.ta r.txt
 got : Vec w A.ga r.got.length r.got
 sus : Vec w A.sa r.sus.length r.sus
 trm : Vec w A.ma r.trm.length r.trm
 mt : r.txt.length ≤ maxLen
 mg : r.got.length ≤ maxLen
 ms : r.sus.length ≤ maxLen
 mm : r.trm.length ≤ maxLen
theorem RwS.below {w w' : World} {A : Ra} {r : Rw} (h : RwS w A r) (hb : Below w.heap.size w w') : RwS w' A r := ⟨h.txt.below hb,h.got.below hb (Nat.le_refl _),h.sus.below hb (Nat.le_refl _),h.trm.below hb (Nat.le_refl _),h.mt,h.mg,h.ms,h.mm⟩
theorem Bx.r8 {w : World} {B : Nat} {T : TypeId} {x0 x1 x2 x3 x4 x5 x6 x7 : Value} (h : Bx w B T #[x0,x1,x2,x3,x4,x5,x6,x7]) : (w.cell? ⟨B,0,none⟩ = some x0 ∧ w.cell? ⟨B,1,none⟩ = some x1 ∧ w.cell? ⟨B,2,none⟩ = some x2 ∧ w.cell? ⟨B,3,none⟩ = some x3) ∧ w.cell? ⟨B,4,none⟩ = some x4 ∧ w.cell? ⟨B,5,none⟩ = some x5 ∧ w.cell? ⟨B,6,none⟩ = some x6 ∧ w.cell? ⟨B,7,none⟩ = some x7 :=
 ⟨⟨h.at 0 rfl,h.at 1 rfl,h.at 2 rfl,h.at 3 rfl⟩,h.at 4 rfl,h.at 5 rfl,h.at 6 rfl,h.at 7 rfl⟩
theorem oneA16 (w : World) (o : Obj) : Below w.heap.size w (w.alloc o) := (Below.refl _ _).alloc (Nat.le_refl _) _
theorem susB_miss {l : List Int} {n : Int} {k : Nat} (hk : k < l.length) (h : inB (el l k) 0 (n - 1) = false) : susB l n = false := by
 have : l.all (fun x => inB x 0 (n - 1)) = false := by
  rw [List.all_eq_false]
  exact ⟨el l k,el_mem hk,by simp [h]⟩
 rw [susB,this]
 rfl
theorem susB_all {l : List Int} {n : Int} (h : ∀ k,k < l.length → inB (el l k) 0 (n - 1) = true) : susB l n = risB l := by
 have : l.all (fun x => inB x 0 (n - 1)) = true := by
  rw [List.all_eq_true]
  intro x hx
  obtain ⟨j,hj,rfl⟩ := List.mem_iff_getElem.1 hx
  have := h j hj
  simpa [el,hj] using this
 rw [susB,this]
 rfl
set_option maxRecDepth 100000 in
set_option maxHeartbeats 1600000 in
theorem susS_any (a : Option Addr) (cap : Nat) (l : List Int) (n : Int) (w : World) (hv : Vec w a l.length l) (hm : l.length ≤ maxLen) (hn : -1000 ≤ n ∧ n ≤ 1000) :
  Calls Try.prog 81 #[.slice a l.length cap,.int .i64 n] w fun e w' => e = .returned (.bool (susB l n)) ∧ Below w.heap.size w w' := by
 have hR := l1Rises_any a l.length cap l w hv hm
 have HV : Hid (Vec w a l.length l) := hv
 have hwn : wrap64 (n - 1) = n - 1 := by unfold wrap64;omega
 unfold maxLen at hm
 clear hv
 go_enter Try.func81,Try.ntmps81
 go_wp2
 go_loop [5] (fun i => ∃ k : Nat,k ≤ l.length ∧ i = .int .i64 k ∧ ∀ j,j < k → inB (el l j) 0 (n - 1) = true) (fun i => l.length - (intOf i).toNat)
 case atStart => exact ⟨0,Nat.zero_le _,rfl,fun j hj => by omega⟩
 case round =>
  obtain ⟨k,hk,rfl,hall⟩ := hrel
  have HA : Hid (∀ j,j < k → inB (el l j) 0 (n - 1) = true) := hall
  clear hall
  by_cases hlt : k < l.length
  ·rcases HV.out.2.2 with h0 | ⟨b,off,rfl,hc⟩
   ·omega
   have hck := hc k hlt
   have k1 : (k : Int) < (l.length : Int) := by omega
   have k0 : (0 : Int) ≤ (k : Int) := by omega
   have hI := fun X => l1In_any (el l k) 0 (n - 1) X
   clear hc
   cases hb : inB (el l k) 0 (n - 1) with
   | true =>
    rw [hb] at hI
    have HN : Hid (∀ j,j < k + 1 → inB (el l j) 0 (n - 1) = true) := fun j hj => by
     rcases Nat.lt_succ_iff_lt_or_eq.1 hj with h1 | h1
     ·exact HA.out j h1
     ·rw [h1];exact hb
    generalize el l k = x at *
    clear hb
    go_wp2_with (go_at_call 73;refine (hI _).mono ?_;rintro e w' ⟨rfl,hw'⟩;rw [hw'];clear hw')
    go_round
    case rel => exact ⟨k + 1,by omega,by go_num,HN.out⟩
    case measure => simp [intOf];omega
   | false =>
    rw [hb] at hI
    have HZ : Hid (susB l n = false) := susB_miss hlt hb
    generalize el l k = x at *
    clear hb
    go_wp2_with (go_at_call 73;refine (hI _).mono ?_;rintro e w' ⟨rfl,hw'⟩;rw [hw'];clear hw')
    go_ret
    exact ⟨ret_bool (by rw [HZ.out]),Below.refl _ _⟩
  ·have k1 : ¬ ((k : Int) < (l.length : Int)) := by omega
   have HZ : Hid (susB l n = risB l) := susB_all (fun j hj => HA.out j (by omega))
   generalize risB l = Q at *
   go_wp2_with (go_at_call 121;refine hR.mono ?_;rintro e w2 ⟨rfl,q,hw2⟩)
   go_ret
   exact ⟨ret_bool (by rw [HZ.out]),belowN (Below.refl _ _)⟩
theorem smB_parts {v : List Int} {n : Int} (h1 : okB v = true) (h2 : (v.length : Int) = n) (h3 : ∀ k,k < v.length → el v k ≤ 12) : smB v n = true := by
 have : v.all (fun x => decide (x ≤ 12)) = true := by
  rw [List.all_eq_true]
  intro x hx
  obtain ⟨j,hj,rfl⟩ := List.mem_iff_getElem.1 hx
  have := h3 j hj
  simpa [el,hj] using this
 rw [smB,h1,this,decide_eq_true h2]
 rfl
theorem smB_not {v : List Int} {n : Int} {k : Nat} (hk : k < v.length) (h : ¬ el v k ≤ 12) : smB v n = false := by
 have : v.all (fun x => decide (x ≤ 12)) = false := by
  rw [List.all_eq_false]
  exact ⟨el v k,el_mem hk,by simpa using h⟩
 rw [smB,this]
 simp
set_option maxRecDepth 100000 in
set_option maxHeartbeats 1600000 in
theorem trmS16_any (a : Option Addr) (cap : Nat) (l : List Int) (n : Int) (w : World) (hv : Vec w a l.length l) (hm : l.length ≤ maxLen) :
  Calls Try.prog 82 #[.slice a l.length cap,.int .i64 n] w fun e w' => e = .returned (.bool (smB l n)) ∧ w' = w := by
 have hO := specOk_any a l.length cap l w hv hm
 have HV : Hid (Vec w a l.length l) := hv
 unfold maxLen at hm
 clear hv
 cases hok : okB l with
 | false =>
  have HZ : Hid (smB l n = false) := by rw [Hid,smB,hok];rfl
  rw [hok] at hO
  clear hok
  go_enter Try.func82,Try.ntmps82
  go_wp2_with (go_at_call 25;refine hO.mono ?_;rintro e w' ⟨rfl,hw'⟩;rw [hw'];clear hw')
  go_ret
  exact ⟨ret_bool (by rw [HZ.out]),rfl⟩
 | true =>
  rw [hok] at hO
  by_cases hl : (l.length : Int) = n
  ·have e1 : ((l.length : Int) != n) = false := by simpa using hl
   have HP : Hid ((∀ k,k < l.length → el l k ≤ 12) → smB l n = true) := fun h => smB_parts hok hl h
   clear hok hl
   go_enter Try.func82,Try.ntmps82
   go_wp2_with (go_at_call 25;refine hO.mono ?_;rintro e w' ⟨rfl,hw'⟩;rw [hw'];clear hw')
   go_loop [5] (fun i => ∃ k : Nat,k ≤ l.length ∧ i = .int .i64 k ∧ ∀ j,j < k → el l j ≤ 12) (fun i => l.length - (intOf i).toNat)
   case atStart => exact ⟨0,Nat.zero_le _,rfl,fun j hj => by omega⟩
   case round =>
    obtain ⟨k,hk,rfl,hall⟩ := hrel
    have HA : Hid (∀ j,j < k → el l j ≤ 12) := hall
    clear hall
    by_cases hlt : k < l.length
    ·rcases HV.out.2.2 with h0 | ⟨b,off,rfl,hc⟩
     ·omega
     have hck := hc k hlt
     have k1 : (k : Int) < (l.length : Int) := by omega
     have k0 : (0 : Int) ≤ (k : Int) := by omega
     clear hc
     by_cases h12 : el l k ≤ 12
     ·have g12 : ¬ (12 < el l k) := by omega
      have HN : Hid (∀ j,j < k + 1 → el l j ≤ 12) := fun j hj => by
       rcases Nat.lt_succ_iff_lt_or_eq.1 hj with h1 | h1
       ·exact HA.out j h1
       ·rw [h1];exact h12
      generalize el l k = x at *
      clear h12
      go_wp2
      go_round
      case rel => exact ⟨k + 1,by omega,by go_num,HN.out⟩
      case measure => simp [intOf];omega
     ·have g12 : 12 < el l k := by omega
      have HZ : Hid (smB l n = false) := smB_not hlt h12
      generalize el l k = x at *
      clear h12
      go_wp2
      go_ret
      exact ⟨ret_bool (by rw [HZ.out]),rfl⟩
    ·have k1 : ¬ ((k : Int) < (l.length : Int)) := by omega
     have HZ : Hid (smB l n = true) := HP.out (fun j hj => HA.out j (by omega))
     go_wp2
     go_ret
     exact ⟨ret_bool (by rw [HZ.out]),rfl⟩
  ·have e1 : ((l.length : Int) != n) = true := by simpa using hl
   have HZ : Hid (smB l n = false) := by rw [Hid,smB,decide_eq_false hl];simp
   clear hok hl
   go_enter Try.func82,Try.ntmps82
   go_wp2_with (go_at_call 25;refine hO.mono ?_;rintro e w' ⟨rfl,hw'⟩;rw [hw'];clear hw')
   go_ret
   exact ⟨ret_bool (by rw [HZ.out]),rfl⟩
end Go.Proofs.Ytlnmdfgcpfbleaa
namespace Go.Proofs.Ytlnmdfgcpfbleaa
set_option linter.unusedVariables false
set_option linter.unusedSimpArgs false
open Go.RowKit Go.Sort
def rwCels (r : Rw) : List Cel := [scl r.txt,icl r.got,icl r.sus,icl r.trm]
def rwVals (A : Ra) (r : Rw) : List Value := [.slice A.ta r.txt.length A.tc,.slice A.ga r.got.length A.gc,.slice A.sa r.sus.length A.sc,.slice A.ma r.trm.length A.mc]
def AnsRw (w w' : World) (e : Ending) (r : Rw) : Prop := ∃ A : Ra,e = .returned (rwV A r) ∧ NewL w w' (rwCels r) (rwVals A r)
theorem owL4 {w : World} {c1 c2 c3 c4 : Cel} {v1 v2 v3 v4 : Value} {f1 f2 f3 f4 : Fp} (h1 : Cel.ow w c1 v1 f1) (h2 : Cel.ow w c2 v2 f2) (h3 : Cel.ow w c3 v3 f3) (h4 : Cel.ow w c4 v4 f4) (d1 : ∀ b,f1 b → ¬ (f2 b ∨ f3 b ∨ f4 b)) (d2 : ∀ b,f2 b → ¬ (f3 b ∨ f4 b)) (d3 : ∀ b,f3 b → ¬ f4 b) :
  owL w [c1,c2,c3,c4] [v1,v2,v3,v4] (fun b => f1 b ∨ f2 b ∨ f3 b ∨ f4 b) :=
 ⟨v1,_,f1,fun b => f2 b ∨ f3 b ∨ f4 b,rfl,h1,⟨v2,_,f2,fun b => f3 b ∨ f4 b,rfl,h2,⟨v3,_,f3,f4,rfl,h3,⟨v4,[],f4,fun _ => False,rfl,h4,⟨rfl,fun _ h => h⟩,fun _ _ h => h,fun b => by simp⟩,d3,fun b => Iff.rfl⟩,d2,fun b => Iff.rfl⟩,d1,fun b => Iff.rfl⟩
theorem ow_none_s (w : World) : Cel.ow w (scl []) (.slice none 0 0) (fun _ => False) := ow_scl.2 ⟨none,0,none,rfl,OSo.nil _ _ plainN,fun b => by simp⟩
theorem ow_none_i (w : World) : Cel.ow w (icl []) (.slice none 0 0) (fun _ => False) := ow_icl.2 ⟨none,0,none,rfl,OSo.nil _ _ plainN,fun b => by simp⟩
theorem ans_zero {w w' : World} (hb : Below w.heap.size w w') : NewL w w' (rwCels zeroRw) (rwVals ⟨none,0,none,0,none,0,none,0⟩ zeroRw) :=
 ⟨_,owL4 (ow_none_s w') (ow_none_i w') (ow_none_i w') (ow_none_i w') (fun b h => absurd h id) (fun b h => absurd h id) (fun b h => absurd h id),fun b h => by rcases h with h | h | h | h <;> exact absurd h id,hb⟩
theorem made_oi (w : World) (n : Nat) (hn : n ≤ maxLen) : OI (w.alloc (.cells (madeCells #[.int .i64 0] n) 2)) w.heap.size 0 n n (List.replicate n 0) := by
 have h := osl_made w #[.int .i64 0] 1 n 2 rfl (by omega) hn
 rw [Nat.mul_one] at h
 have e : (List.replicate n (#[Value.int .i64 0] : Array Value).toList).flatten = (List.replicate n (0 : Int)).map (Value.int .i64) := by
  rw [List.map_replicate]
  clear h hn
  induction n with
  | zero => rfl
  | succ n ih => rw [List.replicate_succ,List.replicate_succ,List.flatten_cons,ih];rfl
 rw [e] at h
 exact h
theorem wrt8 (w : World) (g : Nat) {a b c d e f h i : Value} : Wrt (fun x => x = g) w ((((((((w.setCell ⟨g,0,none⟩ a).setCell ⟨g,1,none⟩ b).setCell ⟨g,2,none⟩ c).setCell ⟨g,3,none⟩ d).setCell ⟨g,4,none⟩ e).setCell ⟨g,5,none⟩ f).setCell ⟨g,6,none⟩ h).setCell ⟨g,7,none⟩ i) :=
 (((((((Wrt.set w g 0 a).trans (Wrt.set _ g 1 b) (fun _ _ h => h)).trans (Wrt.set _ g 2 c) (fun _ _ h => h)).trans (Wrt.set _ g 3 d) (fun _ _ h => h)).trans (Wrt.set _ g 4 e) (fun _ _ h => h)).trans (Wrt.set _ g 5 f) (fun _ _ h => h)).trans (Wrt.set _ g 6 h) (fun _ _ h => h)).trans (Wrt.set _ g 7 i) (fun _ _ h => h)
theorem Bx.f8 {w : World} {B : Nat} {T : TypeId} {cs : Array Value} (h : Bx w B T cs) : (w.frozen? ⟨B,0,none⟩ = false ∧ w.frozen? ⟨B,1,none⟩ = false ∧ w.frozen? ⟨B,2,none⟩ = false ∧ w.frozen? ⟨B,3,none⟩ = false) ∧ w.frozen? ⟨B,4,none⟩ = false ∧ w.frozen? ⟨B,5,none⟩ = false ∧ w.frozen? ⟨B,6,none⟩ = false ∧ w.frozen? ⟨B,7,none⟩ = false :=
 ⟨⟨h.f 0,h.f 1,h.f 2,h.f 3⟩,h.f 4,h.f 5,h.f 6,h.f 7⟩
set_option maxRecDepth 100000 in
set_option maxHeartbeats 3200000 in
theorem nrwS_any (n : Int) (w : World) :
  Calls Try.prog 39 #[.int .i64 n] w fun e w' => AnsRw w w' e (newRw n) := by
 have hb0 := oneA16 w (.cells #[.int .i64 0,.slice none 0 0,.slice none 0 0,.slice none 0 0,.bool false,.bool false,.int .i64 0,.slice none 0 0] 35)
 have hx := Bx.new w 35 #[.int .i64 0,.slice none 0 0,.slice none 0 0,.slice none 0 0,.bool false,.bool false,.int .i64 0,.slice none 0 0]
 have HB0 : Hid (Below w.heap.size w (w.alloc (.cells #[.int .i64 0,.slice none 0 0,.slice none 0 0,.slice none 0 0,.bool false,.bool false,.int .i64 0,.slice none 0 0] 35))) := hb0
 generalize hW : w.alloc (.cells #[.int .i64 0,.slice none 0 0,.slice none 0 0,.slice none 0 0,.bool false,.bool false,.int .i64 0,.slice none 0 0] 35) = W at *
 have hlt := hx.lt
 cases e1 : inB n 1 5 with
 | false =>
  have HZ : Hid (newRw n = zeroRw) := by rw [Hid,newRw,e1];rfl
  obtain ⟨⟨c0,c1,c2,c3⟩,c4,c5,c6,c7⟩ := hx.r8
  obtain ⟨⟨f0,f1,f2,f3⟩,f4,f5,f6,f7⟩ := hx.f8
  clear hx hb0
  go_enter Try.func39,Try.ntmps39
  go_wp2_with (go_at_call 73;refine (l1In_any _ _ _ _).mono ?_;rintro e w' ⟨rfl,hw'⟩;rw [hw'];clear hw')
  refine bodyPost_ret (v := rwV ⟨none,0,none,0,none,0,none,0⟩ zeroRw) (by simp [results,Try.results39,go_sem,rwV,rwC,zeroRw, *]) rfl ?_
  rw [HZ.out]
  exact ⟨_,rfl,ans_zero ((wrt8 W w.heap.size).below HB0.out HB0.out.size (fun b h => by rw [h];exact Nat.le_refl _))⟩
 | true =>
  have hn := inB7.1 e1
  obtain ⟨N,rfl⟩ : ∃ N : Nat,n = (N : Int) := ⟨n.toNat,by omega⟩
  have HZ : Hid (newRw (N : Int) = ⟨0,[],List.replicate N 0,[],false,false,0,[]⟩) := by rw [Hid,newRw,e1];simp
  have hmk := run_make_row' (P := Try.prog) 24 2 (.int .i64 0) 8 Try.underlying24 Try.info2 rfl .i64 .i64 N (by omega) (by omega)
  have hM := made_oi (w.alloc (.cells #[.int .i64 0,.slice none 0 0,.slice (some ⟨w.heap.size + 1,0,none⟩) N N,.slice none 0 0,.bool false,.bool false,.int .i64 0,.slice none 0 0] 35)) N (by unfold maxLen;omega)
  have hbM : Below w.heap.size w ((w.alloc (.cells #[.int .i64 0,.slice none 0 0,.slice (some ⟨w.heap.size + 1,0,none⟩) N N,.slice none 0 0,.bool false,.bool false,.int .i64 0,.slice none 0 0] 35)).alloc (.cells (madeCells #[.int .i64 0] N) 2)) := (oneA16 w _).trans ((oneA16 _ _).mono (oneA16 w _).size)
  rw [World.size_alloc] at hM
  have HA : Hid (NewL w ((w.alloc (.cells #[.int .i64 0,.slice none 0 0,.slice (some ⟨w.heap.size + 1,0,none⟩) N N,.slice none 0 0,.bool false,.bool false,.int .i64 0,.slice none 0 0] 35)).alloc (.cells (madeCells #[.int .i64 0] N) 2)) (rwCels ⟨0,[],List.replicate N 0,[],false,false,0,[]⟩) (rwVals ⟨none,0,some ⟨w.heap.size + 1,0,none⟩,N,none,0,none,0⟩ ⟨0,[],List.replicate N 0,[],false,false,0,[]⟩)) := by
   refine ⟨_,owL4 (ow_none_s _) (f2 := fun b => b = w.heap.size + 1) ?_ (ow_none_i _) (ow_none_i _) (fun b h => absurd h id) (fun b _ h => by rcases h with h | h <;> exact absurd h id) (fun b h => absurd h id),fun b h => ?_,hbM⟩
   ·refine ow_icl.2 ⟨_,N,some (w.heap.size + 1),rfl,OSo.of ?_,fun b => by simp [eq_comm]⟩
    have e : (List.replicate N (0 : Int)).length = N := List.length_replicate
    simp only [e]
    exact hM
   ·rcases h with h | h | h | h
    ·exact absurd h id
    ·rw [h];omega
    ·exact absurd h id
    ·exact absurd h id
  clear hx hb0 hM hbM hW hlt HB0
  go_enter Try.func39,Try.ntmps39
  go_wp2_with (go_at_call 73;refine (l1In_any _ _ _ _).mono ?_;rintro e w' ⟨rfl,hw'⟩;rw [hw'];clear hw')
  refine bodyPost_ret (v := rwV ⟨none,0,some ⟨w.heap.size + 1,0,none⟩,N,none,0,none,0⟩ ⟨0,[],List.replicate N 0,[],false,false,0,[]⟩) (by simp [results,Try.results39,go_sem,rwV,rwC]) rfl ?_
  rw [HZ.out]
  exact ⟨_,rfl,HA.out⟩
end Go.Proofs.Ytlnmdfgcpfbleaa
namespace Go.Proofs.Ytlnmdfgcpfbleaa
set_option linter.unusedVariables false
set_option linter.unusedSimpArgs false
abbrev Vw := Int × List Int
def okVw (v : Vw) : Prop := (1 ≤ v.1 ∧ v.1 ≤ 1000000) ∧ (1 ≤ v.2.length ∧ v.2.length ≤ 8) ∧ v.2.Pairwise (· < ·) ∧ ∀ x ∈ v.2,0 ≤ x ∧ x ≤ 99
instance (v : Vw) : Decidable (okVw v) := by unfold okVw;infer_instance
theorem el_in {xs : List Int} {i : Nat} (h : i < xs.length) : el xs i ∈ xs := by simp [el,List.getD,h]
theorem el_of {xs : List Int} {x : Int} (h : x ∈ xs) : ∃ i,i < xs.length ∧ el xs i = x := by
 obtain ⟨i,hi,e⟩ := List.mem_iff_getElem.1 h
 exact ⟨i,hi,by simp [el,List.getD,hi,e]⟩
def cntL (m l : List Int) : Nat := (m.filter (fun x => decide (x ∈ l))).length
def mjP (v : Vw) (l : List Int) : Prop := okVw v ∧ v.2.length < 2 * cntL v.2 l
instance (v : Vw) (l : List Int) : Decidable (mjP v l) := by unfold mjP;infer_instance
def lftL (m gone : List Int) : List Int := m.filter (fun x => decide (x ∉ gone))
def putsL (m come : List Int) : List Int := come.foldl putL m
def aftP (v : Vw) (gone come : List Int) : Prop := okVw v ∧ mjP v (lftL v.2 gone) ∧ okVw (v.1 + 1,putsL (lftL v.2 gone) come)
instance (v : Vw) (gone come : List Int) : Decidable (aftP v gone come) := by unfold aftP;infer_instance
end Go.Proofs.Ytlnmdfgcpfbleaa