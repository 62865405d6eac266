/-
  Texts in one: Tlr Tlt Mbo Mbn Rcy Mbc Mbf Olx.
-/
import Derived.Test.YtidnfdobljihoaaGreatJaa
import Derived.Test.YtidnfdobljihoaaGreatJab
import Derived.Test.YtidnfdobljihoaaGreatJad
import Derived.Test.YtidnfdobljihoaaGreatJac
import Derived.StillTail
import Derived.OrdersHeld
import Derived.Deep.RegionHeld
import Derived.Deep.Cut
import Derived.Deep.CutRange
namespace Go.Proofs.YtidnfdobljihoaaGreat
set_option linter.unusedSimpArgs false
set_option linter.unusedVariables false
open Go.RowKit Go.Sort
section
variable {P : Program} {ops : Array Oper} {Q : Exit → Act → World → Prop} {md : Region.Mode} {S : World → Prop}
def wpAnyT (P : Program) (md : Region.Mode) (ops : Array Oper) (Q : Exit → Act → World → Prop) (S : World → Prop) (z : Nat) : Nat → Array Bool → Act → World → Prop
 | 0,listed,a,w => Region.ready md ops listed = [] ∧ Q .normal a w
 | fuel + 1,listed,a,w =>
  (Region.ready md ops listed = [] → Q .normal a w) ∧
  ∀ i ∈ Region.ready md ops listed,wpOp P ops Q i (fun a' w' => (i ≠ z → S w → S w') ∧ wpAnyT P md ops Q S z fuel (listed.setIfInBounds i true) a' w') a w
theorem wpAny_of_T {z : Nat} : ∀ (fuel : Nat) (listed : Array Bool) (a : Act) (w : World),wpAnyT P md ops Q S z fuel listed a w → wpAny P md ops Q fuel listed a w
 | 0,_,_,_,h => h
 | fuel + 1,_,_,_,h => ⟨h.1,fun i hi => wpOp_mono (fun a' w' h' => wpAny_of_T fuel _ a' w' h'.2) (h.2 i hi)⟩
theorem wpAnyT_first {i z : Nat} {oi : Oper} {v : Value} (hi : ops[i]? = some oi) (hsel : ∀ (j : Nat) (o : Oper) cs b,ops[j]? = some o → o.op ≠ .select cs b)
  (hQ : ∀ c a w,Q (.panic c) (a.put oi.dst v) w → Q (.panic c) a w) (hz : Region.waitsFor md ops z i = true) (hiz : i ≠ z) :
  ∀ (fuel : Nat) (listed : Array Bool) (a : Act) (w : World),
   (∀ j oj,ops[j]? = some oj → j ≠ i → listed.getD j true = false → (∀ e ∈ oj.after,Region.binds md e = true → e.on ≠ i) → oi.apart ops oj = true) →
   i ∈ Region.ready md ops listed → YieldsIf P ops S oi v a → S w →
   wpAnyT P md ops Q S z fuel (listed.setIfInBounds i true) (a.put oi.dst v) w → wpAnyT P md ops Q S z (fuel + 1) listed a w := by
 intro fuel
 induction fuel with
 | zero =>
  intro listed a w _ hr hy hS H
  refine ⟨fun h => (by rw [h] at hr;cases hr),fun j hj => ?_⟩
  by_cases hji : j = i
  ·subst hji;exact hy.wpOp hi hS ⟨fun _ h => h,H⟩
  ·have := ready_mono hj hji
   rw [H.1] at this
   cases this
 | succ fuel ih =>
  intro listed a w hfree hr hy hS H
  have hun := (mem_ready.1 hr).1
  refine ⟨fun h => (by rw [h] at hr;cases hr),fun j hj => ?_⟩
  by_cases hji : j = i
  ·subst hji;exact hy.wpOp hi hS ⟨fun _ h => h,H⟩
  ·obtain ⟨hjun,oj,hoj,hall⟩ := mem_ready.1 hj
   have hnot : ∀ e ∈ oj.after,Region.binds md e = true → e.on ≠ i := fun e he hb heq => by
    have h3 := hall e he hb
    rw [heq,getD_both hun] at h3
    cases h3
   have hjz : j ≠ z := fun e => by
    subst e
    obtain ⟨o',ho',e,he,hb,hon⟩ := Region.waitsFor_spec hz
    have : o' = oj := Option.some.inj (ho'.symm.trans hoj)
    subst this
    exact hnot e he hb hon
   have h1 := H.2 j (ready_mono hj hji)
   have h2 := wpOp_putIf hoj (hfree j oj hoj hji hjun hnot) (fun cs b => hsel i oi cs b hi) (fun cs b => hsel j oj cs b hoj) hQ hy h1
   have hfree' : ∀ k ok,ops[k]? = some ok → k ≠ i → (listed.setIfInBounds j true).getD k true = false →
     (∀ e ∈ ok.after,Region.binds md e = true → e.on ≠ i) → oi.apart ops ok = true := fun k ok hk hki hun hno => by
    refine hfree k ok hk hki ?_ hno
    by_cases hjk : j = k
    ·subst hjk;exact hjun
    ·rw [getD_set_ne true hjk] at hun;exact hun
   refine wpOp_mono (fun a' w' h3 => ⟨h3.2.1,ih (listed.setIfInBounds j true) a' w' hfree' (ready_mono hr (Ne.symm hji)) h3.1 (h3.2.1 hjz hS) ?_⟩) h2
   rw [Array.setIfInBounds_comm _ _ hji]
   exact h3.2.2
theorem wpAnyT_pure {i z : Nat} {oi : Oper} {v : Value} (hi : ops[i]? = some oi) (hsel : ∀ (j : Nat) (o : Oper) cs b,ops[j]? = some o → o.op ≠ .select cs b)
  (hQ : ∀ c a w,Q (.panic c) (a.put oi.dst v) w → Q (.panic c) a w) :
  ∀ (fuel : Nat) (listed : Array Bool) (a : Act) (w : World),
   (∀ j oj,ops[j]? = some oj → j ≠ i → listed.getD j true = false → (∀ e ∈ oj.after,Region.binds md e = true → e.on ≠ i) → oi.apart ops oj = true) →
   i ∈ Region.ready md ops listed → Yields P ops oi v a →
   wpAnyT P md ops Q S z fuel (listed.setIfInBounds i true) (a.put oi.dst v) w → wpAnyT P md ops Q S z (fuel + 1) listed a w := by
 intro fuel
 induction fuel with
 | zero =>
  intro listed a w _ hr hy H
  refine ⟨fun h => (by rw [h] at hr;cases hr),fun j hj => ?_⟩
  by_cases hji : j = i
  ·subst hji;exact hy.wpOp hi ⟨fun _ h => h,H⟩
  ·have := ready_mono hj hji
   rw [H.1] at this
   cases this
 | succ fuel ih =>
  intro listed a w hfree hr hy H
  have hun := (mem_ready.1 hr).1
  refine ⟨fun h => (by rw [h] at hr;cases hr),fun j hj => ?_⟩
  by_cases hji : j = i
  ·subst hji;exact hy.wpOp hi ⟨fun _ h => h,H⟩
  ·obtain ⟨hjun,oj,hoj,hall⟩ := mem_ready.1 hj
   have hnot : ∀ e ∈ oj.after,Region.binds md e = true → e.on ≠ i := fun e he hb heq => by
    have h3 := hall e he hb
    rw [heq,getD_both hun] at h3
    cases h3
   have h1 := H.2 j (ready_mono hj hji)
   have h2 := wpOp_put hoj (hfree j oj hoj hji hjun hnot) (fun cs b => hsel i oi cs b hi) (fun cs b => hsel j oj cs b hoj) hQ hy h1
   have hfree' : ∀ k ok,ops[k]? = some ok → k ≠ i → (listed.setIfInBounds j true).getD k true = false →
     (∀ e ∈ ok.after,Region.binds md e = true → e.on ≠ i) → oi.apart ops ok = true := fun k ok hk hki hun hno => by
    refine hfree k ok hk hki ?_ hno
    by_cases hjk : j = k
    ·subst hjk;exact hjun
    ·rw [getD_set_ne true hjk] at hun;exact hun
   refine wpOp_mono (fun a' w' h3 => ⟨h3.2.1,ih (listed.setIfInBounds j true) a' w' hfree' (ready_mono hr (Ne.symm hji)) h3.1 ?_⟩) h2
   rw [Array.setIfInBounds_comm _ _ hji]
   exact h3.2.2
end
section
variable {P : Program} {l : List Oper} {Q : Exit → Act → World → Prop} {S : World → Prop}
def GT (P : Program) (l : List Oper) (Q : Exit → Act → World → Prop) (S : World → Prop) (z fuel : Nat) (listed : Array Bool) (a : Act) (w : World) : Prop := wpAnyT P .any l.toArray Q S z fuel listed a w
theorem gt_begin {id : Nat} {a : Act} {w : World} (z : Nat) (hm : P.follows .mixedOrders = true) (hlen : (l.length == l.length) = true)
  (h : GT P l Q S z l.length (Array.replicate l.length false) a w.drew) : (Code.region id l.toArray true).wp P Q a w := by
 refine wp_region_any hm (wpAny_of_T (z := z) (S := S) _ _ _ _ ?_)
 unfold GT at h
 simpa using h
theorem gt_take {i z : Nat} {oi : Oper} {v : Value} {fuel : Nat} {listed : Array Bool} {a : Act} {w : World} (hi : l[i]? = some oi) (hs : Region.noSelect l.toArray = true)
  (hsk : (Region.waitsFor .any l.toArray z i && (i != z)) = true) (hf : Region.free .any l.toArray listed i = true) (hr : (Region.ready .any l.toArray listed).contains i = true)
  (hQ : ∀ c a w,Q (.panic c) (a.put oi.dst v) w → Q (.panic c) a w) (hy : YieldsIf P l.toArray S oi v a) (hS : S w)
  (h : GT P l Q S z fuel (listed.setIfInBounds i true) (a.put oi.dst v) w) : GT P l Q S z (fuel + 1) listed a w := by
 simp only [Bool.and_eq_true,bne_iff_ne] at hsk
 have hi' : l.toArray[i]? = some oi := by simpa using hi
 exact wpAnyT_first hi' (Region.noSelect_spec hs) hQ hsk.1 hsk.2 fuel listed a w (Region.free_spec hi' hf) (by simpa using hr) hy hS h
theorem gt_pure {i z : Nat} {oi : Oper} {v : Value} {fuel : Nat} {listed : Array Bool} {a : Act} {w : World} (hi : l[i]? = some oi) (hs : Region.noSelect l.toArray = true)
  (hf : Region.free .any l.toArray listed i = true) (hr : (Region.ready .any l.toArray listed).contains i = true)
  (hQ : ∀ c a w,Q (.panic c) (a.put oi.dst v) w → Q (.panic c) a w) (hy : Yields P l.toArray oi v a)
  (h : GT P l Q S z fuel (listed.setIfInBounds i true) (a.put oi.dst v) w) : GT P l Q S z (fuel + 1) listed a w := by
 have hi' : l.toArray[i]? = some oi := by simpa using hi
 exact wpAnyT_pure hi' (Region.noSelect_spec hs) hQ fuel listed a w (Region.free_spec hi' hf) (by simpa using hr) hy h
theorem gt_one {i z : Nat} {o : Oper} {fuel : Nat} {listed : Array Bool} {a : Act} {w : World} (hi : l[i]? = some o) (hr : Region.ready .any l.toArray listed = [i]) (hiz : (i != z) = true)
  (h : ∀ K' : Act → World → Prop,Shut (∀ a w,S w → (S w → GT P l Q S z fuel (listed.setIfInBounds i true) a w) → K' a w) → if Region.wanted o (yielded l.toArray a.tmps) = true then Oper.wp P o a w K' Q else K' (a.put o.dst undef) w) : GT P l Q S z (fuel + 1) listed a w := by
 have hi' : l.toArray[i]? = some o := by simpa using hi
 refine ⟨fun h0 => (by rw [hr] at h0;cases h0),fun j hj => ?_⟩
 rw [hr] at hj
 simp at hj
 subst hj
 exact wpOp_step hi' (fun K' hK => h K' (fun a w hS hW => hK a w ⟨fun _ _ => hS,hW hS⟩))
theorem gt_last {z : Nat} {o : Oper} {fuel : Nat} {listed : Array Bool} {a : Act} {w : World} (hi : l[z]? = some o) (hr : Region.ready .any l.toArray listed = [z]) (hr2 : Region.ready .any l.toArray (listed.setIfInBounds z true) = [])
  (h : ∀ K' : Act → World → Prop,Shut (∀ a w,Q .normal a w → K' a w) → if Region.wanted o (yielded l.toArray a.tmps) = true then Oper.wp P o a w K' Q else K' (a.put o.dst undef) w) : GT P l Q S z (fuel + 1) listed a w := by
 have hi' : l.toArray[z]? = some o := by simpa using hi
 refine ⟨fun h0 => (by rw [hr] at h0;cases h0),fun j hj => ?_⟩
 rw [hr] at hj
 simp at hj
 subst hj
 refine wpOp_step hi' (fun K' hK => h K' (fun a w hq => hK a w ⟨fun h => absurd rfl h, ?_⟩))
 cases fuel with
 | zero => exact ⟨hr2,hq⟩
 | succ f => exact ⟨fun _ => hq,by rw [hr2];simp⟩
end
end Go.Proofs.YtidnfdobljihoaaGreat
namespace Go.Proofs.YtidnfdobljihoaaGreat
set_option linter.unusedVariables false
set_option linter.unusedSimpArgs false
open Go.RowKit Go.Sort
section
variable {P : Program} {l : List Oper} {Q : Exit → Act → World → Prop} {S : World → Prop}
end
section
variable {P : Program} {ops : Array Oper} {Q : Exit → Act → World → Prop} {md : Region.Mode} {S : World → Prop}
theorem wpAnyT_firstA {i z : Nat} {oi : Oper} {v : Value} (hi : ops[i]? = some oi) (hsel : ∀ (j : Nat) (o : Oper) cs b,ops[j]? = some o → o.op ≠ .select cs b)
  (hQ : ∀ c a w,Q (.panic c) (a.put oi.dst v) w → Q (.panic c) a w) (hz : ops.size ≤ z) :
  ∀ (fuel : Nat) (listed : Array Bool) (a : Act) (w : World),
   (∀ j oj,ops[j]? = some oj → j ≠ i → listed.getD j true = false → (∀ e ∈ oj.after,Region.binds md e = true → e.on ≠ i) → oi.apart ops oj = true) →
   i ∈ Region.ready md ops listed → YieldsIf P ops S oi v a → S w →
   wpAnyT P md ops Q S z fuel (listed.setIfInBounds i true) (a.put oi.dst v) w → wpAnyT P md ops Q S z (fuel + 1) listed a w := by
 intro fuel
 induction fuel with
 | zero =>
  intro listed a w _ hr hy hS H
  refine ⟨fun h => (by rw [h] at hr;cases hr),fun j hj => ?_⟩
  by_cases hji : j = i
  ·subst hji;exact hy.wpOp hi hS ⟨fun _ h => h,H⟩
  ·have := ready_mono hj hji
   rw [H.1] at this
   cases this
 | succ fuel ih =>
  intro listed a w hfree hr hy hS H
  have hun := (mem_ready.1 hr).1
  refine ⟨fun h => (by rw [h] at hr;cases hr),fun j hj => ?_⟩
  by_cases hji : j = i
  ·subst hji;exact hy.wpOp hi hS ⟨fun _ h => h,H⟩
  ·obtain ⟨hjun,oj,hoj,hall⟩ := mem_ready.1 hj
   have hnot : ∀ e ∈ oj.after,Region.binds md e = true → e.on ≠ i := fun e he hb heq => by
    have h3 := hall e he hb
    rw [heq,getD_both hun] at h3
    cases h3
   have hjz : j ≠ z := fun e => by
    have := (Array.getElem?_eq_some_iff.1 hoj).1
    omega
   have h1 := H.2 j (ready_mono hj hji)
   have h2 := wpOp_putIf hoj (hfree j oj hoj hji hjun hnot) (fun cs b => hsel i oi cs b hi) (fun cs b => hsel j oj cs b hoj) hQ hy h1
   have hfree' : ∀ k ok,ops[k]? = some ok → k ≠ i → (listed.setIfInBounds j true).getD k true = false →
     (∀ e ∈ ok.after,Region.binds md e = true → e.on ≠ i) → oi.apart ops ok = true := fun k ok hk hki hun hno => by
    refine hfree k ok hk hki ?_ hno
    by_cases hjk : j = k
    ·subst hjk;exact hjun
    ·rw [getD_set_ne true hjk] at hun;exact hun
   refine wpOp_mono (fun a' w' h3 => ⟨h3.2.1,ih (listed.setIfInBounds j true) a' w' hfree' (ready_mono hr (Ne.symm hji)) h3.1 (h3.2.1 hjz hS) ?_⟩) h2
   rw [Array.setIfInBounds_comm _ _ hji]
   exact h3.2.2
end
section
variable {P : Program} {l : List Oper} {Q : Exit → Act → World → Prop} {S : World → Prop}
theorem gt_takeA {i z : Nat} {oi : Oper} {v : Value} {fuel : Nat} {listed : Array Bool} {a : Act} {w : World} (hi : l[i]? = some oi) (hs : Region.noSelect l.toArray = true)
  (hsk : decide (l.length ≤ z) = true) (hf : Region.free .any l.toArray listed i = true) (hr : (Region.ready .any l.toArray listed).contains i = true)
  (hQ : ∀ c a w,Q (.panic c) (a.put oi.dst v) w → Q (.panic c) a w) (hy : YieldsIf P l.toArray S oi v a) (hS : S w)
  (h : GT P l Q S z fuel (listed.setIfInBounds i true) (a.put oi.dst v) w) : GT P l Q S z (fuel + 1) listed a w := by
 have hi' : l.toArray[i]? = some oi := by simpa using hi
 exact wpAnyT_firstA hi' (Region.noSelect_spec hs) hQ (by simpa using hsk) fuel listed a w (Region.free_spec hi' hf) (by simpa using hr) hy hS h
theorem gt_end {z : Nat} {fuel : Nat} {listed : Array Bool} {a : Act} {w : World} (hr : Region.ready .any l.toArray listed = []) (h : Q .normal a w) : GT P l Q S z fuel listed a w := by
 cases fuel with
 | zero => exact ⟨hr,h⟩
 | succ f => exact ⟨fun _ => h,by rw [hr];simp⟩
end
end Go.Proofs.YtidnfdobljihoaaGreat
namespace Go.Proofs.YtidnfdobljihoaaGreat
set_option linter.unusedVariables false
set_option linter.unusedSimpArgs false
open Go.RowKit Go.Sort
theorem Tryz.infoRw : (Tryz.prog.info? 37).map (fun i => (i.zero,i.size,i.bytes)) = some (some (.agg #[.int .i64 0,.slice none 0 0,.slice none 0 0,.slice none 0 0,.bool false,.bool false,.int .i64 0,.slice none 0 0]),8,120) := by kernel_rfl
theorem mixed17 : Tryz.prog.follows .mixedOrders = true := by kernel_rfl
theorem info_partsG {P : Program} {t : TypeId} {z : Value} {s b : Nat} (h : (P.info? t).map (fun i => (i.zero,i.size,i.bytes)) = some (some z,s,b)) : ∃ i,P.info? t = some i ∧ i.zero = some z ∧ i.size = s ∧ i.bytes = b := by
 cases e : P.info? t with
 | none => rw [e] at h;cases h
 | some i =>
  rw [e] at h
  simp only [Option.map_some,Option.some.injEq,Prod.mk.injEq] at h
  exact ⟨i,rfl,h.1,h.2.1,h.2.2⟩
theorem owL_v {w : World} {x : Value} {cs : List Cel} {us : List Value} {f : Fp} (h : owL w cs us f) : owL w (.v x :: cs) (x :: us) f := ⟨x,us,fun _ => False,f,rfl,⟨rfl,fun _ h => h⟩,h,fun _ h => absurd h id,fun b => by simp⟩
theorem owL_v' {w : World} {x : Value} {cs : List Cel} {us : List Value} {f : Fp} (h : owL w (.v x :: cs) us f) : ∃ us',us = x :: us' ∧ owL w cs us' f := by
 obtain ⟨u,us',f1,f2,rfl,⟨rfl,h1⟩,h2,hd,hf⟩ := h
 exact ⟨us',rfl,owL_congr h2 (fun b => (hf b).trans ⟨fun h => h.elim (fun h => absurd h (h1 b)) id,.inr⟩)⟩
theorem owL_c {w : World} {c : Cel} {u : Value} {cs : List Cel} {us : List Value} {f1 f2 : Fp} (h1 : Cel.ow w c u f1) (h2 : owL w cs us f2) (hd : ∀ b,f1 b → ¬ f2 b) : owL w (c :: cs) (u :: us) (fun b => f1 b ∨ f2 b) := ⟨u,us,f1,f2,rfl,h1,h2,hd,fun b => Iff.rfl⟩
theorem ow_rw8 {w : World} {A : Ra} {r : Rw} {f : Fp} (h : owL w (rwCels r) (rwVals A r) f) : owL w (rw8 r) (rwC A r).toList f := by
 obtain ⟨u1,us1,f1,g1,e1,o1,h2,d1,i1⟩ := h
 cases e1
 obtain ⟨u2,us2,f2,g2,e2,o2,h3,d2,i2⟩ := h2
 cases e2
 obtain ⟨u3,us3,f3,g3,e3,o3,h4,d3,i3⟩ := h3
 cases e3
 exact owL_v ⟨_,_,f1,g1,rfl,o1,⟨_,_,f2,g2,rfl,o2,⟨_,_,f3,g3,rfl,o3,owL_v (owL_v (owL_v h4)),d3,i3⟩,d2,i2⟩,d1,i1⟩
theorem rw8_ow {w : World} {r : Rw} {us : List Value} {f : Fp} (h : owL w (rw8 r) us f) : ∃ A : Ra,us = (rwC A r).toList ∧ owL w (rwCels r) (rwVals A r) f := by
 obtain ⟨us0,rfl,hq0⟩ := owL_v' h
 obtain ⟨u1,us1,f1,g1,rfl,o1,h2,d1,i1⟩ := hq0
 obtain ⟨u2,us2,f2,g2,rfl,o2,h3,d2,i2⟩ := h2
 obtain ⟨u3,us3,f3,g3,rfl,o3,h4,d3,i3⟩ := h3
 obtain ⟨us4,rfl,hq4⟩ := owL_v' h4
 obtain ⟨us5,rfl,hq5⟩ := owL_v' hq4
 obtain ⟨us6,rfl,hq6⟩ := owL_v' hq5
 obtain ⟨u7,us7,f7,g7,rfl,o7,⟨rfl,h8⟩,d7,i7⟩ := hq6
 obtain ⟨ta,tc,_,rfl,_⟩ := ow_scl.1 o1
 obtain ⟨ga,gc,_,rfl,_⟩ := ow_icl.1 o2
 obtain ⟨sa,sc,_,rfl,_⟩ := ow_icl.1 o3
 obtain ⟨ma,mc,_,rfl,_⟩ := ow_icl.1 o7
 exact ⟨⟨ta,tc,ga,gc,sa,sc,ma,mc⟩,rfl,⟨_,_,f1,g1,rfl,o1,⟨_,_,f2,g2,rfl,o2,⟨_,_,f3,g3,rfl,o3,⟨_,_,f7,g7,rfl,o7,⟨rfl,h8⟩,d7,i7⟩,d3,i3⟩,d2,i2⟩,d1,i1⟩⟩
theorem ow_mb5 {w : World} {A : Ma} {m : Mb} {f : Fp} (h : owL w (mbCels m) (mbVals A m) f) : owL w (mb5 m) (mbC A m).toList f := by
 obtain ⟨u1,us1,f1,g1,e1,o1,h2,d1,i1⟩ := h
 cases e1
 obtain ⟨u2,us2,f2,g2,e2,o2,h3,d2,i2⟩ := h2
 cases e2
 exact owL_v (owL_v ⟨_,_,f1,g1,rfl,o1,⟨_,_,f2,g2,rfl,o2,owL_v h3,d2,i2⟩,d1,i1⟩)
theorem mb5_ow {w : World} {m : Mb} {us : List Value} {f : Fp} (h : owL w (mb5 m) us f) : ∃ A : Ma,us = (mbC A m).toList ∧ owL w (mbCels m) (mbVals A m) f := by
 obtain ⟨us0,rfl,hq0⟩ := owL_v' h
 obtain ⟨us9,rfl,hq1⟩ := owL_v' hq0
 obtain ⟨u1,us1,f1,g1,rfl,o1,h2,d1,i1⟩ := hq1
 obtain ⟨u2,us2,f2,g2,rfl,o2,h3,d2,i2⟩ := h2
 obtain ⟨us4,rfl,⟨rfl,h4⟩⟩ := owL_v' h3
 have o1' := o1
 obtain ⟨ra,rc,_,_,_,rfl,_⟩ := o1'
 obtain ⟨sa,sc,_,rfl,_⟩ := ow_icl.1 o2
 exact ⟨⟨ra,rc,sa,sc⟩,rfl,⟨_,_,f1,g1,rfl,o1,⟨_,_,f2,g2,rfl,o2,⟨rfl,h4⟩,d2,i2⟩,d1,i1⟩⟩
theorem ow_pushF {P : Program} {α : Type} {F : α → List Cel} {s : Nat} (hF : ∀ x,(F x).length = s) {w : World} (t ty e : TypeId) (z : Value) (bytes : Nat) (ht : P.underlying t = some (.slice e)) (hi : (P.info? e).map (fun i => (i.zero,i.size,i.bytes)) = some (some z,s,bytes)) (hzs : z.cells.size = s) (hsz : 0 < s)
  {a : Option Addr} {c : Nat} {L : List α} {x : α} {fp fd : Fp} (hO : Cel.ow w (lcl s F L) (.slice a L.length c) fp) {vals : List Value} (hd : owL w (F x) vals fd) (hdis : ∀ b,fp b → ¬ fd b) (h1 : ∀ u ∈ vals,u.oneCell' = true)
  (nb : Nat) (T : TypeId) (hnb : w.heap[nb]? = some (.cells vals.toArray T (0,0))) (h63 : L.length + 1 ≤ maxLen) (hbytes : (L.length + 1) * bytes ≤ 140737488355328) :
  ∃ a' c' w' fp',(Builtin.append_ #[t,t] ty #[.slice a L.length c,.slice (some ⟨nb,0,none⟩) 1 1]).run P w = .ok (.slice a' (L.length + 1) c') w' ∧ Cel.ow w' (lcl s F (L ++ [x])) (.slice a' (L.length + 1) c') fp' ∧ Wrt fp w w' ∧ ∀ b,fp' b → fp b ∨ fd b ∨ b = w.heap.size := by
 obtain ⟨i,hi0,hz,hs,hb⟩ := info_partsG hi
 obtain ⟨a',c',w',fp',h2,h3,h4,h5⟩ := ow_push (P := P) (w := w) t ty e i z s bytes ht hi0 hz hs hb hzs hsz hO hd hdis (by rw [owL_len hd,hF]) h1 nb T hnb h63 hbytes
 refine ⟨a',c',w',fp',h2, ?_,h4,h5⟩
 unfold lcl
 rw [List.flatMap_append,List.length_append]
 simpa using h3
structure MO (w X : World) (o : Nat) (A : Ma) (m : Mb) (fp : Fp) : Prop where
 own : Bx X o 27 (mbC A m)
 ls : owL X (mbCels m) (mbVals A m) fp
 fpl : ∀ b,fp b → o < b
 lo : w.heap.size ≤ o
 below : Below w.heap.size w X
theorem MO.step {w X X' : World} {o : Nat} {A : Ma} {m : Mb} {fp : Fp} (h : MO w X o A m fp) (hb : Below X.heap.size X X') : MO w X' o A m fp := ⟨h.own.below hb,owL_below h.ls hb,h.fpl,h.lo,h.below.trans (hb.mono h.below.size)⟩
theorem MO.push {w X X1 : World} {o : Nat} {A : Ma} {m : Mb} {fp : Fp} (h : MO w X o A m fp) (hb : Below X.heap.size X X1) {r : Rw} {Ar : Ra} {fr : Fp} (hr : owL X1 (rwCels r) (rwVals Ar r) fr) (hfr : ∀ b,fr b → X.heap.size ≤ b) (hl : m.rows.length ≤ 1000000) :
  ∀ Y,Same Y (X1.alloc (.cells (rwC Ar r) 37)) → ∃ v' w4,(Builtin.append_ #[24,24] 24 #[.slice A.ra m.rows.length A.rc,.slice (some ⟨X1.heap.size,0,none⟩) 1 1]).run Tryz.prog Y = .ok v' w4 ∧
   ∃ a' c',v' = .slice a' (m.rows.length + 1) c' ∧ w4.cell? ⟨o,2,none⟩ = some (.slice A.ra m.rows.length A.rc) ∧ w4.frozen? ⟨o,2,none⟩ = false ∧ Below o X w4 ∧ Below o X (w4.setCell ⟨o,2,none⟩ (.slice a' (m.rows.length + 1) c')) ∧ ∃ fp',MO w (w4.setCell ⟨o,2,none⟩ (.slice a' (m.rows.length + 1) c')) o ⟨a',c',A.sa,A.sc⟩ { m with rows := m.rows ++ [r] } fp' := by
 intro Y hY
 have h1 := h.step hb
 have hbY : Below X1.heap.size X1 Y := (oneA16 X1 _).trans (hY.below.mono (oneA16 X1 _).size)
 have h2 := h1.step hbY
 have hls := h2.ls
 obtain ⟨u1,us1,f1,g1,e1,o1,l2,d1,i1⟩ := hls
 cases e1
 have hrY := ow_rw8 (owL_below hr hbY)
 have hol : o < X.heap.size := h.own.lt
 have hpl : ∀ b,fp b → b < X.heap.size := owL_lt h.ls
 have hXs := hb.size
 obtain ⟨a',c',w4,fp',k1,k2,k3,k4⟩ := ow_pushF (P := Tryz.prog) rw8_len (w := Y) 24 24 37 _ 120 Tryz.underlying24 Tryz.infoRw rfl (by omega) (x := r) o1 hrY (fun b hb1 hb2 => by have := hpl b ((i1 b).2 (.inl hb1));have := hfr b hb2;omega) (by intro u hu;simp [rwC] at hu;rcases hu with h | h | h | h | h | h | h | h <;> rw [h] <;> rfl) X1.heap.size 37 (by rw [hY.heap];exact heap_alloc_new X1 _) (by unfold maxLen;omega) (by omega)
 have hf1 : ∀ b,f1 b → o < b := fun b hb1 => h.fpl b ((i1 b).2 (.inl hb1))
 have hg1 : ∀ b,g1 b → o < b := fun b hb1 => h.fpl b ((i1 b).2 (.inr hb1))
 have hYs : X1.heap.size < Y.heap.size := by rw [hY.size];simp
 have ho4 : Bx w4 o 27 (mbC A m) := h2.own.wrt k3 (fun hb1 => by have := hf1 _ hb1;omega)
 have hXY : Below X.heap.size X Y := hb.trans (hbY.mono hb.size)
 have b4 : Below o X w4 := k3.below (hXY.mono (by omega : o ≤ X.heap.size)) (by omega) (fun b hb1 => by have := hf1 _ hb1;omega)
 have hfp' : ∀ b,fp' b → o < b := fun b hb1 => by
  rcases k4 b hb1 with k | k | k
  ·exact hf1 b k
  ·have := hfr b k;omega
  ·omega
 refine ⟨_,w4,k1,a',c',rfl,ho4.at 2 rfl,ho4.f 2,b4,b4.setCell (p := ⟨o,2,none⟩) (Nat.le_refl _) _,fun b => fp' b ∨ g1 b, ?_, ?_,fun b hb1 => hb1.elim (hfp' b) (hg1 b),h.lo, ?_⟩
 ·have := ho4.setC 2 (.slice a' (m.rows.length + 1) c')
  have e : (mbC A m).setIfInBounds 2 (.slice a' (m.rows.length + 1) c') = mbC ⟨a',c',A.sa,A.sc⟩ { m with rows := m.rows ++ [r] } := by simp [mbC]
  rw [e] at this
  exact this
 ·have hw := Wrt.set w4 o 2 (.slice a' (m.rows.length + 1) c')
  have k2' : Cel.ow w4 (lcl 8 rw8 (m.rows ++ [r])) (.slice a' (m.rows ++ [r]).length c') fp' := by
   rw [List.length_append]
   exact k2
  exact owL_wrt (owL_c k2' (owL_wrt l2 k3 (fun b hb1 hb2 => d1 b hb2 hb1)) (fun b hb1 hb2 => by
   rcases k4 b hb1 with k | k | k
   ·exact d1 b k hb2
   ·have := hfr b k;have := hpl b ((i1 b).2 (.inr hb2));omega
   ·have := hpl b ((i1 b).2 (.inr hb2));omega)) hw (fun b hb1 e => by have := hb1.elim (hfp' b) (hg1 b);omega)
 ·have := h.below
  have hlo := h.lo
  exact ((this.mono (Nat.le_refl _)).trans (b4.mono hlo)).setCell (p := ⟨o,2,none⟩) hlo _
def AnsMb (w w' : World) (e : Ending) (m : Mb) : Prop := ∃ A : Ma,e = .returned (mbV A m) ∧ NewL w w' (mbCels m) (mbVals A m)
def AnsMf (w w' : World) (e : Ending) (m : Mb) (b : Bool) : Prop := ∃ A : Ma,e = .returned (.tuple #[mbV A m,.bool b]) ∧ NewL w w' (mbCels m) (mbVals A m)
theorem ow_lcl0 (w : World) {α : Type} (s : Nat) (F : α → List Cel) : Cel.ow w (lcl s F []) (.slice none 0 0) (fun _ => False) := ⟨none,0,[],none,fun _ => False,rfl,OSo.nil _ _ plainN,⟨rfl,fun _ h => h⟩,fun _ _ h => h,fun b => by simp⟩
theorem ow_mb0 (w : World) : owL w (mbCels zeroMb) (mbVals ⟨none,0,none,0⟩ zeroMb) (fun _ => False) :=
 owL_congr (owL_c (ow_lcl0 w 8 rw8) (owL_c (ow_none_i w) (⟨rfl,fun _ h => h⟩ : owL w [] [] (fun _ => False)) (fun _ _ h => h)) (fun _ h => absurd h id)) (fun b => by simp)
theorem ansM_zero {w w' : World} (hb : Below w.heap.size w w') : NewL w w' (mbCels zeroMb) (mbVals ⟨none,0,none,0⟩ zeroMb) := ⟨_,ow_mb0 w',fun b h => absurd h id,hb⟩
theorem wrt5 (w : World) (g : Nat) {a b c d e : Value} : Wrt (fun x => x = g) w (((((w.setCell ⟨g,0,none⟩ a).setCell ⟨g,1,none⟩ b).setCell ⟨g,2,none⟩ c).setCell ⟨g,3,none⟩ d).setCell ⟨g,4,none⟩ e) :=
 ((((Wrt.set w g 0 a).trans (Wrt.set _ g 1 b) (fun _ _ h => h)).trans (Wrt.set _ g 2 c) (fun _ _ h => h)).trans (Wrt.set _ g 3 d) (fun _ _ h => h)).trans (Wrt.set _ g 4 e) (fun _ _ h => h)
theorem Bx.f5 {w : World} {B : Nat} {T : TypeId} {cs : Array Value} (h : Bx w B T cs) : w.frozen? ⟨B,0,none⟩ = false ∧ w.frozen? ⟨B,1,none⟩ = false ∧ w.frozen? ⟨B,2,none⟩ = false ∧ w.frozen? ⟨B,3,none⟩ = false ∧ w.frozen? ⟨B,4,none⟩ = false := ⟨h.f 0,h.f 1,h.f 2,h.f 3,h.f 4⟩
theorem MO.ans {w X : World} {o r : Nat} {A : Ma} {m : Mb} {fp : Fp} (h : MO w X o A m fp) (hr : w.heap.size ≤ r) (hro : r ≤ o) {a b c d e : Value} :
  NewL w (((((X.setCell ⟨r,0,none⟩ a).setCell ⟨r,1,none⟩ b).setCell ⟨r,2,none⟩ c).setCell ⟨r,3,none⟩ d).setCell ⟨r,4,none⟩ e) (mbCels m) (mbVals A m) :=
 ⟨fp,owL_wrt h.ls (wrt5 X r) (fun b hb e => by have := h.fpl b hb;omega),fun b hb => by have := h.fpl b hb;have := h.lo;omega,(wrt5 X r).below h.below h.below.size (fun b e => by omega)⟩
end Go.Proofs.YtidnfdobljihoaaGreat
namespace Go.Proofs.YtidnfdobljihoaaGreat
set_option linter.unusedVariables false
set_option linter.unusedSimpArgs false
open Go.RowKit Go.Sort
theorem newMb_no {id n : Int} (h : inB n 1 5 = false ∨ inB id 0 (n - 1) = false) : newMb id n = (zeroMb,false) := by
 unfold newMb
 rw [if_neg]
 rintro ⟨h1,h2⟩
 rcases h with h | h
 ·rw [h] at h1;cases h1
 ·rw [h] at h2;cases h2
theorem newMb_yes {id n : Int} (h1 : inB n 1 5 = true) (h2 : inB id 0 (n - 1) = true) : newMb id n = (⟨id,n,List.replicate n.toNat (newRw n),[],false⟩,true) := by
 unfold newMb
 rw [if_pos ⟨h1,h2⟩]
theorem mb_start (w : World) (id n : Int) : MO w ((w.alloc (.cells #[.int .i64 0,.int .i64 0,.slice none 0 0,.slice none 0 0,.bool false] 27)).alloc (.cells #[.int .i64 id,.int .i64 n,.slice none 0 0,.slice none 0 0,.bool false] 27)) (w.heap.size + 1) ⟨none,0,none,0⟩ ⟨id,n,[],[],false⟩ (fun _ => False) := by
 have x1 := Bx.new (w.alloc (.cells #[.int .i64 0,.int .i64 0,.slice none 0 0,.slice none 0 0,.bool false] 27)) 27 #[.int .i64 id,.int .i64 n,.slice none 0 0,.slice none 0 0,.bool false]
 rw [World.size_alloc] at x1
 exact ⟨x1,ow_mb0 _,fun b h => h.elim,by omega,(oneA16 w _).trans ((oneA16 _ _).mono (oneA16 w _).size)⟩
set_option maxRecDepth 100000 in
set_option maxHeartbeats 3200000 in
theorem nmbS_any (id n : Int) (w : World) :
  Calls Tryz.prog 66 #[.int .i64 id,.int .i64 n] w fun e w' => AnsMf w w' e (newMb id n).1 (newMb id n).2 := by
 have hmix := mixed17
 have hb0 := oneA16 w (.cells #[.int .i64 0,.int .i64 0,.slice none 0 0,.slice none 0 0,.bool false] 27)
 have hx := Bx.new w 27 #[.int .i64 0,.int .i64 0,.slice none 0 0,.slice none 0 0,.bool false]
 have T0 := mb_start w id n
 have HR0 : Hid (Bx ((w.alloc (.cells #[.int .i64 0,.int .i64 0,.slice none 0 0,.slice none 0 0,.bool false] 27)).alloc (.cells #[.int .i64 id,.int .i64 n,.slice none 0 0,.slice none 0 0,.bool false] 27)) w.heap.size 27 #[.int .i64 0,.int .i64 0,.slice none 0 0,.slice none 0 0,.bool false]) := hx.alloc _
 cases e1 : inB n 1 5 with
 | false =>
  have HZ : Hid (newMb id n = (zeroMb,false)) := newMb_no (.inl e1)
  generalize hW : w.alloc (.cells #[.int .i64 0,.int .i64 0,.slice none 0 0,.slice none 0 0,.bool false] 27) = W at *
  have HB0 : Hid (Below w.heap.size w W) := hb0
  obtain ⟨c0,c1,c2,c3,c4⟩ := Bx.r5 hx
  obtain ⟨f0,f1,f2,f3,f4⟩ := hx.f5
  clear hx hb0 T0 HR0
  go_enter Tryz.func66,Tryz.ntmps66
  go_wp2_with (go_at_call 48;refine (l1In_any _ _ _ _).mono ?_;rintro e w' ⟨rfl,hw'⟩;rw [hw'];clear hw')
  refine bodyPost_ret (v := .tuple #[mbV ⟨none,0,none,0⟩ zeroMb,.bool false]) (by simp [results,Tryz.results66,go_sem,mbV,mbC,zeroMb, *]) rfl ?_
  rw [HZ.out]
  exact ⟨_,rfl,ansM_zero ((wrt5 W w.heap.size).below HB0.out HB0.out.size (fun b h => by rw [h];exact Nat.le_refl _))⟩
 | true =>
 have hn5 := inB7.1 e1
 have wn : wrap64 (n - 1) = n - 1 := by unfold wrap64;omega
 cases e2 : inB id 0 (n - 1) with
 | false =>
  have HZ : Hid (newMb id n = (zeroMb,false)) := newMb_no (.inr e2)
  generalize hW : w.alloc (.cells #[.int .i64 0,.int .i64 0,.slice none 0 0,.slice none 0 0,.bool false] 27) = W at *
  have HB0 : Hid (Below w.heap.size w W) := hb0
  obtain ⟨c0,c1,c2,c3,c4⟩ := Bx.r5 hx
  obtain ⟨f0,f1,f2,f3,f4⟩ := hx.f5
  clear hx hb0 T0 HR0
  go_enter Tryz.func66,Tryz.ntmps66
  go_wp2_with (go_at_call 48;refine (l1In_any _ _ _ _).mono ?_;rintro e w' ⟨rfl,hw'⟩;rw [hw'];clear hw')
  refine bodyPost_ret (v := .tuple #[mbV ⟨none,0,none,0⟩ zeroMb,.bool false]) (by simp [results,Tryz.results66,go_sem,mbV,mbC,zeroMb, *]) rfl ?_
  rw [HZ.out]
  exact ⟨_,rfl,ansM_zero ((wrt5 W w.heap.size).below HB0.out HB0.out.size (fun b h => by rw [h];exact Nat.le_refl _))⟩
 | true =>
 obtain ⟨N,rfl⟩ : ∃ N : Nat,n = (N : Int) := ⟨n.toNat,by omega⟩
 have HZ : Hid (newMb id (N : Int) = (⟨id,(N : Int),List.replicate N (newRw (N : Int)),[],false⟩,true)) := by rw [Hid,newMb_yes e1 e2];rfl
 have HT0 : Hid (MO w ((w.alloc (.cells #[.int .i64 0,.int .i64 0,.slice none 0 0,.slice none 0 0,.bool false] 27)).alloc (.cells #[.int .i64 id,.int .i64 (N : Int),.slice none 0 0,.slice none 0 0,.bool false] 27)) (w.heap.size + 1) ⟨none,0,none,0⟩ ⟨id,(N : Int),[],[],false⟩ (fun _ => False)) := T0
 clear hx hb0 T0
 go_enter Tryz.func66,Tryz.ntmps66
 go_wp2_with (go_at_call 48;refine (l1In_any _ _ _ _).mono ?_;rintro e w' ⟨rfl,hw'⟩;rw [hw'];clear hw')
 clear e1 e2 wn
 go_loopw [7] (fun i wr => ∃ k : Nat,k ≤ N ∧ i = .int .i64 (k : Int) ∧ ∃ A R fp,Hid (R = List.replicate k (newRw (N : Int))) ∧ MO w wr (w.heap.size + 1) A ⟨id,(N : Int),R,[],false⟩ fp ∧ Bx wr w.heap.size 27 #[.int .i64 0,.int .i64 0,.slice none 0 0,.slice none 0 0,.bool false]) (fun i _ => N - (intOf i).toNat)
 case atStart => exact ⟨0,Nat.zero_le _,rfl,_,[],_,rfl,HT0.out,HR0.out⟩
 case round =>
  obtain ⟨k,hk,rfl,A,R,fp,hR,M,hres⟩ := hrel
  by_cases hlt : k < N
  ·have k1 : (k : Int) < (N : Int) := by omega
   have hRl : R.length ≤ 1000000 := by rw [hR.out,List.length_replicate];omega
   have HRes : Hid (Bx wr w.heap.size 27 #[.int .i64 0,.int .i64 0,.slice none 0 0,.slice none 0 0,.bool false]) := hres
   have HM : Hid (MO w wr (w.heap.size + 1) A ⟨id,(N : Int),R,[],false⟩ fp) := M
   have c2 : wr.drew.cell? ⟨w.heap.size + 1,2,none⟩ = some (.slice A.ra R.length A.rc) := M.own.at 2 rfl
   have hbd : Below wr.heap.size wr wr.drew := (Same.drewN wr 1).below
   clear M hres
   go_wp2_with fail
   refine gt_begin (S := fun X : World => X.cell? ⟨w.heap.size + 1,2,none⟩ = some (.slice A.ra R.length A.rc)) 7 hmix (by kernel_rfl) ?_
   have hHeld : (fun X : World => X.cell? ⟨w.heap.size + 1,2,none⟩ = some (.slice A.ra R.length A.rc)) wr.drew := c2
   refine gt_take (i := 0) (v := ?_) rfl (by kernel_rfl) (by kernel_rfl) (by kernel_rfl) (by kernel_rfl) (fun _ _ _ h => h) (Or.inl ⟨by rfl, ?_⟩) hHeld ?_
   rotate_left
   ·(intro X hSX;(try dsimp only at hSX);have g0 := hSX;go_simp;try with_reducible rfl)
   try simp only [Act.put,List.setIfInBounds_toArray,List.set_cons_zero,List.set_cons_succ]
   refine gt_take (i := 1) (v := ?_) rfl (by kernel_rfl) (by kernel_rfl) (by kernel_rfl) (by kernel_rfl) (fun _ _ _ h => h) (Or.inl ⟨by rfl, ?_⟩) hHeld ?_
   rotate_left
   ·(intro X hSX;(try dsimp only at hSX);have g0 := hSX;go_simp;try with_reducible rfl)
   try simp only [Act.put,List.setIfInBounds_toArray,List.set_cons_zero,List.set_cons_succ]
   refine gt_pure (i := 2) (v := ?_) rfl (by kernel_rfl) (by kernel_rfl) (by kernel_rfl) (fun _ _ _ h => h) (Or.inl ⟨by rfl, ?_⟩) ?_
   rotate_left
   ·(intro X;go_simp;try with_reducible rfl)
   try simp only [Act.put,List.setIfInBounds_toArray,List.set_cons_zero,List.set_cons_succ]
   refine gt_one (i := 3) rfl (by kernel_rfl) (by kernel_rfl) (fun K hK => ?_)
   go_simp
   go_at_call 127
   refine (nrwS_any _ _).mono ?_
   rintro e w1 ⟨Ar,rfl,fr,hr1,hr2,hr3⟩
   have hb1 : Below wr.heap.size wr w1 := hbd.trans (hr3.mono hbd.size)
   have hA := HM.out.push hb1 hr1 (fun b hb => hr2 b hb) hRl
   have d2 : w1.cell? ⟨w.heap.size + 1,2,none⟩ = some (.slice A.ra R.length A.rc) := (HM.out.own.below hb1).at 2 rfl
   have d3 := ((HM.out.own.below hb1).alloc (.cells (rwC Ar (newRw (N : Int))) 37)).at 2 rfl
   refine hK.out _ _ d2 (fun hHeldN => ?_)
   clear hK hHeld
   have hHeld := hHeldN
   try simp only [Act.put,List.setIfInBounds_toArray,List.set_cons_zero,List.set_cons_succ]
   unfold rwV
   unfold rwC at hA d3 ⊢
   refine gt_one (i := 4) rfl (by kernel_rfl) (by kernel_rfl) (fun K hK => ?_)
   go_simp
   refine hK.out _ _ d3 (fun hHeldN => ?_)
   clear hK hHeld
   have hHeld := hHeldN
   try simp only [Act.put,List.setIfInBounds_toArray,List.set_cons_zero,List.set_cons_succ]
   refine gt_one (i := 5) rfl (by kernel_rfl) (by kernel_rfl) (fun K hK => ?_)
   refine step_append_of (by rfl) _ _ _ _ (by rfl) (.slice A.ra R.length A.rc) _ (by rfl) (by rfl) hA ⟨rfl,rfl,rfl,rfl⟩ ?_
   rintro v9 w4 ⟨a9,c9,rfl,q1,q2,b4,b5,fp9,hM9⟩
   refine hK.out _ _ q1 (fun hHeldN => ?_)
   clear hK hHeld
   have hHeld := hHeldN
   try simp only [Act.put,List.setIfInBounds_toArray,List.set_cons_zero,List.set_cons_succ]
   refine gt_take (i := 6) (v := ?_) rfl (by kernel_rfl) (by kernel_rfl) (by kernel_rfl) (by kernel_rfl) (fun _ _ _ h => h) (Or.inl ⟨by rfl, ?_⟩) hHeld ?_
   rotate_left
   ·(intro X hSX;(try dsimp only at hSX);have g0 := hSX;go_simp;try with_reducible rfl)
   try simp only [Act.put,List.setIfInBounds_toArray,List.set_cons_zero,List.set_cons_succ]
   refine gt_last rfl (by kernel_rfl) (by kernel_rfl) (fun K hK => ?_)
   go_simp
   refine hK.out _ _ ?_
   have HM9 : Hid (MO w (w4.setCell ⟨w.heap.size + 1,2,none⟩ (.slice a9 (R.length + 1) c9)) (w.heap.size + 1) ⟨a9,c9,A.sa,A.sc⟩ ⟨id,(N : Int),R ++ [newRw (N : Int)],[],false⟩ fp9) := hM9
   have HRes9 : Hid (Bx (w4.setCell ⟨w.heap.size + 1,2,none⟩ (.slice a9 (R.length + 1) c9)) w.heap.size 27 #[.int .i64 0,.int .i64 0,.slice none 0 0,.slice none 0 0,.bool false]) := (b5.block w.heap.size (Nat.lt_succ_self _)).trans HRes.out
   have HR9 : Hid (R ++ [newRw (N : Int)] = List.replicate (k + 1) (newRw (N : Int))) := by rw [Hid,hR.out,List.replicate_succ']
   clear hM9 hA d2 d3 hr1 hr2 hr3
   generalize w4.setCell ⟨w.heap.size + 1,2,none⟩ (.slice a9 (R.length + 1) c9) = W9 at *
   go_wp2
   go_roundw
   case rel => exact ⟨k + 1,by omega,by go_num,_,_,_,HR9,HM9.out,HRes9.out⟩
   case measure => simp [intOf];omega
  ·have k1 : ¬ ((k : Int) < (N : Int)) := by omega
   have e : k = N := by omega
   have HRN : Hid (R = List.replicate N (newRw (N : Int))) := by rw [Hid,hR.out,e]
   clear e
   obtain ⟨o0,o1,o2,o3,o4⟩ := Bx.r5 M.own
   obtain ⟨r0,r1,r2,r3,r4⟩ := Bx.r5 hres
   obtain ⟨f0,f1,f2,f3,f4⟩ := hres.f5
   have HA : Hid (NewL w (((((wr.setCell ⟨w.heap.size,0,none⟩ (.int .i64 id)).setCell ⟨w.heap.size,1,none⟩ (.int .i64 (N : Int))).setCell ⟨w.heap.size,2,none⟩ (.slice A.ra R.length A.rc)).setCell ⟨w.heap.size,3,none⟩ (.slice A.sa 0 A.sc)).setCell ⟨w.heap.size,4,none⟩ (.bool false)) (mbCels ⟨id,(N : Int),R,[],false⟩) (mbVals A ⟨id,(N : Int),R,[],false⟩)) := M.ans (Nat.le_refl _) (Nat.le_succ _)
   simp only [List.length_nil] at o0 o1 o2 o3 o4
   clear M hres hR
   go_wp2
   refine bodyPost_ret (v := .tuple #[mbV A ⟨id,(N : Int),R,[],false⟩,.bool true]) (by simp [results,Tryz.results66,go_sem,mbV,mbC, *]) rfl ?_
   rw [HZ.out,← HRN.out]
   exact ⟨_,rfl,HA.out⟩
end Go.Proofs.YtidnfdobljihoaaGreat
namespace Go.Proofs.YtidnfdobljihoaaGreat
set_option linter.unusedVariables false
set_option linter.unusedSimpArgs false
open Go.RowKit Go.Sort
structure CR (w X : World) (O : Array Value) (cs : List Cel) (vs : List Value) (fp : Fp) : Prop where
 out : Bx X w.heap.size 37 O
 res : Bx X (w.heap.size + 1) 37 #[.int .i64 0,.slice none 0 0,.slice none 0 0,.slice none 0 0,.bool false,.bool false,.int .i64 0,.slice none 0 0]
 own : owL X cs vs fp
 fpl : ∀ b,fp b → w.heap.size + 1 < b
 below : Below w.heap.size w X
theorem CR.put {w X Z X' : World} {O : Array Value} {cs : List Cel} {vs : List Value} {fp f : Fp} {c : Cel} {v : Value} (h : CR w X O cs vs fp) (hbZ : Below X.heap.size X Z) (hw : Wrt (fun _ => False) Z X') (ho : Cel.ow X' c v f) (hf : ∀ b,f b → b = Z.heap.size) (i : Nat) :
  CR w X' O cs vs fp ∧ ∃ fp',CR w (X'.setCell ⟨w.heap.size,i,none⟩ v) (O.setIfInBounds i v) (cs ++ [c]) (vs ++ [v]) fp' := by
 have hb : Below X.heap.size X X' := hw.below hbZ hbZ.size (fun b h => absurd h id)
 have hol := h.res.lt
 have hZ := hbZ.size
 have h1 : CR w X' O cs vs fp := ⟨h.out.below hb,h.res.below hb,owL_below h.own hb,h.fpl,h.below.trans (hb.mono h.below.size)⟩
 refine ⟨h1,fun b => fp b ∨ f b,h1.out.setC i v,h1.res.far (by omega) v,owL_wrt (owL_append h1.own (owL_one.2 ho) (fun b h2 h3 => by have := owL_lt h.own b h2;have := hf b h3;omega)) (Wrt.set X' w.heap.size i v) (fun b hb e => ?_),fun b hb => ?_,h1.below.setCell (p := ⟨w.heap.size,i,none⟩) (Nat.le_refl _) v⟩
 ·rcases hb with hb | hb
  ·have := h.fpl b hb;omega
  ·have := hf b hb;omega
 ·rcases hb with hb | hb
  ·exact h.fpl b hb
  ·have := hf b hb;omega
theorem CR.ints {w X : World} {O : Array Value} {cs : List Cel} {vs : List Value} {fp : Fp} (h : CR w X O cs vs fp) {x : Option Addr} {c : Nat} {l : List Int} (hv : Vec w x l.length l) (hl : l.length ≤ 1000000) (i : Nat) (o : Value) (hi : O[i]? = some o) (i0 : TypeInfo) (hi0 : Tryz.prog.info? 2 = some i0) (hz0 : i0.zero = some (.int .i64 0)) (hz1 : i0.size = 1) (hz2 : i0.bytes = 8) :
  ∀ Z,Same Z (X.alloc (.cells #[] 2)) → ∃ v' w4,(Builtin.append_ #[25,25] 25 #[.slice (some ⟨X.heap.size,0,none⟩) 0 0,.slice x l.length c]).run Tryz.prog Z = .ok v' w4 ∧
   ∃ a' c',v' = .slice a' l.length c' ∧ w4.cell? ⟨w.heap.size,i,none⟩ = some o ∧ w4.frozen? ⟨w.heap.size,i,none⟩ = false ∧ ∃ fp',CR w (w4.setCell ⟨w.heap.size,i,none⟩ (.slice a' l.length c')) (O.setIfInBounds i (.slice a' l.length c')) (cs ++ [icl l]) (vs ++ [.slice a' l.length c']) fp' := by
 intro Z hZ
 have hbZ : Below X.heap.size X Z := (oneA16 X _).trans (hZ.below.mono (oneA16 X _).size)
 obtain ⟨a6,c6,w6,fp6,hr6,ho6,hw6,hf6⟩ := ints_copied (P := Tryz.prog) (w := Z) 25 25 2 i0 Tryz.underlying25 hi0 hz0 hz1 hz2 (plainS X.heap.size 0) (x := x) (c := c) (hv.below (h.below.trans (hbZ.mono h.below.size)) (Nat.le_refl _)) hl
 obtain ⟨h1,fp',h2⟩ := h.put hbZ hw6 ho6 hf6 i
 exact ⟨_,w6,hr6,a6,c6,rfl,h1.out.at i hi,h1.out.f i,fp',h2⟩
theorem CR.txts {w X : World} {O : Array Value} {cs : List Cel} {vs : List Value} {fp : Fp} (h : CR w X O cs vs fp) {x : Option Addr} {c : Nat} {l : List (List UInt8)} (hv : TxS w x l) (hl : l.length ≤ 1000000) (i : Nat) (o : Value) (hi : O[i]? = some o) (i0 : TypeInfo) (hi0 : Tryz.prog.info? 9 = some i0) (hz0 : i0.zero = some (.string ⟨#[]⟩)) (hz1 : i0.size = 1) (hz2 : i0.bytes = 16) :
  ∀ Z,Same Z (X.alloc (.cells #[] 9)) → ∃ v' w4,(Builtin.append_ #[32,32] 32 #[.slice (some ⟨X.heap.size,0,none⟩) 0 0,.slice x l.length c]).run Tryz.prog Z = .ok v' w4 ∧
   ∃ a' c',v' = .slice a' l.length c' ∧ w4.cell? ⟨w.heap.size,i,none⟩ = some o ∧ w4.frozen? ⟨w.heap.size,i,none⟩ = false ∧ ∃ fp',CR w (w4.setCell ⟨w.heap.size,i,none⟩ (.slice a' l.length c')) (O.setIfInBounds i (.slice a' l.length c')) (cs ++ [scl l]) (vs ++ [.slice a' l.length c']) fp' := by
 intro Z hZ
 have hbZ : Below X.heap.size X Z := (oneA16 X _).trans (hZ.below.mono (oneA16 X _).size)
 obtain ⟨a6,c6,w6,fp6,hr6,ho6,hw6,hf6⟩ := txs_copied (P := Tryz.prog) (w := Z) 32 32 9 i0 Tryz.underlying32 hi0 hz0 hz1 hz2 (plainS X.heap.size 0) (x := x) (c := c) (hv.below (h.below.trans (hbZ.mono h.below.size))) (by omega)
 obtain ⟨h1,fp',h2⟩ := h.put hbZ hw6 ho6 hf6 i
 exact ⟨_,w6,hr6,a6,c6,rfl,h1.out.at i hi,h1.out.f i,fp',h2⟩
attribute [local irreducible] sv
set_option maxRecDepth 100000 in
set_option maxHeartbeats 3200000 in
theorem cpyRw_any (A : Ra) (r : Rw) (w : World) (hv : RwS w A r) (h1 : r.txt.length ≤ 1000000) (h2 : r.got.length ≤ 1000000) (h3 : r.sus.length ≤ 1000000) (h4 : r.trm.length ≤ 1000000) :
  Calls Tryz.prog 91 #[rwV A r] w fun e w' => AnsRw w w' e r := by
 obtain ⟨i0,hi0,hz0,hz1,hz2⟩ := info_parts9 Tryz.info9
 obtain ⟨i2,hi2,hy0,hy1,hy2⟩ := info_parts2n Tryz.info2n
 have HV : Hid (RwS w A r) := hv
 have T0 : CR w ((w.alloc (.cells (rwC A r) 37)).alloc (.cells #[.int .i64 0,.slice none 0 0,.slice none 0 0,.slice none 0 0,.bool false,.bool false,.int .i64 0,.slice none 0 0] 37)) (rwC A r) [] [] (fun _ => False) := by
  have x1 := Bx.new (w.alloc (.cells (rwC A r) 37)) 37 #[.int .i64 0,.slice none 0 0,.slice none 0 0,.slice none 0 0,.bool false,.bool false,.int .i64 0,.slice none 0 0]
  rw [World.size_alloc] at x1
  exact ⟨(Bx.new w _ _).alloc _,x1,⟨rfl,fun _ h => h⟩,fun b h => absurd h id,(oneA16 w _).trans ((oneA16 _ _).mono (oneA16 w _).size)⟩
 obtain ⟨ver,txt,got,sus,wed,rdy,by_,trm⟩ := r
 obtain ⟨ta,tc,ga,gc,sa,sc,ma,mc⟩ := A
 unfold rwV
 unfold rwC at *
 simp only at *
 generalize hWW : (w.alloc (.cells #[.int .i64 ver,.slice ta txt.length tc,.slice ga got.length gc,.slice sa sus.length sc,.bool wed,.bool rdy,.int .i64 by_,.slice ma trm.length mc] 37)).alloc (.cells #[.int .i64 0,.slice none 0 0,.slice none 0 0,.slice none 0 0,.bool false,.bool false,.int .i64 0,.slice none 0 0] 37) = W at *
 have hA := T0.txts (x := ta) (c := tc) (l := txt) HV.out.txt h1 1 (.slice ta txt.length tc) rfl i0 hi0 hz0 hz1 hz2
 have c1 : W.cell? ⟨w.heap.size,1,none⟩ = some (.slice ta txt.length tc) := T0.out.at 1 rfl
 have d1 : (W.alloc (.cells #[] 9)).cell? ⟨w.heap.size,1,none⟩ = some (.slice ta txt.length tc) := (T0.out.below (oneA16 W (.cells #[] 9))).at 1 rfl
 clear T0
 clear hv
 go_enter Tryz.func91,Tryz.ntmps91
 go_upto_region 1 with fail
 go_upto_region 2 with (at_builtin;refine wpList_append_of (by rfl) _ _ _ _ (by rfl) _ _ (by rfl) (by rfl) hA ⟨rfl,rfl,rfl,rfl⟩ ?_;rintro v1 w1 ⟨a1,e1,rfl,q1a,q1b,fp1,hR1⟩;have HR1 : Hid (CR w (w1.setCell ⟨w.heap.size,1,none⟩ (.slice a1 txt.length e1)) (#[.int .i64 ver,.slice ta txt.length tc,.slice ga got.length gc,.slice sa sus.length sc,.bool wed,.bool rdy,.int .i64 by_,.slice ma trm.length mc].setIfInBounds 1 (.slice a1 txt.length e1)) ([] ++ [scl txt]) ([] ++ [.slice a1 txt.length e1]) fp1) := hR1;clear hR1 hA c1 d1)
 clear q1a q1b
 generalize w1.setCell ⟨w.heap.size,1,none⟩ (.slice a1 txt.length e1) = W1 at *
 have T1 : CR w W1 #[.int .i64 ver,.slice a1 txt.length e1,.slice ga got.length gc,.slice sa sus.length sc,.bool wed,.bool rdy,.int .i64 by_,.slice ma trm.length mc] ([] ++ [scl txt]) ([] ++ [.slice a1 txt.length e1]) fp1 := by simpa using HR1.out
 clear HR1
 have hA := T1.ints (x := ga) (c := gc) (l := got) HV.out.got h2 2 (.slice ga got.length gc) rfl i2 hi2 hy0 hy1 hy2
 have c2 : W1.cell? ⟨w.heap.size,2,none⟩ = some (.slice ga got.length gc) := T1.out.at 2 rfl
 have d2 : (W1.alloc (.cells #[] 2)).cell? ⟨w.heap.size,2,none⟩ = some (.slice ga got.length gc) := (T1.out.below (oneA16 W1 (.cells #[] 2))).at 2 rfl
 clear T1
 go_upto_region 3 with (at_builtin;refine wpList_append_of (by rfl) _ _ _ _ (by rfl) _ _ (by rfl) (by rfl) hA ⟨rfl,rfl,rfl,rfl⟩ ?_;rintro v2 w2 ⟨a2,e2,rfl,q2a,q2b,fp2,hR2⟩;have HR2 : Hid (CR w (w2.setCell ⟨w.heap.size,2,none⟩ (.slice a2 got.length e2)) (#[.int .i64 ver,.slice a1 txt.length e1,.slice ga got.length gc,.slice sa sus.length sc,.bool wed,.bool rdy,.int .i64 by_,.slice ma trm.length mc].setIfInBounds 2 (.slice a2 got.length e2)) (([] ++ [scl txt]) ++ [icl got]) (([] ++ [.slice a1 txt.length e1]) ++ [.slice a2 got.length e2]) fp2) := hR2;clear hR2 hA c2 d2)
 clear q2a q2b
 generalize w2.setCell ⟨w.heap.size,2,none⟩ (.slice a2 got.length e2) = W2 at *
 have T2 : CR w W2 #[.int .i64 ver,.slice a1 txt.length e1,.slice a2 got.length e2,.slice sa sus.length sc,.bool wed,.bool rdy,.int .i64 by_,.slice ma trm.length mc] (([] ++ [scl txt]) ++ [icl got]) (([] ++ [.slice a1 txt.length e1]) ++ [.slice a2 got.length e2]) fp2 := by simpa using HR2.out
 clear HR2
 have hA := T2.ints (x := sa) (c := sc) (l := sus) HV.out.sus h3 3 (.slice sa sus.length sc) rfl i2 hi2 hy0 hy1 hy2
 have c3 : W2.cell? ⟨w.heap.size,3,none⟩ = some (.slice sa sus.length sc) := T2.out.at 3 rfl
 have d3 : (W2.alloc (.cells #[] 2)).cell? ⟨w.heap.size,3,none⟩ = some (.slice sa sus.length sc) := (T2.out.below (oneA16 W2 (.cells #[] 2))).at 3 rfl
 clear T2
 go_upto_region 4 with (at_builtin;refine wpList_append_of (by rfl) _ _ _ _ (by rfl) _ _ (by rfl) (by rfl) hA ⟨rfl,rfl,rfl,rfl⟩ ?_;rintro v3 w3 ⟨a3,e3,rfl,q3a,q3b,fp3,hR3⟩;have HR3 : Hid (CR w (w3.setCell ⟨w.heap.size,3,none⟩ (.slice a3 sus.length e3)) (#[.int .i64 ver,.slice a1 txt.length e1,.slice a2 got.length e2,.slice sa sus.length sc,.bool wed,.bool rdy,.int .i64 by_,.slice ma trm.length mc].setIfInBounds 3 (.slice a3 sus.length e3)) ((([] ++ [scl txt]) ++ [icl got]) ++ [icl sus]) ((([] ++ [.slice a1 txt.length e1]) ++ [.slice a2 got.length e2]) ++ [.slice a3 sus.length e3]) fp3) := hR3;clear hR3 hA c3 d3)
 clear q3a q3b
 generalize w3.setCell ⟨w.heap.size,3,none⟩ (.slice a3 sus.length e3) = W3 at *
 have T3 : CR w W3 #[.int .i64 ver,.slice a1 txt.length e1,.slice a2 got.length e2,.slice a3 sus.length e3,.bool wed,.bool rdy,.int .i64 by_,.slice ma trm.length mc] ((([] ++ [scl txt]) ++ [icl got]) ++ [icl sus]) ((([] ++ [.slice a1 txt.length e1]) ++ [.slice a2 got.length e2]) ++ [.slice a3 sus.length e3]) fp3 := by simpa using HR3.out
 clear HR3
 have hA := T3.ints (x := ma) (c := mc) (l := trm) HV.out.trm h4 7 (.slice ma trm.length mc) rfl i2 hi2 hy0 hy1 hy2
 have c4 : W3.cell? ⟨w.heap.size,7,none⟩ = some (.slice ma trm.length mc) := T3.out.at 7 rfl
 have d4 : (W3.alloc (.cells #[] 2)).cell? ⟨w.heap.size,7,none⟩ = some (.slice ma trm.length mc) := (T3.out.below (oneA16 W3 (.cells #[] 2))).at 7 rfl
 clear T3
 go_upto_region 5 with (at_builtin;refine wpList_append_of (by rfl) _ _ _ _ (by rfl) _ _ (by rfl) (by rfl) hA ⟨rfl,rfl,rfl,rfl⟩ ?_;rintro v4 w4 ⟨a4,e4,rfl,q4a,q4b,fp4,hR4⟩;have HR4 : Hid (CR w (w4.setCell ⟨w.heap.size,7,none⟩ (.slice a4 trm.length e4)) (#[.int .i64 ver,.slice a1 txt.length e1,.slice a2 got.length e2,.slice a3 sus.length e3,.bool wed,.bool rdy,.int .i64 by_,.slice ma trm.length mc].setIfInBounds 7 (.slice a4 trm.length e4)) (((([] ++ [scl txt]) ++ [icl got]) ++ [icl sus]) ++ [icl trm]) (((([] ++ [.slice a1 txt.length e1]) ++ [.slice a2 got.length e2]) ++ [.slice a3 sus.length e3]) ++ [.slice a4 trm.length e4]) fp4) := hR4;clear hR4 hA c4 d4)
 clear q4a q4b
 generalize w4.setCell ⟨w.heap.size,7,none⟩ (.slice a4 trm.length e4) = W4 at *
 have T4 : CR w W4 #[.int .i64 ver,.slice a1 txt.length e1,.slice a2 got.length e2,.slice a3 sus.length e3,.bool wed,.bool rdy,.int .i64 by_,.slice a4 trm.length e4] (((([] ++ [scl txt]) ++ [icl got]) ++ [icl sus]) ++ [icl trm]) (((([] ++ [.slice a1 txt.length e1]) ++ [.slice a2 got.length e2]) ++ [.slice a3 sus.length e3]) ++ [.slice a4 trm.length e4]) fp4 := by simpa using HR4.out
 clear HR4
 obtain ⟨⟨o0,o1,o2,o3⟩,o4,o5,o6,o7⟩ := Bx.r8 T4.out
 obtain ⟨⟨r0,r1,r2,r3⟩,r4,r5,r6,r7⟩ := Bx.r8 T4.res
 obtain ⟨⟨f0,f1,f2,f3⟩,f4,f5,f6,f7⟩ := T4.res.f8
 have HT : Hid (CR w W4 #[.int .i64 ver,.slice a1 txt.length e1,.slice a2 got.length e2,.slice a3 sus.length e3,.bool wed,.bool rdy,.int .i64 by_,.slice a4 trm.length e4] (((([] ++ [scl txt]) ++ [icl got]) ++ [icl sus]) ++ [icl trm]) (((([] ++ [.slice a1 txt.length e1]) ++ [.slice a2 got.length e2]) ++ [.slice a3 sus.length e3]) ++ [.slice a4 trm.length e4]) fp4) := T4
 clear T4
 go_wp2
 refine bodyPost_ret (v := .agg #[.int .i64 ver,.slice a1 txt.length e1,.slice a2 got.length e2,.slice a3 sus.length e3,.bool wed,.bool rdy,.int .i64 by_,.slice a4 trm.length e4]) (by simp [results,Tryz.results91,go_sem, *]) rfl ?_
 refine ⟨⟨a1,e1,a2,e2,a3,e3,a4,e4⟩,rfl,fp4,owL_wrt HT.out.own (wrt8 _ (w.heap.size + 1)) (fun b hb e => by have := HT.out.fpl b hb;omega),fun b hb => by have := HT.out.fpl b hb;omega,(wrt8 _ (w.heap.size + 1)).below HT.out.below HT.out.below.size (fun b e => by rw [e];omega)⟩
end Go.Proofs.YtidnfdobljihoaaGreat
namespace Go.Proofs.YtidnfdobljihoaaGreat
set_option linter.unusedVariables false
set_option linter.unusedSimpArgs false
open Go.RowKit Go.Sort
theorem pair_len {hi : Int} : ∀ {l : List Int} {lo : Int},l.Pairwise (· < ·) → (∀ x ∈ l,lo ≤ x ∧ x < hi) → (l.length : Int) ≤ max 0 (hi - lo)
 | [],lo,_,_ => by simp;omega
 | x :: l,lo,hp,h => by
  have h1 := List.pairwise_cons.1 hp
  have hx := h x List.mem_cons_self
  have := pair_len (lo := x + 1) h1.2 (fun y hy => ⟨by have := h1.1 y hy;omega,(h y (List.mem_cons_of_mem _ hy)).2⟩)
  simp only [List.length_cons]
  omega
theorem OkR.sl {r : Rw} {n : Nat} (h : OkR r n) : r.sus.length ≤ n := by
 have := pair_len (lo := 0) (hi := (n : Int)) (ris_iff.1 h.ris) h.sus
 omega
theorem OkR.ml {r : Rw} {n : Nat} (h : OkR r n) : r.trm.length ≤ n := by
 cases e : r.rdy with
 | true => have := (h.rdy e).2.2.2.1;omega
 | false => rw [(h.not e).2];simp
def LnR (r : Rw) : Prop := r.txt.length ≤ 1000000 ∧ r.got.length ≤ 1000000 ∧ r.sus.length ≤ 1000000 ∧ r.trm.length ≤ 1000000
theorem OkR.ln {r : Rw} {n : Nat} (h : OkR r n) : LnR r := ⟨by have := h.tl;omega,by have := h.gl;have := h.n5;omega,by have := h.sl;have := h.n5;omega,by have := h.ml;have := h.n5;omega⟩
def LnM (m : Mb) : Prop := m.rows.length ≤ 1000000 ∧ m.sung.length ≤ 1000000 ∧ ∀ r ∈ m.rows,LnR r
theorem OkM.rowOk {m : Mb} {i n : Nat} (h : OkM m i n) : ∀ r ∈ m.rows,OkR r n := by
 intro r hr
 obtain ⟨j,hj,rfl⟩ := List.mem_iff_getElem.1 hr
 have := h.ok j (by rw [← h.len];exact hj)
 simpa [rowN,List.getD,hj] using this
theorem OkM.ln {m : Mb} {i n : Nat} (h : OkM m i n) : LnM m := ⟨by have := h.len;have := h.n5;omega,by have := h.sl;omega,fun r hr => (h.rowOk r hr).ln⟩
theorem cp_start (w : World) (A : Ma) (m : Mb) : Bx (((w.alloc (.cells (mbC A m) 27)).alloc (.cells #[.int .i64 0,.int .i64 0,.slice none 0 0,.slice none 0 0,.bool false] 27)).alloc (.cells (mbC A m) 27)) w.heap.size 27 (mbC A m) ∧
  Bx (((w.alloc (.cells (mbC A m) 27)).alloc (.cells #[.int .i64 0,.int .i64 0,.slice none 0 0,.slice none 0 0,.bool false] 27)).alloc (.cells (mbC A m) 27)) (w.heap.size + 1) 27 #[.int .i64 0,.int .i64 0,.slice none 0 0,.slice none 0 0,.bool false] ∧
  Bx (((w.alloc (.cells (mbC A m) 27)).alloc (.cells #[.int .i64 0,.int .i64 0,.slice none 0 0,.slice none 0 0,.bool false] 27)).alloc (.cells (mbC A m) 27)) (w.heap.size + 1 + 1) 27 (mbC A m) ∧
  Below w.heap.size w (((w.alloc (.cells (mbC A m) 27)).alloc (.cells #[.int .i64 0,.int .i64 0,.slice none 0 0,.slice none 0 0,.bool false] 27)).alloc (.cells (mbC A m) 27)) := by
 have x0 := ((Bx.new w 27 (mbC A m)).alloc (.cells #[.int .i64 0,.int .i64 0,.slice none 0 0,.slice none 0 0,.bool false] 27)).alloc (.cells (mbC A m) 27)
 have x1 := (Bx.new (w.alloc (.cells (mbC A m) 27)) 27 #[.int .i64 0,.int .i64 0,.slice none 0 0,.slice none 0 0,.bool false]).alloc (.cells (mbC A m) 27)
 have x2 := Bx.new ((w.alloc (.cells (mbC A m) 27)).alloc (.cells #[.int .i64 0,.int .i64 0,.slice none 0 0,.slice none 0 0,.bool false] 27)) 27 (mbC A m)
 simp only [World.size_alloc] at x1 x2
 exact ⟨x0,x1,x2,((Below.refl _ _).alloc (Nat.le_refl _) _).alloc (by simp) _ |>.alloc (by simp only [World.size_alloc];omega) _⟩
theorem cp_sung {w X : World} {o : Nat} {A : Ma} {m : Mb} (ho : Bx X o 27 (mbC A m)) (hlo : w.heap.size ≤ o) (hb : Below w.heap.size w X) (hv : Vec w A.sa m.sung.length m.sung) (hl : m.sung.length ≤ 1000000) :
  ∀ Z,Same Z (X.alloc (.cells #[] 2)) → ∃ v' w4,(Builtin.append_ #[25,25] 25 #[.slice (some ⟨X.heap.size,0,none⟩) 0 0,.slice A.sa m.sung.length A.sc]).run Tryz.prog Z = .ok v' w4 ∧
   ∃ a' c',v' = .slice a' m.sung.length c' ∧ w4.cell? ⟨o,3,none⟩ = some (.slice A.sa m.sung.length A.sc) ∧ w4.frozen? ⟨o,3,none⟩ = false ∧
    ∃ W,W = w4.setCell ⟨o,3,none⟩ (.slice a' m.sung.length c') ∧ Below o X W ∧ W.cell? ⟨o,2,none⟩ = some (.slice A.ra m.rows.length A.rc) ∧ W.frozen? ⟨o,2,none⟩ = false ∧ Below o X ((W.alloc (.cells #[] 37)).setCell ⟨o,2,none⟩ (.slice (some ⟨W.heap.size,0,none⟩) 0 0)) ∧ ∃ fp,MO w ((W.alloc (.cells #[] 37)).setCell ⟨o,2,none⟩ (.slice (some ⟨W.heap.size,0,none⟩) 0 0)) o ⟨some ⟨W.heap.size,0,none⟩,0,a',c'⟩ { m with rows := [] } fp := by
 intro Z hZ
 obtain ⟨i0,hi0,hz0,hz1,hz2⟩ := info_parts2n Tryz.info2n
 have hbZ : Below X.heap.size X Z := (oneA16 X _).trans (hZ.below.mono (oneA16 X _).size)
 obtain ⟨a6,c6,w6,fp6,hr6,ho6,hw6,hf6⟩ := ints_copied (P := Tryz.prog) (w := Z) 25 25 2 i0 Tryz.underlying25 hi0 hz0 hz1 hz2 (plainS X.heap.size 0) (x := A.sa) (c := A.sc) (hv.below (hb.trans (hbZ.mono hb.size)) (Nat.le_refl _)) hl
 have b6 : Below X.heap.size X w6 := hw6.below hbZ hbZ.size (fun b h => h.elim)
 have ho1 := ho.below b6
 have hol := ho.lt
 have hZs := hbZ.size
 have ho2 := ho1.setC 3 (.slice a6 m.sung.length c6)
 have b7 : Below o X (w6.setCell ⟨o,3,none⟩ (.slice a6 m.sung.length c6)) := (b6.mono (by omega : o ≤ X.heap.size)).setCell (p := ⟨o,3,none⟩) (Nat.le_refl _) _
 have k6 := Cel.ow_wrt ho6 (Wrt.set w6 o 3 (.slice a6 m.sung.length c6)) (fun b hb e => by have := hf6 b hb;omega)
 refine ⟨_,w6,hr6,a6,c6,rfl,ho1.at 3 rfl,ho1.f 3,_,rfl,b7, ?_⟩
 generalize w6.setCell ⟨o,3,none⟩ (.slice a6 m.sung.length c6) = W at *
 have ho3 := (ho2.alloc (.cells #[] 37)).setC 2 (.slice (some ⟨W.heap.size,0,none⟩) 0 0)
 have b8 : Below o X ((W.alloc (.cells #[] 37)).setCell ⟨o,2,none⟩ (.slice (some ⟨W.heap.size,0,none⟩) 0 0)) := (b7.alloc (by have := ho2.lt;omega) _).setCell (p := ⟨o,2,none⟩) (Nat.le_refl _) _
 have k7 := Cel.ow_wrt (Cel.ow_below k6 (oneA16 W (.cells #[] 37))) (Wrt.set _ o 2 (.slice (some ⟨W.heap.size,0,none⟩) 0 0)) (fun b hb e => by have := hf6 b hb;omega)
 refine ⟨ho2.at 2 rfl,ho2.f 2,b8,fp6, ?_, ?_,fun b hb => by have := hf6 b hb;omega,hlo,(hb.mono (Nat.le_refl _)).trans (b8.mono hlo)⟩
 ·have e : ((mbC A m).setIfInBounds 3 (.slice a6 m.sung.length c6)).setIfInBounds 2 (.slice (some ⟨W.heap.size,0,none⟩) 0 0) = mbC ⟨some ⟨W.heap.size,0,none⟩,0,a6,c6⟩ { m with rows := [] } := by simp [mbC]
  rw [e] at ho3
  exact ho3
 ·refine owL_congr (owL_c (f1 := fun _ => False) (⟨some ⟨W.heap.size,0,none⟩,0,[],none,fun _ => False,rfl,OSo.nil _ _ (plainS _ _),⟨rfl,fun _ h => h⟩,fun _ _ h => h,fun b => by simp⟩ : Cel.ow _ (lcl 8 rw8 []) (.slice (some ⟨W.heap.size,0,none⟩) 0 0) (fun _ => False)) (owL_c k7 (⟨rfl,fun _ h => h⟩ : owL _ [] [] (fun _ => False)) (fun _ _ h => h)) (fun _ h => h.elim)) (fun b => by simp)
set_option maxRecDepth 100000 in
set_option maxHeartbeats 3200000 in
theorem cpyMb_any (A : Ma) (m : Mb) (w : World) (hv : MbS w A m) (hln : LnM m) :
  Calls Tryz.prog 41 #[mbV A m] w fun e w' => AnsMb w w' e m := by
 have hmix := mixed17
 obtain ⟨x0,x1,x2,hb0⟩ := cp_start w A m
 have HV : Hid (MbS w A m) := hv
 obtain ⟨id,n,rows,sung,done⟩ := m
 obtain ⟨ra,rc,sa,sc⟩ := A
 have hA := cp_sung x2 (by omega) hb0 HV.out.sung hln.2.1
 unfold mbV
 unfold mbC at *
 simp only at *
 generalize hWW : ((w.alloc (.cells #[.int .i64 id,.int .i64 n,.slice ra rows.length rc,.slice sa sung.length sc,.bool done] 27)).alloc (.cells #[.int .i64 0,.int .i64 0,.slice none 0 0,.slice none 0 0,.bool false] 27)).alloc (.cells #[.int .i64 id,.int .i64 n,.slice ra rows.length rc,.slice sa sung.length sc,.bool done] 27) = W0 at *
 have d3 : (W0.alloc (.cells #[] 2)).cell? ⟨w.heap.size,3,none⟩ = some (.slice sa sung.length sc) := (x0.alloc (.cells #[] 2)).at 3 rfl
 have HX0 : Hid (Bx W0 w.heap.size 27 #[.int .i64 id,.int .i64 n,.slice ra rows.length rc,.slice sa sung.length sc,.bool done]) := x0
 have HX1 : Hid (Bx W0 (w.heap.size + 1) 27 #[.int .i64 0,.int .i64 0,.slice none 0 0,.slice none 0 0,.bool false]) := x1
 clear hv x0 x1 x2
 go_enter Tryz.func41,Tryz.ntmps41
 go_upto_region 2 with fail
 go_upto_region 3 with (at_builtin;refine wpList_append_of (by rfl) _ _ _ _ (by rfl) _ _ (by rfl) (by rfl) hA ⟨rfl,rfl,rfl,rfl⟩ ?_;rintro v1 w1 ⟨a1,e1,rfl,q1,q2,W1,hW1,b7,q3,q4,b8,fp1,hM1⟩;have HM1 : Hid (∃ fp1,MO w ((W1.alloc (.cells #[] 37)).setCell ⟨w.heap.size + 1 + 1,2,none⟩ (.slice (some ⟨W1.heap.size,0,none⟩) 0 0)) (w.heap.size + 1 + 1) ⟨some ⟨W1.heap.size,0,none⟩,0,a1,e1⟩ ⟨id,n,[],sung,done⟩ fp1) := ⟨fp1,hM1⟩;clear hM1 hA d3)
 rw [← hW1]
 have t2 : (W1.alloc (.cells #[] 37)).cell? ⟨w.heap.size + 1 + 1,2,none⟩ = some (.slice ra rows.length rc) := by
  have := (oneA16 W1 (.cells #[] 37)).cell (World.block_lt_of_cell? _ _ q3)
  exact this.trans q3
 have t3 : (W1.alloc (.cells #[] 37)).frozen? ⟨w.heap.size + 1 + 1,2,none⟩ = false := by
  have e := (oneA16 W1 (.cells #[] 37)).block (w.heap.size + 1 + 1) (World.block_lt_of_cell? _ _ q3)
  simpa only [World.frozen?,e] using q4
 clear hW1 q1 q2
 have HX2 : Hid (Bx ((W1.alloc (.cells #[] 37)).setCell ⟨w.heap.size + 1 + 1,2,none⟩ (.slice (some ⟨W1.heap.size,0,none⟩) 0 0)) w.heap.size 27 #[.int .i64 id,.int .i64 n,.slice ra rows.length rc,.slice sa sung.length sc,.bool done]) := (b8.block w.heap.size (by omega)).trans HX0.out
 have HX3 : Hid (Bx ((W1.alloc (.cells #[] 37)).setCell ⟨w.heap.size + 1 + 1,2,none⟩ (.slice (some ⟨W1.heap.size,0,none⟩) 0 0)) (w.heap.size + 1) 27 #[.int .i64 0,.int .i64 0,.slice none 0 0,.slice none 0 0,.bool false]) := (b8.block (w.heap.size + 1) (by omega)).trans HX1.out
 clear HX0 HX1 b7 b8 hb0 hWW
 go_wp2_with fail
 generalize (W1.alloc (.cells #[] 37)).setCell ⟨w.heap.size + 1 + 1,2,none⟩ (.slice (some ⟨W1.heap.size,0,none⟩) 0 0) = W2 at *
 clear q3 q4 t2 t3
 go_loopw [4] (fun i wr => ∃ k : Nat,k ≤ rows.length ∧ i = .int .i64 (k : Int) ∧ ∃ A R fp,Hid (R = rows.take k) ∧ MO w wr (w.heap.size + 1 + 1) A ⟨id,n,R,sung,done⟩ fp ∧ Bx wr w.heap.size 27 #[.int .i64 id,.int .i64 n,.slice ra rows.length rc,.slice sa sung.length sc,.bool done] ∧ Bx wr (w.heap.size + 1) 27 #[.int .i64 0,.int .i64 0,.slice none 0 0,.slice none 0 0,.bool false]) (fun i _ => rows.length - (intOf i).toNat)
 case atStart =>
  obtain ⟨fp2,hM2⟩ := HM1.out
  exact ⟨0,Nat.zero_le _,rfl,_,[],_,rfl,hM2,HX2.out,HX3.out⟩
 case round =>
  obtain ⟨k,hk,rfl,A,R,fp,hR,M,hpar,hres⟩ := hrel
  have hrl : rows.length ≤ 1000000 := hln.1
  obtain ⟨p0,p1,p2,p3,p4⟩ := Bx.r5 hpar
  by_cases hlt : k < rows.length
  ·have k1 : (k : Int) < (rows.length : Int) := by omega
   have k0 : (0 : Int) ≤ (k : Int) := by omega
   have hRl : R.length ≤ 1000000 := by rw [hR.out,List.length_take];omega
   obtain ⟨g,off,Ak,hra,hc8,hrs⟩ := HV.out.row (k := k) hlt
   have hlr : LnR (rowN rows k) := hln.2.2 _ (List.mem_of_getElem? (rowN_at hlt))
   simp only at hra hrs hc8
   subst hra
   have HRS : Hid (RwS wr Ak (rowN rows k)) := hrs.below M.below
   have HMB : Hid (Below w.heap.size w wr) := M.below
   have HRes : Hid (Bx wr (w.heap.size + 1) 27 #[.int .i64 0,.int .i64 0,.slice none 0 0,.slice none 0 0,.bool false]) := hres
   have HPar : Hid (Bx wr w.heap.size 27 #[.int .i64 id,.int .i64 n,.slice (some ⟨g,off,none⟩) rows.length rc,.slice sa sung.length sc,.bool done]) := hpar
   have HM : Hid (MO w wr (w.heap.size + 1 + 1) A ⟨id,n,R,sung,done⟩ fp) := M
   have c2 : wr.cell? ⟨w.heap.size + 1 + 1,2,none⟩ = some (.slice A.ra R.length A.rc) := M.own.at 2 rfl
   have KS : ∀ X,X.cell? ⟨w.heap.size + 1 + 1,2,none⟩ = some (.slice A.ra R.length A.rc) → X.cell? ⟨w.heap.size,2,none⟩ = some (.slice (some ⟨g,off,none⟩) rows.length rc) → Below w.heap.size w X → (X.cell? ⟨w.heap.size + 1 + 1,2,none⟩ = some (.slice A.ra R.length A.rc) ∧ X.cell? ⟨w.heap.size,2,none⟩ = some (.slice (some ⟨g,off,none⟩) rows.length rc) ∧ X.cell? ⟨g,off + k * 8,none⟩ = some (.int .i64 (rowN rows k).ver) ∧ X.cell? ⟨g,off + k * 8 + 1,none⟩ = some (.slice Ak.ta (rowN rows k).txt.length Ak.tc) ∧ X.cell? ⟨g,off + k * 8 + 2,none⟩ = some (.slice Ak.ga (rowN rows k).got.length Ak.gc) ∧ X.cell? ⟨g,off + k * 8 + 3,none⟩ = some (.slice Ak.sa (rowN rows k).sus.length Ak.sc) ∧ X.cell? ⟨g,off + k * 8 + 4,none⟩ = some (.bool (rowN rows k).wed) ∧ X.cell? ⟨g,off + k * 8 + 5,none⟩ = some (.bool (rowN rows k).rdy) ∧ X.cell? ⟨g,off + k * 8 + 6,none⟩ = some (.int .i64 (rowN rows k).by_) ∧ X.cell? ⟨g,off + k * 8 + 7,none⟩ = some (.slice Ak.ma (rowN rows k).trm.length Ak.mc)) := fun X x1 x2 hX => by
    obtain ⟨⟨d0,d1,d2,d3⟩,d4,d5,d6,d7⟩ := hc8
    have t : ∀ x v,w.cell? x = some v → X.cell? x = some v := fun x v h => (hX.cell (World.block_lt_of_cell? _ _ h)).trans h
    exact ⟨x1,x2,t _ _ d0,t _ _ d1,t _ _ d2,t _ _ d3,t _ _ d4,t _ _ d5,t _ _ d6,t _ _ d7⟩
   have KB : ∀ X,Below wr.heap.size wr X → X.cell? ⟨w.heap.size + 1 + 1,2,none⟩ = some (.slice A.ra R.length A.rc) ∧ X.cell? ⟨w.heap.size,2,none⟩ = some (.slice (some ⟨g,off,none⟩) rows.length rc) ∧ Below w.heap.size w X := fun X hX => ⟨(hX.cell (World.block_lt_of_cell? _ _ c2)).trans c2,(hX.cell (World.block_lt_of_cell? _ _ p2)).trans p2,HMB.out.trans (hX.mono HMB.out.size)⟩
   have KK := fun X hX => KS X (KB X hX).1 (KB X hX).2.1 (KB X hX).2.2
   have hbd : Below wr.heap.size wr wr.drew := (Same.drewN wr 1).below
   generalize hrr : rowN rows k = r at *
   have hRR : Hid (rowN rows k = r) := hrr
   clear hrr M hres hpar hc8 hrs c2 p0 p1 p3 p4
   go_wp2_with fail
   refine gt_begin (S := fun X : World => X.cell? ⟨w.heap.size + 1 + 1,2,none⟩ = some (.slice A.ra R.length A.rc) ∧ X.cell? ⟨w.heap.size,2,none⟩ = some (.slice (some ⟨g,off,none⟩) rows.length rc) ∧ X.cell? ⟨g,off + k * 8,none⟩ = some (.int .i64 r.ver) ∧ X.cell? ⟨g,off + k * 8 + 1,none⟩ = some (.slice Ak.ta r.txt.length Ak.tc) ∧ X.cell? ⟨g,off + k * 8 + 2,none⟩ = some (.slice Ak.ga r.got.length Ak.gc) ∧ X.cell? ⟨g,off + k * 8 + 3,none⟩ = some (.slice Ak.sa r.sus.length Ak.sc) ∧ X.cell? ⟨g,off + k * 8 + 4,none⟩ = some (.bool r.wed) ∧ X.cell? ⟨g,off + k * 8 + 5,none⟩ = some (.bool r.rdy) ∧ X.cell? ⟨g,off + k * 8 + 6,none⟩ = some (.int .i64 r.by_) ∧ X.cell? ⟨g,off + k * 8 + 7,none⟩ = some (.slice Ak.ma r.trm.length Ak.mc)) 11 hmix (by kernel_rfl) ?_
   have hHeld : (fun X : World => X.cell? ⟨w.heap.size + 1 + 1,2,none⟩ = some (.slice A.ra R.length A.rc) ∧ X.cell? ⟨w.heap.size,2,none⟩ = some (.slice (some ⟨g,off,none⟩) rows.length rc) ∧ X.cell? ⟨g,off + k * 8,none⟩ = some (.int .i64 r.ver) ∧ X.cell? ⟨g,off + k * 8 + 1,none⟩ = some (.slice Ak.ta r.txt.length Ak.tc) ∧ X.cell? ⟨g,off + k * 8 + 2,none⟩ = some (.slice Ak.ga r.got.length Ak.gc) ∧ X.cell? ⟨g,off + k * 8 + 3,none⟩ = some (.slice Ak.sa r.sus.length Ak.sc) ∧ X.cell? ⟨g,off + k * 8 + 4,none⟩ = some (.bool r.wed) ∧ X.cell? ⟨g,off + k * 8 + 5,none⟩ = some (.bool r.rdy) ∧ X.cell? ⟨g,off + k * 8 + 6,none⟩ = some (.int .i64 r.by_) ∧ X.cell? ⟨g,off + k * 8 + 7,none⟩ = some (.slice Ak.ma r.trm.length Ak.mc)) wr.drew := (KK _ hbd)
   refine gt_take (i := 0) (v := ?_) rfl (by kernel_rfl) (by kernel_rfl) (by kernel_rfl) (by kernel_rfl) (fun _ _ _ h => h) (Or.inl ⟨by rfl, ?_⟩) hHeld ?_
   rotate_left
   ·(intro X hSX;(try dsimp only at hSX);obtain ⟨g0,g1,g2,g3,g4,g5,g6,g7,g8,g9⟩ := hSX;go_simp;try with_reducible rfl)
   try simp only [Act.put,List.setIfInBounds_toArray,List.set_cons_zero,List.set_cons_succ]
   refine gt_take (i := 1) (v := ?_) rfl (by kernel_rfl) (by kernel_rfl) (by kernel_rfl) (by kernel_rfl) (fun _ _ _ h => h) (Or.inl ⟨by rfl, ?_⟩) hHeld ?_
   rotate_left
   ·(intro X hSX;(try dsimp only at hSX);obtain ⟨g0,g1,g2,g3,g4,g5,g6,g7,g8,g9⟩ := hSX;go_simp;try with_reducible rfl)
   try simp only [Act.put,List.setIfInBounds_toArray,List.set_cons_zero,List.set_cons_succ]
   refine gt_take (i := 2) (v := ?_) rfl (by kernel_rfl) (by kernel_rfl) (by kernel_rfl) (by kernel_rfl) (fun _ _ _ h => h) (Or.inl ⟨by rfl, ?_⟩) hHeld ?_
   rotate_left
   ·(intro X hSX;(try dsimp only at hSX);obtain ⟨g0,g1,g2,g3,g4,g5,g6,g7,g8,g9⟩ := hSX;go_simp;try with_reducible rfl)
   try simp only [Act.put,List.setIfInBounds_toArray,List.set_cons_zero,List.set_cons_succ]
   refine gt_take (i := 3) (v := ?_) rfl (by kernel_rfl) (by kernel_rfl) (by kernel_rfl) (by kernel_rfl) (fun _ _ _ h => h) (Or.inl ⟨by rfl, ?_⟩) hHeld ?_
   rotate_left
   ·(intro X hSX;(try dsimp only at hSX);obtain ⟨g0,g1,g2,g3,g4,g5,g6,g7,g8,g9⟩ := hSX;go_simp;try with_reducible rfl)
   try simp only [Act.put,List.setIfInBounds_toArray,List.set_cons_zero,List.set_cons_succ]
   refine gt_take (i := 4) (v := ?_) rfl (by kernel_rfl) (by kernel_rfl) (by kernel_rfl) (by kernel_rfl) (fun _ _ _ h => h) (Or.inl ⟨by rfl, ?_⟩) hHeld ?_
   rotate_left
   ·(intro X hSX;(try dsimp only at hSX);obtain ⟨g0,g1,g2,g3,g4,g5,g6,g7,g8,g9⟩ := hSX;go_simp;try with_reducible rfl)
   try simp only [Act.put,List.setIfInBounds_toArray,List.set_cons_zero,List.set_cons_succ]
   refine gt_take (i := 5) (v := ?_) rfl (by kernel_rfl) (by kernel_rfl) (by kernel_rfl) (by kernel_rfl) (fun _ _ _ h => h) (Or.inl ⟨by rfl, ?_⟩) hHeld ?_
   rotate_left
   ·(intro X hSX;(try dsimp only at hSX);obtain ⟨g0,g1,g2,g3,g4,g5,g6,g7,g8,g9⟩ := hSX;go_simp;try with_reducible rfl)
   try simp only [Act.put,List.setIfInBounds_toArray,List.set_cons_zero,List.set_cons_succ]
   refine gt_take (i := 6) (v := ?_) rfl (by kernel_rfl) (by kernel_rfl) (by kernel_rfl) (by kernel_rfl) (fun _ _ _ h => h) (Or.inl ⟨by rfl, ?_⟩) hHeld ?_
   rotate_left
   ·(intro X hSX;(try dsimp only at hSX);obtain ⟨g0,g1,g2,g3,g4,g5,g6,g7,g8,g9⟩ := hSX;go_simp;try with_reducible rfl)
   try simp only [Act.put,List.setIfInBounds_toArray,List.set_cons_zero,List.set_cons_succ]
   refine gt_one (i := 7) rfl (by kernel_rfl) (by kernel_rfl) (fun K hK => ?_)
   go_simp
   go_at_call 91
   refine (cpyRw_any Ak r wr.drew (HRS.out.below hbd) hlr.1 hlr.2.1 hlr.2.2.1 hlr.2.2.2).mono ?_
   rintro e w1 ⟨Ar,rfl,fr,hr1,hr2,hr3⟩
   have hb1 : Below wr.heap.size wr w1 := hbd.trans (hr3.mono hbd.size)
   have hA := HM.out.push hb1 hr1 (fun b hb => hr2 b hb) hRl
   have hb2 : Below wr.heap.size wr (w1.alloc (.cells (rwC Ar r) 37)) := hb1.trans ((oneA16 w1 _).mono hb1.size)
   refine hK.out _ _ (KK _ hb1) (fun hHeldN => ?_)
   clear hK hHeld
   have hHeld := hHeldN
   try simp only [Act.put,List.setIfInBounds_toArray,List.set_cons_zero,List.set_cons_succ]
   unfold rwV
   unfold rwC at hA hb2 ⊢
   refine gt_one (i := 8) rfl (by kernel_rfl) (by kernel_rfl) (fun K hK => ?_)
   go_simp
   refine hK.out _ _ (KK _ hb2) (fun hHeldN => ?_)
   clear hK hHeld
   have hHeld := hHeldN
   try simp only [Act.put,List.setIfInBounds_toArray,List.set_cons_zero,List.set_cons_succ]
   refine gt_one (i := 9) rfl (by kernel_rfl) (by kernel_rfl) (fun K hK => ?_)
   refine step_append_of (by rfl) _ _ _ _ (by rfl) (.slice A.ra R.length A.rc) _ (by rfl) (by rfl) hA ⟨rfl,rfl,rfl,rfl⟩ ?_
   rintro v9 w4 ⟨a9,c9,rfl,q1,q2,b4,b5,fp9,hM9⟩
   have hK4 : w4.cell? ⟨w.heap.size,2,none⟩ = some (.slice (some ⟨g,off,none⟩) rows.length rc) := (b4.cell (p := ⟨w.heap.size,2,none⟩) (by show w.heap.size < w.heap.size + 1 + 1;omega)).trans p2
   refine hK.out _ _ (KS _ q1 hK4 (HMB.out.trans (b4.mono (by omega)))) (fun hHeldN => ?_)
   clear hK hHeld
   have hHeld := hHeldN
   try simp only [Act.put,List.setIfInBounds_toArray,List.set_cons_zero,List.set_cons_succ]
   refine gt_take (i := 10) (v := ?_) rfl (by kernel_rfl) (by kernel_rfl) (by kernel_rfl) (by kernel_rfl) (fun _ _ _ h => h) (Or.inl ⟨by rfl, ?_⟩) hHeld ?_
   rotate_left
   ·(intro X hSX;(try dsimp only at hSX);obtain ⟨g0,g1,g2,g3,g4,g5,g6,g7,g8,g9⟩ := hSX;go_simp;try with_reducible rfl)
   try simp only [Act.put,List.setIfInBounds_toArray,List.set_cons_zero,List.set_cons_succ]
   refine gt_last rfl (by kernel_rfl) (by kernel_rfl) (fun K hK => ?_)
   go_simp
   refine hK.out _ _ ?_
   have HM9 : Hid (MO w (w4.setCell ⟨w.heap.size + 1 + 1,2,none⟩ (.slice a9 (R.length + 1) c9)) (w.heap.size + 1 + 1) ⟨a9,c9,A.sa,A.sc⟩ ⟨id,n,R ++ [r],sung,done⟩ fp9) := hM9
   have HRes9 : Hid (Bx (w4.setCell ⟨w.heap.size + 1 + 1,2,none⟩ (.slice a9 (R.length + 1) c9)) (w.heap.size + 1) 27 #[.int .i64 0,.int .i64 0,.slice none 0 0,.slice none 0 0,.bool false]) := (b5.block (w.heap.size + 1) (Nat.lt_succ_self _)).trans HRes.out
   have HPar9 : Hid (Bx (w4.setCell ⟨w.heap.size + 1 + 1,2,none⟩ (.slice a9 (R.length + 1) c9)) w.heap.size 27 #[.int .i64 id,.int .i64 n,.slice (some ⟨g,off,none⟩) rows.length rc,.slice sa sung.length sc,.bool done]) := (b5.block w.heap.size (by omega)).trans HPar.out
   have HR9 : Hid (R ++ [r] = rows.take (k + 1)) := by
    rw [Hid,hR.out,← hRR.out,List.take_succ_eq_append_getElem hlt]
    simp [rowN,List.getD,hlt]
   clear hM9 hA hr1 hr2 hr3 KS KB KK
   generalize w4.setCell ⟨w.heap.size + 1 + 1,2,none⟩ (.slice a9 (R.length + 1) c9) = W9 at *
   clear hb1 hb2 hbd q1 q2 b4 b5 hHeld hK4 p2
   go_wp2
   go_roundw
   case rel => exact ⟨k + 1,by omega,by go_num,_,_,_,HR9,HM9.out,HPar9.out,HRes9.out⟩
   case measure => simp [intOf];omega
  ·have k1 : ¬ ((k : Int) < (rows.length : Int)) := by omega
   have HRN : Hid (R = rows) := by rw [Hid,hR.out,List.take_of_length_le (by omega)]
   have hRl : Hid (R.length = rows.length) := by rw [Hid,HRN.out]
   obtain ⟨o0,o1,o2,o3,o4⟩ := Bx.r5 M.own
   obtain ⟨r0,r1,r2,r3,r4⟩ := Bx.r5 hres
   obtain ⟨f0,f1,f2,f3,f4⟩ := hres.f5
   have HA : Hid (NewL w (((((wr.setCell ⟨w.heap.size + 1,0,none⟩ (.int .i64 id)).setCell ⟨w.heap.size + 1,1,none⟩ (.int .i64 n)).setCell ⟨w.heap.size + 1,2,none⟩ (.slice A.ra R.length A.rc)).setCell ⟨w.heap.size + 1,3,none⟩ (.slice A.sa sung.length A.sc)).setCell ⟨w.heap.size + 1,4,none⟩ (.bool done)) (mbCels ⟨id,n,R,sung,done⟩) (mbVals A ⟨id,n,R,sung,done⟩)) := M.ans (Nat.le_succ _) (Nat.le_succ _)
   clear M hres hR hpar
   go_wp2
   refine bodyPost_ret (v := mbV A ⟨id,n,R,sung,done⟩) (by simp [results,Tryz.results41,go_sem,mbV,mbC, *]) rfl ?_
   rw [← HRN.out]
   exact ⟨_,rfl,HA.out⟩
end Go.Proofs.YtidnfdobljihoaaGreat
namespace Go.Proofs.YtidnfdobljihoaaGreat
set_option linter.unusedVariables false
set_option linter.unusedSimpArgs false
open Go.RowKit Go.Sort
theorem OkR.fit {r : Rw} {n : Nat} (h : OkR r n) : FitR r := by
 have h5 := h.n5
 have ok : ∀ v,okB v = true → Fits v := fun v h1 x hx => by
  simp only [okB,Bool.and_eq_true,decide_eq_true_eq,List.all_eq_true] at h1
  have := inB7.1 (h1.2 x hx)
  omega
 refine ⟨ok _ h.got,fun x hx => by have := h.sus x hx;omega, ?_⟩
 cases e : r.rdy with
 | true => exact ok _ (h.rdy e).2.2.1
 | false => rw [(h.not e).2];exact fun x hx => absurd hx List.not_mem_nil
theorem OkM.fit {m : Mb} {i n : Nat} (h : OkM m i n) : FitM m := ⟨fun r hr => (h.rowOk r hr).fit,fun x hx => by
 obtain ⟨j,hj,rfl⟩ := List.mem_iff_getElem.1 hx
 have := (h.sg j hj).1
 simp [el,hj] at this
 omega⟩
def C5 (w : World) (B o : Nat) (x0 x1 x2 x3 x4 : Value) : Prop := w.cell? ⟨B,o,none⟩ = some x0 ∧ w.cell? ⟨B,o + 1,none⟩ = some x1 ∧ w.cell? ⟨B,o + 2,none⟩ = some x2 ∧ w.cell? ⟨B,o + 3,none⟩ = some x3 ∧ w.cell? ⟨B,o + 4,none⟩ = some x4
structure Mw (w X : World) (B o : Nat) (m : Mb) (fp : Fp) (g off c : Nat) : Prop where
 bcm : Bcm w X B o (mb5 m) fp
 rws : X.cell? ⟨B,o + 2,none⟩ = some (.slice (some ⟨g,off,none⟩) m.rows.length c)
theorem Mw.start {w : World} {B o : Nat} {m : Mb} {fp : Fp} (h : Plc w B o (mb5 m) fp) (hn : 0 < m.rows.length) : ∃ g off c,Mw w w B o m fp g off c := by
 obtain ⟨g,off,c,f,h1,_⟩ := h.el (F := rw8) rw8_len (by omega) (j := 2) (L := m.rows) rfl (rowN_at hn)
 exact ⟨g,off,c,Bcm.refl h,h1⟩
theorem Mw.step {w X X' : World} {B o : Nat} {m : Mb} {fp : Fp} {g off c : Nat} (h : Mw w X B o m fp g off c) (hb : Below X.heap.size X X') : Mw w X' B o m fp g off c := ⟨h.bcm.below hb,(hb.cell (World.block_lt_of_cell? _ _ h.rws)).trans h.rws⟩
theorem Mw.box {w X : World} {B o : Nat} {m : Mb} {fp : Fp} {g off c : Nat} (h : Mw w X B o m fp g off c) (hf : FitM m) : ∃ sa sc,C5 X B o (.int .i64 m.id) (.int .i64 m.n) (.slice (some ⟨g,off,none⟩) m.rows.length c) (.slice sa m.sung.length sc) (.bool m.done) ∧ MbS X ⟨some ⟨g,off,none⟩,c,sa,sc⟩ m := by
 obtain ⟨fp1,hp,_⟩ := h.bcm.next
 have hv := hp.pv
 obtain ⟨u0,c0,rfl⟩ := hv.at (j := 0) rfl
 obtain ⟨u1,c1,rfl⟩ := hv.at (j := 1) rfl
 obtain ⟨u2,c2,v2⟩ := hv.at (j := 2) rfl
 obtain ⟨u3,c3,v3⟩ := hv.at (j := 3) rfl
 obtain ⟨u4,c4,rfl⟩ := hv.at (j := 4) rfl
 have e2 : u2 = .slice (some ⟨g,off,none⟩) m.rows.length c := Option.some.inj (c2.symm.trans h.rws)
 subst e2
 obtain ⟨sa,sc,rfl,s1,s2,s3⟩ := vw_icl v3 hf.2
 have k := v2
 obtain ⟨_,_,_,e,k1,k2,_⟩ := k
 cases e
 exact ⟨sa,sc,⟨c0,c1,c2,c3,c4⟩,v2,s1,by omega,by omega,hf.1⟩
theorem Mw.id' {w X : World} {B o : Nat} {m : Mb} {fp : Fp} {g off c : Nat} (h : Mw w X B o m fp g off c) : X.cell? ⟨B,o,none⟩ = some (.int .i64 m.id) ∧ X.cell? ⟨B,o + 1,none⟩ = some (.int .i64 m.n) ∧ X.cell? ⟨B,o + 4,none⟩ = some (.bool m.done) := by
 obtain ⟨fp1,hp,_⟩ := h.bcm.next
 have hv := hp.pv
 obtain ⟨u0,c0,rfl⟩ := hv.at (j := 0) rfl
 obtain ⟨u1,c1,rfl⟩ := hv.at (j := 1) rfl
 obtain ⟨u4,c4,rfl⟩ := hv.at (j := 4) rfl
 exact ⟨c0,c1,c4⟩
theorem Mw.row {w X : World} {B o : Nat} {m : Mb} {fp : Fp} {g off c : Nat} (h : Mw w X B o m fp g off c) (hf : FitM m) {k : Nat} (hk : k < m.rows.length) : ∃ Ak : Ra,C8 X g (off + k * 8) (.int .i64 (rowN m.rows k).ver) (.slice Ak.ta (rowN m.rows k).txt.length Ak.tc) (.slice Ak.ga (rowN m.rows k).got.length Ak.gc) (.slice Ak.sa (rowN m.rows k).sus.length Ak.sc) (.bool (rowN m.rows k).wed) (.bool (rowN m.rows k).rdy) (.int .i64 (rowN m.rows k).by_) (.slice Ak.ma (rowN m.rows k).trm.length Ak.mc) ∧ RwS X Ak (rowN m.rows k) := by
 obtain ⟨sa,sc,_,h2⟩ := h.box hf
 obtain ⟨g',off',Ak,e,h3,h4⟩ := h2.row hk
 cases e
 exact ⟨Ak,h3,h4⟩
theorem Mw.at {w X : World} {B o : Nat} {m : Mb} {fp : Fp} {g off c : Nat} (h : Mw w X B o m fp g off c) {k : Nat} (hk : k < m.rows.length) {j : Nat} {cl : Cel} (hj : (rw8 (rowN m.rows k))[j]? = some cl) : ∃ u f,X.cell? ⟨g,off + k * 8 + j,none⟩ = some u ∧ X.frozen? ⟨g,off + k * 8 + j,none⟩ = false ∧ Cel.ow X cl u f ∧ (∀ b,f b → b < X.heap.size) ∧
  ∀ (X1 : World) (c' : Cel) (u' : Value) (f' : Fp) (r' : Rw),(rw8 (rowN m.rows k)).set j c' = rw8 r' → Wrt f X X1 → Cel.ow X1 c' u' f' → (∀ b,f' b → f b ∨ X.heap.size ≤ b) → X1.cell? ⟨g,off + k * 8 + j,none⟩ = some u ∧ X1.frozen? ⟨g,off + k * 8 + j,none⟩ = false ∧ Mw w (X1.setCell ⟨g,off + k * 8 + j,none⟩ u') B o { m with rows := m.rows.set k r' } fp g off c ∧ (u' = u → Mw w X1 B o { m with rows := m.rows.set k r' } fp g off c) := by
 obtain ⟨fp1,hp,hf1,hgo⟩ := h.bcm.next
 obtain ⟨g',off',c',f,h1,hgB,hfg,hfs,hpl,hput⟩ := hp.el (F := rw8) rw8_len (by omega) (j := 2) (L := m.rows) rfl (rowN_at hk)
 have e := Option.some.inj (h1.symm.trans h.rws)
 cases e
 obtain ⟨u,fj,hu,hfz,hc,hsub,hnB,hset⟩ := hpl.at hj
 have hBX := hp.lt
 refine ⟨u,fj,hu,hfz,hc,Cel.ow_lt hc,fun X1 c' u' f' r' er hw hc' hf' => ?_⟩
 obtain ⟨k1,k2,k3,k4⟩ := hset X1 c' u' f' hw hc' hf'
 rw [er] at k3 k4
 have hBf : ¬ fj B := fun hb => hp.nB (hfs B (hsub B hb))
 have hr1 : X1.cell? ⟨B,o + 2,none⟩ = some (.slice (some ⟨g,off,none⟩) m.rows.length c) := (World.cell?_of_block (hw.block B hBX hBf)).trans h.rws
 have key : ∀ Z,Bcm X Z g (off + k * 8) (rw8 r') f → Bcm w Z B o (mb5 { m with rows := m.rows.set k r' }) fp := fun Z hZ => hgo Z _ rfl (hput Z r' hZ)
 refine ⟨k1,k2,⟨key _ k3, ?_⟩,fun e => ⟨key _ (k4 e), ?_⟩⟩
 ·rw [World.cell?_setCell_other _ _ _ _ (by simp only [ne_eq,Addr.mk.injEq,not_and];intro e;exact absurd e hgB),hr1]
  simp
 ·rw [hr1];simp
theorem Mw.put {w X : World} {B o : Nat} {m : Mb} {fp : Fp} {g off c : Nat} (h : Mw w X B o m fp g off c) {k : Nat} (hk : k < m.rows.length) {j : Nat} {x y : Value} (hj : (rw8 (rowN m.rows k))[j]? = some (.v x)) {r' : Rw} (er : (rw8 (rowN m.rows k)).set j (.v y) = rw8 r') :
  X.cell? ⟨g,off + k * 8 + j,none⟩ = some x ∧ X.frozen? ⟨g,off + k * 8 + j,none⟩ = false ∧ Mw w (X.setCell ⟨g,off + k * 8 + j,none⟩ y) B o { m with rows := m.rows.set k r' } fp g off c := by
 obtain ⟨u,f,h1,h2,⟨rfl,h3⟩,_,h4⟩ := h.at hk hj
 exact ⟨h1,h2,(h4 X (.v y) y (fun _ => False) r' er (Wrt.refl _ _) ⟨rfl,fun _ h => h⟩ (fun b hb => hb.elim)).2.2.1⟩
theorem Mw.mat {w X : World} {B o : Nat} {m : Mb} {fp : Fp} {g off c : Nat} (h : Mw w X B o m fp g off c) {j : Nat} {cl : Cel} (hj : (mb5 m)[j]? = some cl) (hj2 : j ≠ 2) : ∃ u f,X.cell? ⟨B,o + j,none⟩ = some u ∧ X.frozen? ⟨B,o + j,none⟩ = false ∧ Cel.ow X cl u f ∧ (∀ b,f b → b < X.heap.size) ∧
  ∀ (X1 : World) (c' : Cel) (u' : Value) (f' : Fp) (m' : Mb),(mb5 m).set j c' = mb5 m' → m'.rows.length = m.rows.length → Wrt f X X1 → Cel.ow X1 c' u' f' → (∀ b,f' b → f b ∨ X.heap.size ≤ b) → X1.cell? ⟨B,o + j,none⟩ = some u ∧ X1.frozen? ⟨B,o + j,none⟩ = false ∧ Mw w (X1.setCell ⟨B,o + j,none⟩ u') B o m' fp g off c := by
 obtain ⟨fp1,hp,hf1,hgo⟩ := h.bcm.next
 obtain ⟨u,fj,hu,hfz,hc,hsub,hnB,hset⟩ := hp.at hj
 refine ⟨u,fj,hu,hfz,hc,Cel.ow_lt hc,fun X1 c' u' f' m' er hl hw hc' hf' => ?_⟩
 obtain ⟨k1,k2,k3,k4⟩ := hset X1 c' u' f' hw hc' hf'
 rw [er] at k3
 refine ⟨k1,k2,hgo _ _ rfl k3, ?_⟩
 rw [World.cell?_setCell_other _ _ _ _ (by simp only [ne_eq,Addr.mk.injEq,not_and];intro _ e;omega),World.cell?_of_block (hw.block B hp.lt hnB),h.rws,hl]
end Go.Proofs.YtidnfdobljihoaaGreat
namespace Go.Proofs.YtidnfdobljihoaaGreat
set_option linter.unusedVariables false
set_option linter.unusedSimpArgs false
open Go.RowKit Go.Sort
theorem ow_txt_app {w : World} {u : Value} {T : List (List UInt8)} {f : Fp} (t : List UInt8) (h : Cel.ow w (scl T) u f) (hl : T.length ≤ 1000000) : ∃ a c,u = .slice a T.length c ∧ ∀ Y,Same Y (w.alloc (.cells #[.string (sv t)] 9)) →
  ∃ v' w4,(Builtin.append_ #[32,32] 32 #[u,.slice (some ⟨w.heap.size,0,none⟩) 1 1]).run Tryz.prog Y = .ok v' w4 ∧ ∃ a' c' f',v' = .slice a' (T.length + 1) c' ∧ Cel.ow w4 (scl (T ++ [t])) v' f' ∧ (∀ b,f' b → f b ∨ w.heap.size ≤ b) ∧ Wrt f w w4 := by
 obtain ⟨i0,hi0,hz0,hz1,hz2⟩ := info_parts9 Tryz.info9
 have h' := h
 obtain ⟨a,c,G,rfl,ho,hf⟩ := ow_scl.1 h'
 refine ⟨a,c,rfl,fun Y hY => ?_⟩
 have hbY : Below w.heap.size w Y := (oneA16 w _).trans (hY.below.mono (oneA16 w _).size)
 have hlt := Cel.ow_lt h
 obtain ⟨a',c',w4,fp',k1,k2,k3,k4⟩ := ow_push (P := Tryz.prog) (w := Y) 32 32 9 i0 _ 1 16 Tryz.underlying32 hi0 hz0 hz1 hz2 rfl (by omega) (Cel.ow_below h hbY) (owL_pl (vs := [.string (sv t)]).2 ⟨rfl,fun (b : Nat) (h : False) => h⟩ : owL Y (pl [.string (sv t)]) [.string (sv t)] (fun _ => False)) (fun _ _ h => h) rfl (by intro u hu;simp at hu;rw [hu];rfl) w.heap.size 9 (by rw [hY.heap];exact heap_alloc_new w _) (by unfold maxLen;omega) (by omega)
 refine ⟨_,w4,k1,a',c',fp',rfl, ?_,fun b hb => ?_,(Wrt.of_below (f := f) hbY).trans k3 (fun _ _ h => h)⟩
 ·have e : scl (T ++ [t]) = .sl 1 (T.length + 1) (pl (svs T) ++ pl [.string (sv t)]) := by simp [scl,svs,pl]
  rw [e]
  exact k2
 ·rcases k4 b hb with k | k | k
  ·exact .inl k
  ·exact k.elim
  ·exact .inr (by have := hbY.size;omega)
theorem ow_int_app {w : World} {u : Value} {T : List Int} {f : Fp} (t : Int) (h : Cel.ow w (icl T) u f) (hl : T.length ≤ 1000000) : ∃ a c,u = .slice a T.length c ∧ ∀ Y,Same Y (w.alloc (.cells #[.int .i64 t] 2)) →
  ∃ v' w4,(Builtin.append_ #[25,25] 25 #[u,.slice (some ⟨w.heap.size,0,none⟩) 1 1]).run Tryz.prog Y = .ok v' w4 ∧ ∃ a' c' f',v' = .slice a' (T.length + 1) c' ∧ Cel.ow w4 (icl (T ++ [t])) v' f' ∧ (∀ b,f' b → f b ∨ w.heap.size ≤ b) ∧ Wrt f w w4 := by
 obtain ⟨i0,hi0,hz0,hz1,hz2⟩ := info_parts2n Tryz.info2n
 have h' := h
 obtain ⟨a,c,G,rfl,ho,hf⟩ := ow_icl.1 h'
 refine ⟨a,c,rfl,fun Y hY => ?_⟩
 have hbY : Below w.heap.size w Y := (oneA16 w _).trans (hY.below.mono (oneA16 w _).size)
 obtain ⟨a',c',w4,fp',k1,k2,k3,k4⟩ := ow_push (P := Tryz.prog) (w := Y) 25 25 2 i0 _ 1 8 Tryz.underlying25 hi0 hz0 hz1 hz2 rfl (by omega) (Cel.ow_below h hbY) (owL_pl (vs := [.int .i64 t]).2 ⟨rfl,fun (b : Nat) (h : False) => h⟩ : owL Y (pl [.int .i64 t]) [.int .i64 t] (fun _ => False)) (fun _ _ h => h) rfl (by intro u hu;simp at hu;rw [hu];rfl) w.heap.size 2 (by rw [hY.heap];exact heap_alloc_new w _) (by unfold maxLen;omega) (by omega)
 refine ⟨_,w4,k1,a',c',fp',rfl, ?_,fun b hb => ?_,(Wrt.of_below (f := f) hbY).trans k3 (fun _ _ h => h)⟩
 ·have e : icl (T ++ [t]) = .sl 1 (T.length + 1) (pl (T.map (Value.int .i64)) ++ pl [.int .i64 t]) := by simp [icl,pl]
  rw [e]
  exact k2
 ·rcases k4 b hb with k | k | k
  ·exact .inl k
  ·exact k.elim
  ·exact .inr (by have := hbY.size;omega)
theorem ow_int_set {w : World} {u : Value} {T : List Int} {f : Fp} (h : Cel.ow w (icl T) u f) {k : Nat} (hk : k < T.length) : ∃ g o c,u = .slice (some ⟨g,o,none⟩) T.length c ∧ f g ∧ w.cell? ⟨g,o + k,none⟩ = some (.int .i64 (el T k)) ∧ w.frozen? ⟨g,o + k,none⟩ = false ∧ ∀ (y : Int),Cel.ow (w.setCell ⟨g,o + k,none⟩ (.int .i64 y)) (icl (T.set k y)) u f ∧ Wrt f w (w.setCell ⟨g,o + k,none⟩ (.int .i64 y)) := by
 obtain ⟨a,c,G,rfl,ho,hf⟩ := ow_icl.1 h
 rcases ho with ⟨h0,_⟩ | ⟨g,off,rfl,hs,rfl⟩
 ·omega
 have hc : w.cell? ⟨g,off + k,none⟩ = some (.int .i64 (el T k)) := by
  rw [hs.cell k (by omega)]
  simp [el,hk]
 refine ⟨g,off,c,rfl,(hf g).2 rfl,hc,hs.free k (by have := hs.le;omega),fun y => ⟨?_,(Wrt.set w g (off + k) _).mono (fun b _ hb => (hf b).2 (by rw [hb]))⟩⟩
 refine ow_icl.2 ⟨some ⟨g,off,none⟩,c,some g,by rw [List.length_set],.inr ⟨g,off,rfl, ?_,rfl⟩,hf⟩
 have := osl_put hs (j := k) (by omega) (.int .i64 y)
 rw [List.length_set,List.map_set]
 exact this
end Go.Proofs.YtidnfdobljihoaaGreat