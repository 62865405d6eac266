/-
  Texts in one: Qtl Mbg Mbd Mbh Gmh Mbl Plo Mbi Mbj Mbz Mba Ear Mbr Mbb Mbe Rns Rwo Mca Sdk Dvo Rdk Drt Rdw Rdr Rds Mci Mcj Gmi Gmj Mcc Gmm Gmn Mcg Gna Mch Rps Rnr Rtn Rhv Rhm Fns Fnb Gnb.
-/
import Derived.Test.YtlnmdfgcpfbleaaJaa
import Derived.Test.YtlnmdfgcpfbleaaJac
import Derived.Test.YtlnmdfgcpfbleaaJab
import Derived.StillTail
import Derived.Deep.Quiet
import Derived.BigQuiet
import Derived.Deep.LoopGhost
import Derived.Deep.CutRange
import Derived.Deep.Cut
import Derived.Deep.RegionHeld3
namespace Go.Proofs.Ytlnmdfgcpfbleaa
set_option linter.unusedSimpArgs false
set_option linter.unusedVariables false
open Go.RowKit Go.Sort
section
variable {P : Program} {ops : Array Oper} {md : Region.Mode} {C : World → Prop}
def HeadQ (P : Program) (md : Region.Mode) (ops : Array Oper) (C : World → Prop) (n : Nat) (L : Array Bool → Act → Prop) : Nat → Array Bool → Act → Prop
 | 0,listed,a => L listed a
 | f + 1,listed,a => Region.ready md ops listed ≠ [] ∧ ∀ i ∈ Region.ready md ops listed,i < n ∧ qOp P ops C i (HeadQ P md ops C n L f (listed.setIfInBounds i true)) a
theorem any_of_headQ {n g : Nat} {L : Array Bool → Act → Prop} {Q : Exit → Act → World → Prop} (hL : ∀ listed a w,C w → L listed a → wpAny P md ops Q g listed a w) (f : Nat) :
  ∀ (listed : Array Bool) (a : Act) (w : World),C w → HeadQ P md ops C n L f listed a → wpAny P md ops Q (f + g) listed a w := by
 induction f with
 | zero => intro listed a w hw h;rw [Nat.zero_add];exact hL _ _ _ hw h
 | succ f ih =>
  intro listed a w hw h
  rw [show f + 1 + g = (f + g) + 1 by omega]
  exact ⟨fun h0 => absurd h0 h.1,fun i hi => wpOp_of_qOp hw (fun a' w' hw' h' => ih _ a' w' hw' h') (h.2 i hi).2⟩
theorem headQ_first {n i : Nat} {oi : Oper} {v : Value} {L : Array Bool → Act → Prop} (hi : ops[i]? = some oi) (hsel : ∀ (j : Nat) (o : Oper) cs b,ops[j]? = some o → o.op ≠ .select cs b)
  (hs : Region.sinkB md ops n = true) (hc : Region.chainB md ops n = true) (hn : n < ops.size) (hin : i < n) (hdone : ∀ listed a,L listed a → ∀ j ∈ Region.ready md ops listed,n ≤ j) (f : Nat) :
  ∀ (listed : Array Bool) (a : Act),HeadInv md ops n listed →
   (∀ j oj,ops[j]? = some oj → j ≠ i → listed.getD j true = false → (∀ e ∈ oj.after,Region.binds md e = true → e.on ≠ i) → oi.apart ops oj = true) →
   i ∈ Region.ready md ops listed → YieldsIn P ops C oi v a →
   HeadQ P md ops C n L f (listed.setIfInBounds i true) (a.put oi.dst v) → HeadQ P md ops C n L (f + 1) listed a := by
 induction f with
 | zero =>
  intro listed a inv _ hr hy H
  have hun := (mem_ready.1 hr).1
  refine ⟨fun h => (by rw [h] at hr;cases hr),fun j hj => ?_⟩
  have hjn : j < n := Nat.lt_of_not_le fun h => absurd hj (tail_waits hs hc hn inv _ i rfl hin hun j h)
  refine ⟨hjn, ?_⟩
  by_cases hji : j = i
  ·subst hji;exact hy.qOp hi H
  ·have := hdone _ _ H j (ready_mono hj hji)
   omega
 | succ f ih =>
  intro listed a inv hfree hr hy H
  have hun := (mem_ready.1 hr).1
  refine ⟨fun h => (by rw [h] at hr;cases hr),fun j hj => ?_⟩
  have hjn : j < n := Nat.lt_of_not_le fun h => absurd hj (tail_waits hs hc hn inv _ i rfl hin hun j h)
  refine ⟨hjn, ?_⟩
  by_cases hji : j = i
  ·subst hji;exact hy.qOp hi H
  ·have h1 := (H.2 j (ready_mono hj hji)).2
   obtain ⟨hjun,oj,hoj,hall⟩ := mem_ready.1 hj
   have hnot : ∀ e ∈ oj.after,Region.binds md e = true → e.on ≠ i := fun e he hb heq => by
    have h3 := hall e he hb
    rw [heq,getD_both hun] at h3
    cases h3
   have h2 := qOp_put hoj (hfree j oj hoj hji hjun hnot) (fun cs b => hsel i oi cs b hi) (fun cs b => hsel j oj cs b hoj) hy h1
   refine qOp_mono (fun a' h3 => ih (listed.setIfInBounds j true) a' (inv.set hj hjn) (fun k ok hk hki hu hno => hfree k ok hk hki ?_ hno) (ready_mono hr (Ne.symm hji)) h3.1 ?_) h2
   ·by_cases hjk : j = k
    ·subst hjk;exact hjun
    ·rw [getD_set_ne true hjk] at hu;exact hu
   ·rw [Array.setIfInBounds_comm _ _ hji]
    exact h3.2
theorem headQ_lex {n g : Nat} {Lq : Act → Prop} (hsel : Region.noSelect ops = true) (hs : Region.sinkB md ops n = true) (hc : Region.chainB md ops n = true) (hn : n < ops.size) :
  ∀ (l : List Oper) (k : Nat) (listed : Array Bool) (a : Act),(∀ j,j < l.length → l[j]? = ops[k + j]?) → k + l.length = n → HeadInv md ops n listed →
  Region.lexHead md ops g l.length k listed = true → wpQuiet P ops C Lq l a → HeadQ P md ops C n (fun listed' a' => Region.seqB md ops g n listed' = true ∧ Lq a') l.length listed a
 | [],k,listed,a,_,hk,_,hB,h => by
  have : k = n := by simpa using hk
  subst this
  exact ⟨by simpa [Region.lexHead] using hB,h⟩
 | o :: l,k,listed,a,hl,hk,inv,hB,h => by
  have h0 : ops[k]? = some o := by simpa using (hl 0 (by simp)).symm
  simp only [List.length_cons,Region.lexHead,Bool.and_eq_true] at hB
  obtain ⟨⟨hr,hf⟩,hB'⟩ := hB
  have hkn : k < n := by simp only [List.length_cons] at hk;omega
  have hr' : k ∈ Region.ready md ops listed := by simpa using hr
  have hst : qOp P ops C k (wpQuiet P ops C Lq l) a := by unfold qOp;simp only [h0];exact h
  obtain ⟨v,hy,hK⟩ := yieldsIn_of_qOp h0 hst
  exact headQ_first h0 (Region.noSelect_spec hsel) hs hc hn hkn (fun listed' a' hL => seqB_ready hL.1) l.length listed a inv (Region.free_spec h0 hf) hr' hy
   (headQ_lex hsel hs hc hn l (k + 1) _ _ (fun j hj => by have := hl (j + 1) (by simp;omega);simpa [Nat.add_assoc,Nat.add_comm 1 j] using this) (by simp only [List.length_cons] at hk;omega) (inv.set hr' hkn) hB' hK)
end
theorem wp_region_quiet_tail {P : Program} {C : World → Prop} {id : Nat} {Q : Exit → Act → World → Prop} {a : Act} {w : World} {l : List Oper} (n : Nat) (hm : P.follows .mixedOrders = true) (hB : Region.lexTailB .any l.toArray n = true) (hC : C (w.drewN 1))
    (h : wpQuiet P l.toArray C (fun a' => ∀ w', C w' → wpList P l.toArray Q (l.drop n) a' w') (l.take n) a) : (Code.region id l.toArray true).wp P Q a w := by
  simp only [Region.lexTailB, Bool.and_eq_true, decide_eq_true_eq] at hB
  obtain ⟨⟨⟨⟨hsel, hn⟩, hs⟩, hc⟩, hlex⟩ := hB
  have htl : (l.take n).length = n := by have : n < l.length := by simpa using hn
                                         simp; omega
  have hdl : (l.drop n).length = l.toArray.size - n := by simp
  have inv0 : HeadInv .any l.toArray n (Array.replicate l.toArray.size false) :=
    ⟨by simp, fun j oj _ hl => (by rw [getD_replicate_false] at hl; cases hl), fun t _ ht => getD_in (by simpa using ht) (getD_replicate_false _ _)⟩
  have H := headQ_lex (md := .any) (g := l.toArray.size - n) hsel hs hc hn (l.take n) 0 _ a (fun j hj => by
    have hj' : j < n := by rw [htl] at hj; exact hj
    simp [hj']) (by simpa using htl) inv0 (by rw [htl]; exact hlex) h
  refine wp_region_any hm ?_
  have := any_of_headQ (C := C) (Q := Q) (g := l.toArray.size - n) (fun listed a' w' hw' hL => by
    have := wpAny_of_seq (md := .any) (Q' := Q) (l.drop n) n listed a' w' (fun j => by simp [List.getElem?_drop]) (by rw [hdl]; exact hL.1) (hL.2 w' hw')
    rwa [hdl] at this) _ _ _ (w.drewN 1) hC H
  rw [htl, show n + (l.toArray.size - n) = l.toArray.size by have : n < l.toArray.size := hn; omega] at this
  exact this
end Go.Proofs.Ytlnmdfgcpfbleaa
namespace Go.Proofs.Ytlnmdfgcpfbleaa
set_option linter.unusedVariables false
set_option linter.unusedSimpArgs false
open Go.RowKit Go.Sort
attribute [local irreducible] sv
end Go.Proofs.Ytlnmdfgcpfbleaa
namespace Go.Proofs.Ytlnmdfgcpfbleaa
set_option linter.unusedVariables false
set_option linter.unusedSimpArgs false
open Go.RowKit Go.Sort
end Go.Proofs.Ytlnmdfgcpfbleaa
namespace Go.Proofs.Ytlnmdfgcpfbleaa
set_option linter.unusedVariables false
set_option linter.unusedSimpArgs false
open Go.RowKit Go.Sort
theorem Wrt.setCells (g : Nat) : ∀ (vs : List Value) (o : Nat) (w : World),Wrt (fun b => b = g) w (w.setCells g o vs)
 | [],o,w => Wrt.refl _ _
 | v :: vs,o,w => (Wrt.set w g o v).trans (Wrt.setCells g vs (o + 1) _) (fun _ _ h => h)
theorem frz_setCells (g : Nat) : ∀ (vs : List Value) (o : Nat) (w : World) (x : Addr),(w.setCells g o vs).frozen? x = w.frozen? x
 | [],o,w,x => rfl
 | v :: vs,o,w,x => by rw [World.setCells,frz_setCells g vs (o + 1),World.frozen?_setCell]
theorem Plc.all {w w1 : World} {B o : Nat} {cs cs' : List Cel} {fp f' : Fp} {vs' : List Value} (h : Plc w B o cs fp) (hb : Below w.heap.size w w1) (h' : owL w1 cs' vs' f') (hl : cs'.length = cs.length) (hf : ∀ b,f' b → w.heap.size ≤ b) : Bcm w (w1.setCells B o vs') B o cs' fp := by
 obtain ⟨vs,h1,h2,h3⟩ := h
 have e := hb.block B h1.lt
 have hP1 := h1.of_block e hb.size
 have hlen := owL_len h2
 have hlen' := owL_len h'
 have hw := Wrt.setCells B vs' o w1
 have hlt := h1.lt
 have hf'B : ¬ f' B := fun k => by have := hf B k;omega
 have hsome : ∀ j,j < vs'.length → (w1.cell? ⟨B,o + j,none⟩).isSome = true := fun j hj => by
  rw [hP1.cell j (by omega),List.getElem?_eq_getElem (by omega)]
  rfl
 refine ⟨⟨f',⟨vs',⟨fun j hj => ?_,fun j hj => ?_,Nat.lt_of_lt_of_le hP1.lt hw.size⟩,owL_wrt h' hw (fun b hb' e' => hf'B (e' ▸ hb')),hf'B⟩,fun b hb' => .inr (hf b hb')⟩,fun j hj => ?_,fun j => ?_, ?_⟩
 ·rw [World.cell?_setCells_in B vs' o w1 hsome j hj,List.getElem?_eq_getElem hj]
 ·rw [frz_setCells];exact hP1.free j (by omega)
 ·rw [World.cell?_setCells_out B vs' o w1 _ (fun _ _ => by simp only;omega)]
  exact World.cell?_of_block e
 ·rw [frz_setCells];simp only [World.frozen?,e]
 ·exact (Wrt.of_below (f := fun b => fp b ∨ b = B) hb).trans hw (fun b _ k => .inr k)
end Go.Proofs.Ytlnmdfgcpfbleaa
namespace Go.Proofs.Ytlnmdfgcpfbleaa
set_option linter.unusedVariables false
set_option linter.unusedSimpArgs false
open Go.RowKit Go.Sort
end Go.Proofs.Ytlnmdfgcpfbleaa
namespace Go.Proofs.Ytlnmdfgcpfbleaa
set_option linter.unusedVariables false
set_option linter.unusedSimpArgs false
open Go.RowKit Go.Sort
def lN (L : List Nat) : List Int := L.map (fun (j : Nat) => (j : Int))
theorem lN_len (L : List Nat) : (lN L).length = L.length := List.length_map _
def AnsL (w w' : World) (e : Ending) (Z : List Int) : Prop := ∃ a c,e = .returned (.slice a Z.length c) ∧ NewO w w' (icl Z) (.slice a Z.length c)
end Go.Proofs.Ytlnmdfgcpfbleaa
namespace Go.Proofs.Ytlnmdfgcpfbleaa
set_option linter.unusedVariables false
set_option linter.unusedSimpArgs false
open Go.RowKit Go.Sort
end Go.Proofs.Ytlnmdfgcpfbleaa
namespace Go.Proofs.Ytlnmdfgcpfbleaa
set_option linter.unusedVariables false
set_option linter.unusedSimpArgs false
open Go.RowKit Go.Sort
end Go.Proofs.Ytlnmdfgcpfbleaa
namespace Go.Proofs.Ytlnmdfgcpfbleaa
set_option linter.unusedVariables false
set_option linter.unusedSimpArgs false
open Go.RowKit Go.Sort
theorem lN_fits {L : List Nat} {n : Nat} (h : ∀ k ∈ L,k < n) (hn : n ≤ 1000000) : Fits (lN L) := fun x hx => by
 obtain ⟨k,hk,rfl⟩ := List.mem_map.1 hx
 have := h k hk
 omega
end Go.Proofs.Ytlnmdfgcpfbleaa
namespace Go.Proofs.Ytlnmdfgcpfbleaa
set_option linter.unusedVariables false
set_option linter.unusedSimpArgs false
open Go.RowKit Go.Sort
end Go.Proofs.Ytlnmdfgcpfbleaa
namespace Go.Proofs.Ytlnmdfgcpfbleaa
set_option linter.unusedVariables false
set_option linter.unusedSimpArgs false
open Go.RowKit Go.Sort
end Go.Proofs.Ytlnmdfgcpfbleaa
namespace Go.Proofs.Ytlnmdfgcpfbleaa
set_option linter.unusedSimpArgs false
set_option linter.unusedVariables false
open Go.RowKit
set_option maxHeartbeats 400000 in
theorem l1Same_any (a a' : Option Addr) (len cap len' cap' : Nat) (xs ys : List Int) (w : World) (hv : Vec w a len xs) (hv' : Vec w a' len' ys) (hm : len ≤ maxLen) :
  Calls Try.prog 94 #[.slice a len cap,.slice a' len' cap'] w fun e w' => e = .returned (.bool (decide (xs = ys))) ∧ ∃ n,w' = w.drewN n := by
 unfold maxLen at hm
 obtain ⟨hlen,_,hcs⟩ := hv
 obtain ⟨hlen',_,hcs'⟩ := hv'
 by_cases hl : len = len'
 ·have hne : ((len : Int) != (len' : Int)) = false := by simp [hl]
  have HL : Hid (xs.length = len) := hlen
  have HL' : Hid (ys.length = len') := hlen'
  have HLL : Hid (len = len') := hl
  have hle : (len : Int) ≤ (len' : Int) := by omega
  clear hlen hlen' hl
  by_cases h0 : len = 0
  ·have hx : xs = [] := List.length_eq_zero_iff.1 (by rw [HL.out];exact h0)
   have hy : ys = [] := List.length_eq_zero_iff.1 (by rw [HL'.out,← HLL.out];exact h0)
   subst h0 hx hy
   clear hcs hcs'
   go_enter Try.func94,Try.ntmps94
   go_wp2
   go_loop [5] (fun i => i = .int .i64 0) (fun _ => 0)
   case atStart => rfl
   case round =>
    subst hrel
    go_wp2
    go_ret
    exact ⟨rfl,0,rfl⟩
  ·rcases hcs with h | ⟨b,off,rfl,hc⟩
   ·omega
   rcases hcs' with h | ⟨b',off',rfl,hc'⟩
   ·have := HLL.out;omega
   go_enter Try.func94,Try.ntmps94
   go_wp2
   go_loopw [5] (fun i wr => ∃ k : Nat,k ≤ len ∧ i = .int .i64 k ∧ (∀ j,j < k → el xs j = el ys j) ∧ ∃ n,wr = w.drewN n) (fun i _ => len - (intOf i).toNat)
   case atStart => exact ⟨0,Nat.zero_le _,rfl,fun j hj => by omega,0,rfl⟩
   case round =>
    obtain ⟨k,hk,rfl,hall,n,rfl⟩ := hrel
    have HA : Hid (∀ j,j < k → el xs j = el ys j) := hall
    clear hall
    by_cases hlt : k < len
    ·have hck := hc k hlt
     have hck' := hc' k (by have := HLL.out;omega)
     have hi1 : (k : Int) < (len : Int) := by omega
     have hi2 : (k : Int) < (len' : Int) := by omega
     by_cases he : el xs k = el ys k
     ·have hd : (el xs k != el ys k) = false := by simp [he]
      have HX : Hid (el xs k = el ys k) := he
      clear he
      go_wp2_with fail
      go_quiet (fail)
      go_wp2
      go_roundw
      case rel => exact ⟨k + 1,by omega,by go_num,fun j hj => by
       rcases Nat.lt_succ_iff_lt_or_eq.1 hj with h | h
       ·exact HA.out j h
       ·rw [h];exact HX.out,_,rfl⟩
      case measure => simp [intOf];omega
     ·have hd : (el xs k != el ys k) = true := by simp [he]
      go_wp2_with fail
      go_quiet (fail)
      go_wp2
      go_ret
      exact ⟨ret_bool (by symm;rw [decide_eq_false_iff_not];intro h;exact he (by rw [h])),_,World.drewN_drewN _ _ _⟩
    ·go_wp2
     go_ret
     exact ⟨ret_bool (by symm;rw [decide_eq_true_iff];exact eq_of_all (by rw [HL.out,HL'.out,HLL.out]) (fun j hj => HA.out j (by rw [HL.out] at hj;omega))),_,rfl⟩
 ·have hne : ((len : Int) != (len' : Int)) = true := by simp;omega
  go_enter Try.func94,Try.ntmps94
  go_wp2
  go_ret
  exact ⟨ret_bool (by symm;rw [decide_eq_false_iff_not];intro h;rw [h] at hlen;omega),0,rfl⟩
set_option maxHeartbeats 400000 in
theorem slEqual_any (a a' : Option Addr) (len cap len' cap' : Nat) (xs ys : List Int) (w : World) (hv : Vec w a len xs) (hv' : Vec w a' len' ys) (hm : len ≤ maxLen) :
  Calls Try.prog 100 #[.slice a len cap,.slice a' len' cap'] w fun e w' => e = .returned (.bool (decide (xs = ys))) ∧ ∃ n,w' = w.drewN n := by
 unfold maxLen at hm
 obtain ⟨hlen,_,hcs⟩ := hv
 obtain ⟨hlen',_,hcs'⟩ := hv'
 by_cases hl : len = len'
 ·have hne : ((len : Int) != (len' : Int)) = false := by simp [hl]
  have HL : Hid (xs.length = len) := hlen
  have HL' : Hid (ys.length = len') := hlen'
  have HLL : Hid (len = len') := hl
  have hle : (len : Int) ≤ (len' : Int) := by omega
  clear hlen hlen' hl
  by_cases h0 : len = 0
  ·have hx : xs = [] := List.length_eq_zero_iff.1 (by rw [HL.out];exact h0)
   have hy : ys = [] := List.length_eq_zero_iff.1 (by rw [HL'.out,← HLL.out];exact h0)
   subst h0 hx hy
   clear hcs hcs'
   go_enter Try.func100,Try.ntmps100
   go_wp2
   go_loop [13] (fun i => i = .int .i64 0) (fun _ => 0)
   case atStart => rfl
   case round =>
    subst hrel
    go_wp2
    go_ret
    exact ⟨rfl,0,rfl⟩
  ·rcases hcs with h | ⟨b,off,rfl,hc⟩
   ·omega
   rcases hcs' with h | ⟨b',off',rfl,hc'⟩
   ·have := HLL.out;omega
   go_enter Try.func100,Try.ntmps100
   go_wp2
   go_loopw [13] (fun i wr => ∃ k : Nat,k ≤ len ∧ i = .int .i64 k ∧ (∀ j,j < k → el xs j = el ys j) ∧ ∃ n,wr = w.drewN n) (fun i _ => len - (intOf i).toNat)
   case atStart => exact ⟨0,Nat.zero_le _,rfl,fun j hj => by omega,0,rfl⟩
   case round =>
    obtain ⟨k,hk,rfl,hall,n,rfl⟩ := hrel
    have HA : Hid (∀ j,j < k → el xs j = el ys j) := hall
    clear hall
    by_cases hlt : k < len
    ·have hck := hc k hlt
     have hck' := hc' k (by have := HLL.out;omega)
     have hi1 : (k : Int) < (len : Int) := by omega
     have hi2 : (k : Int) < (len' : Int) := by omega
     by_cases he : el xs k = el ys k
     ·have hd : (el xs k != el ys k) = false := by simp [he]
      have HX : Hid (el xs k = el ys k) := he
      clear he
      go_wp2_with fail
      go_quiet (fail)
      go_wp2
      go_roundw
      case rel => exact ⟨k + 1,by omega,by go_num,fun j hj => by
       rcases Nat.lt_succ_iff_lt_or_eq.1 hj with h | h
       ·exact HA.out j h
       ·rw [h];exact HX.out,_,rfl⟩
      case measure => simp [intOf];omega
     ·have hd : (el xs k != el ys k) = true := by simp [he]
      go_wp2_with fail
      go_quiet (fail)
      go_wp2
      go_ret
      exact ⟨ret_bool (by symm;rw [decide_eq_false_iff_not];intro h;exact he (by rw [h])),_,World.drewN_drewN _ _ _⟩
    ·go_wp2
     go_ret
     exact ⟨ret_bool (by symm;rw [decide_eq_true_iff];exact eq_of_all (by rw [HL.out,HL'.out,HLL.out]) (fun j hj => HA.out j (by rw [HL.out] at hj;omega))),_,rfl⟩
 ·have hne : ((len : Int) != (len' : Int)) = true := by simp;omega
  go_enter Try.func100,Try.ntmps100
  go_wp2
  go_ret
  exact ⟨ret_bool (by symm;rw [decide_eq_false_iff_not];intro h;rw [h] at hlen;omega),0,rfl⟩
end Go.Proofs.Ytlnmdfgcpfbleaa
namespace Go.Proofs.Ytlnmdfgcpfbleaa
set_option linter.unusedVariables false
set_option linter.unusedSimpArgs false
open Go.RowKit Go.Sort
end Go.Proofs.Ytlnmdfgcpfbleaa
namespace Go.Proofs.Ytlnmdfgcpfbleaa
set_option linter.unusedVariables false
set_option linter.unusedSimpArgs false
open Go.RowKit Go.Sort
end Go.Proofs.Ytlnmdfgcpfbleaa
namespace Go.Proofs.Ytlnmdfgcpfbleaa
set_option linter.unusedVariables false
set_option linter.unusedSimpArgs false
open Go.RowKit Go.Sort
end Go.Proofs.Ytlnmdfgcpfbleaa
namespace Go.Proofs.Ytlnmdfgcpfbleaa
set_option linter.unusedVariables false
set_option linter.unusedSimpArgs false
open Go.RowKit Go.Sort
end Go.Proofs.Ytlnmdfgcpfbleaa
namespace Go.Proofs.Ytlnmdfgcpfbleaa
set_option linter.unusedVariables false
set_option linter.unusedSimpArgs false
open Go.RowKit Go.Sort
end Go.Proofs.Ytlnmdfgcpfbleaa
namespace Go.Proofs.Ytlnmdfgcpfbleaa
set_option linter.unusedVariables false
set_option linter.unusedSimpArgs false
open Go.RowKit Go.Sort
end Go.Proofs.Ytlnmdfgcpfbleaa
namespace Go.Proofs.Ytlnmdfgcpfbleaa
set_option linter.unusedVariables false
set_option linter.unusedSimpArgs false
open Go.RowKit Go.Sort
section
variable {w X Y Y' : World} {p : Nat} {a : Option Addr} {len cap : Nat} {bs : Nat → Int} {T : TypeId} {o : Nat} {Z C : Array Value} {cs : List Cel} {vs : List Value} {fp : Fp}
end
end Go.Proofs.Ytlnmdfgcpfbleaa
namespace Go.Proofs.Ytlnmdfgcpfbleaa
set_option linter.unusedVariables false
set_option linter.unusedSimpArgs false
open Go.RowKit Go.Sort
end Go.Proofs.Ytlnmdfgcpfbleaa
namespace Go.Proofs.Ytlnmdfgcpfbleaa
set_option linter.unusedVariables false
set_option linter.unusedSimpArgs false
open Go.RowKit Go.Sort
section
variable {w X Y Y' : World} {p : Nat} {a : Option Addr} {len cap : Nat} {bs : Nat → Int} {o : Nat} {Zr : Array Value} {A : Ra} {r : Rw} {fp : Fp}
end
end Go.Proofs.Ytlnmdfgcpfbleaa
namespace Go.Proofs.Ytlnmdfgcpfbleaa
set_option linter.unusedSimpArgs false
set_option linter.unusedVariables false
open Go.RowKit Go.Sort
attribute [local irreducible] sv
end Go.Proofs.Ytlnmdfgcpfbleaa
namespace Go.Proofs.Ytlnmdfgcpfbleaa
set_option linter.unusedVariables false
set_option linter.unusedSimpArgs false
open Go.RowKit Go.Sort
attribute [local irreducible] sv
end Go.Proofs.Ytlnmdfgcpfbleaa
namespace Go.Proofs.Ytlnmdfgcpfbleaa
set_option linter.unusedVariables false
set_option linter.unusedSimpArgs false
open Go.RowKit Go.Sort
theorem owL_it {w : World} {cs : List Cel} {vs : List Value} {fp : Fp} (h : owL w cs vs fp) {lo : Nat} (hl : ∀ b,fp b → lo ≤ b) : It w cs vs lo w.heap.size := ⟨fp,h,fun b hb => ⟨hl b hb,owL_lt h b hb⟩⟩
end Go.Proofs.Ytlnmdfgcpfbleaa
namespace Go.Proofs.Ytlnmdfgcpfbleaa
set_option linter.unusedVariables false
set_option linter.unusedSimpArgs false
open Go.RowKit Go.Sort
end Go.Proofs.Ytlnmdfgcpfbleaa
namespace Go.Proofs.Ytlnmdfgcpfbleaa
set_option linter.unusedVariables false
set_option linter.unusedSimpArgs false
open Go.RowKit Go.Sort
end Go.Proofs.Ytlnmdfgcpfbleaa
namespace Go.Proofs.Ytlnmdfgcpfbleaa
set_option linter.unusedVariables false
set_option linter.unusedSimpArgs false
open Go.RowKit Go.Sort
end Go.Proofs.Ytlnmdfgcpfbleaa
namespace Go.Proofs.Ytlnmdfgcpfbleaa
set_option linter.unusedVariables false
set_option linter.unusedSimpArgs false
open Go.RowKit Go.Sort
attribute [local irreducible] sv
end Go.Proofs.Ytlnmdfgcpfbleaa
namespace Go.Proofs.Ytlnmdfgcpfbleaa
set_option linter.unusedVariables false
set_option linter.unusedSimpArgs false
open Go.RowKit Go.Sort
end Go.Proofs.Ytlnmdfgcpfbleaa
namespace Go.Proofs.Ytlnmdfgcpfbleaa
set_option linter.unusedVariables false
set_option linter.unusedSimpArgs false
open Go.RowKit Go.Sort
attribute [local irreducible] sv
end Go.Proofs.Ytlnmdfgcpfbleaa
namespace Go.Proofs.Ytlnmdfgcpfbleaa
set_option linter.unusedVariables false
set_option linter.unusedSimpArgs false
open Go.RowKit Go.Sort
attribute [local irreducible] sv
end Go.Proofs.Ytlnmdfgcpfbleaa
namespace Go.Proofs.Ytlnmdfgcpfbleaa
set_option linter.unusedVariables false
set_option linter.unusedSimpArgs false
open Go.RowKit Go.Sort
attribute [local irreducible] sv
end Go.Proofs.Ytlnmdfgcpfbleaa
namespace Go.Proofs.Ytlnmdfgcpfbleaa
set_option linter.unusedVariables false
set_option linter.unusedSimpArgs false
open Go.RowKit Go.Sort
def szP (R : List Rw) (k : Nat) : Nat := ((R.take k).map szRw).sum
theorem szP_next {R : List Rw} {k : Nat} (hk : k < R.length) : szP R (k + 1) = szP R k + szRw (rowN R k) := by
 have e : rowN R k = R[k] := by simp [rowN,List.getD,hk]
 unfold szP
 rw [List.take_succ_eq_append_getElem hk,List.map_append,List.sum_append,e]
 simp
def szRs (R : List Rw) : Nat := R.length + szP R R.length
def szMb (m : Mb) : Nat := szRs m.rows + m.sung.length
set_option maxRecDepth 100000 in
set_option maxHeartbeats 3200000 in
theorem szRs_any (a : Option Addr) (cap : Nat) (R : List Rw) (left : Int) (w : World) (hv : Cel.vw w (lcl 8 rw8 R) (.slice a R.length cap)) (hf : ∀ r ∈ R,FitR r) (hlg : ∀ r ∈ R,LongT r.txt) (hm : R.length ≤ maxLen) (hl : 0 ≤ left ∧ left ≤ 1048576) :
  Calls Try.prog 134 #[.slice a R.length cap,.int .i64 left] w fun e w' => ∃ q : Int,e = .returned (.int .i64 q) ∧ (q = -1 ∨ 0 ≤ q ∧ q + (szRs R : Int) = left) ∧ Below w.heap.size w w' := by
 have HV : Hid (Cel.vw w (lcl 8 rw8 R) (.slice a R.length cap)) := hv
 unfold maxLen at hm
 have wl : wrap64 (left - (R.length : Int)) = left - (R.length : Int) := by unfold wrap64;omega
 clear hv
 by_cases h0 : left - (R.length : Int) < 0
 ·go_enter Try.func134,Try.ntmps134
  go_wp2
  go_ret
  exact ⟨-1,rfl,.inl rfl,Below.refl _ _⟩
 ·obtain ⟨l0,hl0⟩ : ∃ l0 : Int,Hid (left - (R.length : Int) = l0) := ⟨_,rfl⟩
  rw [hl0.out] at h0 wl
  go_enter Try.func134,Try.ntmps134
  have hl1 := hl0.out
  rw [← hl1] at wl h0
  go_wp2_with fail
  rw [hl1] at *
  clear hl1 wl
  go_loopw [1,5] (fun lv v wr => ∃ (k : Nat) (l : Int),k ≤ R.length ∧ v = .int .i64 (k : Int) ∧ lv = .int .i64 l ∧ 0 ≤ l ∧ l ≤ 1048576 ∧ Hid (l + (szP R k : Int) = l0) ∧ Below w.heap.size w wr) (fun _ v _ => R.length - (intOf v).toNat)
  case atStart => exact ⟨0,l0,Nat.zero_le _,rfl,rfl,by omega,by have := hl0.out;omega,by simp [Hid,szP],Below.refl _ _⟩
  case round =>
   obtain ⟨k,l,hk,rfl,rfl,hlp,hlm,hS,hb⟩ := hrel
   by_cases hlt : k < R.length
   ·have k1 : (k : Int) < (R.length : Int) := by omega
    have k0 : (0 : Int) ≤ (k : Int) := by omega
    have hmem : rowN R k ∈ R := rowN_mem hlt
    obtain ⟨g,off,hra,hpv⟩ := vw_elF rw8_len (Cel.vw_below HV.out hb) (k := k) (x := rowN R k) (by simp [rowN,List.getD,hlt])
    obtain ⟨Ak,⟨⟨d0,d1,d2,d3⟩,d4,d5,d6,d7⟩,hrs⟩ := hpv.row (hf _ hmem)
    subst hra
    have hC := szRw_any Ak (rowN R k) l wr hrs (hlg _ hmem) ⟨hlp,hlm⟩
    unfold rwV rwC at hC
    have HN : Hid (szP R (k + 1) = szP R k + szRw (rowN R k)) := szP_next hlt
    have HB : Hid (Below w.heap.size w wr) := hb
    generalize rowN R k = r at *
    clear hrs hpv hb
    go_wp2_with fail
    refine hC.mono ?_
    rintro e w1 ⟨q,rfl,hq,hb1⟩
    have HB1 : Hid (Below w.heap.size w w1) := HB.out.trans (hb1.mono HB.out.size)
    clear d0 d1 d2 d3 d4 d5 d6 d7 hC hb1
    rcases hq with rfl | ⟨hq0,hq1⟩
    ·go_wp2
     go_ret
     exact ⟨-1,rfl,.inl rfl,HB1.out⟩
    ·have n1 : ¬ (q < 0) := by omega
     have HS2 : Hid (q + (szP R (k + 1) : Int) = l0) := by
      have h1 := HN.out
      have h2 := hS.out
      rw [Hid,h1]
      omega
     have hqm : q ≤ 1048576 := by omega
     clear hq1
     go_wp2
     go_roundw
     case rel => exact ⟨k + 1,q,by omega,by go_num,rfl,by omega,hqm,HS2,HB1.out⟩
     case measure => simp [intOf];omega
   ·have k1 : ¬ ((k : Int) < (R.length : Int)) := by omega
    have ek : k = R.length := by omega
    have HE : Hid (l + (szRs R : Int) = left) := by
     have h1 := hS.out
     have h2 := hl0.out
     rw [ek] at h1
     rw [Hid,szRs]
     omega
    have HB : Hid (Below w.heap.size w wr) := hb
    clear hb ek
    go_wp2
    go_ret
    exact ⟨l,rfl,.inr ⟨hlp,HE.out⟩,HB.out⟩
set_option maxRecDepth 100000 in
set_option maxHeartbeats 3200000 in
theorem szMb_any (A : Ma) (m : Mb) (left : Int) (w : World) (hv : MbS w A m) (hlg : ∀ r ∈ m.rows,LongT r.txt) (hl : 0 ≤ left ∧ left ≤ 1048576) :
  Calls Try.prog 122 #[mbV A m,.int .i64 left] w fun e w' => ∃ q : Int,e = .returned (.int .i64 q) ∧ (q = -1 ∨ 0 ≤ q ∧ q + (szMb m : Int) = left) ∧ Below w.heap.size w w' := by
 have hb := oneA16 w (.cells (mbC A m) 134)
 have hx := Bx.new w 134 (mbC A m)
 have hv0 := hv.below hb
 have hS := szRs_any A.ra A.rc m.rows left _ hv0.rows hv0.fit hlg hv0.mr hl
 have hms := hv.ms
 unfold mbV
 unfold mbC at *
 generalize hWW : w.alloc (.cells #[.int .i64 m.id,.int .i64 m.n,.slice A.ra m.rows.length A.rc,.slice A.sa m.sung.length A.sc,.bool m.done] 134) = W at *
 have c2 := (Bx.r5 hx).2.2.1
 have HX : Hid (Bx W w.heap.size 134 #[.int .i64 m.id,.int .i64 m.n,.slice A.ra m.rows.length A.rc,.slice A.sa m.sung.length A.sc,.bool m.done]) := hx
 have HB : Hid (Below w.heap.size w W) := hb
 clear hv hv0 hb hx
 go_enter Try.func122,Try.ntmps122
 go_wp2_with fail
 refine hS.mono ?_
 rintro e w1 ⟨q1,rfl,hq1,hb1⟩
 have HB1 : Hid (Below w.heap.size w w1) := HB.out.trans (hb1.mono HB.out.size)
 have c3 := (Bx.r5 (HX.out.below hb1)).2.2.2.1
 clear hS hb1 c2
 rcases hq1 with rfl | ⟨hq0,hq1⟩
 ·go_wp2
  go_ret
  exact ⟨-1,rfl,.inl rfl,HB1.out⟩
 have n1 : ¬ (q1 < 0) := by omega
 have b1 : q1 ≤ 1048576 := by omega
 have HQ1 : Hid (q1 + (szRs m.rows : Int) = left) := hq1
 clear hq1
 have hs2 := szI14_any A.sa m.sung.length A.sc q1 w1 hms ⟨by omega,by omega⟩
 by_cases g2 : (m.sung.length : Int) ≤ q1
 rotate_left
 ·rw [if_neg g2] at hs2
  go_wp2_with (go_at_call 86;refine hs2.mono ?_;rintro e w' ⟨rfl,hw'⟩;rw [hw'];clear hw')
  go_ret
  exact ⟨-1,rfl,.inl rfl,HB1.out⟩
 rw [if_pos g2] at hs2
 obtain ⟨q2,hq2⟩ : ∃ x : Int,q1 - (m.sung.length : Int) = x := ⟨_,rfl⟩
 rw [hq2] at hs2
 have n2 : ¬ (q2 < 0) := by omega
 have Hq2 : Hid (q1 - (m.sung.length : Int) = q2) := hq2
 clear hq2 g2
 go_wp2_with fail
 refine hs2.mono ?_
 rintro e w' ⟨rfl,hw'⟩
 rw [hw']
 clear hw' hs2
 go_wp2
 go_ret
 refine ⟨q2,rfl,.inr ⟨by omega, ?_⟩,HB1.out⟩
 have h1 := HQ1.out
 have h2 := Hq2.out
 rw [szMb]
 omega
end Go.Proofs.Ytlnmdfgcpfbleaa
namespace Go.Proofs.Ytlnmdfgcpfbleaa
set_option linter.unusedVariables false
set_option linter.unusedSimpArgs false
open Go.RowKit Go.Sort
def mbN (R : List Mb) (k : Nat) : Mb := R.getD k zeroMb
def zeroMl : Ml := ⟨0,0,zeroRw⟩
def mlN (R : List Ml) (k : Nat) : Ml := R.getD k zeroMl
theorem mbN_at {R : List Mb} {k : Nat} (hk : k < R.length) : R[k]? = some (mbN R k) := by simp [mbN,List.getD,hk]
theorem mlN_at {R : List Ml} {k : Nat} (hk : k < R.length) : R[k]? = some (mlN R k) := by simp [mlN,List.getD,hk]
def LongM (m : Mb) : Prop := ∀ r ∈ m.rows,LongT r.txt
def szMl (x : Ml) : Nat := szRw x.row
theorem Pv.mlr {w : World} {b o : Nat} {x : Ml} (h : Pv w b o (ml10 x)) (hf : FitR x.row) : ∃ A : Ra,(w.cell? ⟨b,o,none⟩ = some (.int .i64 x.fr) ∧ w.cell? ⟨b,o + 1,none⟩ = some (.int .i64 x.to)) ∧ (w.cell? ⟨b,o + 2,none⟩ = some (.int .i64 x.row.ver) ∧ w.cell? ⟨b,o + 3,none⟩ = some (.slice A.ta x.row.txt.length A.tc) ∧ w.cell? ⟨b,o + 4,none⟩ = some (.slice A.ga x.row.got.length A.gc) ∧ w.cell? ⟨b,o + 5,none⟩ = some (.slice A.sa x.row.sus.length A.sc)) ∧ w.cell? ⟨b,o + 6,none⟩ = some (.bool x.row.wed) ∧ w.cell? ⟨b,o + 7,none⟩ = some (.bool x.row.rdy) ∧ w.cell? ⟨b,o + 8,none⟩ = some (.int .i64 x.row.by_) ∧ w.cell? ⟨b,o + 9,none⟩ = some (.slice A.ma x.row.trm.length A.mc) ∧ RwS w A x.row := by
 obtain ⟨A,c0,c1,⟨⟨d0,d1,d2,d3⟩,d4,d5,d6,d7⟩,h4⟩ := h.mail hf
 simp only [Nat.add_assoc] at d1 d2 d3 d4 d5 d6 d7
 exact ⟨A,⟨c0,c1⟩,⟨d0,d1,d2,d3⟩,d4,d5,d6,d7,h4⟩
def mlV (A : Ra) (x : Ml) : Value := .agg (mlC x A)
set_option maxRecDepth 100000 in
set_option maxHeartbeats 1600000 in
theorem szMl_any (A : Ra) (x : Ml) (left : Int) (w : World) (hv : RwS w A x.row) (hlg : LongT x.row.txt) (hl : 0 ≤ left ∧ left ≤ 1048576) :
  Calls Try.prog 123 #[mlV A x,.int .i64 left] w fun e w' => ∃ q : Int,e = .returned (.int .i64 q) ∧ (q = -1 ∨ 0 ≤ q ∧ q + (szMl x : Int) = left) ∧ Below w.heap.size w w' := by
 have hb := oneA16 w (.cells (mlC x A) 137)
 have hx := Bx.new w 137 (mlC x A)
 have hS := szRw_any A x.row left _ (hv.below hb) hlg hl
 unfold mlV
 unfold mlC at *
 unfold rwV rwC at hS
 generalize hWW : w.alloc (.cells #[.int .i64 x.fr,.int .i64 x.to,.int .i64 x.row.ver,.slice A.ta x.row.txt.length A.tc,.slice A.ga x.row.got.length A.gc,.slice A.sa x.row.sus.length A.sc,.bool x.row.wed,.bool x.row.rdy,.int .i64 x.row.by_,.slice A.ma x.row.trm.length A.mc] 137) = W at *
 obtain ⟨⟨c0,c1⟩,⟨c2,c3,c4,c5⟩,c6,c7,c8,c9⟩ := Bx.r10 hx
 have HB : Hid (Below w.heap.size w W) := hb
 clear hv hb hx
 go_enter Try.func123,Try.ntmps123
 go_wp2_with fail
 refine hS.mono ?_
 rintro e w1 ⟨q1,rfl,hq1,hb1⟩
 have HB1 : Hid (Below w.heap.size w w1) := HB.out.trans (hb1.mono HB.out.size)
 clear hS hb1 c0 c1 c2 c3 c4 c5 c6 c7 c8 c9
 rcases hq1 with rfl | ⟨hq0,hq1⟩
 ·go_wp2
  go_ret
  exact ⟨-1,rfl,.inl rfl,HB1.out⟩
 have n1 : ¬ (q1 < 0) := by omega
 have HQ1 : Hid (q1 + (szMl x : Int) = left) := hq1
 clear hq1
 go_wp2
 go_ret
 exact ⟨q1,rfl,.inr ⟨hq0,HQ1.out⟩,HB1.out⟩
attribute [local irreducible] sv
set_option maxHeartbeats 400000 in
theorem szBo_any (a : Option Addr) (n c : Nat) (left : Int) (w : World) (hm : n ≤ maxLen) (hl : 0 ≤ left ∧ left ≤ 1048576) :
  Calls Try.prog 91 #[.slice a n c,.int .i64 left] w fun e w' => e = .returned (.int .i64 (if (n : Int) ≤ left then left - (n : Int) else -1)) ∧ w' = w := by
 unfold maxLen at hm
 have hwl : wrap64 (left - (n : Int)) = left - (n : Int) := by unfold wrap64;omega
 by_cases h0 : (n : Int) ≤ left
 ·have h1 : ¬ (left - (n : Int) < 0) := by omega
  rw [if_pos h0]
  go_enter Try.func91,Try.ntmps91
  go_wp2
  go_ret
  exact ⟨rfl,rfl⟩
 ·have h1 : left - (n : Int) < 0 := by omega
  rw [if_neg h0]
  go_enter Try.func91,Try.ntmps91
  go_wp2
  go_ret
  exact ⟨rfl,rfl⟩
def zPm (R : List Mb) (k : Nat) : Nat := ((R.take k).map szMb).sum
theorem zPm_next {R : List Mb} {k : Nat} (hk : k < R.length) : zPm R (k + 1) = zPm R k + szMb (mbN R k) := by
 have e : mbN R k = R[k] := by simp [mbN,List.getD,hk]
 unfold zPm
 rw [List.take_succ_eq_append_getElem hk,List.map_append,List.sum_append,e]
 simp
theorem zPm_mono (R : List Mb) {a b : Nat} (h : a ≤ b) : zPm R a ≤ zPm R b := by
 unfold zPm
 obtain ⟨c,rfl⟩ := Nat.exists_eq_add_of_le h
 rw [List.take_add,List.map_append,List.sum_append]
 omega
def szMs (R : List Mb) : Nat := R.length + zPm R R.length
theorem szMs_at {R : List Mb} {n k : Nat} (h : szMs R ≤ n) (hk : k < R.length) : szMb (mbN R k) ≤ n := by
 have h1 : zPm R (k + 1) ≤ zPm R R.length := zPm_mono R (by omega)
 rw [zPm_next hk] at h1
 unfold szMs at h
 omega
set_option maxRecDepth 100000 in
set_option maxHeartbeats 3200000 in
theorem szMs_any (a : Option Addr) (cap : Nat) (R : List Mb) (left : Int) (w : World) (hv : Cel.vw w (lcl 5 mb5 R) (.slice a R.length cap)) (hf : ∀ m ∈ R,FitM m) (hlg : ∀ m ∈ R,LongM m) (hm : R.length ≤ maxLen) (hl : 0 ≤ left ∧ left ≤ 1048576) :
  Calls Try.prog 90 #[.slice a R.length cap,.int .i64 left] w fun e w' => ∃ q : Int,e = .returned (.int .i64 q) ∧ (q = -1 ∨ 0 ≤ q ∧ q + (szMs R : Int) = left) ∧ Below w.heap.size w w' := by
 have HV : Hid (Cel.vw w (lcl 5 mb5 R) (.slice a R.length cap)) := hv
 unfold maxLen at hm
 have wl : wrap64 (left - (R.length : Int)) = left - (R.length : Int) := by unfold wrap64;omega
 clear hv
 by_cases h0 : left - (R.length : Int) < 0
 ·go_enter Try.func90,Try.ntmps90
  go_wp2
  go_ret
  exact ⟨-1,rfl,.inl rfl,Below.refl _ _⟩
 ·obtain ⟨l0,hl0⟩ : ∃ l0 : Int,Hid (left - (R.length : Int) = l0) := ⟨_,rfl⟩
  rw [hl0.out] at h0 wl
  go_enter Try.func90,Try.ntmps90
  have hl1 := hl0.out
  rw [← hl1] at wl h0
  go_wp2_with fail
  rw [hl1] at *
  clear hl1 wl
  go_loopw [1,5] (fun lv v wr => ∃ (k : Nat) (l : Int),k ≤ R.length ∧ v = .int .i64 (k : Int) ∧ lv = .int .i64 l ∧ 0 ≤ l ∧ l ≤ 1048576 ∧ Hid (l + (zPm R k : Int) = l0) ∧ Below w.heap.size w wr) (fun _ v _ => R.length - (intOf v).toNat)
  case atStart => exact ⟨0,l0,Nat.zero_le _,rfl,rfl,by omega,by have := hl0.out;omega,by simp [Hid,zPm],Below.refl _ _⟩
  case round =>
   obtain ⟨k,l,hk,rfl,rfl,hlp,hlm,hS,hb⟩ := hrel
   by_cases hlt : k < R.length
   ·have k1 : (k : Int) < (R.length : Int) := by omega
    have k0 : (0 : Int) ≤ (k : Int) := by omega
    have hmem : mbN R k ∈ R := List.mem_of_getElem? (mbN_at hlt)
    obtain ⟨g,off,hra,hpv⟩ := vw_elF mb5_len (Cel.vw_below HV.out hb) (mbN_at hlt)
    obtain ⟨Ak,⟨d0,d1,d2,d3,d4⟩,hrs⟩ := hpv.mem (hf _ hmem)
    subst hra
    have hC := szMb_any Ak (mbN R k) l wr hrs (hlg _ hmem) ⟨hlp,hlm⟩
    unfold mbV mbC at hC
    have HN : Hid (zPm R (k + 1) = zPm R k + szMb (mbN R k)) := zPm_next hlt
    have HB : Hid (Below w.heap.size w wr) := hb
    generalize mbN R k = r at *
    clear hpv hb hrs
    go_wp2_with fail
    refine hC.mono ?_
    rintro e w1 ⟨q,rfl,hq,hb1⟩
    have HB1 : Hid (Below w.heap.size w w1) := HB.out.trans (hb1.mono HB.out.size)
    clear d0 d1 d2 d3 d4 hC hb1
    rcases hq with rfl | ⟨hq0,hq1⟩
    ·go_wp2
     go_ret
     exact ⟨-1,rfl,.inl rfl,HB1.out⟩
    ·have n1 : ¬ (q < 0) := by omega
     have HS2 : Hid (q + (zPm R (k + 1) : Int) = l0) := by
      have h1 := HN.out
      have h2 := hS.out
      rw [Hid,h1]
      omega
     have hqm : q ≤ 1048576 := by omega
     clear hq1
     go_wp2
     go_roundw
     case rel => exact ⟨k + 1,q,by omega,by go_num,rfl,by omega,hqm,HS2,HB1.out⟩
     case measure => simp [intOf];omega
   ·have k1 : ¬ ((k : Int) < (R.length : Int)) := by omega
    have ek : k = R.length := by omega
    have HE : Hid (l + (szMs R : Int) = left) := by
     have h1 := hS.out
     have h2 := hl0.out
     rw [ek] at h1
     rw [Hid,szMs]
     omega
    have HB : Hid (Below w.heap.size w wr) := hb
    clear hb ek
    go_wp2
    go_ret
    exact ⟨l,rfl,.inr ⟨hlp,HE.out⟩,HB.out⟩
def zPl (R : List Ml) (k : Nat) : Nat := ((R.take k).map szMl).sum
theorem zPl_next {R : List Ml} {k : Nat} (hk : k < R.length) : zPl R (k + 1) = zPl R k + szMl (mlN R k) := by
 have e : mlN R k = R[k] := by simp [mlN,List.getD,hk]
 unfold zPl
 rw [List.take_succ_eq_append_getElem hk,List.map_append,List.sum_append,e]
 simp
theorem zPl_mono (R : List Ml) {a b : Nat} (h : a ≤ b) : zPl R a ≤ zPl R b := by
 unfold zPl
 obtain ⟨c,rfl⟩ := Nat.exists_eq_add_of_le h
 rw [List.take_add,List.map_append,List.sum_append]
 omega
def szLs (R : List Ml) : Nat := R.length + zPl R R.length
theorem szLs_at {R : List Ml} {n k : Nat} (h : szLs R ≤ n) (hk : k < R.length) : szMl (mlN R k) ≤ n := by
 have h1 : zPl R (k + 1) ≤ zPl R R.length := zPl_mono R (by omega)
 rw [zPl_next hk] at h1
 unfold szLs at h
 omega
set_option maxRecDepth 100000 in
set_option maxHeartbeats 3200000 in
theorem szLs_any (a : Option Addr) (cap : Nat) (R : List Ml) (left : Int) (w : World) (hv : Cel.vw w (lcl 10 ml10 R) (.slice a R.length cap)) (hf : ∀ x ∈ R,FitR x.row) (hlg : ∀ x ∈ R,LongT x.row.txt) (hm : R.length ≤ maxLen) (hl : 0 ≤ left ∧ left ≤ 1048576) :
  Calls Try.prog 92 #[.slice a R.length cap,.int .i64 left] w fun e w' => ∃ q : Int,e = .returned (.int .i64 q) ∧ (q = -1 ∨ 0 ≤ q ∧ q + (szLs R : Int) = left) ∧ Below w.heap.size w w' := by
 have HV : Hid (Cel.vw w (lcl 10 ml10 R) (.slice a R.length cap)) := hv
 unfold maxLen at hm
 have wl : wrap64 (left - (R.length : Int)) = left - (R.length : Int) := by unfold wrap64;omega
 clear hv
 by_cases h0 : left - (R.length : Int) < 0
 ·go_enter Try.func92,Try.ntmps92
  go_wp2
  go_ret
  exact ⟨-1,rfl,.inl rfl,Below.refl _ _⟩
 ·obtain ⟨l0,hl0⟩ : ∃ l0 : Int,Hid (left - (R.length : Int) = l0) := ⟨_,rfl⟩
  rw [hl0.out] at h0 wl
  go_enter Try.func92,Try.ntmps92
  have hl1 := hl0.out
  rw [← hl1] at wl h0
  go_wp2_with fail
  rw [hl1] at *
  clear hl1 wl
  go_loopw [1,5] (fun lv v wr => ∃ (k : Nat) (l : Int),k ≤ R.length ∧ v = .int .i64 (k : Int) ∧ lv = .int .i64 l ∧ 0 ≤ l ∧ l ≤ 1048576 ∧ Hid (l + (zPl R k : Int) = l0) ∧ Below w.heap.size w wr) (fun _ v _ => R.length - (intOf v).toNat)
  case atStart => exact ⟨0,l0,Nat.zero_le _,rfl,rfl,by omega,by have := hl0.out;omega,by simp [Hid,zPl],Below.refl _ _⟩
  case round =>
   obtain ⟨k,l,hk,rfl,rfl,hlp,hlm,hS,hb⟩ := hrel
   by_cases hlt : k < R.length
   ·have k1 : (k : Int) < (R.length : Int) := by omega
    have k0 : (0 : Int) ≤ (k : Int) := by omega
    have hmem : mlN R k ∈ R := List.mem_of_getElem? (mlN_at hlt)
    obtain ⟨g,off,hra,hpv⟩ := vw_elF ml10_len (Cel.vw_below HV.out hb) (mlN_at hlt)
    obtain ⟨Ak,⟨d0,d1⟩,⟨d2,d3,d4,d5⟩,d6,d7,d8,d9,hrs⟩ := hpv.mlr (hf _ hmem)
    subst hra
    have hC := szMl_any Ak (mlN R k) l wr hrs (hlg _ hmem) ⟨hlp,hlm⟩
    unfold mlV mlC at hC
    have HN : Hid (zPl R (k + 1) = zPl R k + szMl (mlN R k)) := zPl_next hlt
    have HB : Hid (Below w.heap.size w wr) := hb
    generalize mlN R k = r at *
    clear hpv hb hrs
    go_wp2_with fail
    refine hC.mono ?_
    rintro e w1 ⟨q,rfl,hq,hb1⟩
    have HB1 : Hid (Below w.heap.size w w1) := HB.out.trans (hb1.mono HB.out.size)
    clear d0 d1 d2 d3 d4 d5 d6 d7 d8 d9 hC hb1
    rcases hq with rfl | ⟨hq0,hq1⟩
    ·go_wp2
     go_ret
     exact ⟨-1,rfl,.inl rfl,HB1.out⟩
    ·have n1 : ¬ (q < 0) := by omega
     have HS2 : Hid (q + (zPl R (k + 1) : Int) = l0) := by
      have h1 := HN.out
      have h2 := hS.out
      rw [Hid,h1]
      omega
     have hqm : q ≤ 1048576 := by omega
     clear hq1
     go_wp2
     go_roundw
     case rel => exact ⟨k + 1,q,by omega,by go_num,rfl,by omega,hqm,HS2,HB1.out⟩
     case measure => simp [intOf];omega
   ·have k1 : ¬ ((k : Int) < (R.length : Int)) := by omega
    have ek : k = R.length := by omega
    have HE : Hid (l + (szLs R : Int) = left) := by
     have h1 := hS.out
     have h2 := hl0.out
     rw [ek] at h1
     rw [Hid,szLs]
     omega
    have HB : Hid (Below w.heap.size w wr) := hb
    clear hb ek
    go_wp2
    go_ret
    exact ⟨l,rfl,.inr ⟨hlp,HE.out⟩,HB.out⟩
def szGr (g : Gr) : Nat := szMs g.mem + g.up.length + szLs g.mail
def LongG (g : Gr) : Prop := (∀ m ∈ g.mem,LongM m) ∧ ∀ x ∈ g.mail,LongT x.row.txt
set_option maxRecDepth 100000 in
set_option maxHeartbeats 3200000 in
theorem szGr_any (A : Ga) (g : Gr) (left : Int) (w : World) (hv : GrS w A g) (hlg : LongG g) (hl : 0 ≤ left ∧ left ≤ 1048576) :
  Calls Try.prog 43 #[grV A g,.int .i64 left] w fun e w' => ∃ q : Int,e = .returned (.int .i64 q) ∧ (q = -1 ∨ 0 ≤ q ∧ q + (szGr g : Int) = left) ∧ Below w.heap.size w w' := by
 have hb := oneA16 w (.cells (grC A g) 55)
 have hx := Bx.new w 55 (grC A g)
 have hv0 := hv.below hb
 have hS := szMs_any A.ma A.mc g.mem left _ hv0.mem hv0.fit.1 hlg.1 hv0.lm hl
 have hlu := hv.lu
 unfold grV
 unfold grC at *
 generalize hWW : w.alloc (.cells #[.slice A.ma g.mem.length A.mc,.slice A.ua g.up.length A.uc,.slice A.la g.mail.length A.lc] 55) = W at *
 obtain ⟨c0,c1,c2⟩ := Bx.g3 hx
 have HX : Hid (Bx W w.heap.size 55 #[.slice A.ma g.mem.length A.mc,.slice A.ua g.up.length A.uc,.slice A.la g.mail.length A.lc]) := hx
 have HB : Hid (Below w.heap.size w W) := hb
 have HM : Hid (∀ X (l : Int),Below W.heap.size W X → 0 ≤ l ∧ l ≤ 1048576 → Calls Try.prog 92 #[.slice A.la g.mail.length A.lc,.int .i64 l] X fun e w' => ∃ q : Int,e = .returned (.int .i64 q) ∧ (q = -1 ∨ 0 ≤ q ∧ q + (szLs g.mail : Int) = l) ∧ Below X.heap.size X w') := fun X l h hl => szLs_any A.la A.lc g.mail l X (hv0.below h).mail hv0.fit.2 hlg.2 hv0.ll hl
 have HSZ : Hid ((szGr g : Int) = (szMs g.mem : Int) + (g.up.length : Int) + (szLs g.mail : Int)) := by rw [Hid,szGr];omega
 clear hv hv0 hb hx hlg
 go_enter Try.func43,Try.ntmps43
 go_wp2_with fail
 refine hS.mono ?_
 rintro e w1 ⟨q1,rfl,hq1,hb1⟩
 have HB1 : Hid (Below W.heap.size W w1) := hb1
 have HBw : Hid (Below w.heap.size w w1) := HB.out.trans (hb1.mono HB.out.size)
 clear hS c0 c1 c2
 obtain ⟨c0,c1,c2⟩ := Bx.g3 (HX.out.below hb1)
 clear hb1
 rcases hq1 with rfl | ⟨hq0,hq1⟩
 ·go_wp2
  go_ret
  exact ⟨-1,rfl,.inl rfl,HBw.out⟩
 have n1 : ¬ (q1 < 0) := by omega
 have b1 : q1 ≤ 1048576 := by omega
 have HQ1 : Hid (q1 + (szMs g.mem : Int) = left) := hq1
 clear hq1
 have hs2 := szBo_any A.ua g.up.length A.uc q1 w1 hlu ⟨by omega,by omega⟩
 by_cases g2 : (g.up.length : Int) ≤ q1
 rotate_left
 ·rw [if_neg g2] at hs2
  go_wp2_with (go_at_call 91;refine hs2.mono ?_;rintro e w' ⟨rfl,hw'⟩;rw [hw'];clear hw')
  go_ret
  exact ⟨-1,rfl,.inl rfl,HBw.out⟩
 rw [if_pos g2] at hs2
 obtain ⟨q2,hq2⟩ : ∃ x : Int,q1 - (g.up.length : Int) = x := ⟨_,rfl⟩
 rw [hq2] at hs2
 have n2 : ¬ (q2 < 0) := by omega
 have b2 : q2 ≤ 1048576 := by omega
 have Hq2 : Hid (q1 - (g.up.length : Int) = q2) := hq2
 clear hq2 g2
 have hs3 := HM.out w1 q2 HB1.out ⟨by omega,b2⟩
 go_wp2_with (first | (go_at_call 91;refine hs2.mono ?_;rintro e w' ⟨rfl,hw'⟩;rw [hw'];clear hw') | fail)
 refine hs3.mono ?_
 rintro e w3 ⟨q3,rfl,hq3,hb3⟩
 have HB3 : Hid (Below w.heap.size w w3) := HBw.out.trans (hb3.mono HBw.out.size)
 clear hs2 hs3 hb3 c0 c1 c2
 rcases hq3 with rfl | ⟨hq30,hq31⟩
 ·go_wp2
  go_ret
  exact ⟨-1,rfl,.inl rfl,HB3.out⟩
 have n3 : ¬ (q3 < 0) := by omega
 have HE : Hid (q3 + (szGr g : Int) = left) := by
  have h1 := HQ1.out
  have h2 := Hq2.out
  rw [Hid,HSZ.out]
  omega
 clear hq31
 go_wp2
 go_ret
 exact ⟨q3,rfl,.inr ⟨hq30,HE.out⟩,HB3.out⟩
end Go.Proofs.Ytlnmdfgcpfbleaa
namespace Go.Proofs.Ytlnmdfgcpfbleaa
set_option linter.unusedVariables false
set_option linter.unusedSimpArgs false
open Go.RowKit Go.Sort
set_option maxRecDepth 100000 in
set_option maxHeartbeats 3200000 in
theorem eqRs_any (a a' : Option Addr) (cap cap' : Nat) (R : List Rw) (w : World) (hv : Cel.vw w (lcl 8 rw8 R) (.slice a R.length cap)) (hu : Cel.vw w (lcl 8 rw8 R) (.slice a' R.length cap')) (hf : ∀ r ∈ R,FitR r) (hm : R.length ≤ maxLen) :
  Calls Try.prog 139 #[.slice a R.length cap,.slice a' R.length cap'] w fun e w' => e = .returned (.bool true) ∧ Below w.heap.size w w' := by
 have HV : Hid (Cel.vw w (lcl 8 rw8 R) (.slice a R.length cap)) := hv
 have HU : Hid (Cel.vw w (lcl 8 rw8 R) (.slice a' R.length cap')) := hu
 have hbb : ((R.length : Int) != (R.length : Int)) = false := by simp
 unfold maxLen at hm
 clear hv hu
 go_enter Try.func139,Try.ntmps139
 go_wp2_with fail
 go_loopw [5] (fun v wr => ∃ k : Nat,k ≤ R.length ∧ v = .int .i64 (k : Int) ∧ Below w.heap.size w wr) (fun v _ => R.length - (intOf v).toNat)
 case atStart => exact ⟨0,Nat.zero_le _,rfl,Below.refl _ _⟩
 case round =>
  obtain ⟨k,hk,rfl,hb⟩ := hrel
  by_cases hlt : k < R.length
  ·have k1 : (k : Int) < (R.length : Int) := by omega
   have k0 : (0 : Int) ≤ (k : Int) := by omega
   have hmem : rowN R k ∈ R := rowN_mem hlt
   have hkx : R[k]? = some (rowN R k) := by simp [rowN,List.getD,hlt]
   obtain ⟨g,off,hra,hpv⟩ := vw_elF rw8_len (Cel.vw_below HV.out hb) hkx
   obtain ⟨g',off',hra',hpv'⟩ := vw_elF rw8_len (Cel.vw_below HU.out hb) hkx
   obtain ⟨A,⟨⟨d0,d1,d2,d3⟩,d4,d5,d6,d7⟩,hrs⟩ := hpv.row (hf _ hmem)
   obtain ⟨A',⟨⟨e0,e1,e2,e3⟩,e4,e5,e6,e7⟩,hrs'⟩ := hpv'.row (hf _ hmem)
   subst hra hra'
   have C : ∀ q : Bk wr,Calls Try.prog 42 #[rwV A (rowN R k),rwV A' (rowN R k)] q.w fun e w' => e = .returned (.bool true) ∧ Below q.w.heap.size q.w w' := fun q => eqRw_any A A' _ q.w (hrs.below q.h) (hrs'.below q.h)
   unfold rwV rwC at C
   have T : ∀ {x v},wr.cell? x = some v → ∀ q : Bk wr,q.w.cell? x = some v := fun h q => (q.h.cell (World.block_lt_of_cell? _ _ h)).trans h
   have dp0 := T d0
   have dp1 := T d1
   have dp2 := T d2
   have dp3 := T d3
   have dp4 := T d4
   have dp5 := T d5
   have dp6 := T d6
   have dp7 := T d7
   have ep0 := T e0
   have ep1 := T e1
   have ep2 := T e2
   have ep3 := T e3
   have ep4 := T e4
   have ep5 := T e5
   have ep6 := T e6
   have ep7 := T e7
   have HB : Hid (Below w.heap.size w wr) := hb
   generalize rowN R k = r at *
   clear hrs hrs' hpv hpv' hb T d0 d1 d2 d3 d4 d5 d6 d7 e0 e1 e2 e3 e4 e5 e6 e7 hkx
   go_wp2_with fail
   refine wp_region_bk (by kernel_rfl) (by kernel_rfl) ?_
   repeat (go_big_quiet_step ((first | (go_at_call 42;exact bk_call _ (C _)) | rfl)))
   refine wpQuiet_nil ?_
   intro wE hw'
   obtain ⟨⟨w11,hb11⟩,hw''⟩ := hw'
   have hwe : wE = w11 := hw''
   clear hw''
   subst hwe
   have HB1 : Hid (Below w.heap.size w wE) := HB.out.trans (hb11.mono HB.out.size)
   clear C hb11 dp0 dp1 dp2 dp3 dp4 dp5 dp6 dp7 ep0 ep1 ep2 ep3 ep4 ep5 ep6 ep7
   go_wp2
   go_roundw
   case rel => exact ⟨k + 1,by omega,by go_num,HB1.out⟩
   case measure => simp [intOf];omega
  ·have k1 : ¬ ((k : Int) < (R.length : Int)) := by omega
   have HB : Hid (Below w.heap.size w wr) := hb
   clear hb
   go_wp2
   go_ret
   exact ⟨rfl,HB.out⟩
set_option maxRecDepth 100000 in
set_option maxHeartbeats 3200000 in
theorem eqMb_any (A D : Ma) (m : Mb) (w : World) (hv : MbS w A m) (hu : MbS w D m) :
  Calls Try.prog 129 #[mbV A m,mbV D m] w fun e w' => e = .returned (.bool true) ∧ Below w.heap.size w w' := by
 have hB0 : Below w.heap.size w ((w.alloc (.cells #[.int .i64 m.id,.int .i64 m.n,.slice A.ra m.rows.length A.rc,.slice A.sa m.sung.length A.sc,.bool m.done] 103)).alloc (.cells #[.int .i64 m.id,.int .i64 m.n,.slice D.ra m.rows.length D.rc,.slice D.sa m.sung.length D.sc,.bool m.done] 103)) := (oneA16 w _).trans ((oneA16 _ _).mono (oneA16 w _).size)
 have hx : Bx ((w.alloc (.cells #[.int .i64 m.id,.int .i64 m.n,.slice A.ra m.rows.length A.rc,.slice A.sa m.sung.length A.sc,.bool m.done] 103)).alloc (.cells #[.int .i64 m.id,.int .i64 m.n,.slice D.ra m.rows.length D.rc,.slice D.sa m.sung.length D.sc,.bool m.done] 103)) w.heap.size 103 #[.int .i64 m.id,.int .i64 m.n,.slice A.ra m.rows.length A.rc,.slice A.sa m.sung.length A.sc,.bool m.done] := (Bx.new w _ _).alloc _
 have hy : Bx ((w.alloc (.cells #[.int .i64 m.id,.int .i64 m.n,.slice A.ra m.rows.length A.rc,.slice A.sa m.sung.length A.sc,.bool m.done] 103)).alloc (.cells #[.int .i64 m.id,.int .i64 m.n,.slice D.ra m.rows.length D.rc,.slice D.sa m.sung.length D.sc,.bool m.done] 103)) (w.heap.size + 1) 103 #[.int .i64 m.id,.int .i64 m.n,.slice D.ra m.rows.length D.rc,.slice D.sa m.sung.length D.sc,.bool m.done] := by
  have := Bx.new (w.alloc (.cells #[.int .i64 m.id,.int .i64 m.n,.slice A.ra m.rows.length A.rc,.slice A.sa m.sung.length A.sc,.bool m.done] 103)) 103 #[.int .i64 m.id,.int .i64 m.n,.slice D.ra m.rows.length D.rc,.slice D.sa m.sung.length D.sc,.bool m.done]
  simpa using this
 have h0 := hv.below hB0
 have g0 := hu.below hB0
 have hR := eqRs_any A.ra D.ra A.rc D.rc m.rows _ h0.rows g0.rows h0.fit h0.mr
 have hE : ∀ X,Below w.heap.size w X → Calls Try.prog 52 #[.slice A.sa m.sung.length A.sc,.slice D.sa m.sung.length D.sc] X fun e w' => e = .returned (.bool true) ∧ Below X.heap.size X w' := fun X h => (eq_any A.sa D.sa m.sung.length A.sc m.sung.length D.sc m.sung m.sung X (hv.sung.below h (Nat.le_refl _)) (hu.sung.below h (Nat.le_refl _)) hv.ms).mono (fun e w' ⟨h4,n,h5⟩ => ⟨by rw [h4];simp,by rw [h5];exact belowN (Below.refl _ _)⟩)
 unfold mbV mbC
 generalize hWW : (w.alloc (.cells #[.int .i64 m.id,.int .i64 m.n,.slice A.ra m.rows.length A.rc,.slice A.sa m.sung.length A.sc,.bool m.done] 103)).alloc (.cells #[.int .i64 m.id,.int .i64 m.n,.slice D.ra m.rows.length D.rc,.slice D.sa m.sung.length D.sc,.bool m.done] 103) = W at *
 have n1 : (m.id != m.id) = false := by simp
 have n2 : (m.n != m.n) = false := by simp
 have n3 : (m.done != m.done) = false := by simp
 have HX : Hid (Bx W w.heap.size 103 #[.int .i64 m.id,.int .i64 m.n,.slice A.ra m.rows.length A.rc,.slice A.sa m.sung.length A.sc,.bool m.done]) := hx
 have HY : Hid (Bx W (w.heap.size + 1) 103 #[.int .i64 m.id,.int .i64 m.n,.slice D.ra m.rows.length D.rc,.slice D.sa m.sung.length D.sc,.bool m.done]) := hy
 have HB : Hid (Below w.heap.size w W) := hB0
 obtain ⟨c0,c1,c2,c3,c4⟩ := Bx.r5 hx
 obtain ⟨d0,d1,d2,d3,d4⟩ := Bx.r5 hy
 clear hv hu h0 g0 hB0 hx hy
 go_enter Try.func129,Try.ntmps129
 go_wp2_with fail
 refine hR.mono ?_
 rintro e w1 ⟨rfl,hb1⟩
 have HB1 : Hid (Below w.heap.size w w1) := HB.out.trans (hb1.mono HB.out.size)
 have HX1 : Hid (Bx w1 w.heap.size 103 #[.int .i64 m.id,.int .i64 m.n,.slice A.ra m.rows.length A.rc,.slice A.sa m.sung.length A.sc,.bool m.done]) := HX.out.below hb1
 have HY1 : Hid (Bx w1 (w.heap.size + 1) 103 #[.int .i64 m.id,.int .i64 m.n,.slice D.ra m.rows.length D.rc,.slice D.sa m.sung.length D.sc,.bool m.done]) := HY.out.below hb1
 clear c0 c1 c2 c3 c4 d0 d1 d2 d3 d4 hR hb1
 obtain ⟨c0,c1,c2,c3,c4⟩ := Bx.r5 HX1.out
 obtain ⟨d0,d1,d2,d3,d4⟩ := Bx.r5 HY1.out
 go_wp2_with fail
 refine (hE _ HB1.out).mono ?_
 rintro e w2 ⟨rfl,hb2⟩
 have HB2 : Hid (Below w.heap.size w w2) := HB1.out.trans (hb2.mono HB1.out.size)
 clear c0 c1 c2 c3 c4 d0 d1 d2 d3 d4 hE
 obtain ⟨c0,c1,c2,c3,c4⟩ := Bx.r5 (HX1.out.below hb2)
 obtain ⟨d0,d1,d2,d3,d4⟩ := Bx.r5 (HY1.out.below hb2)
 clear hb2
 go_wp2
 go_ret
 exact ⟨rfl,HB2.out⟩
end Go.Proofs.Ytlnmdfgcpfbleaa
namespace Go.Proofs.Ytlnmdfgcpfbleaa
set_option linter.unusedVariables false
set_option linter.unusedSimpArgs false
open Go.RowKit Go.Sort
end Go.Proofs.Ytlnmdfgcpfbleaa
namespace Go.Proofs.Ytlnmdfgcpfbleaa
set_option linter.unusedVariables false
set_option linter.unusedSimpArgs false
open Go.RowKit Go.Sort
end Go.Proofs.Ytlnmdfgcpfbleaa
namespace Go.Proofs.Ytlnmdfgcpfbleaa
set_option linter.unusedVariables false
set_option linter.unusedSimpArgs false
open Go.RowKit Go.Sort
end Go.Proofs.Ytlnmdfgcpfbleaa
namespace Go.Proofs.Ytlnmdfgcpfbleaa
set_option linter.unusedVariables false
set_option linter.unusedSimpArgs false
open Go.RowKit Go.Sort
end Go.Proofs.Ytlnmdfgcpfbleaa
namespace Go.Proofs.Ytlnmdfgcpfbleaa
set_option linter.unusedVariables false
set_option linter.unusedSimpArgs false
open Go.RowKit Go.Sort
end Go.Proofs.Ytlnmdfgcpfbleaa
namespace Go.Proofs.Ytlnmdfgcpfbleaa
set_option linter.unusedVariables false
set_option linter.unusedSimpArgs false
open Go.RowKit Go.Sort
theorem mixed13 : Try.prog.follows .mixedOrders = true := by kernel_rfl
def FlS (w : World) (a : Option Addr) (al : List Bool) : Prop := al.length = 0 ∨ ∃ b off,a = some ⟨b,off,none⟩ ∧ ∀ i,i < al.length → w.cell? ⟨b,off + i,none⟩ = some (.bool (fl al i))
end Go.Proofs.Ytlnmdfgcpfbleaa
namespace Go.Proofs.Ytlnmdfgcpfbleaa
set_option linter.unusedVariables false
set_option linter.unusedSimpArgs false
open Go.RowKit Go.Sort
theorem Try.info4b : (Try.prog.info? 4).map (fun i => (i.zero,i.size,i.bytes)) = some (some (.bool false),1,1) := by kernel_rfl
def bov (al : List Bool) : List Value := al.map Value.bool
theorem bov_len (al : List Bool) : (bov al).length = al.length := by simp [bov]
theorem bov_get {al : List Bool} {i : Nat} (h : i < al.length) : (bov al)[i]? = some (.bool (fl al i)) := by simp [bov,fl,h]
def OF (w : World) (g off n cap : Nat) (al : List Bool) : Prop := OSl w 1 g off n cap (bov al)
def bocl (al : List Bool) : Cel := .sl 1 al.length (pl (bov al))
theorem ow_bocl {w : World} {al : List Bool} {u : Value} {fp : Fp} : Cel.ow w (bocl al) u fp ↔ ∃ a c G,u = .slice a al.length c ∧ OSo w 1 a al.length c (bov al) G ∧ ∀ b,fp b ↔ G = some b := by
 constructor
 ·rintro ⟨a,c,us,G,f,e,h1,h2,h3,h4⟩
  obtain ⟨rfl,h5⟩ := owL_pl.1 h2
  exact ⟨a,c,G,e,h1,fun b => by rw [h4 b];exact ⟨fun h => h.elim id (fun k => absurd k (h5 b)),.inl⟩⟩
 ·rintro ⟨a,c,G,e,h1,h2⟩
  exact ⟨a,c,bov al,G,fun _ => False,e,h1,owL_pl.2 ⟨rfl,fun _ h => h⟩,fun _ _ h => h,fun b => by rw [h2 b];simp⟩
theorem OF.length {w : World} {g off n cap : Nat} {al : List Bool} (h : OF w g off n cap al) : al.length = n := by have := h.len;rw [bov_len] at this;omega
theorem OF.cellAt {w : World} {g off n cap : Nat} {al : List Bool} (h : OF w g off n cap al) {i : Nat} (hi : i < n) : w.cell? ⟨g,off + i,none⟩ = some (.bool (fl al i)) := by
 have hl := h.length
 rw [h.cell i (by omega)]
 exact bov_get (by omega)
theorem OF.set {w : World} {g off n cap : Nat} {al : List Bool} (h : OF w g off n cap al) {i : Nat} (hi : i < n) (y : Bool) : OF (w.setCell ⟨g,off + i,none⟩ (.bool y)) g off n cap (al.set i y) := by
 have := osl_put h (j := i) (by omega) (.bool y)
 unfold OF
 rw [show bov (al.set i y) = (bov al).set i (.bool y) by simp [bov,List.map_set]]
 exact this
theorem made_of (w : World) (n : Nat) (hn : n ≤ maxLen) : OF (w.alloc (.cells (madeCells #[.bool false] n) 4)) w.heap.size 0 n n (List.replicate n false) := by
 have h := osl_made w #[.bool false] 1 n 4 rfl (by omega) hn
 have e : (List.replicate n (#[Value.bool false] : Array Value).toList).flatten = bov (List.replicate n false) := by
  unfold bov
  rw [List.map_replicate]
  simp
 rw [e,Nat.mul_one] at h
 exact h
def cpF (al : List Bool) (k : Nat) : List Bool := al.take k ++ List.replicate (al.length - k) false
theorem cpF_zero (al : List Bool) : cpF al 0 = List.replicate al.length false := by simp [cpF]
theorem cpF_all (al : List Bool) : cpF al al.length = al := by simp [cpF]
theorem cpF_step {al : List Bool} {k : Nat} (h : k < al.length) : (cpF al k).set k (fl al k) = cpF al (k + 1) := by
 apply List.ext_getElem?
 intro i
 have h1 : ∀ m,m ≤ al.length → (cpF al m)[i]? = if i < m then al[i]? else if i < al.length then some false else none := fun m hm => by
  unfold cpF
  by_cases hi : i < m
  ·rw [List.getElem?_append_left (by simp;omega),if_pos hi,List.getElem?_take,if_pos hi]
  ·rw [List.getElem?_append_right (by simp;omega),if_neg hi,List.getElem?_replicate]
   simp only [List.length_take]
   by_cases h2 : i < al.length
   ·rw [if_pos (by omega),if_pos h2]
   ·rw [if_neg (by omega),if_neg h2]
 rw [List.getElem?_set,h1 k (by omega),h1 (k + 1) (by omega)]
 have hl : (cpF al k).length = al.length := by simp [cpF];omega
 by_cases e : k = i
 ·subst e
  simp [hl,h,fl]
 ·rw [if_neg e]
  by_cases h2 : i < k
  ·rw [if_pos h2,if_pos (by omega)]
  ·simp only [h2,show ¬ i < k + 1 by omega,if_false]
set_option maxRecDepth 100000 in
set_option maxHeartbeats 1600000 in
theorem toF_any (a : Option Addr) (cap : Nat) (al : List Bool) (w : World) (hv : FlS w a al) (hm : al.length ≤ 1048576) :
  Calls Try.prog 96 #[.slice a al.length cap] w fun e w' => ∃ a' c',e = .returned (.slice a' al.length c') ∧ NewO w w' (bocl al) (.slice a' al.length c') := by
 have HV : Hid (FlS w a al) := hv
 have hmk := run_make_row' (P := Try.prog) 52 4 (.bool false) 1 Try.underlying52 Try.info4b rfl .i64 .i64 al.length (by omega) (by omega)
 have HS0 : Hid (OF (w.alloc (.cells (madeCells #[.bool false] al.length) 4)) w.heap.size 0 al.length al.length (cpF al 0)) := by
  rw [Hid,cpF_zero]
  exact made_of w al.length (by unfold maxLen;omega)
 have HB0 : Hid (Below w.heap.size w (w.alloc (.cells (madeCells #[.bool false] al.length) 4))) := (Below.refl _ _).alloc (Nat.le_refl _) _
 clear hv
 go_enter Try.func96,Try.ntmps96
 go_wp2_with fail
 clear hmk
 go_loopw [4] (fun i wr => ∃ k : Nat,k ≤ al.length ∧ i = .int .i64 k ∧ OF wr w.heap.size 0 al.length al.length (cpF al k) ∧ Below w.heap.size w wr) (fun i _ => al.length - (intOf i).toNat)
 case atStart => exact ⟨0,Nat.zero_le _,rfl,HS0.out,HB0.out⟩
 case round =>
  obtain ⟨k,hk,rfl,ho,hb⟩ := hrel
  by_cases hlt : k < al.length
  ·rcases HV.out with h0 | ⟨b,off,rfl,hc⟩
   ·omega
   have hck := (hb.cell (World.block_lt_of_cell? _ _ (hc k hlt))).trans (hc k hlt)
   have hcg := ho.cellAt hlt
   have hfr := ho.free k (by omega)
   rw [Nat.zero_add] at hcg hfr
   have k1 : (k : Int) < (al.length : Int) := by omega
   have k0 : (0 : Int) ≤ (k : Int) := by omega
   have HO : Hid (OF (wr.setCell ⟨w.heap.size,k,none⟩ (.bool (fl al k))) w.heap.size 0 al.length al.length (cpF al (k + 1))) := by
    have := ho.set hlt (fl al k)
    rw [Nat.zero_add,cpF_step hlt] at this
    exact this
   have HB : Hid (Below w.heap.size w (wr.setCell ⟨w.heap.size,k,none⟩ (.bool (fl al k)))) := hb.setCell (p := ⟨w.heap.size,k,none⟩) (Nat.le_refl _) _
   clear ho hb hc
   generalize fl al k = t at *
   go_wp2
   go_roundw
   case rel => exact ⟨k + 1,by omega,by go_num,HO.out,HB.out⟩
   case measure => simp [intOf];omega
  ·have hkl : k = al.length := by omega
   subst hkl
   rw [cpF_all] at ho
   have HE : Hid (NewO w wr (bocl al) (.slice (some ⟨w.heap.size,0,none⟩) al.length al.length)) := ⟨fun b => b = w.heap.size,ow_bocl.2 ⟨_,_,some w.heap.size,rfl,OSo.of ho,fun b => by simp [eq_comm]⟩,fun b hb => by omega,hb⟩
   clear ho hb
   go_wp2
   go_ret
   exact ⟨_,_,rfl,HE.out⟩
set_option maxRecDepth 100000 in
set_option maxHeartbeats 1600000 in
theorem eqF_any (a a' : Option Addr) (cap cap' : Nat) (al : List Bool) (w : World) (hz : FlS w a al) (hy : FlS w a' al) (hm : al.length ≤ maxLen) :
  Calls Try.prog 103 #[.slice a al.length cap,.slice a' al.length cap'] w fun e w' => e = .returned (.bool true) ∧ Grew w w' := by
 unfold maxLen at hm
 have HZ : Hid (FlS w a al) := hz
 have HY : Hid (FlS w a' al) := hy
 have hne : ((al.length : Int) != (al.length : Int)) = false := by simp
 clear hz hy
 go_enter Try.func103,Try.ntmps103
 go_wp2
 clear hne
 go_loopw [5] (fun i wr => ∃ j : Nat,j ≤ al.length ∧ i = .int .i64 j ∧ ∃ q,wr = w.drewN q) (fun i _ => al.length - (intOf i).toNat)
 case atStart => exact ⟨0,Nat.zero_le _,rfl,0,rfl⟩
 case round =>
  obtain ⟨j,hj,rfl,q,rfl⟩ := hrel
  by_cases hlt : j < al.length
  ·rcases HZ.out with h0 | ⟨b,off,rfl,hc⟩
   ·omega
   rcases HY.out with h0 | ⟨b',off',rfl,hc'⟩
   ·omega
   have c1 := hc j hlt
   have c2 := hc' j hlt
   have j1 : (j : Int) < (al.length : Int) := by omega
   have j0 : (0 : Int) ≤ (j : Int) := by omega
   generalize fl al j = A at *
   have hb : (A != A) = false := by simp
   clear hc hc'
   have hmix := mixed13
   go_wp2_with fail
   go_quiet (fail)
   go_wp2
   go_roundw
   case rel => exact ⟨j + 1,by omega,by go_num,_,rfl⟩
   case measure => simp [intOf];omega
  ·have hjl : j = al.length := by omega
   subst hjl
   go_wp2
   go_ret
   exact ⟨rfl,(Grew.refl _).drewN _⟩
end Go.Proofs.Ytlnmdfgcpfbleaa
namespace Go.Proofs.Ytlnmdfgcpfbleaa
set_option linter.unusedVariables false
set_option linter.unusedSimpArgs false
open Go.RowKit Go.Sort
set_option maxRecDepth 100000 in
set_option maxHeartbeats 1600000 in
theorem eqMl_any (A D : Ra) (x : Ml) (w : World) (hv : RwS w A x.row) (hu : RwS w D x.row) :
  Calls Try.prog 130 #[mlV A x,mlV D x] w fun e w' => e = .returned (.bool true) ∧ Below w.heap.size w w' := by
 have hB0 : Below w.heap.size w ((w.alloc (.cells #[.int .i64 x.fr,.int .i64 x.to,.int .i64 x.row.ver,.slice A.ta x.row.txt.length A.tc,.slice A.ga x.row.got.length A.gc,.slice A.sa x.row.sus.length A.sc,.bool x.row.wed,.bool x.row.rdy,.int .i64 x.row.by_,.slice A.ma x.row.trm.length A.mc] 139)).alloc (.cells #[.int .i64 x.fr,.int .i64 x.to,.int .i64 x.row.ver,.slice D.ta x.row.txt.length D.tc,.slice D.ga x.row.got.length D.gc,.slice D.sa x.row.sus.length D.sc,.bool x.row.wed,.bool x.row.rdy,.int .i64 x.row.by_,.slice D.ma x.row.trm.length D.mc] 139)) := (oneA16 w _).trans ((oneA16 _ _).mono (oneA16 w _).size)
 have hx : Bx ((w.alloc (.cells #[.int .i64 x.fr,.int .i64 x.to,.int .i64 x.row.ver,.slice A.ta x.row.txt.length A.tc,.slice A.ga x.row.got.length A.gc,.slice A.sa x.row.sus.length A.sc,.bool x.row.wed,.bool x.row.rdy,.int .i64 x.row.by_,.slice A.ma x.row.trm.length A.mc] 139)).alloc (.cells #[.int .i64 x.fr,.int .i64 x.to,.int .i64 x.row.ver,.slice D.ta x.row.txt.length D.tc,.slice D.ga x.row.got.length D.gc,.slice D.sa x.row.sus.length D.sc,.bool x.row.wed,.bool x.row.rdy,.int .i64 x.row.by_,.slice D.ma x.row.trm.length D.mc] 139)) w.heap.size 139 #[.int .i64 x.fr,.int .i64 x.to,.int .i64 x.row.ver,.slice A.ta x.row.txt.length A.tc,.slice A.ga x.row.got.length A.gc,.slice A.sa x.row.sus.length A.sc,.bool x.row.wed,.bool x.row.rdy,.int .i64 x.row.by_,.slice A.ma x.row.trm.length A.mc] := (Bx.new w _ _).alloc _
 have hy : Bx ((w.alloc (.cells #[.int .i64 x.fr,.int .i64 x.to,.int .i64 x.row.ver,.slice A.ta x.row.txt.length A.tc,.slice A.ga x.row.got.length A.gc,.slice A.sa x.row.sus.length A.sc,.bool x.row.wed,.bool x.row.rdy,.int .i64 x.row.by_,.slice A.ma x.row.trm.length A.mc] 139)).alloc (.cells #[.int .i64 x.fr,.int .i64 x.to,.int .i64 x.row.ver,.slice D.ta x.row.txt.length D.tc,.slice D.ga x.row.got.length D.gc,.slice D.sa x.row.sus.length D.sc,.bool x.row.wed,.bool x.row.rdy,.int .i64 x.row.by_,.slice D.ma x.row.trm.length D.mc] 139)) (w.heap.size + 1) 139 #[.int .i64 x.fr,.int .i64 x.to,.int .i64 x.row.ver,.slice D.ta x.row.txt.length D.tc,.slice D.ga x.row.got.length D.gc,.slice D.sa x.row.sus.length D.sc,.bool x.row.wed,.bool x.row.rdy,.int .i64 x.row.by_,.slice D.ma x.row.trm.length D.mc] := by
  have := Bx.new (w.alloc (.cells #[.int .i64 x.fr,.int .i64 x.to,.int .i64 x.row.ver,.slice A.ta x.row.txt.length A.tc,.slice A.ga x.row.got.length A.gc,.slice A.sa x.row.sus.length A.sc,.bool x.row.wed,.bool x.row.rdy,.int .i64 x.row.by_,.slice A.ma x.row.trm.length A.mc] 139)) 139 #[.int .i64 x.fr,.int .i64 x.to,.int .i64 x.row.ver,.slice D.ta x.row.txt.length D.tc,.slice D.ga x.row.got.length D.gc,.slice D.sa x.row.sus.length D.sc,.bool x.row.wed,.bool x.row.rdy,.int .i64 x.row.by_,.slice D.ma x.row.trm.length D.mc]
  simpa using this
 have hR := eqRw_any A D x.row _ (hv.below hB0) (hu.below hB0)
 unfold mlV mlC
 unfold rwV rwC at hR
 generalize hWW : (w.alloc (.cells #[.int .i64 x.fr,.int .i64 x.to,.int .i64 x.row.ver,.slice A.ta x.row.txt.length A.tc,.slice A.ga x.row.got.length A.gc,.slice A.sa x.row.sus.length A.sc,.bool x.row.wed,.bool x.row.rdy,.int .i64 x.row.by_,.slice A.ma x.row.trm.length A.mc] 139)).alloc (.cells #[.int .i64 x.fr,.int .i64 x.to,.int .i64 x.row.ver,.slice D.ta x.row.txt.length D.tc,.slice D.ga x.row.got.length D.gc,.slice D.sa x.row.sus.length D.sc,.bool x.row.wed,.bool x.row.rdy,.int .i64 x.row.by_,.slice D.ma x.row.trm.length D.mc] 139) = W at *
 have n1 : (x.fr != x.fr) = false := by simp
 have n2 : (x.to != x.to) = false := by simp
 have HB : Hid (Below w.heap.size w W) := hB0
 obtain ⟨⟨c0,c1⟩,⟨c2,c3,c4,c5⟩,c6,c7,c8,c9⟩ := Bx.r10 hx
 obtain ⟨⟨d0,d1⟩,⟨d2,d3,d4,d5⟩,d6,d7,d8,d9⟩ := Bx.r10 hy
 clear hv hu hB0 hx hy
 go_enter Try.func130,Try.ntmps130
 go_wp2_with (go_at_call 42;refine hR.mono ?_;rintro e w1 ⟨rfl,hb1⟩;have HB1 : Hid (Below w.heap.size w w1) := (HB.out.trans (hb1.mono HB.out.size));clear hb1)
 go_ret
 exact ⟨rfl,HB1.out⟩
attribute [local irreducible] sv
set_option maxRecDepth 100000 in
set_option maxHeartbeats 3200000 in
theorem eqMs_any (a a' : Option Addr) (cap cap' : Nat) (R : List Mb) (w : World) (hv : Cel.vw w (lcl 5 mb5 R) (.slice a R.length cap)) (hu : Cel.vw w (lcl 5 mb5 R) (.slice a' R.length cap')) (hf : ∀ m ∈ R,FitM m) (hm : R.length ≤ maxLen) :
  Calls Try.prog 102 #[.slice a R.length cap,.slice a' R.length cap'] w fun e w' => e = .returned (.bool true) ∧ Below w.heap.size w w' := by
 have HV : Hid (Cel.vw w (lcl 5 mb5 R) (.slice a R.length cap)) := hv
 have HU : Hid (Cel.vw w (lcl 5 mb5 R) (.slice a' R.length cap')) := hu
 have hbb : ((R.length : Int) != (R.length : Int)) = false := by simp
 unfold maxLen at hm
 clear hv hu
 go_enter Try.func102,Try.ntmps102
 go_wp2_with fail
 go_loopw [5] (fun v wr => ∃ k : Nat,k ≤ R.length ∧ v = .int .i64 (k : Int) ∧ Below w.heap.size w wr) (fun v _ => R.length - (intOf v).toNat)
 case atStart => exact ⟨0,Nat.zero_le _,rfl,Below.refl _ _⟩
 case round =>
  obtain ⟨k,hk,rfl,hb⟩ := hrel
  by_cases hlt : k < R.length
  ·have k1 : (k : Int) < (R.length : Int) := by omega
   have k0 : (0 : Int) ≤ (k : Int) := by omega
   have hkx := mbN_at hlt
   have hmem : mbN R k ∈ R := List.mem_of_getElem? hkx
   obtain ⟨g,off,hra,hpv⟩ := vw_elF mb5_len (Cel.vw_below HV.out hb) hkx
   obtain ⟨g',off',hra',hpv'⟩ := vw_elF mb5_len (Cel.vw_below HU.out hb) hkx
   obtain ⟨A,⟨d0,d1,d2,d3,d4⟩,hrs⟩ := hpv.mem (hf _ hmem)
   obtain ⟨A',⟨e0,e1,e2,e3,e4⟩,hrs'⟩ := hpv'.mem (hf _ hmem)
   subst hra hra'
   have C : ∀ q : Bk wr,Calls Try.prog 129 #[mbV A (mbN R k),mbV A' (mbN R k)] q.w fun e w' => e = .returned (.bool true) ∧ Below q.w.heap.size q.w w' := fun q => eqMb_any A A' _ q.w (hrs.below q.h) (hrs'.below q.h)
   unfold mbV mbC at C
   have T : ∀ {x v},wr.cell? x = some v → ∀ q : Bk wr,q.w.cell? x = some v := fun h q => (q.h.cell (World.block_lt_of_cell? _ _ h)).trans h
   have dp0 := T d0
   have ep0 := T e0
   have dp1 := T d1
   have ep1 := T e1
   have dp2 := T d2
   have ep2 := T e2
   have dp3 := T d3
   have ep3 := T e3
   have dp4 := T d4
   have ep4 := T e4
   have HB : Hid (Below w.heap.size w wr) := hb
   generalize mbN R k = r at *
   clear hrs hrs' hpv hpv' hb T d0 e0 d1 e1 d2 e2 d3 e3 d4 e4 hkx
   go_wp2_with fail
   refine wp_region_bk (by kernel_rfl) (by kernel_rfl) ?_
   repeat (go_big_quiet_step ((first | (go_at_call 129;exact bk_call _ (C _)) | rfl)))
   refine wpQuiet_nil ?_
   intro wE hw'
   obtain ⟨⟨w11,hb11⟩,hw''⟩ := hw'
   have hwe : wE = w11 := hw''
   clear hw''
   subst hwe
   have HB1 : Hid (Below w.heap.size w wE) := HB.out.trans (hb11.mono HB.out.size)
   clear C hb11 dp0 ep0 dp1 ep1 dp2 ep2 dp3 ep3 dp4 ep4
   go_wp2
   go_roundw
   case rel => exact ⟨k + 1,by omega,by go_num,HB1.out⟩
   case measure => simp [intOf];omega
  ·have k1 : ¬ ((k : Int) < (R.length : Int)) := by omega
   have HB : Hid (Below w.heap.size w wr) := hb
   clear hb
   go_wp2
   go_ret
   exact ⟨rfl,HB.out⟩
set_option maxRecDepth 100000 in
set_option maxHeartbeats 3200000 in
theorem eqLs_any (a a' : Option Addr) (cap cap' : Nat) (R : List Ml) (w : World) (hv : Cel.vw w (lcl 10 ml10 R) (.slice a R.length cap)) (hu : Cel.vw w (lcl 10 ml10 R) (.slice a' R.length cap')) (hf : ∀ x ∈ R,FitR x.row) (hm : R.length ≤ maxLen) :
  Calls Try.prog 104 #[.slice a R.length cap,.slice a' R.length cap'] w fun e w' => e = .returned (.bool true) ∧ Below w.heap.size w w' := by
 have HV : Hid (Cel.vw w (lcl 10 ml10 R) (.slice a R.length cap)) := hv
 have HU : Hid (Cel.vw w (lcl 10 ml10 R) (.slice a' R.length cap')) := hu
 have hbb : ((R.length : Int) != (R.length : Int)) = false := by simp
 unfold maxLen at hm
 clear hv hu
 go_enter Try.func104,Try.ntmps104
 go_wp2_with fail
 go_loopw [5] (fun v wr => ∃ k : Nat,k ≤ R.length ∧ v = .int .i64 (k : Int) ∧ Below w.heap.size w wr) (fun v _ => R.length - (intOf v).toNat)
 case atStart => exact ⟨0,Nat.zero_le _,rfl,Below.refl _ _⟩
 case round =>
  obtain ⟨k,hk,rfl,hb⟩ := hrel
  by_cases hlt : k < R.length
  ·have k1 : (k : Int) < (R.length : Int) := by omega
   have k0 : (0 : Int) ≤ (k : Int) := by omega
   have hkx := mlN_at hlt
   have hmem : mlN R k ∈ R := List.mem_of_getElem? hkx
   obtain ⟨g,off,hra,hpv⟩ := vw_elF ml10_len (Cel.vw_below HV.out hb) hkx
   obtain ⟨g',off',hra',hpv'⟩ := vw_elF ml10_len (Cel.vw_below HU.out hb) hkx
   obtain ⟨A,⟨d0,d1⟩,⟨d2,d3,d4,d5⟩,d6,d7,d8,d9,hrs⟩ := hpv.mlr (hf _ hmem)
   obtain ⟨A',⟨e0,e1⟩,⟨e2,e3,e4,e5⟩,e6,e7,e8,e9,hrs'⟩ := hpv'.mlr (hf _ hmem)
   subst hra hra'
   have C : ∀ q : Bk wr,Calls Try.prog 130 #[mlV A (mlN R k),mlV A' (mlN R k)] q.w fun e w' => e = .returned (.bool true) ∧ Below q.w.heap.size q.w w' := fun q => eqMl_any A A' _ q.w (hrs.below q.h) (hrs'.below q.h)
   unfold mlV mlC at C
   have T : ∀ {x v},wr.cell? x = some v → ∀ q : Bk wr,q.w.cell? x = some v := fun h q => (q.h.cell (World.block_lt_of_cell? _ _ h)).trans h
   have dp0 := T d0
   have ep0 := T e0
   have dp1 := T d1
   have ep1 := T e1
   have dp2 := T d2
   have ep2 := T e2
   have dp3 := T d3
   have ep3 := T e3
   have dp4 := T d4
   have ep4 := T e4
   have dp5 := T d5
   have ep5 := T e5
   have dp6 := T d6
   have ep6 := T e6
   have dp7 := T d7
   have ep7 := T e7
   have dp8 := T d8
   have ep8 := T e8
   have dp9 := T d9
   have ep9 := T e9
   have HB : Hid (Below w.heap.size w wr) := hb
   generalize mlN R k = r at *
   clear hrs hrs' hpv hpv' hb T d0 e0 d1 e1 d2 e2 d3 e3 d4 e4 d5 e5 d6 e6 d7 e7 d8 e8 d9 e9 hkx
   go_wp2_with fail
   refine wp_region_bk (by kernel_rfl) (by kernel_rfl) ?_
   repeat (go_big_quiet_step ((first | (go_at_call 130;exact bk_call _ (C _)) | rfl)))
   refine wpQuiet_nil ?_
   intro wE hw'
   obtain ⟨⟨w11,hb11⟩,hw''⟩ := hw'
   have hwe : wE = w11 := hw''
   clear hw''
   subst hwe
   have HB1 : Hid (Below w.heap.size w wE) := HB.out.trans (hb11.mono HB.out.size)
   clear C hb11 dp0 ep0 dp1 ep1 dp2 ep2 dp3 ep3 dp4 ep4 dp5 ep5 dp6 ep6 dp7 ep7 dp8 ep8 dp9 ep9
   go_wp2
   go_roundw
   case rel => exact ⟨k + 1,by omega,by go_num,HB1.out⟩
   case measure => simp [intOf];omega
  ·have k1 : ¬ ((k : Int) < (R.length : Int)) := by omega
   have HB : Hid (Below w.heap.size w wr) := hb
   clear hb
   go_wp2
   go_ret
   exact ⟨rfl,HB.out⟩
set_option maxRecDepth 100000 in
set_option maxHeartbeats 3200000 in
theorem eqGr_any (A D : Ga) (g : Gr) (w : World) (hv : GrS w A g) (hu : GrS w D g) :
  Calls Try.prog 47 #[grV A g,grV D g] w fun e w' => e = .returned (.bool true) ∧ Below w.heap.size w w' := by
 have hB0 : Below w.heap.size w ((w.alloc (.cells #[.slice A.ma g.mem.length A.mc,.slice A.ua g.up.length A.uc,.slice A.la g.mail.length A.lc] 61)).alloc (.cells #[.slice D.ma g.mem.length D.mc,.slice D.ua g.up.length D.uc,.slice D.la g.mail.length D.lc] 61)) := (oneA16 w _).trans ((oneA16 _ _).mono (oneA16 w _).size)
 have hx : Bx ((w.alloc (.cells #[.slice A.ma g.mem.length A.mc,.slice A.ua g.up.length A.uc,.slice A.la g.mail.length A.lc] 61)).alloc (.cells #[.slice D.ma g.mem.length D.mc,.slice D.ua g.up.length D.uc,.slice D.la g.mail.length D.lc] 61)) w.heap.size 61 #[.slice A.ma g.mem.length A.mc,.slice A.ua g.up.length A.uc,.slice A.la g.mail.length A.lc] := (Bx.new w _ _).alloc _
 have hy : Bx ((w.alloc (.cells #[.slice A.ma g.mem.length A.mc,.slice A.ua g.up.length A.uc,.slice A.la g.mail.length A.lc] 61)).alloc (.cells #[.slice D.ma g.mem.length D.mc,.slice D.ua g.up.length D.uc,.slice D.la g.mail.length D.lc] 61)) (w.heap.size + 1) 61 #[.slice D.ma g.mem.length D.mc,.slice D.ua g.up.length D.uc,.slice D.la g.mail.length D.lc] := by
  have := Bx.new (w.alloc (.cells #[.slice A.ma g.mem.length A.mc,.slice A.ua g.up.length A.uc,.slice A.la g.mail.length A.lc] 61)) 61 #[.slice D.ma g.mem.length D.mc,.slice D.ua g.up.length D.uc,.slice D.la g.mail.length D.lc]
  simpa using this
 have h0 := hv.below hB0
 have g0 := hu.below hB0
 have hM := eqMs_any A.ma D.ma A.mc D.mc g.mem _ h0.mem g0.mem h0.fit.1 h0.lm
 have hU : ∀ X,Below w.heap.size w X → Calls Try.prog 103 #[.slice A.ua g.up.length A.uc,.slice D.ua g.up.length D.uc] X fun e w' => e = .returned (.bool true) ∧ Below X.heap.size X w' := fun X h => (eqF_any A.ua D.ua A.uc D.uc g.up X (hv.below h).up (hu.below h).up hv.lu).mono (fun e w' h4 => ⟨h4.1,h4.2.1⟩)
 have hL : ∀ X,Below w.heap.size w X → Calls Try.prog 104 #[.slice A.la g.mail.length A.lc,.slice D.la g.mail.length D.lc] X fun e w' => e = .returned (.bool true) ∧ Below X.heap.size X w' := fun X h => eqLs_any A.la D.la A.lc D.lc g.mail X (hv.below h).mail (hu.below h).mail hv.fit.2 hv.ll
 unfold grV grC
 generalize hWW : (w.alloc (.cells #[.slice A.ma g.mem.length A.mc,.slice A.ua g.up.length A.uc,.slice A.la g.mail.length A.lc] 61)).alloc (.cells #[.slice D.ma g.mem.length D.mc,.slice D.ua g.up.length D.uc,.slice D.la g.mail.length D.lc] 61) = W at *
 have HX : Hid (Bx W w.heap.size 61 #[.slice A.ma g.mem.length A.mc,.slice A.ua g.up.length A.uc,.slice A.la g.mail.length A.lc]) := hx
 have HY : Hid (Bx W (w.heap.size + 1) 61 #[.slice D.ma g.mem.length D.mc,.slice D.ua g.up.length D.uc,.slice D.la g.mail.length D.lc]) := hy
 have HB : Hid (Below w.heap.size w W) := hB0
 obtain ⟨c0,c1,c2⟩ := Bx.g3 hx
 obtain ⟨d0,d1,d2⟩ := Bx.g3 hy
 clear hv hu h0 g0 hB0 hx hy
 go_enter Try.func47,Try.ntmps47
 go_wp2_with fail
 refine hM.mono ?_
 rintro e w1 ⟨rfl,hb1⟩
 have HB1 : Hid (Below w.heap.size w w1) := HB.out.trans (hb1.mono HB.out.size)
 have HX1 : Hid (Bx w1 w.heap.size 61 #[.slice A.ma g.mem.length A.mc,.slice A.ua g.up.length A.uc,.slice A.la g.mail.length A.lc]) := HX.out.below hb1
 have HY1 : Hid (Bx w1 (w.heap.size + 1) 61 #[.slice D.ma g.mem.length D.mc,.slice D.ua g.up.length D.uc,.slice D.la g.mail.length D.lc]) := HY.out.below hb1
 clear c0 c1 c2 d0 d1 d2 hM hb1
 obtain ⟨c0,c1,c2⟩ := Bx.g3 HX1.out
 obtain ⟨d0,d1,d2⟩ := Bx.g3 HY1.out
 go_wp2_with fail
 refine (hU _ HB1.out).mono ?_
 rintro e w2 ⟨rfl,hb2⟩
 have HB2 : Hid (Below w.heap.size w w2) := HB1.out.trans (hb2.mono HB1.out.size)
 clear c0 c1 c2 d0 d1 d2 hU
 obtain ⟨c0,c1,c2⟩ := Bx.g3 (HX1.out.below hb2)
 obtain ⟨d0,d1,d2⟩ := Bx.g3 (HY1.out.below hb2)
 clear hb2
 go_wp2_with fail
 refine (hL _ HB2.out).mono ?_
 rintro e w3 ⟨rfl,hb3⟩
 have HB3 : Hid (Below w.heap.size w w3) := HB2.out.trans (hb3.mono HB2.out.size)
 clear c0 c1 c2 d0 d1 d2 hb3 hL
 go_wp2
 go_ret
 exact ⟨rfl,HB3.out⟩
end Go.Proofs.Ytlnmdfgcpfbleaa