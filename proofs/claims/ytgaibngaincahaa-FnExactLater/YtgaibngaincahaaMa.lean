/-
  Several texts in one: Vwa Vwh.
-/
import Derived.Test.YtgaibngaincahaaLz
import Derived.Test.YtgaibngaincahaaJp
import Derived.Test.YtgaibngaincahaaLp
import Derived.Test.YtgaibngaincahaaHh
import Derived.Test.YtgaibngaincahaaKp
import Derived.Test.YtgaibngaincahaaGb
import Derived.Test.YtgaibngaincahaaGa
import Derived.Deep.RegionHeld3
/-
  The contract of the specification's After.
-/
namespace Go.Proofs.Ytgaibngaincahaa
set_option linter.unusedVariables false
set_option linter.unusedSimpArgs false
open Go.RowKit Go.Sort

theorem mixed14 : Try.prog.follows .mixedOrders = true := by kernel_rfl
theorem one14 (w : World) (o : Obj) : Below w.heap.size w (w.alloc o) := (Below.refl _ _).alloc (Nat.le_refl _) _
/-- A view and a flag as an answer. -/
def AnsVb (w w' : World) (e : Ending) (v : Vw × Bool) : Prop := ∃ a c, e = .returned (.tuple #[vwV v.1.1 a v.1.2.length c, .bool v.2]) ∧ NewO w w' (icl v.1.2) (.slice a v.1.2.length c)
theorem newO_nilV {w w' : World} (hb : Below w.heap.size w w') : NewO w w' (icl []) (.slice none 0 0) := ⟨fun _ => False, ow_icl.2 ⟨none, 0, none, rfl, OSo.nil _ _ plainN, fun b => by simp⟩, fun _ h => absurd h id, hb⟩
/-- l1Put onto a list of one's own. -/
theorem put_ow (a : Option Addr) (cap : Nat) (xs : List Int) (n : Int) (w : World) (fp : Fp) (ho : Cel.ow w (icl xs) (.slice a xs.length cap) fp) (hf : Fits xs) (hn : xs.length ≤ 100000000) :
    Calls Try.prog 87 #[.slice a xs.length cap, .int .i64 n] w fun e w' => ∃ a' c' fp', e = .returned (.slice a' (putL xs n).length c') ∧ Cel.ow w' (icl (putL xs n)) (.slice a' (putL xs n).length c') fp' ∧ (∀ b, fp' b → fp b ∨ w.heap.size ≤ b) ∧ Below w.heap.size w w' := by
  obtain ⟨a0, c0, e0, hv, h1, h2⟩ := vw_icl (Cel.ow_vw ho) hf
  cases e0
  obtain ⟨a1, c1, G, e1, hs, hG⟩ := ow_icl.1 ho
  cases e1
  have hnone : a = none → cap = 0 := fun e => by
    rcases hs with ⟨_, h, _⟩ | ⟨g, off, ha, _⟩
    · exact h
    · rw [ha] at e; cases e
  refine (putO_any a cap xs n w hv hnone h1 h2 hn hs.plain).mono ?_
  rintro e w' (⟨rfl, h3, rfl⟩ | ⟨g, off, c, rfl, hg, hO, hb⟩)
  · exact ⟨a, cap, fp, by rw [h3], by rw [h3]; exact ho, fun b hb => .inl hb, Below.refl _ _⟩
  · exact ⟨_, c, fun b => b = g, rfl, ow_icl.2 ⟨_, c, some g, rfl, OSo.of hO, fun b => by simp [eq_comm]⟩, fun b hb => .inr (by rw [hb]; exact hg), hb⟩
theorem lft_step {M gone : List Int} {k : Nat} (h : k < M.length) : lftL (M.take (k + 1)) gone = lftL (M.take k) gone ++ (if el M k ∈ gone then [] else [el M k]) := by
  have e : M.take (k + 1) = M.take k ++ [el M k] := by
    rw [List.take_succ_eq_append_getElem h]
    simp [el, List.getD, h]
  rw [e]
  unfold lftL
  rw [List.filter_append]
  by_cases h2 : el M k ∈ gone <;> simp [h2]
theorem lft_len (M gone : List Int) : (lftL M gone).length ≤ M.length := List.length_filter_le _ _
theorem puts_step {L come : List Int} {k : Nat} (h : k < come.length) : putsL L (come.take (k + 1)) = putL (putsL L (come.take k)) (el come k) := by
  have e : come.take (k + 1) = come.take k ++ [el come k] := by
    rw [List.take_succ_eq_append_getElem h]
    simp [el, List.getD, h]
  rw [e, puts_snoc]
theorem puts_fits {L come : List Int} (h1 : Fits L) (h2 : Fits come) (k : Nat) : Fits (putsL L (come.take k)) := fun x hx => by
  rcases mem_puts.1 hx with h | h
  · exact h1 x h
  · exact h2 x (List.mem_of_mem_take h)
end Go.Proofs.Ytgaibngaincahaa

/-
  What the program's functions of views must answer; the laws' own szView, toView, eqView, likeView, markView, heldView.
-/
namespace Go.Proofs.Ytgaibngaincahaa
set_option linter.unusedVariables false
set_option linter.unusedSimpArgs false
open Go.RowKit Go.Sort

/-- A number of 64 bits. -/
def I64v (x : Int) : Prop := -9223372036854775808 ≤ x ∧ x ≤ 9223372036854775807
/-- A list of numbers that a program is handed: to be read; its address plain. -/
structure VcP (w : World) (a : Option Addr) (c : Nat) (M : List Int) : Prop where
  vec : Vec w a M.length M
  le : M.length ≤ c
  mx : c ≤ maxLen
  pl : PlainA a
  nn : a = none → c = 0
theorem VcP.below {w w' : World} {a : Option Addr} {c : Nat} {M : List Int} (h : VcP w a c M) (hb : Below w.heap.size w w') : VcP w' a c M := ⟨h.vec.below hb (Nat.le_refl _), h.le, h.mx, h.pl, h.nn⟩
theorem ow_vcp {w : World} {a : Option Addr} {c : Nat} {M : List Int} {fp : Fp} (h : Cel.ow w (icl M) (.slice a M.length c) fp) (hf : Fits M) : VcP w a c M := by
  obtain ⟨a0, c0, e0, hv, h1, h2⟩ := vw_icl (Cel.ow_vw h) hf
  cases e0
  obtain ⟨a1, c1, G, e1, hs, hG⟩ := ow_icl.1 h
  cases e1
  refine ⟨hv, h1, h2, hs.plain, fun e => ?_⟩
  rcases hs with ⟨_, h, _⟩ | ⟨g, off, ha, _⟩
  · exact h
  · rw [ha] at e; cases e
theorem it_vcp {w : World} {a : Option Addr} {c lo hi : Nat} {M : List Int} (h : It w [icl M] [.slice a M.length c] lo hi) (hf : Fits M) : VcP w a c M := by
  obtain ⟨f, h1, _⟩ := h.ow1
  exact ow_vcp h1 hf
set_option maxHeartbeats 400000 in
theorem szI14_any (a : Option Addr) (len cap : Nat) (left : Int) (w : World) (hm : len ≤ maxLen) (hl : 0 ≤ left ∧ left ≤ 1048576) :
    Calls Try.prog 75 #[.slice a len cap, .int .i64 left] w fun e w' => e = .returned (.int .i64 (if (len : Int) ≤ left then left - (len : Int) else -1)) ∧ w' = w := by
  unfold maxLen at hm
  have h1 : wrap64 (left - (len : Int)) = left - (len : Int) := by unfold wrap64; omega
  by_cases h : (len : Int) ≤ left
  · rw [if_pos h]
    have h2 : decide (left - (len : Int) < 0) = false := by simp; omega
    go_enter Try.func75, Try.ntmps75
    go_wp2
    go_ret
    exact ⟨rfl, rfl⟩
  · rw [if_neg h]
    have h2 : decide (left - (len : Int) < 0) = true := by simp; omega
    go_enter Try.func75, Try.ntmps75
    go_wp2
    go_ret
    exact ⟨rfl, rfl⟩
/-- A view as an answer. -/
def AnsVw (w w' : World) (e : Ending) (v : Vw) : Prop := ∃ a c, e = .returned (vwV v.1 a v.2.length c) ∧ NewO w w' (icl v.2) (.slice a v.2.length c)
end Go.Proofs.Ytgaibngaincahaa
