/-
  Several texts in one: Wcp.
-/
import Derived.Test.YtkompamocpnefaaIi
import Derived.Test.YtkompamocpnefaaIx
/-
  The contracts of the laws' own helpers on windows: szWindow, toWindow, eqWindow, markWindow, heldWindow.
-/
namespace Go.Proofs.Ytkompamocpnefaa
set_option linter.unusedVariables false
set_option linter.unusedSimpArgs false
open Go.RowKit Go.Sort

theorem one_alloc (w : World) (o : Obj) : Below w.heap.size w (w.alloc o) := (Below.refl _ _).alloc (Nat.le_refl _) _

set_option maxHeartbeats 400000 in
theorem szI_any (a : Option Addr) (len cap : Nat) (left : Int) (w : World) (hm : len ≤ maxLen) (hl : 0 ≤ left ∧ left ≤ 1048576) :
    Calls Try.prog 71 #[.slice a len cap, .int .i64 left] w fun e w' => e = .returned (.int .i64 (if (len : Int) ≤ left then left - (len : Int) else -1)) ∧ w' = w := by
  unfold maxLen at hm
  have h1 : wrap64 (left - (len : Int)) = left - (len : Int) := by unfold wrap64; omega
  by_cases h : (len : Int) ≤ left
  · rw [if_pos h]
    have h2 : decide (left - (len : Int) < 0) = false := by simp; omega
    go_enter Try.func71, Try.ntmps71
    go_wp2
    go_ret
    exact ⟨rfl, rfl⟩
  · rw [if_neg h]
    have h2 : decide (left - (len : Int) < 0) = true := by simp; omega
    go_enter Try.func71, Try.ntmps71
    go_wp2
    go_ret
    exact ⟨rfl, rfl⟩

set_option maxHeartbeats 400000 in
theorem szW_any (sz st : Int) (a : Option Addr) (len cap : Nat) (w : World) (hm : len ≤ maxLen) :
    Calls Try.prog 38 #[wiV sz st a len cap, .int .i64 1048576] w fun e w' => e = .returned (.int .i64 (if (len : Int) ≤ 1048576 then 1048576 - (len : Int) else -1)) ∧ Below w.heap.size w w' := by
  have hS := szI_any a len cap 1048576 (w.alloc (.cells #[.int .i64 sz, .int .i64 st, .slice a len cap] 43)) hm ⟨by omega, by omega⟩
  have hB := one_alloc w (.cells #[.int .i64 sz, .int .i64 st, .slice a len cap] 43)
  unfold wiV
  by_cases h : (len : Int) ≤ 1048576
  · rw [if_pos h] at hS ⊢
    have h2 : decide ((1048576 : Int) - (len : Int) < 0) = false := by simp; omega
    go_enter Try.func38, Try.ntmps38
    go_wp2_with (go_at_call 71; refine hS.mono ?_; rintro e w' ⟨rfl, hw'⟩; rw [hw']; clear hw')
    go_ret
    exact ⟨rfl, hB⟩
  · rw [if_neg h] at hS ⊢
    go_enter Try.func38, Try.ntmps38
    go_wp2_with (go_at_call 71; refine hS.mono ?_; rintro e w' ⟨rfl, hw'⟩; rw [hw']; clear hw')
    go_ret
    exact ⟨rfl, hB⟩

theorem row_other {w : World} {b p i : Nat} {v : Value} {xs : List Int} (h : RowOf w b xs) (hne : b ≠ p) : RowOf (w.setCell ⟨p, i, none⟩ v) b xs :=
  World.rowIs.of_block h ((grown_set (grown_refl w (some p)) i v).block b h.lt (by simp [hne]))
set_option maxRecDepth 100000 in
set_option maxHeartbeats 800000 in
theorem toW_any (sz st : Int) (a : Option Addr) (len cap : Nat) (xs : List Int) (w : World) (hv : Vec w a len xs) (hl : len ≤ 17592186044416) :
    Calls Try.prog 39 #[wiV sz st a len cap] w fun e w' => ∃ b, e = .returned (wiV sz st (some ⟨b, 0, none⟩) len len) ∧ w.heap.size ≤ b ∧ RowOf w' b xs ∧ Below w.heap.size w w' := by
  unfold wiV
  have hB : Below w.heap.size w (((w.alloc (.cells #[.int .i64 sz, .int .i64 st, .slice a len cap] 43)).alloc (.cells #[.int .i64 0, .int .i64 0, .slice none 0 0] 34)).alloc (.cells #[.int .i64 sz, .int .i64 st, .slice none 0 0] 34)) := (((Below.refl _ _).alloc (Nat.le_refl _) _).alloc (by simp) _).alloc (by simp; omega) _
  have hC := copy_any a len cap xs _ (hv.below hB (Nat.le_refl _)) hl
  have z2 : Bx (((w.alloc (.cells #[.int .i64 sz, .int .i64 st, .slice a len cap] 43)).alloc (.cells #[.int .i64 0, .int .i64 0, .slice none 0 0] 34)).alloc (.cells #[.int .i64 sz, .int .i64 st, .slice none 0 0] 34)) (w.heap.size + 1) 34 #[.int .i64 0, .int .i64 0, .slice none 0 0] := by
    have := (Bx.new (w.alloc (.cells #[.int .i64 sz, .int .i64 st, .slice a len cap] 43)) 34 #[.int .i64 0, .int .i64 0, .slice none 0 0]).alloc (.cells #[.int .i64 sz, .int .i64 st, .slice none 0 0] 34)
    simpa using this
  have z3 : Bx (((w.alloc (.cells #[.int .i64 sz, .int .i64 st, .slice a len cap] 43)).alloc (.cells #[.int .i64 0, .int .i64 0, .slice none 0 0] 34)).alloc (.cells #[.int .i64 sz, .int .i64 st, .slice none 0 0] 34)) (w.heap.size + 1 + 1) 34 #[.int .i64 sz, .int .i64 st, .slice none 0 0] := by
    have := Bx.new ((w.alloc (.cells #[.int .i64 sz, .int .i64 st, .slice a len cap] 43)).alloc (.cells #[.int .i64 0, .int .i64 0, .slice none 0 0] 34)) 34 #[.int .i64 sz, .int .i64 st, .slice none 0 0]
    simpa using this
  have z1 : Bx ((((w.alloc (.cells #[.int .i64 sz, .int .i64 st, .slice a len cap] 43))).alloc (.cells #[.int .i64 0, .int .i64 0, .slice none 0 0] 34)).alloc (.cells #[.int .i64 sz, .int .i64 st, .slice none 0 0] 34)) w.heap.size 43 #[.int .i64 sz, .int .i64 st, .slice a len cap] := ((Bx.new _ _ _).alloc _).alloc _
  have hsz : (((w.alloc (.cells #[.int .i64 sz, .int .i64 st, .slice a len cap] 43)).alloc (.cells #[.int .i64 0, .int .i64 0, .slice none 0 0] 34)).alloc (.cells #[.int .i64 sz, .int .i64 st, .slice none 0 0] 34)).heap.size = w.heap.size + 1 + 1 + 1 := by simp
  generalize hW3 : ((w.alloc (.cells #[.int .i64 sz, .int .i64 st, .slice a len cap] 43)).alloc (.cells #[.int .i64 0, .int .i64 0, .slice none 0 0] 34)).alloc (.cells #[.int .i64 sz, .int .i64 st, .slice none 0 0] 34) = W3 at *
  have z12 := z1.at 2 rfl
  go_enter Try.func39, Try.ntmps39
  go_wp2_with (go_at_call 72; refine hC.mono ?_; rintro e w1 ⟨b, rfl, hb, hr, hB1⟩; have y2 := z2.below hB1; have y3 := z3.below hB1; have y20 := y2.at 0 rfl; have y21 := y2.at 1 rfl; have y22 := y2.at 2 rfl; have y2f := y2.f 0; have y2g := y2.f 1; have y2h := y2.f 2; have y30 := y3.at 0 rfl; have y31 := y3.at 1 rfl; have y32 := y3.at 2 rfl; have y3f := y3.f 2)
  refine bodyPost_ret (v := .agg #[.int .i64 sz, .int .i64 st, .slice (some ⟨b, 0, none⟩) len len]) (by simp [results, Try.results39, go_sem, y20, y21, y22]) rfl ?_
  have hB2 : Below w.heap.size w w1 := hB.trans (hB1.mono hB.size)
  have hs1 := hB.size
  refine ⟨b, rfl, by omega, ?_, set3 (hB2.setCell (p := ⟨w.heap.size + 1 + 1, 2, none⟩) (by show w.heap.size ≤ w.heap.size + 1 + 1; omega) _) (Nat.le_succ _)⟩
  exact row_other (row_other (row_other (row_other hr (by omega)) (by omega)) (by omega)) (by omega)

set_option maxRecDepth 100000 in
set_option maxHeartbeats 800000 in
theorem eqW_any (sz st : Int) (a1 a2 : Option Addr) (len c1 c2 : Nat) (Z : List Int) (w : World) (h1 : Vec w a1 len Z) (h2 : Vec w a2 len Z) (hm : len ≤ maxLen) :
    Calls Try.prog 40 #[wiV sz st a1 len c1, wiV sz st a2 len c2] w fun e w' => e = .returned (.bool true) ∧ Below w.heap.size w w' := by
  have hB : Below w.heap.size w ((w.alloc (.cells #[.int .i64 sz, .int .i64 st, .slice a1 len c1] 34)).alloc (.cells #[.int .i64 sz, .int .i64 st, .slice a2 len c2] 34)) := ((Below.refl _ _).alloc (Nat.le_refl _) _).alloc (by simp) _
  have hE := eq_any a1 a2 len c1 len c2 Z Z _ (h1.below hB (Nat.le_refl _)) (h2.below hB (Nat.le_refl _)) hm
  rw [show decide (Z = Z) = true by simp] at hE
  have b0 : (sz != sz) = false := by simp
  have b1 : (st != st) = false := by simp
  have z1 : Bx ((w.alloc (.cells #[.int .i64 sz, .int .i64 st, .slice a1 len c1] 34)).alloc (.cells #[.int .i64 sz, .int .i64 st, .slice a2 len c2] 34)) w.heap.size 34 #[.int .i64 sz, .int .i64 st, .slice a1 len c1] := (Bx.new _ _ _).alloc _
  have z2 : Bx ((w.alloc (.cells #[.int .i64 sz, .int .i64 st, .slice a1 len c1] 34)).alloc (.cells #[.int .i64 sz, .int .i64 st, .slice a2 len c2] 34)) (w.heap.size + 1) 34 #[.int .i64 sz, .int .i64 st, .slice a2 len c2] := by
    have := Bx.new (w.alloc (.cells #[.int .i64 sz, .int .i64 st, .slice a1 len c1] 34)) 34 #[.int .i64 sz, .int .i64 st, .slice a2 len c2]
    simpa using this
  have z10 := z1.at 0 rfl
  have z11 := z1.at 1 rfl
  have z12 := z1.at 2 rfl
  have z20 := z2.at 0 rfl
  have z21 := z2.at 1 rfl
  have z22 := z2.at 2 rfl
  unfold wiV
  generalize hW : (w.alloc (.cells #[.int .i64 sz, .int .i64 st, .slice a1 len c1] 34)).alloc (.cells #[.int .i64 sz, .int .i64 st, .slice a2 len c2] 34) = W at *
  go_enter Try.func40, Try.ntmps40
  go_wp2_with (go_at_call 73; refine hE.mono ?_; rintro e w1 ⟨rfl, n, hw1⟩; have HW : Hid (Below w.heap.size w w1) := (by rw [Hid, hw1]; exact belowN hB); clear hw1)
  go_ret
  exact ⟨rfl, HW.out⟩

set_option maxRecDepth 100000 in
set_option maxHeartbeats 800000 in
theorem markW_any (sz st : Int) (a : Option Addr) (c : Nat) (Z : List Int) (w : World) (h : SlC w a c Z) (hn : Z.length ≤ 10000000) :
    Calls Try.prog 41 #[wiV sz st a Z.length c, .int .i64 1] w fun e w' => e = .returned (.int .i64 (1 + (Z.length : Int))) ∧ SlC w' a c (marks Z.length 1) ∧ Wr w w' a Z := by
  have hB := one_alloc w (.cells #[.int .i64 sz, .int .i64 st, .slice a Z.length c] 34)
  have hM := markC_any a c 1 1 Z _ (h.below hB) rfl (by omega) hn
  have z2 := (Bx.new w 34 #[.int .i64 sz, .int .i64 st, .slice a Z.length c]).at 2 rfl
  unfold wiV
  generalize hW : w.alloc (.cells #[.int .i64 sz, .int .i64 st, .slice a Z.length c] 34) = W at *
  go_enter Try.func41, Try.ntmps41
  go_wp2_with (go_at_call 74; refine hM.mono ?_; rintro e w1 ⟨rfl, h1, h2⟩)
  go_ret
  exact ⟨rfl, h1, Wr.after hB h2⟩
set_option maxRecDepth 100000 in
set_option maxHeartbeats 800000 in
theorem heldW_any (sz st : Int) (a : Option Addr) (c n : Nat) (w : World) (h : SlC w a c (marks n 1)) (hn : n ≤ 10000000) :
    Calls Try.prog 42 #[wiV sz st a n c, .int .i64 1] w fun e w' => e = .returned (.int .i64 (1 + (n : Int))) ∧ Below w.heap.size w w' := by
  have hB := one_alloc w (.cells #[.int .i64 sz, .int .i64 st, .slice a n c] 34)
  have hM := heldC_any a c 1 n 1 _ (h.below hB) rfl (by omega) hn
  have z2 := (Bx.new w 34 #[.int .i64 sz, .int .i64 st, .slice a n c]).at 2 rfl
  have hp : decide ((1 : Int) + (n : Int) < 0) = false := by simp; omega
  unfold wiV
  generalize hW : w.alloc (.cells #[.int .i64 sz, .int .i64 st, .slice a n c] 34) = W at *
  go_enter Try.func42, Try.ntmps42
  go_wp2_with (go_at_call 75; refine hM.mono ?_; rintro e w1 ⟨rfl, hw1⟩; have HW : Hid (Below w.heap.size w w1) := (by rw [Hid, hw1]; exact hB); clear hw1)
  go_ret
  exact ⟨rfl, HW.out⟩
end Go.Proofs.Ytkompamocpnefaa
