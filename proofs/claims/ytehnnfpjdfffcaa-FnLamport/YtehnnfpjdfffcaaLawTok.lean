/-
  The walk of the law FnExactTraceOk.
-/
import Derived.Test.YtehnnfpjdfffcaaEcp
namespace Go.Proofs.Ytehnnfpjdfffcaa
open Go.RowKit Go.Sort

set_option maxHeartbeats 400000 in
theorem sz_big (a : Option Addr) (len cap : Nat) (w : World) (hb : (1048576 : Int) < (len : Int)) (hm : len ≤ maxLen) :
    Calls Try.prog 44 #[.slice a len cap, .int .i64 1048576] w fun e w' => e = .returned (.int .i64 (-1)) ∧ w' = w := by
  unfold maxLen at hm
  have h0 : (1048576 : Int) - (len : Int) < 0 := by omega
  go_enter Try.func44, Try.ntmps44
  go_wp2
  go_ret
  exact ⟨rfl, rfl⟩
set_option maxHeartbeats 400000 in
theorem sz_small (a : Option Addr) (len cap : Nat) (w : World) (hb : ¬ (1048576 : Int) < (len : Int)) :
    Calls Try.prog 44 #[.slice a len cap, .int .i64 1048576] w fun e w' => e = .returned (.int .i64 (1048576 - (len : Int))) ∧ w' = w := by
  have h0 : decide ((1048576 : Int) - (len : Int) < 0) = false := by simp; omega
  go_enter Try.func44, Try.ntmps44
  go_wp2
  go_ret
  exact ⟨rfl, rfl⟩

set_option maxRecDepth 100000 in
set_option maxHeartbeats 1600000 in
/-- The law FnExactTraceOk. -/
theorem lawTok (a : Option Addr) (len cap : Nat) (es : List Ev) (w : World) (hv : EvS w a len es) (hcap : len ≤ cap) (hm : cap ≤ maxLen) :
    Calls Try.prog 6 #[.slice a len cap] w fun e w' => e = .returned (.bool true) ∧ Below w.heap.size w w' := by
  have hl : len ≤ maxLen := Nat.le_trans hcap hm
  by_cases hbig : (1048576 : Int) < (len : Int)
  · go_enter Try.func6, Try.ntmps6
    go_wp2_with fail
    refine (sz_big a len cap w hbig hl).mono ?_
    rintro e w1 ⟨rfl, hw1⟩
    have HW : Hid (w1 = w) := hw1
    clear hw1
    go_wp2
    go_ret
    exact ⟨rfl, by rw [HW.out]; exact Below.refl _ _⟩
  · have hsm : len ≤ 1048576 := by omega
    have hpos : decide ((1048576 : Int) - (len : Int) < 0) = false := by simp; omega
    go_enter Try.func6, Try.ntmps6
    go_wp2_with fail
    refine (sz_small a len cap w (by omega)).mono ?_
    rintro e w1 ⟨rfl, hw1⟩
    have G1 : Grew w w1 := by rw [hw1]; exact Grew.refl _
    clear hw1
    go_wp2_with fail
    refine (copyE_any a len cap es w1 (hv.grew G1) hsm).mono ?_
    rintro e w2 ⟨b2, rfl, _, hr2, hg2⟩
    go_wp2_with fail
    refine (specTok_any b2 0 len len es w2 hr2.at hl (Nat.le_refl _)).mono ?_
    rintro e w3 ⟨rfl, hg3⟩
    have G3 : Grew w w3 := G1.trans (hg2.trans hg3)
    clear hr2 hg2 hg3 G1
    go_wp2_with fail
    refine (copyE_any a len cap es w3 (hv.grew G3) hsm).mono ?_
    rintro e w4 ⟨b4, rfl, _, hr4, hg4⟩
    go_wp2_with fail
    refine (implTok_any b4 0 len len es w4 hr4.at hl (Nat.le_refl _)).mono ?_
    rintro e w5 ⟨rfl, hg5⟩
    have G5 : Grew w w5 := G3.trans (hg4.trans hg5)
    have hr5 := hr4.grew hg5
    clear hr4 hg4 hg5 G3
    go_wp2_with fail
    refine (copyE_any a len cap es w5 (hv.grew G5) hsm).mono ?_
    rintro e w6 ⟨b6, rfl, _, hr6, hg6⟩
    have hr5' := hr5.grew hg6
    have G6 : Grew w w6 := G5.trans hg6
    clear hg6 hr5 G5
    go_wp2_with fail
    refine (eqE_any b4 b6 0 0 len len len es w6 hr5'.at hr6.at hl).mono ?_
    rintro e w7 ⟨rfl, hg7⟩
    have G7 : Grew w w7 := G6.trans hg7
    clear hg7 G6 hr5' hr6
    go_wp2
    go_ret
    exact ⟨rfl, G7.1⟩
end Go.Proofs.Ytehnnfpjdfffcaa
