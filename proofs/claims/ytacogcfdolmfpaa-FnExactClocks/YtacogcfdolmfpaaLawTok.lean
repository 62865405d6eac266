/-
  The walk of the law FnExactTraceOk.
-/
import Derived.Test.YtacogcfdolmfpaaEcp
namespace Go.Proofs.Ytacogcfdolmfpaa
open Go.RowKit Go.Sort

set_option maxHeartbeats 400000 in
theorem sz_big (a : Option Addr) (len cap : Nat) (w : World) (hb : (1048576 : Int) < (len : Int)) (hm : len ≤ maxLen) :
    Calls Try.prog 54 #[.slice a len cap, .int .i64 1048576] w fun e w' => e = .returned (.int .i64 (-1)) ∧ w' = w := by
  unfold maxLen at hm
  have h0 : (1048576 : Int) - (len : Int) < 0 := by omega
  go_enter Try.func54, Try.ntmps54
  go_wp2
  go_ret
  exact ⟨rfl, rfl⟩
set_option maxHeartbeats 400000 in
theorem sz_small (a : Option Addr) (len cap : Nat) (w : World) (hb : ¬ (1048576 : Int) < (len : Int)) :
    Calls Try.prog 54 #[.slice a len cap, .int .i64 1048576] w fun e w' => e = .returned (.int .i64 (1048576 - (len : Int))) ∧ w' = w := by
  have h0 : decide ((1048576 : Int) - (len : Int) < 0) = false := by simp; omega
  go_enter Try.func54, Try.ntmps54
  go_wp2
  go_ret
  exact ⟨rfl, rfl⟩

end Go.Proofs.Ytacogcfdolmfpaa
