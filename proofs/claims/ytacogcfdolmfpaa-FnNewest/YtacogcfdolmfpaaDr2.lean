/-
  The contracts of the laws' has and rises, and of the specification's l1From and l2Draw.
-/
import Derived.Test.YtacogcfdolmfpaaPa3
namespace Go.Proofs.Ytacogcfdolmfpaa
set_option linter.unusedSimpArgs false
set_option linter.unusedVariables false
open Go.RowKit Go.Sort

set_option maxHeartbeats 400000 in
theorem has_any (b off len cap : Nat) (x : Int) (xs : List Int) (w : World) (hlen : xs.length = len) (hc : ∀ i, i < len → w.cell? ⟨b, off + i, none⟩ = some (.int .i64 (el xs i))) (hm : len ≤ maxLen) :
    Calls Try.prog 40 #[.slice (some ⟨b, off, none⟩) len cap, .int .i64 x] w fun e w' => e = .returned (.bool (decide (x ∈ xs))) ∧ w' = w := by
  unfold maxLen at hm
  have HL : Hid (xs.length = len) := hlen
  clear hlen
  go_enter Try.func40, Try.ntmps40
  go_wp2
  go_loop [5] (fun i => ∃ k : Nat, k ≤ len ∧ i = .int .i64 k ∧ ∀ j, j < k → el xs j ≠ x) (fun i => len - (intOf i).toNat)
  case atStart => exact ⟨0, Nat.zero_le _, rfl, fun j hj => by omega⟩
  case round =>
    obtain ⟨k, hk, rfl, hno⟩ := hrel
    have HN : Hid (∀ j, j < k → el xs j ≠ x) := hno
    clear hno
    by_cases hlt : k < len
    · have hck := hc k hlt
      by_cases he : el xs k = x
      · have hb : (el xs k == x) = true := by simpa using he
        have HF : Hid (decide (x ∈ xs) = true) := by rw [Hid, decide_eq_true_eq]; exact el_mem_iff.2 ⟨k, by rw [HL.out]; exact hlt, he⟩
        clear he
        go_wp2
        go_ret
        exact ⟨ret_bool (by rw [HF.out]), rfl⟩
      · have hb : (el xs k == x) = false := by simpa using he
        have HE : Hid (el xs k ≠ x) := he
        clear he
        go_wp2
        go_round
        case rel => exact ⟨k + 1, by omega, by go_num, fun j hj => by
          rcases Nat.lt_succ_iff_lt_or_eq.1 hj with h | h
          · exact HN.out j h
          · rw [h]; exact HE.out⟩
        case measure => simp [intOf]; omega
    · have HF : Hid (decide (x ∈ xs) = false) := by
        rw [Hid, decide_eq_false_iff_not, el_mem_iff]
        rintro ⟨j, hj, e⟩
        exact HN.out j (by rw [HL.out] at hj; omega) e
      go_wp2
      go_ret
      exact ⟨ret_bool (by rw [HF.out]), rfl⟩

set_option maxHeartbeats 400000 in
theorem from_any (p : Nat) (a : Option Addr) (len cap : Nat) (bs : Nat → Int) (lo hi : Int) (w : World) (hcur : CurAt w p a len cap) (hv : BVec w a len bs) (hp : OffB a len p) (hl : len ≤ 4096) (h0 : -1000 ≤ lo) (h1 : lo ≤ hi) (h2 : hi ≤ 100000) :
    Calls Try.prog 91 #[.pointer (some ⟨p, 0, none⟩), .int .i64 lo, .int .i64 hi] w fun e w' => ∃ x : Int, e = .returned (.int .i64 x) ∧ lo ≤ x ∧ x ≤ hi ∧ CurAt w' p a len cap ∧ w.grownBy w' (some p) := by
  have hB := below_any p a len cap bs (hi - lo + 1) w hcur hv hp hl (by omega)
  go_enter Try.func91, Try.ntmps91
  go_wp2_with fail
  refine hB.mono ?_
  rintro e w1 ⟨x, rfl, hx0, hx1, hx2, hc1, hg1⟩
  have hx3 := hx1 (by omega)
  have hb1 : lo + x ≤ 9223372036854775807 := by omega
  have hb2 : -9223372036854775808 ≤ lo + x := by omega
  clear hx1 hx2
  go_wp2
  go_ret
  exact ⟨lo + x, rfl, by omega, by omega, hc1, hg1⟩
end Go.Proofs.Ytacogcfdolmfpaa
