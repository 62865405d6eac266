/-
  Several texts in one: Ick.
-/
import Derived.Test.YtbnpliobigjapaaDoorGs
/-
  The contract of the program's Check.
-/
namespace Go.Proofs.YtbnpliobigjapaaDoor
set_option linter.unusedSimpArgs false
set_option linter.unusedVariables false
open Go.RowKit Go.Sort

set_option maxHeartbeats 400000 in
theorem implCheck_same (l : List UInt8) (w : World) (hl : l.length ≤ 1048576) :
    Calls Tryd.prog 59 #[.string (sv l)] w fun e w' => e = .returned (.int .i64 (chk l)) ∧ w' = w := by
  have hsz := sv_size l
  go_enter Tryd.func59, Tryd.ntmps59
  go_wp2
  go_loop [3, 7] (fun h i => ∃ k : Nat, k ≤ l.length ∧ i = .int .i64 k ∧ h = .int .i64 (chk (l.take k))) (fun _ i => l.length - (intOf i).toNat)
  case atStart => exact ⟨0, Nat.zero_le _, rfl, rfl⟩
  case round =>
    obtain ⟨k, hk, rfl, rfl⟩ := hrel
    by_cases hlt : k < l.length
    · have HS : Hid (chk (l.take (k + 1)) = (37 * chk (l.take k) + (l[k].toNat : Int)) % 999983) := by rw [Hid, take_byte hlt, chk_snoc]
      have hx := sv_byte hlt
      have hb := l[k].toNat_lt
      have hc := chk_bound (l.take k)
      generalize chk (l.take k) = y at *
      have HE : Hid ((wrap64 (37 * y + wrap64 (l[k].toNat : Int))).tmod 999983 = (37 * y + (l[k].toNat : Int)) % 999983) := by
        rw [Hid, wr64 (z := (l[k].toNat : Int)) (by omega) (by omega), wr64 (by omega) (by omega), Int.tmod_eq_emod_of_nonneg (by omega)]
      clear hb
      have k1 : (k : Int) < (l.length : Int) := by omega
      have k0 : (0 : Int) ≤ (k : Int) := by omega
      go_wp2
      go_round
      case rel => exact ⟨k + 1, by omega, by go_num, by rw [HS.out, ← HE.out]; rfl⟩
      case measure => simp [intOf]; omega
    · have hkl : k = l.length := by omega
      subst hkl
      go_wp2
      go_ret
      exact ⟨ret_int rfl, rfl⟩
theorem implCheck_any : ImplCheck := fun l w hl => (implCheck_same l w hl).mono fun e w' ⟨he, hw⟩ => ⟨he, by rw [hw]; exact Below.refl _ _⟩
end Go.Proofs.YtbnpliobigjapaaDoor
