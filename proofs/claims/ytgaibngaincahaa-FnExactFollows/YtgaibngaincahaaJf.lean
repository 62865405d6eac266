/-
  Several texts in one: Rlr Rlo.
-/
import Derived.Test.YtgaibngaincahaaJe
import Derived.Test.YtgaibngaincahaaHy
import Derived.Test.YtgaibngaincahaaHh
/-
  Lists of lists in memory; the specification's l1Has, l1Rises and RelayOk.
-/
namespace Go.Proofs.Ytgaibngaincahaa
set_option linter.unusedVariables false
set_option linter.unusedSimpArgs false
open Go.RowKit Go.Sort

/-- A slice of slices of numbers, to be read. -/
structure VV (w : World) (a : Option Addr) (len cap : Nat) (H : List (List Int)) : Prop where
  n : H.length = len
  le : len ≤ cap
  mx : cap ≤ maxLen
  row : ∀ i, i < len → ∃ b off x c, a = some ⟨b, off, none⟩ ∧ w.cell? ⟨b, off + i, none⟩ = some (.slice x (row H i).length c) ∧ Vec w x (row H i).length (row H i) ∧ (row H i).length ≤ c ∧ c ≤ maxLen
theorem VV.drewN {w : World} {a : Option Addr} {len cap : Nat} {H : List (List Int)} (h : VV w a len cap H) (n : Nat) : VV (w.drewN n) a len cap H := ⟨h.n, h.le, h.mx, h.row⟩
theorem el_mem10 {xs : List Int} {x : Int} : x ∈ xs ↔ ∃ j, j < xs.length ∧ el xs j = x := by
  constructor
  · intro h
    obtain ⟨i, hi, rfl⟩ := List.getElem_of_mem h
    exact ⟨i, hi, by rw [el_eq hi]⟩
  · rintro ⟨j, hj, rfl⟩
    exact el_mem hj
def risB (xs : List Int) : Bool := decide (∀ i, i < xs.length - 1 → el xs i < el xs (i + 1))

set_option maxHeartbeats 400000 in
theorem l1Has_any (a : Option Addr) (len cap : Nat) (x : Int) (xs : List Int) (w : World) (hv : Vec w a len xs) (hm : len ≤ maxLen) :
    Calls Try.prog 94 #[.slice a len cap, .int .i64 x] w fun e w' => e = .returned (.bool (decide (x ∈ xs))) ∧ w' = w := by
  unfold maxLen at hm
  have HL : Hid (xs.length = len) := hv.1
  have hc := hv.2.2
  clear hv
  go_enter Try.func94, Try.ntmps94
  go_wp2
  go_loop [5] (fun i => ∃ k : Nat, k ≤ len ∧ i = .int .i64 k ∧ ∀ j, j < k → el xs j ≠ x) (fun i => len - (intOf i).toNat)
  case atStart => exact ⟨0, Nat.zero_le _, rfl, fun j hj => by omega⟩
  case round =>
    obtain ⟨k, hk, rfl, hno⟩ := hrel
    have HN : Hid (∀ j, j < k → el xs j ≠ x) := hno
    clear hno
    by_cases hlt : k < len
    · rcases hc with h0 | ⟨b, off, rfl, hc⟩
      · omega
      have hck := hc k hlt
      by_cases he : el xs k = x
      · have hb : (el xs k == x) = true := by simpa using he
        have HF : Hid (decide (x ∈ xs) = true) := by rw [Hid, decide_eq_true_eq]; exact el_mem10.2 ⟨k, by rw [HL.out]; exact hlt, he⟩
        clear he
        go_wp2
        go_ret
        exact ⟨ret_bool (by rw [HF.out]), rfl⟩
      · have hb : (el xs k == x) = false := by simpa using he
        have HE : Hid (el xs k ≠ x) := he
        clear he
        go_wp2
        go_round
        case rel => exact ⟨k + 1, by omega, by go_num, fun j hj => by
          rcases Nat.lt_succ_iff_lt_or_eq.1 hj with h | h
          · exact HN.out j h
          · rw [h]; exact HE.out⟩
        case measure => simp [intOf]; omega
    · have HF : Hid (decide (x ∈ xs) = false) := by
        rw [Hid, decide_eq_false_iff_not, el_mem10]
        rintro ⟨j, hj, e⟩
        exact HN.out j (by rw [HL.out] at hj; omega) e
      clear hc
      go_wp2
      go_ret
      exact ⟨ret_bool (by rw [HF.out]), rfl⟩

set_option maxHeartbeats 800000 in
theorem l1Rises_any (a : Option Addr) (len cap : Nat) (xs : List Int) (w : World) (hv : Vec w a len xs) (hm : len ≤ maxLen) :
    Calls Try.prog 95 #[.slice a len cap] w fun e w' => e = .returned (.bool (risB xs)) ∧ ∃ n, w' = w.drewN n := by
  unfold maxLen at hm
  have HL : Hid (xs.length = len) := hv.1
  have hc := hv.2.2
  clear hv
  go_enter Try.func95, Try.ntmps95
  go_wp2
  go_loopw [3] (fun i wr => ∃ k n : Nat, k ≤ len ∧ i = .int .i64 ((k : Int) + 1) ∧ wr = w.drewN n ∧ ∀ j, j < k → el xs j < el xs (j + 1)) (fun i _ => (len + 1) - (intOf i).toNat)
  case atStart => exact ⟨0, 0, Nat.zero_le _, rfl, rfl, fun j hj => by omega⟩
  case round =>
    obtain ⟨k, n, hk, rfl, rfl, hr⟩ := hrel
    have HR : Hid (∀ j, j < k → el xs j < el xs (j + 1)) := hr
    clear hr
    by_cases hlt : k + 1 < len
    · rcases hc with h0 | ⟨b, off, rfl, hc⟩
      · omega
      have c1 := hc (k + 1) hlt
      have c0 := hc k (by omega)
      have h1 : (k : Int) + 1 < (len : Int) := by omega
      have h2 : (k : Int) < (len : Int) := by omega
      have h0 : (0 : Int) ≤ (k : Int) + 1 := by omega
      have h3 : (0 : Int) ≤ (k : Int) := by omega
      have e1 : ((k : Int) + 1).toNat = k + 1 := by omega
      by_cases hx : el xs k < el xs (k + 1)
      · have hd : decide (el xs (k + 1) ≤ el xs k) = false := by simp; omega
        have HX : Hid (el xs k < el xs (k + 1)) := hx
        clear hx
        go_wp2_with fail
        go_quiet (fail)
        go_wp2
        go_roundw
        case rel => exact ⟨k + 1, _, by omega, by go_num, rfl, fun j hj => by
          rcases Nat.lt_succ_iff_lt_or_eq.1 hj with h | h
          · exact HR.out j h
          · rw [h]; exact HX.out⟩
        case measure => simp [intOf]; omega
      · have hd : decide (el xs (k + 1) ≤ el xs k) = true := by simp; omega
        have HF : Hid (risB xs = false) := by
          rw [Hid, risB, decide_eq_false_iff_not]
          intro h
          exact hx (h k (by rw [HL.out]; omega))
        clear hx
        go_wp2_with fail
        go_quiet (fail)
        go_wp2
        go_ret
        exact ⟨ret_bool (by rw [HF.out]), n + nq, by simp⟩
    · have hd : decide ((k : Int) + 1 < (len : Int)) = false := by simp; omega
      have HF : Hid (risB xs = true) := by
        rw [Hid, risB, decide_eq_true_eq]
        intro j hj
        exact HR.out j (by rw [HL.out] at hj; omega)
      clear hc
      go_wp2
      go_ret
      exact ⟨ret_bool (by rw [HF.out]), _, rfl⟩
end Go.Proofs.Ytgaibngaincahaa

/-
  The specification's RelayOk.
-/
namespace Go.Proofs.Ytgaibngaincahaa
set_option linter.unusedVariables false
set_option linter.unusedSimpArgs false
open Go.RowKit Go.Sort

/-- A relay as a value. -/
def rlV (N B : Int) (a : Option Addr) (len cap : Nat) : Value := .agg #[.int .i64 N, .int .i64 B, .slice a len cap]
theorem mixedR : Try.prog.follows .mixedOrders = true := by kernel_rfl
theorem VV.grew {w w' : World} {a : Option Addr} {len cap : Nat} {H : List (List Int)} (h : VV w a len cap H) (hg : Grew w w') : VV w' a len cap H :=
  ⟨h.n, h.le, h.mx, fun i hi => by
    obtain ⟨b, off, x, c, e, h1, h2, h3, h4⟩ := h.row i hi
    exact ⟨b, off, x, c, e, hg.cell h1, h2.below hg.1 (Nat.le_refl _), h3, h4⟩⟩

end Go.Proofs.Ytgaibngaincahaa
