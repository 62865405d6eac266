/-
  Several texts in one: Ivk.
-/
import Derived.Test.YtgaibngaincahaaMa
import Derived.Test.YtgaibngaincahaaHy
/-
  The program's isWithin, risesWithin, slices.Index and slices.Contains; ViewOk, Leader, Rank and Majority of views.
-/
namespace Go.Proofs.Ytgaibngaincahaa
set_option linter.unusedVariables false
set_option linter.unusedSimpArgs false
open Go.RowKit Go.Sort

set_option maxHeartbeats 400000 in
theorem isW14_any (n last : Int) (w : World) : Calls Try.prog 88 #[.int .i64 n, .int .i64 last] w fun e w' => e = .returned (.bool (inB n 0 last)) ∧ w' = w := by
  by_cases h0 : (0 : Int) ≤ n
  · have H : Hid (inB n 0 last = decide (n ≤ last)) := by rw [Hid, inB]; simp [h0]
    go_enter Try.func88, Try.ntmps88
    go_wp2
    go_ret
    exact ⟨ret_bool (by rw [H.out]), rfl⟩
  · have H : Hid (inB n 0 last = false) := by rw [Hid, inB]; simp [h0]
    go_enter Try.func88, Try.ntmps88
    go_wp2
    go_ret
    exact ⟨ret_bool (by rw [H.out]), rfl⟩
set_option maxHeartbeats 800000 in
theorem rw14_any (a : Option Addr) (len cap : Nat) (B : Int) (xs : List Int) (w : World) (hv : Vec w a len xs) (hm : len ≤ maxLen) :
    Calls Try.prog 91 #[.slice a len cap, .int .i64 (B - 1)] w fun e w' => e = .returned (.bool (decide (okRow B xs))) ∧ w' = w := by
  unfold maxLen at hm
  have HL : Hid (xs.length = len) := hv.1
  have hc := hv.2.2
  clear hv
  go_enter Try.func91, Try.ntmps91
  go_wp2
  go_loop [9] (fun i => ∃ k : Nat, k ≤ len ∧ i = .int .i64 k ∧ (∀ j, j < k → 0 ≤ el xs j ∧ el xs j ≤ B - 1) ∧ ∀ j, j + 1 < k → el xs j < el xs (j + 1)) (fun i => len - (intOf i).toNat)
  case atStart => exact ⟨0, Nat.zero_le _, rfl, fun j hj => by omega, fun j hj => by omega⟩
  case round =>
    obtain ⟨k, hk, rfl, hin, hri⟩ := hrel
    have HI : Hid (∀ j, j < k → 0 ≤ el xs j ∧ el xs j ≤ B - 1) := hin
    have HR : Hid (∀ j, j + 1 < k → el xs j < el xs (j + 1)) := hri
    clear hin hri
    by_cases hlt : k < len
    · rcases hc with h0 | ⟨b, off, rfl, hc⟩
      · omega
      have hck := hc k hlt
      have k0 : (0 : Int) ≤ (k : Int) := by omega
      have k1 : (k : Int) < (len : Int) := by omega
      cases e4 : inB (el xs k) 0 (B - 1) with
      | false =>
        have HF : Hid (decide (okRow B xs) = false) := decide_eq_false (fun h => by
          have := h.1 k (by rw [HL.out]; exact hlt)
          rw [inB7.2 this] at e4
          cases e4)
        go_wp2_with (go_at_call 88; refine (isW14_any _ _ _).mono ?_; rintro e w' ⟨rfl, hw'⟩; rw [hw']; clear hw')
        go_ret
        exact ⟨ret_bool (by rw [HF.out]), rfl⟩
      | true =>
        have HX : Hid (0 ≤ el xs k ∧ el xs k ≤ B - 1) := inB7.1 e4
        by_cases hk0 : 0 < k
        · obtain ⟨q, rfl⟩ : ∃ q, k = q + 1 := ⟨k - 1, by omega⟩
          have hcq := hc q (by omega)
          have hg : decide (((q + 1 : Nat) : Int) > 0) = true := decide_eq_true (by omega)
          have g0 : (0 : Int) < ((q + 1 : Nat) : Int) := by omega
          have hq : wrap64 (((q + 1 : Nat) : Int) - 1) = (q : Int) := by unfold wrap64; omega
          have q0 : (0 : Int) ≤ (q : Int) := by omega
          have q1 : (q : Int) < (len : Int) := by omega
          by_cases hx : el xs q < el xs (q + 1)
          · have hd : decide (el xs (q + 1) ≤ el xs q) = false := by simp; omega
            have HY : Hid (el xs q < el xs (q + 1)) := hx
            clear hx
            go_wp2_with (go_at_call 88; refine (isW14_any _ _ _).mono ?_; rintro e w' ⟨rfl, hw'⟩; rw [hw']; clear hw')
            go_round
            case rel => exact ⟨q + 1 + 1, by omega, by go_num, fun j hj => by
              rcases Nat.lt_succ_iff_lt_or_eq.1 hj with h | h
              · exact HI.out j h
              · rw [h]; exact HX.out, fun j hj => by
              rcases Nat.lt_succ_iff_lt_or_eq.1 hj with h | h
              · exact HR.out j h
              · have : j = q := by omega
                rw [this]; exact HY.out⟩
            case measure => simp [intOf]; omega
          · have hd : decide (el xs (q + 1) ≤ el xs q) = true := by simp; omega
            have HF : Hid (decide (okRow B xs) = false) := decide_eq_false (fun h => hx (h.2 q (by rw [HL.out]; omega)))
            clear hx
            go_wp2_with (go_at_call 88; refine (isW14_any _ _ _).mono ?_; rintro e w' ⟨rfl, hw'⟩; rw [hw']; clear hw')
            go_ret
            exact ⟨ret_bool (by rw [HF.out]), rfl⟩
        · obtain rfl : k = 0 := by omega
          rw [Nat.add_zero] at hck
          go_wp2_with (go_at_call 88; refine (isW14_any _ _ _).mono ?_; rintro e w' ⟨rfl, hw'⟩; rw [hw']; clear hw')
          go_round
          case rel => exact ⟨1, by omega, by go_num, fun j hj => by
            obtain rfl : j = 0 := by omega
            exact HX.out, fun j hj => by omega⟩
          case measure => simp [intOf]; omega
    · have hkl : k = len := by omega
      have HF : Hid (decide (okRow B xs) = true) := decide_eq_true ⟨fun j hj => HI.out j (by rw [HL.out] at hj; omega), fun j hj => HR.out j (by rw [HL.out] at hj; omega)⟩
      subst hkl
      clear hc
      go_wp2
      go_ret
      exact ⟨ret_bool (by rw [HF.out]), rfl⟩


theorem okRow14 {M : List Int} : okRow 100 M ↔ M.Pairwise (· < ·) ∧ ∀ x ∈ M, 0 ≤ x ∧ x ≤ 99 := by
  unfold okRow
  constructor
  · rintro ⟨h1, h2⟩
    refine ⟨rises_pairwise.1 (fun i hi => h2 i (by omega)), fun x hx => ?_⟩
    obtain ⟨i, hi, rfl⟩ := el_of hx
    have := h1 i hi
    omega
  · rintro ⟨h1, h2⟩
    refine ⟨fun i hi => ?_, fun i hi => el_up h1 (by omega) (by omega)⟩
    have := h2 _ (el_in hi)
    omega
theorem okVw_row {F : Int} {M : List Int} (h1 : ¬ (F < 1)) (h2 : ¬ (1000000 < F)) (h3 : ¬ (M.length < 1)) (h4 : ¬ (8 < M.length)) : decide (okRow 100 M) = decide (okVw (F, M)) := by
  have : okRow 100 M ↔ okVw (F, M) := by
    rw [okRow14]
    constructor
    · rintro ⟨a, b⟩
      exact ⟨⟨by dsimp only; omega, by dsimp only; omega⟩, ⟨by dsimp only; omega, by dsimp only; omega⟩, a, b⟩
    · rintro ⟨_, _, a, b⟩
      exact ⟨a, b⟩
  by_cases h : okVw (F, M)
  · rw [decide_eq_true h, decide_eq_true (this.2 h)]
  · rw [decide_eq_false h, decide_eq_false (fun h' => h (this.1 h'))]
/-- The first place of x among these, or -1. -/
def IsIdx (xs : List Int) (x z : Int) : Prop := (∃ k : Nat, k < xs.length ∧ z = (k : Int) ∧ el xs k = x ∧ ∀ j, j < k → el xs j ≠ x) ∨ (z = -1 ∧ ∀ j, j < xs.length → el xs j ≠ x)
theorem IsIdx.mem {xs : List Int} {x z : Int} (h : IsIdx xs x z) : decide (0 ≤ z) = decide (x ∈ xs) := by
  rcases h with ⟨k, hk, rfl, rfl, _⟩ | ⟨rfl, h⟩
  · rw [decide_eq_true (el_in hk), decide_eq_true (by omega)]
  · rw [decide_eq_false (by omega), decide_eq_false (fun hx => by obtain ⟨i, hi, e⟩ := el_of hx; exact h i hi e)]
set_option maxHeartbeats 800000 in
theorem idx14_any (a : Option Addr) (cap : Nat) (xs : List Int) (x : Int) (w : World) (hv : Vec w a xs.length xs) (hm : xs.length ≤ maxLen) :
    Calls Try.prog 119 #[.slice a xs.length cap, .int .i64 x] w fun e w' => (∃ z : Int, e = .returned (.int .i64 z) ∧ IsIdx xs x z) ∧ w' = w := by
  unfold maxLen at hm
  have hc := hv.2.2
  clear hv
  go_enter Try.func119, Try.ntmps119
  go_wp2
  go_loop [8] (fun i => ∃ k : Nat, k ≤ xs.length ∧ i = .int .i64 k ∧ ∀ j, j < k → el xs j ≠ x) (fun i => xs.length - (intOf i).toNat)
  case atStart => exact ⟨0, Nat.zero_le _, rfl, fun j hj => by omega⟩
  case round =>
    obtain ⟨k, hk, rfl, hall⟩ := hrel
    have HA : Hid (∀ j, j < k → el xs j ≠ x) := hall
    clear hall
    by_cases hlt : k < xs.length
    · rcases hc with h0 | ⟨b, off, rfl, hc⟩
      · omega
      have hck := hc k hlt
      clear hc
      have k0 : (0 : Int) ≤ (k : Int) := by omega
      have k1 : (k : Int) < (xs.length : Int) := by omega
      by_cases hx : el xs k = x
      · have HX : Hid (IsIdx xs x (k : Int)) := .inl ⟨k, hlt, rfl, hx, HA.out⟩
        have hq : (x == el xs k) = true := by simp [hx]
        clear hx
        generalize el xs k = E at *
        go_wp2
        go_ret
        exact ⟨⟨_, rfl, HX.out⟩, rfl⟩
      · have HX : Hid (∀ j, j < k + 1 → el xs j ≠ x) := fun j hj => by
          by_cases e : j = k
          · rw [e]; exact hx
          · exact HA.out j (by omega)
        have hq : (x == el xs k) = false := by simp [Ne.symm hx]
        clear hx
        generalize el xs k = E at *
        go_wp2
        go_round
        case rel => exact ⟨k + 1, by omega, by go_num, HX.out⟩
        case measure => simp [intOf]; omega
    · have k1 : ¬ ((k : Int) < (xs.length : Int)) := by omega
      obtain rfl : k = xs.length := by omega
      clear hc
      go_wp2
      go_ret
      exact ⟨⟨_, rfl, .inr ⟨rfl, HA.out⟩⟩, rfl⟩
set_option maxHeartbeats 400000 in
theorem con14_any (a : Option Addr) (cap : Nat) (xs : List Int) (x : Int) (w : World) (hv : Vec w a xs.length xs) (hm : xs.length ≤ maxLen) :
    Calls Try.prog 118 #[.slice a xs.length cap, .int .i64 x] w fun e w' => e = .returned (.bool (decide (x ∈ xs))) ∧ w' = w := by
  have hI := idx14_any a cap xs x w hv hm
  clear hv
  go_enter Try.func118, Try.ntmps118
  go_wp2_with (go_at_call 119; refine hI.mono ?_; rintro e w' ⟨⟨z, rfl, hz⟩, hw'⟩; rw [hw']; clear hw'; have HZ : Hid (IsIdx xs x z) := hz; clear hz)
  go_ret
  exact ⟨ret_bool (by rw [← HZ.out.mem]), rfl⟩
end Go.Proofs.Ytgaibngaincahaa
