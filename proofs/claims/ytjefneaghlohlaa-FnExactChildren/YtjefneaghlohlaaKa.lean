/-
  Several texts in one: Pwa.
-/
import Derived.Test.YtjefneaghlohlaaIq
import Derived.Lib.BitFns
import Derived.Lib.Walk
/-
  The program's bits and bounds: bits.Len64, powerAbove, isTree, isWithin; Rounds, Parent and Depth.
-/
namespace Go.Proofs.Ytjefneaghlohlaa
set_option linter.unusedVariables false
set_option linter.unusedSimpArgs false
open Go.RowKit Go.Sort

/-- How many bits. -/
def bl (n : Nat) : Nat := if n = 0 then 0 else Nat.log2 n + 1
theorem bl_lib1 : ∀ n : Fin 1024, Lib.bitLen n.val = bl n.val := by decide +kernel
theorem bl_lib {n : Nat} (h : n < 1024) : Lib.bitLen n = bl n := bl_lib1 ⟨n, h⟩
theorem bl_pos {n : Nat} (h : 1 ≤ n) : bl n = Nat.log2 n + 1 := by rw [bl, if_neg (by omega)]
theorem log2_lt10 {n : Nat} (h1 : 1 ≤ n) (h : n < 1024) : Nat.log2 n < 10 := by
  rcases Nat.lt_or_ge (Nat.log2 n) 10 with h3 | h3
  · exact h3
  · have h4 : 2 ^ 10 ≤ 2 ^ Nat.log2 n := Nat.pow_le_pow_right (by omega) h3
    have h5 := pw_le h1
    unfold pw at h5
    have : 2 ^ 10 = 1024 := rfl
    omega
theorem bl_le {n : Nat} (h : n < 1024) : bl n ≤ 10 := by
  rcases Nat.eq_zero_or_pos n with e | e
  · subst e; exact Nat.zero_le _
  · rw [bl_pos e]; have := log2_lt10 e h; omega
/-- The least power of two above k. -/
def pa (k : Nat) : Nat := 2 ^ bl k
theorem pa_pos {k : Nat} (h : 1 ≤ k) : pa k = 2 * pw k := by rw [pa, bl_pos h, Nat.pow_succ, Nat.mul_comm]; rfl
theorem pa_gt (k : Nat) : k < pa k := by
  rcases Nat.eq_zero_or_pos k with e | e
  · subst e; exact Nat.one_le_two_pow
  · rw [pa_pos e]; exact lt_pw k
set_option maxRecDepth 100000 in
theorem l8size : (Lib.len8tab.size : Int) = 256 := by
  have : Lib.len8tab.size = 256 := by decide
  omega
theorem l8add (k a b : Nat) (hk : k ≤ 56) (ha : a ≤ 8) (hb : b = k + a) : wrap64 ((k : Int) + wrap64 (a : Int)) = (b : Int) := by
  unfold wrap64
  omega
theorem l8wrap (a : Nat) (ha : a ≤ 8) : wrap64 (wrap64 (a : Int)) = (a : Int) := by
  unfold wrap64
  omega
theorem l8get (y : Int) (h : y.toNat < Lib.len8tab.size) : ((Lib.len8tab[y.toNat]'h).toNat : Int) = Lib.len8 y := by
  unfold Lib.len8
  rw [getElem?_pos Lib.len8tab y.toNat h]
  rfl
set_option maxHeartbeats 4000000 in
set_option maxRecDepth 100000 in
theorem len64_any (n : Nat) (w : World) (h : n < 1024) : Calls Try.prog 79 #[.int .u64 (n : Int)] w fun e w' => e = .returned (.int .i64 (bl n : Int)) ∧ w' = w := by
  have h1 : (n : Int) < 1024 := by omega
  have hx : Hid ((n : Int).toNat = n) := Int.toNat_natCast n
  have h0 : (0 : Int) ≤ (n : Int) := by omega
  generalize hX : (n : Int) = x at *
  have HX : Hid ((n : Int) = x) := hX
  have HN : Hid (n < 1024) := h
  clear hX h
  go_enter Try.func79, Try.ntmps79
  go_wp2
  all_goals first
    | (go_ret; refine ⟨congrArg Ending.returned (congrArg (Value.int IntKind.i64) ?_), rfl⟩)
    | (exfalso
       have hs := l8size
       omega)
  all_goals rw [← bl_lib HN.out, ← hx.out]
  all_goals first
    | (rw [l8get (x / 256) _, Lib.len8_of (x / 256) (by omega) (by omega)]
       have e : (x / 256).toNat = x.toNat / 256 := by omega
       have l := Lib.bitLen_le8' (x / 256) (by omega) (by omega)
       have s := Lib.bitLen_shift8 x.toNat (by omega) (by omega)
       rw [e] at l ⊢
       exact l8add 8 _ _ (by decide) l s)
    | (rw [l8get x _, Lib.len8_of x (by omega) (by omega)]
       have l := Lib.bitLen_le8' x (by omega) (by omega)
       exact l8wrap _ l)

set_option maxHeartbeats 400000 in
theorem isW9_any (n last : Int) (w : World) : Calls Try.prog 74 #[.int .i64 n, .int .i64 last] w fun e w' => e = .returned (.bool (inB n 0 last)) ∧ w' = w := by
  by_cases h0 : (0 : Int) ≤ n
  · have H : Hid (inB n 0 last = decide (n ≤ last)) := by rw [Hid, inB]; simp [h0]
    go_enter Try.func74, Try.ntmps74
    go_wp2
    go_ret
    exact ⟨ret_bool (by rw [H.out]), rfl⟩
  · have H : Hid (inB n 0 last = false) := by rw [Hid, inB]; simp [h0]
    go_enter Try.func74, Try.ntmps74
    go_wp2
    go_ret
    exact ⟨ret_bool (by rw [H.out]), rfl⟩
set_option maxHeartbeats 400000 in
theorem isT9_any (n : Int) (w : World) : Calls Try.prog 77 #[.int .i64 n] w fun e w' => e = .returned (.bool (inB n 1 1000)) ∧ w' = w := by
  by_cases h0 : (1 : Int) ≤ n
  · have H : Hid (inB n 1 1000 = decide (n ≤ 1000)) := by rw [Hid, inB]; simp [h0]
    go_enter Try.func77, Try.ntmps77
    go_wp2
    go_ret
    exact ⟨ret_bool (by rw [H.out]), rfl⟩
  · have H : Hid (inB n 1 1000 = false) := by rw [Hid, inB]; simp [h0]
    go_enter Try.func77, Try.ntmps77
    go_wp2
    go_ret
    exact ⟨ret_bool (by rw [H.out]), rfl⟩
set_option maxHeartbeats 400000 in
theorem pwa_any (k : Nat) (w : World) (h : k < 1024) : Calls Try.prog 75 #[.int .i64 (k : Int)] w fun e w' => e = .returned (.int .i64 (pa k : Int)) ∧ w' = w := by
  have hL := len64_any k w h
  have hb := bl_le h
  have hw := wrap_pow (r := bl k) hb
  have H : Hid (pa k = 2 ^ bl k) := rfl
  generalize pa k = P at *
  generalize bl k = b at *
  rw [← H.out] at hw
  go_enter Try.func75, Try.ntmps75
  go_wp2_with (go_at_call 79; refine hL.mono ?_; rintro e w' ⟨rfl, rfl⟩)
  go_ret
  exact ⟨ret_int hw, rfl⟩
theorem rnd_bl {n : Nat} (h : 1 ≤ n) : rnd n = bl (n - 1) := by
  unfold rnd bl
  by_cases e : n ≤ 1
  · rw [if_pos e, if_pos (by omega)]
  · rw [if_neg e, if_neg (by omega)]
set_option maxHeartbeats 400000 in
theorem implRounds : ImplRounds := by
  intro n w hn
  cases e0 : inB n 1 1000 with
  | false =>
    have HZ : Hid (rndL n = -1) := by rw [Hid, rndL, e0]; rfl
    go_enter Try.func39, Try.ntmps39
    go_wp2_with (go_at_call 77; refine (isT9_any _ _).mono ?_; rintro e w' ⟨rfl, rfl⟩)
    go_ret
    exact ⟨ret_int (by rw [HZ.out]), Below.refl _ _⟩
  | true =>
    have hk := inB7.1 e0
    obtain ⟨N, rfl⟩ : ∃ N : Nat, n = ((N + 1 : Nat) : Int) := ⟨n.toNat - 1, by omega⟩
    have HZ : Hid (rndL ((N + 1 : Nat) : Int) = (bl N : Int)) := by rw [Hid, rndL, e0]; simp only [if_true, Int.toNat_natCast]; rw [rnd_bl (by omega)]; simp
    have hL := fun w => len64_any N w (by omega)
    have he : ((N + 1 : Nat) : Int) - 1 = (N : Int) := by omega
    have hT := fun w => isT9_any ((N + 1 : Nat) : Int) w
    rw [e0] at hT
    clear e0
    go_enter Try.func39, Try.ntmps39
    go_wp2_with (first | (go_at_call 77; refine (hT _).mono ?_; rintro e w' ⟨rfl, rfl⟩) | (go_at_call 79; refine (hL _).mono ?_; rintro e w' ⟨rfl, rfl⟩))
    go_ret
    exact ⟨ret_int (by rw [HZ.out]), Below.refl _ _⟩
theorem inB_zero {k : Int} (h : k ≠ 0) (b : Int) : inB k 0 b = inB k 1 b := by
  rw [Bool.eq_iff_iff, inB7, inB7]; omega
set_option maxHeartbeats 800000 in
theorem parI_any (k : Int) (w : World) : Calls Try.prog 30 #[.int .i64 k] w fun e w' => e = .returned (.int .i64 (parL k)) ∧ w' = w := by
  by_cases k0 : k = 0
  · subst k0
    have HZ : Hid (parL 0 = -1) := by rw [Hid, parL]; rfl
    go_enter Try.func30, Try.ntmps30
    go_wp2_with (go_at_call 74; refine (isW9_any _ _ _).mono ?_; rintro e w' ⟨rfl, rfl⟩)
    go_ret
    exact ⟨ret_int (by rw [HZ.out]), rfl⟩
  · have hW := fun w => isW9_any k 999 w
    have hq : (k == 0) = false := by simpa using k0
    rw [inB_zero k0] at hW
    cases e0 : inB k 1 999 with
    | false =>
      have HZ : Hid (parL k = -1) := by rw [Hid, parL, e0]; rfl
      rw [e0] at hW
      clear e0
      go_enter Try.func30, Try.ntmps30
      go_wp2_with (go_at_call 74; refine (hW _).mono ?_; rintro e w' ⟨rfl, rfl⟩)
      go_ret
      exact ⟨ret_int (by rw [HZ.out]), rfl⟩
    | true =>
      have hk := inB7.1 e0
      obtain ⟨K, rfl⟩ : ∃ K : Nat, k = (K : Int) := ⟨k.toNat, by omega⟩
      have hP := fun w => pwa_any K w (by omega)
      have hle := pw_le (k := K) (by omega)
      have HZ : Hid (parL (K : Int) = (K : Int) - (pw K : Int)) := by rw [Hid, parL, e0]; simp only [if_true, Int.toNat_natCast, par]; omega
      rw [pa_pos (by omega)] at hP
      rw [e0] at hW
      clear e0
      generalize pw K = q at *
      have hd : Hid (((2 * q : Nat) : Int) / 2 = (q : Int)) := by rw [Hid]; omega
      go_enter Try.func30, Try.ntmps30
      go_wp2_with (first | (go_at_call 74; refine (hW _).mono ?_; rintro e w' ⟨rfl, rfl⟩) | (go_at_call 75; refine (hP _).mono ?_; rintro e w' ⟨rfl, rfl⟩))
      go_ret
      exact ⟨ret_int (by rw [HZ.out]), rfl⟩
theorem implParent : ImplParent := fun k w hk => (parI_any k w).mono fun e w' h => ⟨h.1, h.2 ▸ Below.refl _ _⟩
theorem dep_le {K : Nat} (h : K ≤ 999) : dep K ≤ 1000 := by
  rcases Nat.eq_zero_or_pos K with e | e
  · subst e; rw [dep_zero]; omega
  · have h1 := dep_log K e
    have h2 := log2_lt10 e (by omega)
    omega
set_option maxHeartbeats 800000 in
theorem implDepth : ImplDepth := by
  intro k w hk0
  have hW := fun w => isW9_any k 999 w
  cases e0 : inB k 0 999 with
  | false =>
    have HZ : Hid (depL k = -1) := by rw [Hid, depL, e0]; rfl
    rw [e0] at hW
    clear e0
    go_enter Try.func36, Try.ntmps36
    go_wp2_with (go_at_call 74; refine (hW _).mono ?_; rintro e w' ⟨rfl, rfl⟩)
    go_ret
    exact ⟨ret_int (by rw [HZ.out]), Below.refl _ _⟩
  | true =>
    have hk := inB7.1 e0
    obtain ⟨K, rfl⟩ : ∃ K : Nat, k = (K : Int) := ⟨k.toNat, by omega⟩
    have HZ : Hid (depL (K : Int) = (dep K : Int)) := by rw [Hid, depL, e0]; simp
    have hdK : dep K ≤ 1000 := dep_le (by omega)
    rw [e0] at hW
    clear e0
    go_enter Try.func36, Try.ntmps36
    go_wp2_with (go_at_call 74; refine (hW _).mono ?_; rintro e w' ⟨rfl, rfl⟩)
    go_loop [0, 3] (fun x c => ∃ m d : Nat, m ≤ K ∧ d + dep m = dep K ∧ x = .int .i64 (m : Int) ∧ c = .int .i64 (d : Int)) (fun x _ => (intOf x).toNat)
    case atStart => exact ⟨K, 0, Nat.le_refl _, by omega, rfl, rfl⟩
    case round =>
      obtain ⟨m, d, hm, hd, rfl, rfl⟩ := hrel
      rcases Nat.eq_zero_or_pos m with h | h
      · subst h
        rw [dep_zero] at hd
        have HD : Hid (dep K = d) := by rw [Hid]; omega
        clear hd
        go_wp2
        go_ret
        exact ⟨ret_int (by rw [HZ.out, HD.out]), Below.refl _ _⟩
      · have hP := fun w => parI_any (m : Int) w
        have hpl : parL (m : Int) = (par m : Int) := by rw [parL, inB7.2 ⟨by omega, by omega⟩]; simp
        rw [hpl] at hP
        have hlt := par_lt h
        have HD : Hid (d + 1 + dep (par m) = dep K) := by rw [Hid]; rw [dep_succ h] at hd; omega
        have hm0 : (0 : Int) < (m : Int) := by omega
        have hd1 : (d : Int) ≤ 1000 := by omega
        clear hd hpl
        generalize par m = q at *
        go_wp2_with (go_at_call 30; refine (hP _).mono ?_; rintro e w' ⟨rfl, hw'⟩; rw [hw']; clear hw')
        go_round
        case rel => exact ⟨q, d + 1, by omega, HD.out, rfl, by go_num⟩
        case measure => simp [intOf]; omega
end Go.Proofs.Ytjefneaghlohlaa
