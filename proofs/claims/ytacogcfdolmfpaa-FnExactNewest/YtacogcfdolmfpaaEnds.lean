/-
  The contracts of the functions Least and Sum (the program's own and the specification's), and the walks of the laws FnExactLeast and FnExactSum.
-/
import Derived.Test.YtacogcfdolmfpaaUnd
namespace Go.Proofs.Ytacogcfdolmfpaa
open Go.RowKit

def leastB (xs : List Int) : Int := if okB xs = true then loL (el xs 0) xs.tail else -1
def sumL (xs : List Int) : Int := xs.foldl (· + ·) 0
def sumB (xs : List Int) : Int := if okB xs = true then sumL xs else -1

theorem sumL_snoc (xs : List Int) (y : Int) : sumL (xs ++ [y]) = sumL xs + y := by simp [sumL]
theorem okB_el {xs : List Int} (h : okB xs = true) {i : Nat} (hi : i < xs.length) : 0 ≤ el xs i ∧ el xs i ≤ 1000000 := by
  unfold okB inB at h; simp only [Bool.and_eq_true, decide_eq_true_eq, List.all_eq_true] at h
  exact h.2 _ (el_mem hi)
theorem sumL_take {xs : List Int} (h : okB xs = true) (k : Nat) (hk : k ≤ xs.length) : 0 ≤ sumL (xs.take k) ∧ sumL (xs.take k) ≤ 1000000 * k := by
  induction k with
  | zero => simp [sumL]
  | succ k ih =>
    have := ih (by omega)
    have hb := okB_el h (i := k) (by omega)
    rw [take_snoc (by omega), sumL_snoc]
    omega
theorem loL_self {xs : List Int} (h : 1 ≤ xs.length) : loL (el xs 0) xs = loL (el xs 0) xs.tail := by
  match xs, h with
  | x :: l, _ => simp [loL, el]

set_option maxHeartbeats 400000 in
theorem l1Min_any (x y : Int) (w : World) : Calls Try.prog 75 #[.int .i64 x, .int .i64 y] w fun e w' => e = .returned (.int .i64 (min x y)) ∧ w' = w := by
  by_cases h : x < y
  all_goals
    go_enter Try.func75, Try.ntmps75
    go_wp2
    go_ret
    exact ⟨ret_int (by omega), rfl⟩

set_option maxHeartbeats 400000 in
theorem l1Max_any (x y : Int) (w : World) : Calls Try.prog 74 #[.int .i64 x, .int .i64 y] w fun e w' => e = .returned (.int .i64 (max x y)) ∧ w' = w := by
  by_cases h : y < x
  all_goals
    go_enter Try.func74, Try.ntmps74
    go_wp2
    go_ret
    exact ⟨ret_int (by omega), rfl⟩

set_option maxHeartbeats 400000 in
theorem specLeast_any (a : Option Addr) (len cap : Nat) (xs : List Int) (w : World) (hv : Vec w a len xs) (hm : len ≤ maxLen) :
    Calls Try.prog 25 #[.slice a len cap] w fun e w' => e = .returned (.int .i64 (leastB xs)) ∧ w' = w := by
  unfold leastB
  cases hx : okB xs
  · go_enter Try.func25, Try.ntmps25
    go_wp2_with fail
    refine (specOk_any _ _ _ xs _ hv hm).mono ?_
    rintro e w1' ⟨rfl, rfl⟩
    go_wp2
    go_ret
    exact ⟨ret_int (by simp), rfl⟩
  · have kx := okB_len hx
    have HX : Hid (xs.length = len) := hv.1
    have h1 : 1 ≤ len := by have := HX.out; omega
    have h8 : len ≤ 8 := by have := HX.out; omega
    obtain ⟨b, off, rfl, hc⟩ := hv.cells h1
    have HS : Hid (loL (el xs 0) xs = loL (el xs 0) xs.tail) := loL_self kx.1
    have hc0 := hc 0 (by omega)
    simp only [Nat.add_zero] at hc0
    have hp : (0 : Int) < (len : Int) := by omega
    clear kx
    go_enter Try.func25, Try.ntmps25
    go_wp2_with fail
    refine (specOk_any _ _ _ xs _ hv hm).mono ?_
    rintro e w1' ⟨rfl, rfl⟩
    clear hv hm
    go_wp2
    go_loop [3, 4] (fun m i => ∃ k : Nat, k ≤ len ∧ i = .int .i64 k ∧ m = .int .i64 (loL (el xs 0) (xs.take k))) (fun _ i => len - (intOf i).toNat)
    case atStart => exact ⟨0, Nat.zero_le _, rfl, rfl⟩
    case round =>
      obtain ⟨k, hk, rfl, rfl⟩ := hrel
      by_cases hlt : k < len
      · have hck := hc k hlt
        have HT : Hid (loL (el xs 0) (xs.take (k + 1)) = min (loL (el xs 0) (xs.take k)) (el xs k)) := by
          rw [Hid, take_snoc (by rw [HX.out]; exact hlt), loL_snoc]
        go_wp2_with (go_at_call 75; refine (l1Min_any _ _ _).mono ?_; rintro e w' ⟨rfl, rfl⟩)
        go_round
        case rel => exact ⟨k + 1, by omega, by go_num, by rw [HT.out]⟩
        case measure => simp [intOf]; omega
      · go_wp2
        go_ret
        exact ⟨ret_int (by rw [List.take_of_length_le (by rw [HX.out]; omega), HS.out]), rfl⟩

set_option maxHeartbeats 400000 in
theorem specSum_any (a : Option Addr) (len cap : Nat) (xs : List Int) (w : World) (hv : Vec w a len xs) (hm : len ≤ maxLen) :
    Calls Try.prog 23 #[.slice a len cap] w fun e w' => e = .returned (.int .i64 (sumB xs)) ∧ w' = w := by
  unfold sumB
  cases hx : okB xs
  · go_enter Try.func23, Try.ntmps23
    go_wp2_with fail
    refine (specOk_any _ _ _ xs _ hv hm).mono ?_
    rintro e w1' ⟨rfl, rfl⟩
    go_wp2
    go_ret
    exact ⟨ret_int (by simp), rfl⟩
  · have kx := okB_len hx
    have HX : Hid (xs.length = len) := hv.1
    have h1 : 1 ≤ len := by have := HX.out; omega
    have h8 : len ≤ 8 := by have := HX.out; omega
    obtain ⟨b, off, rfl, hc⟩ := hv.cells h1
    clear kx
    go_enter Try.func23, Try.ntmps23
    go_wp2_with fail
    refine (specOk_any _ _ _ xs _ hv hm).mono ?_
    rintro e w1' ⟨rfl, rfl⟩
    clear hv hm
    go_wp2
    go_loop [3, 4] (fun m i => ∃ k : Nat, k ≤ len ∧ i = .int .i64 k ∧ m = .int .i64 (sumL (xs.take k))) (fun _ i => len - (intOf i).toNat)
    case atStart => exact ⟨0, Nat.zero_le _, rfl, rfl⟩
    case round =>
      obtain ⟨k, hk, rfl, rfl⟩ := hrel
      by_cases hlt : k < len
      · have hck := hc k hlt
        have HT : Hid (sumL (xs.take (k + 1)) = sumL (xs.take k) + el xs k) := by
          rw [Hid, take_snoc (by rw [HX.out]; exact hlt), sumL_snoc]
        have s1 := sumL_take hx k (by rw [HX.out]; exact hk)
        have s2 := okB_el hx (i := k) (by rw [HX.out]; exact hlt)
        go_wp2
        go_round
        case rel => exact ⟨k + 1, by omega, by go_num, by rw [HT.out]⟩
        case measure => simp [intOf]; omega
      · go_wp2
        go_ret
        exact ⟨ret_int (by rw [List.take_of_length_le (by rw [HX.out]; omega)]), rfl⟩

set_option maxHeartbeats 400000 in
theorem vsum_any (b off len cap : Nat) (xs : List Int) (w : World) (hlen : xs.length = len) (hx : okB xs = true)
    (hc : ∀ i, i < len → w.cell? ⟨b, off + i, none⟩ = some (.int .i64 (el xs i))) :
    Calls Try.prog 79 #[.slice (some ⟨b, off, none⟩) len cap] w fun e w' => e = .returned (.int .i64 (sumL xs)) ∧ w' = w := by
  have kx := okB_len hx
  have HX : Hid (xs.length = len) := hlen
  have h1 : 1 ≤ len := by omega
  have h8 : len ≤ 8 := by omega
  have HO : Hid (okB xs = true) := hx
  clear kx hlen hx
  go_enter Try.func79, Try.ntmps79
  go_wp2
  go_loop [3, 5, 8] (fun m _ i => ∃ k : Nat, k ≤ len ∧ i = .int .i64 k ∧ m = .int .i64 (sumL (xs.take k))) (fun _ _ i => len - (intOf i).toNat)
  case atStart => exact ⟨0, Nat.zero_le _, rfl, rfl⟩
  case round =>
    obtain ⟨k, hk, rfl, rfl⟩ := hrel
    by_cases hlt : k < len
    · have hck := hc k hlt
      have HT : Hid (sumL (xs.take (k + 1)) = sumL (xs.take k) + el xs k) := by
        rw [Hid, take_snoc (by rw [HX.out]; exact hlt), sumL_snoc]
      have s1 := sumL_take HO.out k (by rw [HX.out]; exact hk)
      have s2 := okB_el HO.out (i := k) (by rw [HX.out]; exact hlt)
      go_wp2
      go_round
      case rel => exact ⟨k + 1, by omega, by go_num, by rw [HT.out]⟩
      case measure => simp [intOf]; omega
    · go_wp2
      go_ret
      exact ⟨ret_int (by rw [List.take_of_length_le (by rw [HX.out]; omega)]), rfl⟩

set_option maxHeartbeats 400000 in
theorem implSum_any (a : Option Addr) (len cap : Nat) (xs : List Int) (w : World) (hv : Vec w a len xs) (hcap : len ≤ cap) (hm : cap ≤ maxLen) :
    Calls Try.prog 22 #[.slice a len cap] w fun e w' => e = .returned (.int .i64 (sumB xs)) ∧ ∃ n, w' = w.drewN n := by
  have hmf : ∀ (fn : Fn) (first cap : Array Value) (w : World), (Instr.makeFunc fn first cap).run Try.prog w = .ok (.func fn first cap) w := fun _ _ _ _ => rfl
  unfold sumB
  cases hx : okB xs
  · go_enter Try.func22, Try.ntmps22
    go_wp2_with (first | (go_at_call 81; refine (vok_any a len cap xs _ hv hcap hm).mono ?_; rintro e w' ⟨rfl, n, rfl⟩) | go_in)
    go_ret
    exact ⟨ret_int (by simp), _, rfl⟩
  · have kx := okB_len hx
    have HX : Hid (xs.length = len) := hv.1
    have h1 : 1 ≤ len := by have := HX.out; omega
    obtain ⟨b, off, rfl, hc⟩ := hv.cells h1
    go_enter Try.func22, Try.ntmps22
    go_wp2_with (first | (go_at_call 81; refine (vok_any _ len cap xs _ hv hcap hm).mono ?_; rintro e w' ⟨rfl, n, rfl⟩) | (go_at_call 79; refine (vsum_any b off len cap xs _ HX.out hx (by exact hc)).mono ?_; rintro e w' ⟨rfl, rfl⟩) | go_in)
    go_ret
    exact ⟨ret_int (by simp), _, rfl⟩

set_option maxHeartbeats 400000 in
theorem implLeast_any (a : Option Addr) (len cap : Nat) (xs : List Int) (w : World) (hv : Vec w a len xs) (hcap : len ≤ cap) (hm : cap ≤ maxLen) :
    Calls Try.prog 24 #[.slice a len cap] w fun e w' => e = .returned (.int .i64 (leastB xs)) ∧ ∃ n, w' = w.drewN n := by
  have hmf : ∀ (fn : Fn) (first cap : Array Value) (w : World), (Instr.makeFunc fn first cap).run Try.prog w = .ok (.func fn first cap) w := fun _ _ _ _ => rfl
  unfold leastB
  cases hx : okB xs
  · go_enter Try.func24, Try.ntmps24
    go_wp2_with (first | (go_at_call 81; refine (vok_any a len cap xs _ hv hcap hm).mono ?_; rintro e w' ⟨rfl, n, rfl⟩) | go_in)
    go_ret
    exact ⟨ret_int (by simp), _, rfl⟩
  · have kx := okB_len hx
    have HX : Hid (xs.length = len) := hv.1
    have h1 : 1 ≤ len := by have := HX.out; omega
    have hf := hv.2.1
    obtain ⟨b, off, rfl, hc⟩ := hv.cells h1
    go_enter Try.func24, Try.ntmps24
    go_wp2_with (first | (go_at_call 81; refine (vok_any _ len cap xs _ hv hcap hm).mono ?_; rintro e w' ⟨rfl, n, rfl⟩) | (go_at_call 80; refine (vleast_any b off len cap xs _ HX.out hf (by exact hc) h1 hcap hm).mono ?_; rintro e w' ⟨rfl, n2, rfl⟩) | go_in)
    go_ret
    exact ⟨ret_int (by simp), _, rfl⟩

end Go.Proofs.Ytacogcfdolmfpaa
