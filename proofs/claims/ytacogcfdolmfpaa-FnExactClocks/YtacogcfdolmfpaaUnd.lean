/-
  The contracts of the two functions Under (the program's own and the specification's), and the walk of the law FnExactUnder.
-/
import Derived.Test.YtacogcfdolmfpaaLawVok
namespace Go.Proofs.Ytacogcfdolmfpaa
open Go.RowKit

def twoB (xs ys : List Int) : Bool := okB xs && okB ys && decide (xs.length = ys.length)
def leB (xs ys : List Int) : Bool := (List.range xs.length).all (fun i => decide (el xs i ≤ el ys i))
def underB (xs ys : List Int) : Bool := twoB xs ys && leB xs ys

theorem leB_false {xs ys : List Int} {k : Nat} (hk : k < xs.length) (h : ¬ el xs k ≤ el ys k) : leB xs ys = false := by
  unfold leB; rw [List.all_eq_false]; exact ⟨k, List.mem_range.2 hk, by simpa using h⟩
theorem leB_true {xs ys : List Int} (h : ∀ j, j < xs.length → el xs j ≤ el ys j) : leB xs ys = true := by
  unfold leB; rw [List.all_eq_true]; intro j hj; simpa using h j (List.mem_range.1 hj)
theorem okB_len {xs : List Int} (h : okB xs = true) : 1 ≤ xs.length ∧ xs.length ≤ 8 := by
  unfold okB at h; simp only [Bool.and_eq_true, decide_eq_true_eq] at h; exact h.1
theorem twoB_true {xs ys : List Int} (h : twoB xs ys = true) : okB xs = true ∧ okB ys = true ∧ xs.length = ys.length := by
  unfold twoB at h; simp only [Bool.and_eq_true, decide_eq_true_eq] at h; exact ⟨h.1.1, h.1.2, h.2⟩
theorem Vec.cells {w : World} {a : Option Addr} {len : Nat} {xs : List Int} (h : Vec w a len xs) (h1 : 1 ≤ len) :
    ∃ b off, a = some ⟨b, off, none⟩ ∧ ∀ i, i < len → w.cell? ⟨b, off + i, none⟩ = some (.int .i64 (el xs i)) := by
  obtain ⟨_, _, h0 | h⟩ := h
  · omega
  · exact h

set_option maxHeartbeats 400000 in
theorem l1Two_any (a a' : Option Addr) (len cap len' cap' : Nat) (xs ys : List Int) (w : World) (hv : Vec w a len xs) (hv' : Vec w a' len' ys) (hm : len ≤ maxLen) (hm' : len' ≤ maxLen) :
    Calls Try.prog 73 #[.slice a len cap, .slice a' len' cap'] w fun e w' => e = .returned (.bool (twoB xs ys)) ∧ w' = w := by
  have HL : Hid (xs.length = len) := hv.1
  have HL' : Hid (ys.length = len') := hv'.1
  unfold twoB
  cases hx : okB xs
  · go_enter Try.func73, Try.ntmps73
    go_wp2_with fail
    refine (specOk_any _ _ _ xs _ hv hm).mono ?_
    rintro e w1' ⟨rfl, rfl⟩
    go_wp2_with fail
    go_ret
    exact ⟨ret_bool (by simp), rfl⟩
  · cases hy : okB ys
    · go_enter Try.func73, Try.ntmps73
      go_wp2_with fail
      refine (specOk_any _ _ _ xs _ hv hm).mono ?_
      rintro e w1' ⟨rfl, rfl⟩
      go_wp2_with fail
      refine (specOk_any _ _ _ ys _ hv' hm').mono ?_
      rintro e w1' ⟨rfl, rfl⟩
      go_wp2_with fail
      go_ret
      exact ⟨ret_bool (by simp), rfl⟩
    · go_enter Try.func73, Try.ntmps73
      go_wp2_with fail
      refine (specOk_any _ _ _ xs _ hv hm).mono ?_
      rintro e w1' ⟨rfl, rfl⟩
      go_wp2_with fail
      refine (specOk_any _ _ _ ys _ hv' hm').mono ?_
      rintro e w1' ⟨rfl, rfl⟩
      go_wp2_with fail
      go_ret
      exact ⟨ret_bool (by rw [HL.out, HL'.out, Bool.eq_iff_iff]; simp; omega), rfl⟩

set_option maxHeartbeats 400000 in
theorem fits_any (a a' : Option Addr) (len cap len' cap' : Nat) (xs ys : List Int) (w : World) (hv : Vec w a len xs) (hv' : Vec w a' len' ys) (hc : len ≤ cap) (hc' : len' ≤ cap') (hm : cap ≤ maxLen) (hm' : cap' ≤ maxLen) :
    Calls Try.prog 76 #[.slice a len cap, .slice a' len' cap'] w fun e w' => e = .returned (.bool (twoB xs ys)) ∧ ∃ n, w' = w.drewN n := by
  have HL : Hid (xs.length = len) := hv.1
  have HL' : Hid (ys.length = len') := hv'.1
  unfold twoB
  by_cases hl : len = len'
  · have hd : ((len : Int) == (len' : Int)) = true := by simp [hl]
    have HD : Hid (len = len') := hl
    clear hl
    cases hx : okB xs
    · go_enter Try.func76, Try.ntmps76
      go_wp2_with fail
      refine (vok_any _ _ _ xs _ hv hc hm).mono ?_
      rintro e w1' ⟨rfl, n1, rfl⟩
      go_wp2_with fail
      go_ret
      exact ⟨ret_bool (by simp), _, rfl⟩
    · go_enter Try.func76, Try.ntmps76
      go_wp2_with fail
      refine (vok_any _ _ _ xs _ hv hc hm).mono ?_
      rintro e w1' ⟨rfl, n1, rfl⟩
      go_wp2_with fail
      refine (vok_any _ _ _ ys _ (hv'.drewN n1) hc' hm').mono ?_
      rintro e w1' ⟨rfl, n2, rfl⟩
      go_wp2_with fail
      go_ret
      exact ⟨ret_bool (by rw [HL.out, HL'.out, HD.out]; simp), _, rfl⟩
  · have hd : ((len : Int) == (len' : Int)) = false := by simp; omega
    go_enter Try.func76, Try.ntmps76
    go_wp2_with fail
    go_ret
    exact ⟨ret_bool (by rw [HL.out, HL'.out]; simp [hl]), 0, rfl⟩

set_option maxHeartbeats 400000 in
theorem vunder_any (b off b' off' len cap len' cap' : Nat) (xs ys : List Int) (w : World) (hlen : xs.length = len)
    (hc : ∀ i, i < len → w.cell? ⟨b, off + i, none⟩ = some (.int .i64 (el xs i))) (hc' : ∀ i, i < len' → w.cell? ⟨b', off' + i, none⟩ = some (.int .i64 (el ys i))) (hl : len ≤ len') (hm : len ≤ 8) :
    Calls Try.prog 77 #[.slice (some ⟨b, off, none⟩) len cap, .slice (some ⟨b', off', none⟩) len' cap'] w fun e w' => e = .returned (.bool (leB xs ys)) ∧ w' = w := by
  have HL : Hid (xs.length = len) := hlen
  clear hlen
  go_enter Try.func77, Try.ntmps77
  go_wp2
  go_loop [5, 6, 9] (fun _ _ i => ∃ k : Nat, k ≤ len ∧ i = .int .i64 k ∧ ∀ j, j < k → el xs j ≤ el ys j) (fun _ _ i => len - (intOf i).toNat)
  case atStart => exact ⟨0, Nat.zero_le _, rfl, fun j hj => by omega⟩
  case round =>
    obtain ⟨k, hk, rfl, hall⟩ := hrel
    have HA : Hid (∀ j, j < k → el xs j ≤ el ys j) := hall
    clear hall
    by_cases hlt : k < len
    · have hck := hc k hlt
      have hck' := hc' k (by omega)
      have hi1 : (k : Int) < (len : Int) := by omega
      have hi2 : (k : Int) < (len' : Int) := by omega
      by_cases he : el ys k < el xs k
      · go_wp2
        go_ret
        exact ⟨ret_bool (by rw [leB_false (by rw [HL.out]; exact hlt) (by omega)]), rfl⟩
      · go_wp2
        go_round
        case rel => exact ⟨k + 1, by omega, by go_num, fun j hj => by
          rcases Nat.lt_succ_iff_lt_or_eq.1 hj with h | h
          · exact HA.out j h
          · rw [h]; omega⟩
        case measure => simp [intOf]; omega
    · go_wp2
      go_ret
      exact ⟨ret_bool (by rw [leB_true (fun j hj => HA.out j (by rw [HL.out] at hj; omega))]), rfl⟩

set_option maxHeartbeats 400000 in
theorem implUnder_any (a a' : Option Addr) (len cap len' cap' : Nat) (xs ys : List Int) (w : World) (hv : Vec w a len xs) (hv' : Vec w a' len' ys) (hc : len ≤ cap) (hc' : len' ≤ cap') (hm : cap ≤ maxLen) (hm' : cap' ≤ maxLen) :
    Calls Try.prog 20 #[.slice a len cap, .slice a' len' cap'] w fun e w' => e = .returned (.bool (underB xs ys)) ∧ ∃ n, w' = w.drewN n := by
  unfold underB
  cases h2 : twoB xs ys
  · go_enter Try.func20, Try.ntmps20
    go_wp2_with fail
    refine (fits_any _ _ _ _ _ _ xs ys _ hv hv' hc hc' hm hm').mono ?_
    rintro e w1' ⟨rfl, n1, rfl⟩
    go_wp2_with fail
    go_ret
    exact ⟨ret_bool (by simp), _, rfl⟩
  · obtain ⟨ox, oy, hl⟩ := twoB_true h2
    have kx := okB_len ox
    have ky := okB_len oy
    have hlx := hv.1
    have hly := hv'.1
    obtain ⟨b, off, rfl, hcx⟩ := hv.cells (by omega)
    obtain ⟨b', off', rfl, hcy⟩ := hv'.cells (by omega)
    have HX : Hid (xs.length = len) := hlx
    have h8 : len ≤ 8 := by omega
    have hll : len ≤ len' := by omega
    clear ox oy hl hlx hly kx ky
    go_enter Try.func20, Try.ntmps20
    go_wp2_with fail
    refine (fits_any _ _ _ _ _ _ xs ys _ hv hv' hc hc' hm hm').mono ?_
    rintro e w1' ⟨rfl, n1, rfl⟩
    go_wp2_with fail
    refine (vunder_any b off b' off' len cap len' cap' xs ys _ HX.out (by exact hcx) (by exact hcy) hll h8).mono ?_
    rintro e w1' ⟨rfl, rfl⟩
    go_wp2_with fail
    go_ret
    exact ⟨ret_bool (by simp), _, rfl⟩

set_option maxHeartbeats 400000 in
theorem specUnder_any (a a' : Option Addr) (len cap len' cap' : Nat) (xs ys : List Int) (w : World) (hv : Vec w a len xs) (hv' : Vec w a' len' ys) (hm : len ≤ maxLen) (hm' : len' ≤ maxLen) :
    Calls Try.prog 21 #[.slice a len cap, .slice a' len' cap'] w fun e w' => e = .returned (.bool (underB xs ys)) ∧ ∃ n, w' = w.drewN n := by
  unfold underB
  cases h2 : twoB xs ys
  · go_enter Try.func21, Try.ntmps21
    go_wp2_with fail
    refine (l1Two_any _ _ _ _ _ _ xs ys _ hv hv' hm hm').mono ?_
    rintro e w1' ⟨rfl, rfl⟩
    go_wp2
    go_ret
    exact ⟨ret_bool (by simp), 0, rfl⟩
  · obtain ⟨ox, oy, hl⟩ := twoB_true h2
    have kx := okB_len ox
    have ky := okB_len oy
    have hlx := hv.1
    have hly := hv'.1
    obtain ⟨b, off, rfl, hcx⟩ := hv.cells (by omega)
    obtain ⟨b', off', rfl, hcy⟩ := hv'.cells (by omega)
    have HX : Hid (xs.length = len) := hlx
    have h8 : len ≤ 8 := by omega
    have hll : len ≤ len' := by omega
    clear ox oy hl hlx hly kx ky
    go_enter Try.func21, Try.ntmps21
    go_wp2_with fail
    refine (l1Two_any _ _ _ _ _ _ xs ys _ hv hv' hm hm').mono ?_
    rintro e w1' ⟨rfl, rfl⟩
    clear hv hv' hm hm'
    go_wp2
    go_loopw [5] (fun i wr => ∃ k : Nat, k ≤ len ∧ i = .int .i64 k ∧ (∀ j, j < k → el xs j ≤ el ys j) ∧ ∃ n, wr = w1'.drewN n) (fun i _ => len - (intOf i).toNat)
    case atStart => exact ⟨0, Nat.zero_le _, rfl, fun j hj => by omega, 0, rfl⟩
    case round =>
      obtain ⟨k, hk, rfl, hall, n, rfl⟩ := hrel
      have HA : Hid (∀ j, j < k → el xs j ≤ el ys j) := hall
      clear hall
      by_cases hlt : k < len
      · have hck := hcx k hlt
        have hck' := hcy k (by omega)
        have hi1 : (k : Int) < (len : Int) := by omega
        have hi2 : (k : Int) < (len' : Int) := by omega
        by_cases he : el ys k < el xs k
        · go_wp2_with fail
          go_quiet (fail)
          go_wp2
          go_ret
          exact ⟨ret_bool (by rw [leB_false (by rw [HX.out]; exact hlt) (by omega)]; simp), _, World.drewN_drewN _ _ _⟩
        · go_wp2_with fail
          go_quiet (fail)
          go_wp2
          go_roundw
          case rel => exact ⟨k + 1, by omega, by go_num, fun j hj => by
            rcases Nat.lt_succ_iff_lt_or_eq.1 hj with h | h
            · exact HA.out j h
            · rw [h]; omega, _, rfl⟩
          case measure => simp [intOf]; omega
      · go_wp2
        go_ret
        exact ⟨ret_bool (by rw [leB_true (fun j hj => HA.out j (by rw [HX.out] at hj; omega))]; simp), _, rfl⟩

end Go.Proofs.Ytacogcfdolmfpaa
