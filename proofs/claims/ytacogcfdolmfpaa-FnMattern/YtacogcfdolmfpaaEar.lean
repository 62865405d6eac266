/-
  The contracts of Earlier and Apart, the specification's and the program's, and the walks of the laws FnExactEarlier and FnExactApart.
-/
import Derived.Test.YtacogcfdolmfpaaJoinSpec
namespace Go.Proofs.Ytacogcfdolmfpaa
set_option linter.unusedSimpArgs false
set_option linter.unusedVariables false
open Go.RowKit

def earlB (xs ys : List Int) : Bool := underB xs ys && !decide (xs = ys)
def apartB (xs ys : List Int) : Bool := twoB xs ys && !underB xs ys && !underB ys xs

set_option maxHeartbeats 400000 in
theorem l1Same_any (a a' : Option Addr) (len cap len' cap' : Nat) (xs ys : List Int) (w : World) (hv : Vec w a len xs) (hv' : Vec w a' len' ys) (hm : len ≤ maxLen) :
    Calls Try.prog 104 #[.slice a len cap, .slice a' len' cap'] w fun e w' => e = .returned (.bool (decide (xs = ys))) ∧ ∃ n, w' = w.drewN n := by
  unfold maxLen at hm
  obtain ⟨hlen, _, hcs⟩ := hv
  obtain ⟨hlen', _, hcs'⟩ := hv'
  by_cases hl : len = len'
  · have hne : ((len : Int) != (len' : Int)) = false := by simp [hl]
    have HL : Hid (xs.length = len) := hlen
    have HL' : Hid (ys.length = len') := hlen'
    have HLL : Hid (len = len') := hl
    have hle : (len : Int) ≤ (len' : Int) := by omega
    clear hlen hlen' hl
    by_cases h0 : len = 0
    · have hx : xs = [] := List.length_eq_zero_iff.1 (by rw [HL.out]; exact h0)
      have hy : ys = [] := List.length_eq_zero_iff.1 (by rw [HL'.out, ← HLL.out]; exact h0)
      subst h0 hx hy
      clear hcs hcs'
      go_enter Try.func104, Try.ntmps104
      go_wp2
      go_loop [5] (fun i => i = .int .i64 0) (fun _ => 0)
      case atStart => rfl
      case round =>
        subst hrel
        go_wp2
        go_ret
        exact ⟨rfl, 0, rfl⟩
    · rcases hcs with h | ⟨b, off, rfl, hc⟩
      · omega
      rcases hcs' with h | ⟨b', off', rfl, hc'⟩
      · have := HLL.out; omega
      go_enter Try.func104, Try.ntmps104
      go_wp2
      go_loopw [5] (fun i wr => ∃ k : Nat, k ≤ len ∧ i = .int .i64 k ∧ (∀ j, j < k → el xs j = el ys j) ∧ ∃ n, wr = w.drewN n) (fun i _ => len - (intOf i).toNat)
      case atStart => exact ⟨0, Nat.zero_le _, rfl, fun j hj => by omega, 0, rfl⟩
      case round =>
        obtain ⟨k, hk, rfl, hall, n, rfl⟩ := hrel
        have HA : Hid (∀ j, j < k → el xs j = el ys j) := hall
        clear hall
        by_cases hlt : k < len
        · have hck := hc k hlt
          have hck' := hc' k (by have := HLL.out; omega)
          have hi1 : (k : Int) < (len : Int) := by omega
          have hi2 : (k : Int) < (len' : Int) := by omega
          by_cases he : el xs k = el ys k
          · have hd : (el xs k != el ys k) = false := by simp [he]
            have HX : Hid (el xs k = el ys k) := he
            clear he
            go_wp2_with fail
            go_quiet (fail)
            go_wp2
            go_roundw
            case rel => exact ⟨k + 1, by omega, by go_num, fun j hj => by
              rcases Nat.lt_succ_iff_lt_or_eq.1 hj with h | h
              · exact HA.out j h
              · rw [h]; exact HX.out, _, rfl⟩
            case measure => simp [intOf]; omega
          · have hd : (el xs k != el ys k) = true := by simp [he]
            go_wp2_with fail
            go_quiet (fail)
            go_wp2
            go_ret
            exact ⟨ret_bool (by symm; rw [decide_eq_false_iff_not]; intro h; exact he (by rw [h])), _, World.drewN_drewN _ _ _⟩
        · go_wp2
          go_ret
          exact ⟨ret_bool (by symm; rw [decide_eq_true_iff]; exact eq_of_all (by rw [HL.out, HL'.out, HLL.out]) (fun j hj => HA.out j (by rw [HL.out] at hj; omega))), _, rfl⟩
  · have hne : ((len : Int) != (len' : Int)) = true := by simp; omega
    go_enter Try.func104, Try.ntmps104
    go_wp2
    go_ret
    exact ⟨ret_bool (by symm; rw [decide_eq_false_iff_not]; intro h; rw [h] at hlen; omega), 0, rfl⟩

set_option maxHeartbeats 400000 in
theorem slEqual_any (a a' : Option Addr) (len cap len' cap' : Nat) (xs ys : List Int) (w : World) (hv : Vec w a len xs) (hv' : Vec w a' len' ys) (hm : len ≤ maxLen) :
    Calls Try.prog 103 #[.slice a len cap, .slice a' len' cap'] w fun e w' => e = .returned (.bool (decide (xs = ys))) ∧ ∃ n, w' = w.drewN n := by
  unfold maxLen at hm
  obtain ⟨hlen, _, hcs⟩ := hv
  obtain ⟨hlen', _, hcs'⟩ := hv'
  by_cases hl : len = len'
  · have hne : ((len : Int) != (len' : Int)) = false := by simp [hl]
    have HL : Hid (xs.length = len) := hlen
    have HL' : Hid (ys.length = len') := hlen'
    have HLL : Hid (len = len') := hl
    have hle : (len : Int) ≤ (len' : Int) := by omega
    clear hlen hlen' hl
    by_cases h0 : len = 0
    · have hx : xs = [] := List.length_eq_zero_iff.1 (by rw [HL.out]; exact h0)
      have hy : ys = [] := List.length_eq_zero_iff.1 (by rw [HL'.out, ← HLL.out]; exact h0)
      subst h0 hx hy
      clear hcs hcs'
      go_enter Try.func103, Try.ntmps103
      go_wp2
      go_loop [13] (fun i => i = .int .i64 0) (fun _ => 0)
      case atStart => rfl
      case round =>
        subst hrel
        go_wp2
        go_ret
        exact ⟨rfl, 0, rfl⟩
    · rcases hcs with h | ⟨b, off, rfl, hc⟩
      · omega
      rcases hcs' with h | ⟨b', off', rfl, hc'⟩
      · have := HLL.out; omega
      go_enter Try.func103, Try.ntmps103
      go_wp2
      go_loopw [13] (fun i wr => ∃ k : Nat, k ≤ len ∧ i = .int .i64 k ∧ (∀ j, j < k → el xs j = el ys j) ∧ ∃ n, wr = w.drewN n) (fun i _ => len - (intOf i).toNat)
      case atStart => exact ⟨0, Nat.zero_le _, rfl, fun j hj => by omega, 0, rfl⟩
      case round =>
        obtain ⟨k, hk, rfl, hall, n, rfl⟩ := hrel
        have HA : Hid (∀ j, j < k → el xs j = el ys j) := hall
        clear hall
        by_cases hlt : k < len
        · have hck := hc k hlt
          have hck' := hc' k (by have := HLL.out; omega)
          have hi1 : (k : Int) < (len : Int) := by omega
          have hi2 : (k : Int) < (len' : Int) := by omega
          by_cases he : el xs k = el ys k
          · have hd : (el xs k != el ys k) = false := by simp [he]
            have HX : Hid (el xs k = el ys k) := he
            clear he
            go_wp2_with fail
            go_quiet (fail)
            go_wp2
            go_roundw
            case rel => exact ⟨k + 1, by omega, by go_num, fun j hj => by
              rcases Nat.lt_succ_iff_lt_or_eq.1 hj with h | h
              · exact HA.out j h
              · rw [h]; exact HX.out, _, rfl⟩
            case measure => simp [intOf]; omega
          · have hd : (el xs k != el ys k) = true := by simp [he]
            go_wp2_with fail
            go_quiet (fail)
            go_wp2
            go_ret
            exact ⟨ret_bool (by symm; rw [decide_eq_false_iff_not]; intro h; exact he (by rw [h])), _, World.drewN_drewN _ _ _⟩
        · go_wp2
          go_ret
          exact ⟨ret_bool (by symm; rw [decide_eq_true_iff]; exact eq_of_all (by rw [HL.out, HL'.out, HLL.out]) (fun j hj => HA.out j (by rw [HL.out] at hj; omega))), _, rfl⟩
  · have hne : ((len : Int) != (len' : Int)) = true := by simp; omega
    go_enter Try.func103, Try.ntmps103
    go_wp2
    go_ret
    exact ⟨ret_bool (by symm; rw [decide_eq_false_iff_not]; intro h; rw [h] at hlen; omega), 0, rfl⟩

set_option maxHeartbeats 400000 in
theorem implEarlier_any (a a' : Option Addr) (len cap len' cap' : Nat) (xs ys : List Int) (w : World) (hv : Vec w a len xs) (hv' : Vec w a' len' ys) (hc : len ≤ cap) (hc' : len' ≤ cap') (hm : cap ≤ maxLen) (hm' : cap' ≤ maxLen) :
    Calls Try.prog 47 #[.slice a len cap, .slice a' len' cap'] w fun e w' => e = .returned (.bool (earlB xs ys)) ∧ ∃ n, w' = w.drewN n := by
  unfold earlB
  cases h2 : underB xs ys
  · go_enter Try.func47, Try.ntmps47
    go_wp2_with fail
    refine (implUnder_any _ _ _ _ _ _ xs ys _ hv hv' hc hc' hm hm').mono ?_
    rintro e w1' ⟨rfl, n1, hw1⟩
    have HW : Hid (w1' = w.drewN n1) := hw1
    rw [h2]
    clear hw1
    go_wp2_with fail
    go_ret
    exact ⟨ret_bool (by simp), _, HW.out⟩
  · go_enter Try.func47, Try.ntmps47
    go_wp2_with fail
    refine (implUnder_any _ _ _ _ _ _ xs ys _ hv hv' hc hc' hm hm').mono ?_
    rintro e w1' ⟨rfl, n1, rfl⟩
    rw [h2]
    go_wp2_with fail
    refine (slEqual_any _ _ _ _ _ _ xs ys _ (hv.drewN n1) (hv'.drewN n1) (Nat.le_trans hc hm)).mono ?_
    rintro e w1' ⟨rfl, n2, rfl⟩
    go_wp2_with fail
    go_ret
    exact ⟨ret_bool (by simp), _, rfl⟩

set_option maxHeartbeats 400000 in
theorem specEarlier_any (a a' : Option Addr) (len cap len' cap' : Nat) (xs ys : List Int) (w : World) (hv : Vec w a len xs) (hv' : Vec w a' len' ys) (hm : len ≤ maxLen) (hm' : len' ≤ maxLen) :
    Calls Try.prog 48 #[.slice a len cap, .slice a' len' cap'] w fun e w' => e = .returned (.bool (earlB xs ys)) ∧ ∃ n, w' = w.drewN n := by
  unfold earlB
  cases h2 : underB xs ys
  · go_enter Try.func48, Try.ntmps48
    go_wp2_with fail
    refine (specUnder_any _ _ _ _ _ _ xs ys _ hv hv' hm hm').mono ?_
    rintro e w1' ⟨rfl, n1, hw1⟩
    have HW : Hid (w1' = w.drewN n1) := hw1
    rw [h2]
    clear hw1
    go_wp2_with fail
    go_ret
    exact ⟨ret_bool (by simp), _, HW.out⟩
  · go_enter Try.func48, Try.ntmps48
    go_wp2_with fail
    refine (specUnder_any _ _ _ _ _ _ xs ys _ hv hv' hm hm').mono ?_
    rintro e w1' ⟨rfl, n1, rfl⟩
    rw [h2]
    go_wp2_with fail
    refine (l1Same_any _ _ _ _ _ _ xs ys _ (hv.drewN n1) (hv'.drewN n1) hm).mono ?_
    rintro e w1' ⟨rfl, n2, rfl⟩
    go_wp2_with fail
    go_ret
    exact ⟨ret_bool (by simp), _, rfl⟩

set_option maxHeartbeats 400000 in
theorem implApart_any (a a' : Option Addr) (len cap len' cap' : Nat) (xs ys : List Int) (w : World) (hv : Vec w a len xs) (hv' : Vec w a' len' ys) (hc : len ≤ cap) (hc' : len' ≤ cap') (hm : cap ≤ maxLen) (hm' : cap' ≤ maxLen) :
    Calls Try.prog 49 #[.slice a len cap, .slice a' len' cap'] w fun e w' => e = .returned (.bool (apartB xs ys)) ∧ ∃ n, w' = w.drewN n := by
  unfold apartB
  cases h2 : twoB xs ys
  · go_enter Try.func49, Try.ntmps49
    go_wp2_with fail
    refine (fits_any _ _ _ _ _ _ xs ys _ hv hv' hc hc' hm hm').mono ?_
    rintro e w1 ⟨rfl, hw1⟩
    have HW : Hid (∃ n, w1 = w.drewN n) := hw1
    rw [h2]
    clear hw1
    go_wp2_with fail
    go_ret
    exact ⟨ret_bool (by simp), HW.out⟩
  · cases h3 : underB xs ys
    · go_enter Try.func49, Try.ntmps49
      go_wp2_with fail
      refine (fits_any _ _ _ _ _ _ xs ys _ hv hv' hc hc' hm hm').mono ?_
      rintro e w1 ⟨rfl, hw1⟩
      have HW : Hid (∃ n, w1 = w.drewN n) := hw1
      have V1 : Vec w1 a len xs := by obtain ⟨n, h⟩ := HW.out; rw [h]; exact hv.drewN n
      have V1' : Vec w1 a' len' ys := by obtain ⟨n, h⟩ := HW.out; rw [h]; exact hv'.drewN n
      rw [h2]
      clear hw1
      go_wp2_with fail
      refine (implUnder_any _ _ _ _ _ _ xs ys _ V1 V1' hc hc' hm hm').mono ?_
      rintro e w2 ⟨rfl, hw2⟩
      have HW2 : Hid (∃ n, w2 = w1.drewN n) := hw2
      have V2 : Vec w2 a len xs := by obtain ⟨n, h⟩ := HW2.out; rw [h]; exact V1.drewN n
      have V2' : Vec w2 a' len' ys := by obtain ⟨n, h⟩ := HW2.out; rw [h]; exact V1'.drewN n
      rw [h3]
      clear hw2
      go_wp2_with fail
      refine (implUnder_any _ _ _ _ _ _ ys xs _ V2' V2 hc' hc hm' hm).mono ?_
      rintro e w3 ⟨rfl, hw3⟩
      have HW3 : Hid (∃ n, w3 = w2.drewN n) := hw3
      clear hw3
      go_wp2_with fail
      go_ret
      refine ⟨ret_bool (by simp), ?_⟩
      obtain ⟨n1, e1⟩ := HW.out
      obtain ⟨n2, e2⟩ := HW2.out
      obtain ⟨n3, e3⟩ := HW3.out
      exact ⟨n1 + (n2 + n3), by rw [e3, e2, e1, World.drewN_drewN, World.drewN_drewN]⟩
    · go_enter Try.func49, Try.ntmps49
      go_wp2_with fail
      refine (fits_any _ _ _ _ _ _ xs ys _ hv hv' hc hc' hm hm').mono ?_
      rintro e w1 ⟨rfl, hw1⟩
      have HW : Hid (∃ n, w1 = w.drewN n) := hw1
      have V1 : Vec w1 a len xs := by obtain ⟨n, h⟩ := HW.out; rw [h]; exact hv.drewN n
      have V1' : Vec w1 a' len' ys := by obtain ⟨n, h⟩ := HW.out; rw [h]; exact hv'.drewN n
      rw [h2]
      clear hw1
      go_wp2_with fail
      refine (implUnder_any _ _ _ _ _ _ xs ys _ V1 V1' hc hc' hm hm').mono ?_
      rintro e w2 ⟨rfl, hw2⟩
      have HW2 : Hid (∃ n, w2 = w1.drewN n) := hw2
      rw [h3]
      clear hw2
      go_wp2_with fail
      go_ret
      refine ⟨ret_bool (by simp), ?_⟩
      obtain ⟨n1, e1⟩ := HW.out
      obtain ⟨n2, e2⟩ := HW2.out
      exact ⟨n1 + n2, by rw [e2, e1, World.drewN_drewN]⟩

set_option maxHeartbeats 400000 in
theorem specApart_any (a a' : Option Addr) (len cap len' cap' : Nat) (xs ys : List Int) (w : World) (hv : Vec w a len xs) (hv' : Vec w a' len' ys) (hm : len ≤ maxLen) (hm' : len' ≤ maxLen) :
    Calls Try.prog 50 #[.slice a len cap, .slice a' len' cap'] w fun e w' => e = .returned (.bool (apartB xs ys)) ∧ ∃ n, w' = w.drewN n := by
  unfold apartB
  cases h2 : twoB xs ys
  · go_enter Try.func50, Try.ntmps50
    go_wp2_with fail
    refine (l1Two_any _ _ _ _ _ _ xs ys _ hv hv' hm hm').mono ?_
    rintro e w1 ⟨rfl, hw1⟩
    have HW : Hid (∃ n, w1 = w.drewN n) := ⟨0, hw1⟩
    rw [h2]
    clear hw1
    go_wp2_with fail
    go_ret
    exact ⟨ret_bool (by simp), HW.out⟩
  · cases h3 : underB xs ys
    · go_enter Try.func50, Try.ntmps50
      go_wp2_with fail
      refine (l1Two_any _ _ _ _ _ _ xs ys _ hv hv' hm hm').mono ?_
      rintro e w1 ⟨rfl, hw1⟩
      have HW : Hid (∃ n, w1 = w.drewN n) := ⟨0, hw1⟩
      have V1 : Vec w1 a len xs := by obtain ⟨n, h⟩ := HW.out; rw [h]; exact hv.drewN n
      have V1' : Vec w1 a' len' ys := by obtain ⟨n, h⟩ := HW.out; rw [h]; exact hv'.drewN n
      rw [h2]
      clear hw1
      go_wp2_with fail
      refine (specUnder_any _ _ _ _ _ _ xs ys _ V1 V1' hm hm').mono ?_
      rintro e w2 ⟨rfl, hw2⟩
      have HW2 : Hid (∃ n, w2 = w1.drewN n) := hw2
      have V2 : Vec w2 a len xs := by obtain ⟨n, h⟩ := HW2.out; rw [h]; exact V1.drewN n
      have V2' : Vec w2 a' len' ys := by obtain ⟨n, h⟩ := HW2.out; rw [h]; exact V1'.drewN n
      rw [h3]
      clear hw2
      go_wp2_with fail
      refine (specUnder_any _ _ _ _ _ _ ys xs _ V2' V2 hm' hm).mono ?_
      rintro e w3 ⟨rfl, hw3⟩
      have HW3 : Hid (∃ n, w3 = w2.drewN n) := hw3
      clear hw3
      go_wp2_with fail
      go_ret
      refine ⟨ret_bool (by simp), ?_⟩
      obtain ⟨n1, e1⟩ := HW.out
      obtain ⟨n2, e2⟩ := HW2.out
      obtain ⟨n3, e3⟩ := HW3.out
      exact ⟨n1 + (n2 + n3), by rw [e3, e2, e1, World.drewN_drewN, World.drewN_drewN]⟩
    · go_enter Try.func50, Try.ntmps50
      go_wp2_with fail
      refine (l1Two_any _ _ _ _ _ _ xs ys _ hv hv' hm hm').mono ?_
      rintro e w1 ⟨rfl, hw1⟩
      have HW : Hid (∃ n, w1 = w.drewN n) := ⟨0, hw1⟩
      have V1 : Vec w1 a len xs := by obtain ⟨n, h⟩ := HW.out; rw [h]; exact hv.drewN n
      have V1' : Vec w1 a' len' ys := by obtain ⟨n, h⟩ := HW.out; rw [h]; exact hv'.drewN n
      rw [h2]
      clear hw1
      go_wp2_with fail
      refine (specUnder_any _ _ _ _ _ _ xs ys _ V1 V1' hm hm').mono ?_
      rintro e w2 ⟨rfl, hw2⟩
      have HW2 : Hid (∃ n, w2 = w1.drewN n) := hw2
      rw [h3]
      clear hw2
      go_wp2_with fail
      go_ret
      refine ⟨ret_bool (by simp), ?_⟩
      obtain ⟨n1, e1⟩ := HW.out
      obtain ⟨n2, e2⟩ := HW2.out
      exact ⟨n1 + n2, by rw [e2, e1, World.drewN_drewN]⟩

/-- The law FnExactEarlier. -/
theorem lawEarlier (a a' : Option Addr) (len cap len' cap' : Nat) (xs ys : List Int) (w : World) (hv : Vec w a len xs) (hv' : Vec w a' len' ys) (hcap : len ≤ cap) (hm : cap ≤ maxLen) (hcap' : len' ≤ cap') (hm' : cap' ≤ maxLen) :
    Calls Try.prog 8 #[.slice a len cap, .slice a' len' cap'] w fun e w' => e = .returned (.bool true) ∧ Below w.heap.size w w' := by
  by_cases hbig : (1048576 : Int) < (len : Int)
  · go_enter Try.func8, Try.ntmps8
    go_wp2
    go_ret
    exact ⟨rfl, Below.refl _ _⟩
  by_cases hbig' : (1048576 : Int) < (len' : Int)
  · go_enter Try.func8, Try.ntmps8
    go_wp2
    go_ret
    exact ⟨rfl, Below.refl _ _⟩
  · have hf : Fits xs := hv.2.1
    have hf' : Fits ys := hv'.2.1
    have hlen := hv.1
    have hlen' := hv'.1
    subst hlen hlen'
    have hl : xs.length ≤ maxLen := Nat.le_trans hcap hm
    have hl' : ys.length ≤ maxLen := Nat.le_trans hcap' hm'
    go_enter Try.func8, Try.ntmps8
    go_wp2_with fail
    refine (copy_any a _ cap xs w hv (by omega)).mono ?_
    rintro e w1 ⟨b1, rfl, hlt1, hr1, hb1⟩
    go_wp2_with fail
    refine (copy_any a' _ cap' ys _ (hv'.below hb1 (Nat.le_refl _)) (by omega)).mono ?_
    rintro e w2 ⟨b2, rfl, hlt2, hr2, hb2⟩
    have B2 : Below w.heap.size w w2 := hb1.trans (hb2.mono hb1.size)
    go_wp2_with fail
    refine (specEarlier_any _ _ _ _ _ _ xs ys _ ((hr1.below hb2 hr1.lt).vec hf) (hr2.vec hf') hl hl').mono ?_
    rintro e w2' ⟨rfl, n2, rfl⟩
    go_wp2_with fail
    refine (copy_any a _ cap xs _ ((hv.below B2 (Nat.le_refl _)).drewN n2) (by omega)).mono ?_
    rintro e w3 ⟨b3, rfl, hlt3, hr3, hb3⟩
    have B3 : Below w.heap.size w w3 := B2.trans (belowN' (hb3.mono B2.size))
    go_wp2_with fail
    refine (copy_any a' _ cap' ys _ (hv'.below B3 (Nat.le_refl _)) (by omega)).mono ?_
    rintro e w4 ⟨b4, rfl, hlt4, hr4, hb4⟩
    have B4 : Below w.heap.size w w4 := B3.trans (hb4.mono B3.size)
    have R3 := hr3.below hb4 hr3.lt
    go_wp2_with fail
    refine (implEarlier_any _ _ _ _ _ _ xs ys _ (R3.vec hf) (hr4.vec hf') (Nat.le_refl _) (Nat.le_refl _) hl hl').mono ?_
    rintro e w4' ⟨rfl, n4, rfl⟩
    go_wp2_with fail
    refine (copy_any a _ cap xs _ ((hv.below B4 (Nat.le_refl _)).drewN n4) (by omega)).mono ?_
    rintro e w5 ⟨b5, rfl, hlt5, hr5, hb5⟩
    have B5 : Below w.heap.size w w5 := B4.trans (belowN' (hb5.mono B4.size))
    have R3' := RowOf.below (R3.drewN n4) hb5 R3.lt
    have R4' := RowOf.below (hr4.drewN n4) hb5 hr4.lt
    go_wp2_with fail
    refine (eq_any _ _ _ _ _ _ xs xs _ (R3'.vec hf) (hr5.vec hf) hl).mono ?_
    rintro e w5' ⟨rfl, n5, rfl⟩
    go_wp2_with fail
    refine (copy_any a' _ cap' ys _ ((hv'.below B5 (Nat.le_refl _)).drewN n5) (by omega)).mono ?_
    rintro e w6 ⟨b6, rfl, hlt6, hr6, hb6⟩
    have B6 : Below w.heap.size w w6 := B5.trans (belowN' (hb6.mono B5.size))
    have R4'' := RowOf.below (R4'.drewN n5) hb6 R4'.lt
    go_wp2_with fail
    refine (eq_any _ _ _ _ _ _ ys ys _ (R4''.vec hf') (hr6.vec hf') hl').mono ?_
    rintro e w6' ⟨rfl, n6, rfl⟩
    go_wp2
    go_ret
    exact ⟨rfl, belowN B6⟩

/-- The law FnExactApart. -/
theorem lawApart (a a' : Option Addr) (len cap len' cap' : Nat) (xs ys : List Int) (w : World) (hv : Vec w a len xs) (hv' : Vec w a' len' ys) (hcap : len ≤ cap) (hm : cap ≤ maxLen) (hcap' : len' ≤ cap') (hm' : cap' ≤ maxLen) :
    Calls Try.prog 9 #[.slice a len cap, .slice a' len' cap'] w fun e w' => e = .returned (.bool true) ∧ Below w.heap.size w w' := by
  by_cases hbig : (1048576 : Int) < (len : Int)
  · go_enter Try.func9, Try.ntmps9
    go_wp2
    go_ret
    exact ⟨rfl, Below.refl _ _⟩
  by_cases hbig' : (1048576 : Int) < (len' : Int)
  · go_enter Try.func9, Try.ntmps9
    go_wp2
    go_ret
    exact ⟨rfl, Below.refl _ _⟩
  · have hf : Fits xs := hv.2.1
    have hf' : Fits ys := hv'.2.1
    have hlen := hv.1
    have hlen' := hv'.1
    subst hlen hlen'
    have hl : xs.length ≤ maxLen := Nat.le_trans hcap hm
    have hl' : ys.length ≤ maxLen := Nat.le_trans hcap' hm'
    go_enter Try.func9, Try.ntmps9
    go_wp2_with fail
    refine (copy_any a _ cap xs w hv (by omega)).mono ?_
    rintro e w1 ⟨b1, rfl, hlt1, hr1, hb1⟩
    go_wp2_with fail
    refine (copy_any a' _ cap' ys _ (hv'.below hb1 (Nat.le_refl _)) (by omega)).mono ?_
    rintro e w2 ⟨b2, rfl, hlt2, hr2, hb2⟩
    have B2 : Below w.heap.size w w2 := hb1.trans (hb2.mono hb1.size)
    go_wp2_with fail
    refine (specApart_any _ _ _ _ _ _ xs ys _ ((hr1.below hb2 hr1.lt).vec hf) (hr2.vec hf') hl hl').mono ?_
    rintro e w2' ⟨rfl, n2, rfl⟩
    go_wp2_with fail
    refine (copy_any a _ cap xs _ ((hv.below B2 (Nat.le_refl _)).drewN n2) (by omega)).mono ?_
    rintro e w3 ⟨b3, rfl, hlt3, hr3, hb3⟩
    have B3 : Below w.heap.size w w3 := B2.trans (belowN' (hb3.mono B2.size))
    go_wp2_with fail
    refine (copy_any a' _ cap' ys _ (hv'.below B3 (Nat.le_refl _)) (by omega)).mono ?_
    rintro e w4 ⟨b4, rfl, hlt4, hr4, hb4⟩
    have B4 : Below w.heap.size w w4 := B3.trans (hb4.mono B3.size)
    have R3 := hr3.below hb4 hr3.lt
    go_wp2_with fail
    refine (implApart_any _ _ _ _ _ _ xs ys _ (R3.vec hf) (hr4.vec hf') (Nat.le_refl _) (Nat.le_refl _) hl hl').mono ?_
    rintro e w4' ⟨rfl, n4, rfl⟩
    go_wp2_with fail
    refine (copy_any a _ cap xs _ ((hv.below B4 (Nat.le_refl _)).drewN n4) (by omega)).mono ?_
    rintro e w5 ⟨b5, rfl, hlt5, hr5, hb5⟩
    have B5 : Below w.heap.size w w5 := B4.trans (belowN' (hb5.mono B4.size))
    have R3' := RowOf.below (R3.drewN n4) hb5 R3.lt
    have R4' := RowOf.below (hr4.drewN n4) hb5 hr4.lt
    go_wp2_with fail
    refine (eq_any _ _ _ _ _ _ xs xs _ (R3'.vec hf) (hr5.vec hf) hl).mono ?_
    rintro e w5' ⟨rfl, n5, rfl⟩
    go_wp2_with fail
    refine (copy_any a' _ cap' ys _ ((hv'.below B5 (Nat.le_refl _)).drewN n5) (by omega)).mono ?_
    rintro e w6 ⟨b6, rfl, hlt6, hr6, hb6⟩
    have B6 : Below w.heap.size w w6 := B5.trans (belowN' (hb6.mono B5.size))
    have R4'' := RowOf.below (R4'.drewN n5) hb6 R4'.lt
    go_wp2_with fail
    refine (eq_any _ _ _ _ _ _ ys ys _ (R4''.vec hf') (hr6.vec hf') hl').mono ?_
    rintro e w6' ⟨rfl, n6, rfl⟩
    go_wp2
    go_ret
    exact ⟨rfl, belowN B6⟩
end Go.Proofs.Ytacogcfdolmfpaa
