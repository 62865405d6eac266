/-
  The contracts of the two functions VectorOk (the program's own and the specification's) and of the helpers least and greatest that the program's own goes by.
-/
import Derived.Test.YtacogcfdolmfpaaBase
namespace Go.Proofs.Ytacogcfdolmfpaa
open Go.RowKit

set_option maxHeartbeats 400000 in
theorem specOk_any (a : Option Addr) (len cap : Nat) (xs : List Int) (w : World) (hv : Vec w a len xs) (hm : len ≤ maxLen) :
    Calls Try.prog 27 #[.slice a len cap] w fun e w' => e = .returned (.bool (okB xs)) ∧ w' = w := by
  unfold maxLen at hm
  obtain ⟨hlen, hb, hcs⟩ := hv
  by_cases h1 : (len : Int) < 1
  · go_enter Try.func27, Try.ntmps27
    go_wp2
    go_ret
    exact ⟨ret_bool (by rw [okB_false_len (by omega)]), rfl⟩
  · have h1' : decide ((len : Int) < 1) = false := by simpa using h1
    by_cases h8 : (8 : Int) < (len : Int)
    · go_enter Try.func27, Try.ntmps27
      go_wp2
      go_ret
      exact ⟨ret_bool (by rw [okB_false_len (by omega)]), rfl⟩
    · have h8' : decide ((8 : Int) < (len : Int)) = false := by simpa using h8
      rcases hcs with h0 | ⟨b, off, rfl, hc⟩
      · omega
      · have HL : Hid (xs.length = len) := hlen
        clear hlen
        go_enter Try.func27, Try.ntmps27
        go_wp2
        go_loop [3] (fun i => ∃ k : Nat, k ≤ len ∧ i = .int .i64 k ∧ ∀ j, j < k → inB (el xs j) 0 1000000 = true) (fun i => len - (intOf i).toNat)
        case atStart => exact ⟨0, Nat.zero_le _, rfl, fun j hj => by omega⟩
        case round =>
          obtain ⟨k, hk, rfl, hall⟩ := hrel
          have HA : Hid (∀ j, j < k → inB (el xs j) 0 1000000 = true) := hall
          clear hall
          by_cases hlt : k < len
          · have hck := hc k hlt
            cases hin : inB (el xs k) 0 1000000
            · go_wp2_with (go_at_call 82; refine (l1In_any _ _ _ _).mono ?_; rintro e w' ⟨rfl, rfl⟩)
              go_ret
              exact ⟨ret_bool (by rw [okB_false_at (by rw [HL.out]; exact hlt) hin]), rfl⟩
            · go_wp2_with (go_at_call 82; refine (l1In_any _ _ _ _).mono ?_; rintro e w' ⟨rfl, rfl⟩)
              go_round
              case rel => exact ⟨k + 1, by omega, by go_num, fun j hj => by
                rcases Nat.lt_succ_iff_lt_or_eq.1 hj with h | h
                · exact HA.out j h
                · rw [h]; exact hin⟩
              case measure => simp [intOf]; omega
          · go_wp2
            go_ret
            exact ⟨ret_bool (by rw [okB_true_of (by rw [HL.out]; omega) (by rw [HL.out]; omega) (fun j hj => HA.out j (by rw [HL.out] at hj; omega))]), rfl⟩

set_option maxHeartbeats 400000 in
theorem least_any (x : Int) (a : Option Addr) (len cap : Nat) (xs : List Int) (w : World) (hv : Vec w a len xs) (hm : len ≤ maxLen) :
    Calls Try.prog 70 #[.int .i64 x, .slice a len cap] w fun e w' => e = .returned (.int .i64 (loL x xs)) ∧ w' = w := by
  unfold maxLen at hm
  obtain ⟨hlen, hb, hcs⟩ := hv
  have HL : Hid (xs.length = len) := hlen
  clear hlen hb
  rcases hcs with h0 | ⟨b, off, rfl, hc⟩
  all_goals
    go_enter Try.func70, Try.ntmps70
    go_wp2
    go_loop [5, 7, 11] (fun m n i => ∃ k : Nat, k ≤ len ∧ i = .int .i64 k ∧ m = .int .i64 (loL x (xs.take k))) (fun _ _ i => len - (intOf i).toNat)
    case atStart => exact ⟨0, Nat.zero_le _, rfl, rfl⟩
    case round =>
      obtain ⟨k, hk, rfl, rfl⟩ := hrel
      by_cases hlt : k < len
      · first
          | omega
          | (have hck := hc k hlt
             have HS : Hid (loL x (xs.take (k + 1)) = min (loL x (xs.take k)) (el xs k)) := by
               rw [Hid, take_snoc (by rw [HL.out]; exact hlt), loL_snoc]
             go_wp2
             go_round
             case rel => exact ⟨k + 1, by omega, by go_num, by rw [HS.out]⟩
             case measure => simp [intOf]; omega)
      · go_wp2
        go_ret
        exact ⟨ret_int (by rw [List.take_of_length_le (by rw [HL.out]; omega)]), rfl⟩
set_option maxHeartbeats 400000 in
theorem greatest_any (x : Int) (a : Option Addr) (len cap : Nat) (xs : List Int) (w : World) (hv : Vec w a len xs) (hm : len ≤ maxLen) :
    Calls Try.prog 69 #[.int .i64 x, .slice a len cap] w fun e w' => e = .returned (.int .i64 (hiL x xs)) ∧ w' = w := by
  unfold maxLen at hm
  obtain ⟨hlen, hb, hcs⟩ := hv
  have HL : Hid (xs.length = len) := hlen
  clear hlen hb
  rcases hcs with h0 | ⟨b, off, rfl, hc⟩
  all_goals
    go_enter Try.func69, Try.ntmps69
    go_wp2
    go_loop [5, 7, 11] (fun m n i => ∃ k : Nat, k ≤ len ∧ i = .int .i64 k ∧ m = .int .i64 (hiL x (xs.take k))) (fun _ _ i => len - (intOf i).toNat)
    case atStart => exact ⟨0, Nat.zero_le _, rfl, rfl⟩
    case round =>
      obtain ⟨k, hk, rfl, rfl⟩ := hrel
      by_cases hlt : k < len
      · first
          | omega
          | (have hck := hc k hlt
             have HS : Hid (hiL x (xs.take (k + 1)) = max (hiL x (xs.take k)) (el xs k)) := by
               rw [Hid, take_snoc (by rw [HL.out]; exact hlt), hiL_snoc]
             go_wp2
             go_round
             case rel => exact ⟨k + 1, by omega, by go_num, by rw [HS.out]⟩
             case measure => simp [intOf]; omega)
      · go_wp2
        go_ret
        exact ⟨ret_int (by rw [List.take_of_length_le (by rw [HL.out]; omega)]), rfl⟩

/-- The slice behind the first number, as a slice expression makes it. -/
theorem Vec.tail {w : World} {b off len cap : Nat} {xs : List Int} (hlen : xs.length = len) (hb : ∀ x ∈ xs, -9223372036854775808 ≤ x ∧ x ≤ 9223372036854775807)
    (hc : ∀ i, i < len → w.cell? ⟨b, off + i, none⟩ = some (.int .i64 (el xs i))) (hcap : len ≤ cap) (n : Nat) :
    Vec (w.drewN n) (if cap = 1 then some ⟨b, off, none⟩ else some ⟨b, off + 1, none⟩) (len - 1) xs.tail := by
  refine ⟨by simp [hlen], fun x hx => hb x (List.mem_of_mem_tail hx), ?_⟩
  by_cases h : cap = 1
  · left; omega
  · right
    refine ⟨b, off + 1, by simp [h], fun i hi => ?_⟩
    have := hc (i + 1) (by omega)
    rw [show off + (i + 1) = off + 1 + i from by omega] at this
    simp only [World.cell?_drewN]
    rw [this]; simp [el]

set_option maxHeartbeats 400000 in
theorem vleast_any (b off len cap : Nat) (xs : List Int) (w : World) (hlen : xs.length = len) (hb : ∀ x ∈ xs, -9223372036854775808 ≤ x ∧ x ≤ 9223372036854775807)
    (hc : ∀ i, i < len → w.cell? ⟨b, off + i, none⟩ = some (.int .i64 (el xs i))) (h1 : 1 ≤ len) (hcap : len ≤ cap) (hm : cap ≤ maxLen) :
    Calls Try.prog 80 #[.slice (some ⟨b, off, none⟩) len cap] w fun e w' => e = .returned (.int .i64 (loL (el xs 0) xs.tail)) ∧ ∃ n, w' = w.drewN n := by
  have hT := Vec.tail hlen hb hc hcap
  unfold maxLen at hm
  have hc0 := hc 0 (by omega)
  simp only [Nat.add_zero] at hc0
  have hp : (0 : Int) < (len : Int) := by omega
  have hp1 : (1 : Int) ≤ (len : Int) := by omega
  have hp2 : (len : Int) ≤ (cap : Int) := by omega
  go_enter Try.func80, Try.ntmps80
  go_wp2_with fail
  go_quiet ((go_at_call 70; exact (least_any _ _ _ _ _ _ (hT _) (by unfold maxLen; omega)).mono (fun e w' h => ⟨h.1, _, h.2⟩)))
  go_wp2
  all_goals
    go_ret
    exact ⟨rfl, _, rfl⟩

set_option maxHeartbeats 400000 in
theorem vgreatest_any (b off len cap : Nat) (xs : List Int) (w : World) (hlen : xs.length = len) (hb : ∀ x ∈ xs, -9223372036854775808 ≤ x ∧ x ≤ 9223372036854775807)
    (hc : ∀ i, i < len → w.cell? ⟨b, off + i, none⟩ = some (.int .i64 (el xs i))) (h1 : 1 ≤ len) (hcap : len ≤ cap) (hm : cap ≤ maxLen) :
    Calls Try.prog 109 #[.slice (some ⟨b, off, none⟩) len cap] w fun e w' => e = .returned (.int .i64 (hiL (el xs 0) xs.tail)) ∧ ∃ n, w' = w.drewN n := by
  have hT := Vec.tail hlen hb hc hcap
  unfold maxLen at hm
  have hc0 := hc 0 (by omega)
  simp only [Nat.add_zero] at hc0
  have hp : (0 : Int) < (len : Int) := by omega
  have hp1 : (1 : Int) ≤ (len : Int) := by omega
  have hp2 : (len : Int) ≤ (cap : Int) := by omega
  go_enter Try.func109, Try.ntmps109
  go_wp2_with fail
  go_quiet ((go_at_call 69; exact (greatest_any _ _ _ _ _ _ (hT _) (by unfold maxLen; omega)).mono (fun e w' h => ⟨h.1, _, h.2⟩)))
  go_wp2
  all_goals
    go_ret
    exact ⟨rfl, _, rfl⟩

theorem okB_ends {xs : List Int} (h1 : 1 ≤ xs.length) (h8 : xs.length ≤ 8) :
    okB xs = (decide (0 ≤ loL (el xs 0) xs.tail) && decide (hiL (el xs 0) xs.tail ≤ 1000000)) := by
  have lo : ∀ (l : List Int) (x m : Int), m ≤ loL x l ↔ m ≤ x ∧ ∀ y ∈ l, m ≤ y := by
    intro l; induction l with
    | nil => intro x m; simp [loL]
    | cons y l ih => intro x m; have := ih (min x y) m; unfold loL at this ⊢; simp only [List.foldl_cons, List.mem_cons, forall_eq_or_imp]; rw [this, Int.le_min]; exact ⟨fun h => ⟨h.1.1, h.1.2, h.2⟩, fun h => ⟨⟨h.1, h.2.1⟩, h.2.2⟩⟩
  have hi : ∀ (l : List Int) (x m : Int), hiL x l ≤ m ↔ x ≤ m ∧ ∀ y ∈ l, y ≤ m := by
    intro l; induction l with
    | nil => intro x m; simp [hiL]
    | cons y l ih => intro x m; have := ih (max x y) m; unfold hiL at this ⊢; simp only [List.foldl_cons, List.mem_cons, forall_eq_or_imp]; rw [this, Int.max_le]; exact ⟨fun h => ⟨h.1.1, h.1.2, h.2⟩, fun h => ⟨⟨h.1, h.2.1⟩, h.2.2⟩⟩
  match xs, h1, h8 with
  | x :: l, h1, h8 =>
    rw [Bool.eq_iff_iff]
    simp only [Bool.and_eq_true, decide_eq_true_eq, List.tail_cons, lo, hi]
    unfold okB inB
    simp only [Bool.and_eq_true, decide_eq_true_eq, List.all_cons, List.all_eq_true]
    have e : el (x :: l) 0 = x := rfl
    rw [e]
    constructor
    · rintro ⟨_, ⟨a, b⟩, c⟩; exact ⟨⟨a, fun y hy => (c y hy).1⟩, b, fun y hy => (c y hy).2⟩
    · rintro ⟨⟨a, c⟩, b, d⟩; exact ⟨⟨h1, h8⟩, ⟨a, b⟩, fun y hy => ⟨c y hy, d y hy⟩⟩

set_option maxHeartbeats 400000 in
theorem vok_any (a : Option Addr) (len cap : Nat) (xs : List Int) (w : World) (hv : Vec w a len xs) (hcap : len ≤ cap) (hm : cap ≤ maxLen) :
    Calls Try.prog 81 #[.slice a len cap] w fun e w' => e = .returned (.bool (okB xs)) ∧ ∃ n, w' = w.drewN n := by
  obtain ⟨hlen, hb, hcs⟩ := hv
  by_cases h1 : (len : Int) < 1
  · go_enter Try.func81, Try.ntmps81
    go_wp2
    go_ret
    exact ⟨ret_bool (by rw [okB_false_len (by omega)]), 0, rfl⟩
  · have h1' : decide ((len : Int) < 1) = false := by simpa using h1
    by_cases h8 : (8 : Int) < (len : Int)
    · go_enter Try.func81, Try.ntmps81
      go_wp2
      go_ret
      exact ⟨ret_bool (by rw [okB_false_len (by omega)]), 0, rfl⟩
    · have h8' : decide ((8 : Int) < (len : Int)) = false := by simpa using h8
      rcases hcs with h0 | ⟨b, off, rfl, hc⟩
      · omega
      · have HE : Hid (okB xs = (decide (0 ≤ loL (el xs 0) xs.tail) && decide (hiL (el xs 0) xs.tail ≤ 1000000))) := okB_ends (by omega) (by omega)
        have HL : Hid (xs.length = len) := hlen
        clear hlen
        by_cases hl : 0 ≤ loL (el xs 0) xs.tail
        · go_enter Try.func81, Try.ntmps81
          go_wp2_with (first | (go_at_call 80; refine (vleast_any b off len cap xs _ HL.out hb (by exact hc) (by omega) hcap hm).mono ?_; rintro e w' ⟨rfl, n1, rfl⟩) | (go_at_call 109; refine (vgreatest_any b off len cap xs _ HL.out hb (by exact hc) (by omega) hcap hm).mono ?_; rintro e w' ⟨rfl, n2, rfl⟩))
          go_ret
          exact ⟨ret_bool (by rw [HE.out]; simp [hl]), _, rfl⟩
        · have hl' : decide (0 ≤ loL (el xs 0) xs.tail) = false := by simpa using hl
          go_enter Try.func81, Try.ntmps81
          go_wp2_with (first | (go_at_call 80; refine (vleast_any b off len cap xs _ HL.out hb (by exact hc) (by omega) hcap hm).mono ?_; rintro e w' ⟨rfl, n1, rfl⟩) | (go_at_call 109; refine (vgreatest_any b off len cap xs _ HL.out hb (by exact hc) (by omega) hcap hm).mono ?_; rintro e w' ⟨rfl, n2, rfl⟩))
          go_ret
          exact ⟨ret_bool (by rw [HE.out]; simp [hl']), _, rfl⟩

set_option maxHeartbeats 400000 in
theorem implOk_any (a : Option Addr) (len cap : Nat) (xs : List Int) (w : World) (hv : Vec w a len xs) (hcap : len ≤ cap) (hm : cap ≤ maxLen) :
    Calls Try.prog 26 #[.slice a len cap] w fun e w' => e = .returned (.bool (okB xs)) ∧ ∃ n, w' = w.drewN n := by
  go_enter Try.func26, Try.ntmps26
  go_wp2_with (go_at_call 81; refine (vok_any a len cap xs _ hv hcap hm).mono ?_; rintro e w' ⟨rfl, n, rfl⟩)
  go_ret
  exact ⟨rfl, _, rfl⟩
end Go.Proofs.Ytacogcfdolmfpaa
