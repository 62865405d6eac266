/-
  Several texts in one: Ich.
-/
import Derived.Test.YtjefneaghlohlaaKa
import Derived.Test.YtjefneaghlohlaaJc
/-
  Children of the program.
-/
namespace Go.Proofs.Ytjefneaghlohlaa
set_option linter.unusedVariables false
set_option linter.unusedSimpArgs false
open Go.RowKit Go.Sort

theorem pow_le_of_lt_bl {K i : Nat} (h : i < bl K) : 2 ^ i ≤ K := by
  rcases Nat.eq_zero_or_pos K with e | e
  · subst e; exact absurd h (Nat.not_lt_zero _)
  · rw [bl_pos e] at h
    have h1 : 2 ^ i ≤ 2 ^ Nat.log2 K := Nat.pow_le_pow_right (by omega) (by omega)
    have h2 := pw_le e
    unfold pw at h2
    omega
theorem kp_low (n K : Nat) : ∀ j, j ≤ bl K → kp n K j = [] := by
  intro j
  induction j with
  | zero => intro _; rfl
  | succ j ih =>
    intro h
    have := pow_le_of_lt_bl (K := K) (i := j) (by omega)
    rw [kp_succ, ih (by omega), if_neg (by omega)]
    rfl
theorem kp_high {n K j : Nat} (h : n ≤ K + 2 ^ j) : ∀ d, kp n K (j + d) = kp n K j := by
  intro d
  induction d with
  | zero => rfl
  | succ d ih =>
    have : 2 ^ j ≤ 2 ^ (j + d) := Nat.pow_le_pow_right (by omega) (by omega)
    rw [show j + (d + 1) = (j + d) + 1 by omega, kp_succ, ih, if_neg (by omega), List.append_nil]
theorem kp_all {n K j : Nat} (hn : n ≤ 1000) (h : n ≤ K + 2 ^ j) : kp n K j = chl n K := by
  rw [← kp_high h 10]
  refine kp_chl ?_
  have : 2 ^ 10 ≤ 2 ^ (j + 10) := Nat.pow_le_pow_right (by omega) (by omega)
  have e : (2 : Nat) ^ 10 = 1024 := rfl
  omega
theorem kp_next {n K j : Nat} (h1 : bl K ≤ j) (h2 : K + 2 ^ j < n) : kp n K (j + 1) = kp n K j ++ [((K + 2 ^ j : Nat) : Int)] := by
  have h3 : 2 ^ bl K ≤ 2 ^ j := Nat.pow_le_pow_right (by omega) h1
  have h4 := pa_gt K
  unfold pa at h4
  rw [kp_succ, if_pos ⟨by omega, h2⟩]

set_option maxRecDepth 100000 in
set_option maxHeartbeats 3200000 in
theorem implChildren : ImplChildren := by
  intro n k w hn hk
  obtain ⟨i0, hi0, hz0, hz1, hz2⟩ := info_parts2n Try.info2n
  have hT := fun w => isT9_any n w
  have hW := fun w => isW9_any k (n - 1) w
  have hI := hn
  unfold I64t at hI
  cases e0 : inB n 1 1000 with
  | false =>
    have HZ : Hid (chlL n k = []) := by rw [Hid, chlL, e0]; rfl
    rw [e0] at hT
    clear e0 hW
    go_enter Try.func32, Try.ntmps32
    go_wp2_with (go_at_call 77; refine (hT _).mono ?_; rintro e w' ⟨rfl, hw'⟩; rw [hw']; clear hw')
    go_ret
    rw [HZ.out]
    exact ⟨_, 0, 0, rfl, Nat.le_refl _, num_empty _ 2, (Below.refl _ _).alloc (Nat.le_refl _) _⟩
  | true =>
    have hk1 := inB7.1 e0
    cases e1 : inB k 0 (n - 1) with
    | false =>
      have HZ : Hid (chlL n k = []) := by rw [Hid, chlL, e0, e1]; rfl
      rw [e0] at hT
      rw [e1] at hW
      clear e0 e1
      go_enter Try.func32, Try.ntmps32
      go_wp2_with (first | (go_at_call 77; refine (hT _).mono ?_; rintro e w' ⟨rfl, hw'⟩; rw [hw']; clear hw') | (go_at_call 74; refine (hW _).mono ?_; rintro e w' ⟨rfl, hw'⟩; rw [hw']; clear hw'))
      go_ret
      rw [HZ.out]
      exact ⟨_, 0, 0, rfl, Nat.le_refl _, num_empty _ 2, (Below.refl _ _).alloc (Nat.le_refl _) _⟩
    | true =>
      have hk2 := inB7.1 e1
      obtain ⟨N, rfl⟩ : ∃ N : Nat, n = (N : Int) := ⟨n.toNat, by omega⟩
      obtain ⟨K, rfl⟩ : ∃ K : Nat, k = (K : Int) := ⟨k.toNat, by omega⟩
      have HZ : Hid (chlL (N : Int) (K : Int) = chl N K) := by rw [Hid, chlL, e0, e1]; simp
      have hP := fun w => pwa_any K w (by omega)
      have hN : N ≤ 1000 := by omega
      have HA : Hid (pa K = 2 ^ bl K) := rfl
      rw [e0] at hT
      rw [e1] at hW
      clear e0 e1
      generalize hPA : pa K = PA at *
      go_enter Try.func32, Try.ntmps32
      go_wp2_with (first | (go_at_call 77; refine (hT _).mono ?_; rintro e w' ⟨rfl, hw'⟩; rw [hw']; clear hw') | (go_at_call 74; refine (hW _).mono ?_; rintro e w' ⟨rfl, hw'⟩; rw [hw']; clear hw') | (go_at_call 75; refine (hP _).mono ?_; rintro e w' ⟨rfl, hw'⟩; rw [hw']; clear hw'))
      go_loopw [5, 6] (fun v p wr => ∃ (j g og cg : Nat), bl K ≤ j ∧ j ≤ 11 ∧ p = .int .i64 ((2 ^ j : Nat) : Int) ∧ v = .slice (some ⟨g, og, none⟩) (kp N K j).length cg ∧ w.heap.size ≤ g ∧ OI wr g og (kp N K j).length cg (kp N K j) ∧ Below w.heap.size w wr) (fun _ p _ => 4096 - (intOf p).toNat)
      case atStart => exact ⟨bl K, w.heap.size, 0, 0, Nat.le_refl _, by have := bl_le (n := K) (by omega); omega, by rw [HA.out], by rw [kp_low _ _ _ (Nat.le_refl _)]; rfl, Nat.le_refl _, by rw [kp_low _ _ _ (Nat.le_refl _)]; exact num_empty _ 2, (Below.refl _ _).alloc (Nat.le_refl _) _⟩
      case round =>
        obtain ⟨j, g, og, cg, hj0, hj, rfl, rfl, hg, hO, hB⟩ := hrel
        have LO : Hid (OI wr g og (kp N K j).length cg (kp N K j)) := hO
        have LB : Hid (Below w.heap.size w wr) := hB
        have LG : Hid (w.heap.size ≤ g) := hg
        have LLE : (kp N K j).length ≤ 1000 := Nat.le_trans (kp_len N K j) (by omega)
        have h2j : 2 ^ j ≤ 2048 := Nat.le_trans (Nat.pow_le_pow_right (by omega) hj) (by decide)
        have h1j : 1 ≤ 2 ^ j := Nat.one_le_two_pow
        clear hO hB hg
        by_cases hlt : K + 2 ^ j < N
        · have HR : Hid (kp N K (j + 1) = kp N K j ++ [((K + 2 ^ j : Nat) : Int)]) := kp_next hj0 hlt
          have HE : Hid (2 ^ (j + 1) = 2 ^ j * 2) := by rw [Hid, Nat.pow_succ]
          have hj11 : j < 11 := by
            refine Nat.lt_of_not_le (fun h => ?_)
            have := Nat.pow_le_pow_right (n := 2) (by omega) h
            omega
          generalize 2 ^ j = Q at *
          have hlt' : (K : Int) + (Q : Int) < (N : Int) := by omega
          generalize hW1 : kp N K (j + 1) = W1 at *
          generalize kp N K j = W0 at *
          have hc : ((K + Q : Nat) : Int) = (K : Int) + (Q : Int) := by omega
          rw [hc] at HR
          clear hc
          have hO2 : OSl (wr.alloc (.cells #[.int .i64 ((K : Int) + (Q : Int))] 2)) 1 g og W0.length cg (W0.map (Value.int .i64)) := OSl.below LO.out ((Below.refl _ _).alloc (Nat.le_refl _) _) LO.out.blk
          go_wp2_with (at_builtin; refine wpList_append_os _ rfl _ _ _ rfl 2 i0 _ 1 8 Try.underlying24 hi0 hz0 hz1 hz2 rfl (by omega) g og W0.length cg _ rfl hO2 ⟨wr.heap.size, 0, none⟩ 1 1 [.int .i64 ((K : Int) + (Q : Int))] rfl rfl (World.news_of_block (cs := #[.int .i64 ((K : Int) + (Q : Int))]) (t := 2) (fr := (0, 0)) (heap_alloc_new _ _)) (by simp [Value.oneCell']) (by unfold maxLen; omega) (by omega) ?_; intro g6 o6 c6 w6 hO6 hg6 hat6)
          have NG : Hid (w.heap.size ≤ g6) := by
            rcases hat6 with h | h
            · rw [h]; exact LG.out
            · rw [h]; exact Nat.le_trans LB.out.size (by simp)
          have NL : Hid (W1.length = W0.length + 1) := by rw [Hid, HR.out]; simp
          have NO : Hid (OI w6 g6 o6 W1.length c6 W1) := by
            rw [Hid, NL.out, HR.out, OI, List.map_append]; exact hO6
          have NB : Hid (Below w.heap.size w w6) := below_grown6 (LB.out.alloc LB.out.size _) hg6 LG.out (Nat.le_trans LB.out.size (by simp))
          clear hO6 hg6 hat6 hO2
          go_roundw
          case rel => exact ⟨j + 1, g6, o6, c6, by omega, by omega, by rw [HE.out]; go_num, by rw [hW1, NL.out], NG.out, by rw [hW1]; exact NO.out, NB.out⟩
          case measure => simp [intOf]; omega
        · have HF : Hid (AnsN w wr (.returned (.slice (some ⟨g, og, none⟩) (kp N K j).length cg)) (chlL (N : Int) (K : Int))) := by
            rw [Hid, HZ.out, ← kp_all hN (by omega : N ≤ K + 2 ^ j)]
            exact ⟨g, og, cg, rfl, LG.out, LO.out, LB.out⟩
          generalize 2 ^ j = Q at *
          have hlt' : ¬ ((K : Int) + (Q : Int) < (N : Int)) := by omega
          go_wp2
          go_ret
          exact HF.out
end Go.Proofs.Ytjefneaghlohlaa
