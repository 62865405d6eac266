/-
  Several texts in one: Tre.
-/
import Derived.Test.YtjefneaghlohlaaHy
/-
  Rounds, parents, children, calls and depths as plain numbers and lists.
-/
namespace Go.Proofs.Ytjefneaghlohlaa
set_option linter.unusedVariables false
set_option linter.unusedSimpArgs false


/-- The greatest power of two that is not above k (from 1 on). -/
def pw (k : Nat) : Nat := 2 ^ Nat.log2 k
def par (k : Nat) : Nat := k - pw k
theorem pw_le {k : Nat} (h : 1 ≤ k) : pw k ≤ k := Nat.log2_self_le (by omega)
theorem lt_pw (k : Nat) : k < 2 * pw k := by
  have := Nat.lt_log2_self (n := k)
  rw [Nat.pow_succ] at this
  unfold pw
  omega
theorem pw_pos (k : Nat) : 1 ≤ pw k := Nat.one_le_two_pow
theorem par_lt {k : Nat} (h : 1 ≤ k) : par k < k := by
  have := pw_pos k
  unfold par
  omega
theorem par_lt_pw {k : Nat} (h : 1 ≤ k) : par k < pw k := by
  have := lt_pw k
  have := pw_le h
  unfold par
  omega
theorem pow_lt_pow2 {a b : Nat} (h : a < b) : 2 * 2 ^ a ≤ 2 ^ b := by
  have : 2 ^ (a + 1) ≤ 2 ^ b := Nat.pow_le_pow_right (by omega) h
  rw [Nat.pow_succ] at this
  omega
/-- What tells the power. -/
theorem log2_is {k j : Nat} (h1 : 2 ^ j ≤ k) (h2 : k < 2 * 2 ^ j) : Nat.log2 k = j := by
  have hk : 1 ≤ k := Nat.le_trans Nat.one_le_two_pow h1
  have a := pw_le hk
  have b := lt_pw k
  unfold pw at a b
  rcases Nat.lt_trichotomy (Nat.log2 k) j with h | h | h
  · have := pow_lt_pow2 h; omega
  · exact h
  · have := pow_lt_pow2 h; omega
theorem pw_is {k j : Nat} (h1 : 2 ^ j ≤ k) (h2 : k < 2 * 2 ^ j) : pw k = 2 ^ j := by rw [pw, log2_is h1 h2]
theorem par_is {j t : Nat} (h : t < 2 ^ j) : par (2 ^ j + t) = t := by
  rw [par, pw_is (j := j) (by omega) (by omega)]
  omega
/-- How many rounds: the least r with 2 ^ r at least n. -/
def rnd (n : Nat) : Nat := if n ≤ 1 then 0 else Nat.log2 (n - 1) + 1
theorem rnd_ge {n : Nat} : n ≤ 2 ^ rnd n := by
  unfold rnd
  by_cases h : n ≤ 1
  · rw [if_pos h]; simpa using h
  · rw [if_neg h]
    have := Nat.lt_log2_self (n := n - 1)
    omega
theorem rnd_lt {n r : Nat} (h : r < rnd n) : 2 ^ r < n := by
  unfold rnd at h
  by_cases h1 : n ≤ 1
  · rw [if_pos h1] at h; omega
  · rw [if_neg h1] at h
    have a : 2 ^ r ≤ 2 ^ Nat.log2 (n - 1) := Nat.pow_le_pow_right (by omega) (by omega)
    have b := Nat.log2_self_le (n := n - 1) (by omega)
    omega
theorem rnd_is {n r : Nat} (h1 : n ≤ 2 ^ r) (h2 : ∀ s, s < r → 2 ^ s < n) : rnd n = r := by
  rcases Nat.lt_trichotomy (rnd n) r with h | h | h
  · have := h2 _ h
    have := rnd_ge (n := n)
    omega
  · exact h
  · have := rnd_lt h
    omega
/-- How many parents up to 0. -/
def dep (k : Nat) : Nat := if h : k = 0 then 0 else dep (par k) + 1
termination_by k
decreasing_by exact par_lt (by omega)
theorem dep_zero : dep 0 = 0 := by rw [dep]; simp
theorem dep_succ {k : Nat} (h : 1 ≤ k) : dep k = dep (par k) + 1 := by
  rw [dep, dif_neg (by omega)]
theorem dep_log (k : Nat) : 1 ≤ k → dep k ≤ Nat.log2 k + 1 := by
  induction k using Nat.strongRecOn with
  | _ k ih =>
    intro hk
    rw [dep_succ hk]
    rcases Nat.eq_zero_or_pos (par k) with h | h
    · rw [h, dep_zero]; omega
    · have h1 := ih _ (par_lt hk) h
      have h2 := par_lt_pw hk
      have h3 := pw_le h
      unfold pw at h2 h3
      have h4 : Nat.log2 (par k) < Nat.log2 k := by
        rcases Nat.lt_or_ge (Nat.log2 (par k)) (Nat.log2 k) with h | h
        · exact h
        · have : 2 ^ Nat.log2 k ≤ 2 ^ Nat.log2 (par k) := Nat.pow_le_pow_right (by omega) h
          omega
      omega
theorem dep_rnd {n : Nat} (h : 1 ≤ n) : dep (n - 1) ≤ rnd n := by
  unfold rnd
  by_cases h1 : n ≤ 1
  · rw [if_pos h1, show n - 1 = 0 by omega, dep_zero]; omega
  · rw [if_neg h1]
    exact dep_log _ (by omega)
/-- The ones among the bits. -/
def ones (k : Nat) : Nat := if h : k = 0 then 0 else k % 2 + ones (k / 2)
termination_by k
decreasing_by omega
theorem ones_step (k : Nat) : ones k = k % 2 + ones (k / 2) := by
  by_cases h : k = 0
  · subst h; rw [ones]; simp [ones]
  · rw [ones, dif_neg h]
theorem ones_pow (j : Nat) : ∀ t, t < 2 ^ j → ones (2 ^ j + t) = ones t + 1 := by
  induction j with
  | zero => intro t ht; obtain rfl : t = 0 := by simpa using ht
            rw [ones_step]; simp [ones]
  | succ j ih =>
    intro t ht
    rw [Nat.pow_succ] at ht ⊢
    have h1 := ih (t / 2) (by omega)
    rw [ones_step (2 ^ j * 2 + t), ones_step t, show (2 ^ j * 2 + t) % 2 = t % 2 by omega, show (2 ^ j * 2 + t) / 2 = 2 ^ j + t / 2 by omega, h1]
    omega
theorem dep_ones (k : Nat) : dep k = ones k := by
  induction k using Nat.strongRecOn with
  | _ k ih =>
    rcases Nat.eq_zero_or_pos k with h | h
    · subst h; rw [dep_zero]; simp [ones]
    · rw [dep_succ h, ih _ (par_lt h)]
      have h1 := par_lt_pw h
      have h2 := pw_le h
      have h3 : k = 2 ^ Nat.log2 k + par k := by unfold par pw at *; omega
      unfold pw at h1
      have h4 := ones_pow (Nat.log2 k) (par k) h1
      rw [← h3] at h4
      exact h4.symm
/-- The children: all below n whose parent is k. -/
def isCh (k i : Nat) : Bool := decide (1 ≤ i) && decide (par i = k)
theorem isCh_iff {k i : Nat} : isCh k i = true ↔ 1 ≤ i ∧ i - pw i = k := by
  simp only [isCh, Bool.and_eq_true, decide_eq_true_eq]
  exact Iff.rfl
def chl (n k : Nat) : List Int := ((List.range n).filter (isCh k)).map (fun i : Nat => (i : Int))
theorem chl_succ (n k : Nat) : chl (n + 1) k = chl n k ++ (if isCh k n = true then [(n : Int)] else []) := by
  unfold chl
  rw [List.range_succ, List.filter_append, List.map_append]
  congr 1
  by_cases h : isCh k n = true <;> simp [h]
theorem mem_chl {n k : Nat} {q : Int} : q ∈ chl n k ↔ ∃ i : Nat, q = (i : Int) ∧ i < n ∧ 1 ≤ i ∧ par i = k := by
  simp only [chl, isCh, List.mem_map, List.mem_filter, List.mem_range, Bool.and_eq_true, decide_eq_true_eq]
  constructor
  · rintro ⟨i, ⟨h1, h2, h3⟩, rfl⟩; exact ⟨i, rfl, h1, h2, h3⟩
  · rintro ⟨i, rfl, h1, h2, h3⟩; exact ⟨i, ⟨h1, h2, h3⟩, rfl⟩
theorem chl_rises (n k : Nat) : (chl n k).Pairwise (· < ·) := by
  unfold chl
  rw [List.pairwise_map]
  refine List.Pairwise.imp ?_ (List.Pairwise.filter _ List.pairwise_lt_range)
  intro a b h
  omega
theorem chl_len (n k : Nat) : (chl n k).length ≤ n := by
  unfold chl
  rw [List.length_map]
  exact Nat.le_trans (List.length_filter_le _ _) (by simp)
/-- The calls of round r, the first m of them. -/
def cal (r m : Nat) : List (Int × Int) := (List.range m).map (fun t : Nat => ((t : Int), ((2 ^ r + t : Nat) : Int)))
theorem cal_succ (r m : Nat) : cal r (m + 1) = cal r m ++ [((m : Int), ((2 ^ r + m : Nat) : Int))] := by simp [cal, List.range_succ]
theorem cal_len (r m : Nat) : (cal r m).length = m := by simp [cal]
/-- How many calls round r has among n. -/
def calN (n r : Nat) : Nat := min (2 * 2 ^ r) n - 2 ^ r

def rndL (n : Int) : Int := if inB n 1 1000 then (rnd n.toNat : Int) else -1
def parL (k : Int) : Int := if inB k 1 999 then (par k.toNat : Int) else -1
def chlL (n k : Int) : List Int := if inB n 1 1000 && inB k 0 (n - 1) then chl n.toNat k.toNat else []
def calL (n r : Int) : List (Int × Int) := if inB n 1 1000 && inB r 0 9 then cal r.toNat (calN n.toNat r.toNat) else []
def depL (k : Int) : Int := if inB k 0 999 then (dep k.toNat : Int) else -1
end Go.Proofs.Ytjefneaghlohlaa
