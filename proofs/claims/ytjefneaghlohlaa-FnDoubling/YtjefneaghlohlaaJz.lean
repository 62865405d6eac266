/-
  Several texts in one: Hrm.
-/
import Derived.Test.YtjefneaghlohlaaJc
/-
  Who waits while the tree is gone through from 0 on.
-/
namespace Go.Proofs.Ytjefneaghlohlaa
set_option linter.unusedVariables false
set_option linter.unusedSimpArgs false
open Go.RowKit Go.Sort

/-- Who waits when k have come out. -/
def isWt (k i : Nat) : Bool := decide (k ≤ i) && (decide (i = 0) || decide (par i < k))
def wt (n k : Nat) : List Int := ((List.range n).filter (isWt k)).map (fun i : Nat => (i : Int))
theorem mem_wt {n k : Nat} {q : Int} : q ∈ wt n k ↔ ∃ i : Nat, q = (i : Int) ∧ i < n ∧ k ≤ i ∧ (i = 0 ∨ par i < k) := by
  simp only [wt, isWt, List.mem_map, List.mem_filter, List.mem_range, Bool.and_eq_true, Bool.or_eq_true, decide_eq_true_eq]
  constructor
  · rintro ⟨i, ⟨h1, h2, h3⟩, rfl⟩; exact ⟨i, rfl, h1, h2, h3⟩
  · rintro ⟨i, rfl, h1, h2, h3⟩; exact ⟨i, ⟨h1, h2, h3⟩, rfl⟩
theorem wt_rises (n k : Nat) : (wt n k).Pairwise (· < ·) := by
  unfold wt
  rw [List.pairwise_map]
  refine List.Pairwise.imp ?_ (List.Pairwise.filter _ List.pairwise_lt_range)
  intro a b h
  omega
theorem wt_len (n k : Nat) : (wt n k).length ≤ n := by
  unfold wt
  rw [List.length_map]
  exact Nat.le_trans (List.length_filter_le _ _) (by simp)
theorem wt_start {n : Nat} (h : 1 ≤ n) : ([(0 : Int)] : List Int).Perm (wt n 0) := by
  refine (List.perm_ext_iff_of_nodup (by simp) (nodup_rises (wt_rises n 0))).2 (fun q => ?_)
  rw [mem_wt, List.mem_singleton]
  constructor
  · rintro rfl; exact ⟨0, rfl, by omega, Nat.le_refl _, .inl rfl⟩
  · rintro ⟨i, rfl, _, _, h | h⟩
    · rw [h]; rfl
    · omega
theorem wt_end (n k : Nat) (h : n ≤ k) : wt n k = [] := by
  refine List.eq_nil_iff_forall_not_mem.2 (fun q hq => ?_)
  obtain ⟨i, _, h1, h2, _⟩ := mem_wt.1 hq
  omega
theorem wt_self {n k : Nat} (h : k < n) : (k : Int) ∈ wt n k := by
  rw [mem_wt]
  refine ⟨k, rfl, h, Nat.le_refl _, ?_⟩
  rcases Nat.eq_zero_or_pos k with e | e
  · exact .inl e
  · exact .inr (par_lt e)
/-- The least one that waits is the next of all. -/
theorem wt_least {n k : Nat} {x : Int} {xs zs : List Int} (hk : k < n) (hx : xs.Perm (wt n k)) (hp : (x :: zs).Perm xs) (hm : ∀ z ∈ zs, x ≤ z) : x = (k : Int) := by
  have h1 : x ∈ wt n k := hx.subset (hp.subset List.mem_cons_self)
  obtain ⟨i, rfl, _, h2, _⟩ := mem_wt.1 h1
  have h3 : (k : Int) ∈ (i : Int) :: zs := hp.symm.subset (hx.symm.subset (wt_self hk))
  rcases List.mem_cons.1 h3 with e | e
  · exact e.symm
  · have := hm _ e
    omega
theorem chl_gt {n k : Nat} {q : Int} (h : q ∈ chl n k) : (k : Int) < q := by
  obtain ⟨i, rfl, _, h1, h2⟩ := mem_chl.1 h
  have := par_lt h1
  omega
/-- It goes, and its children come. -/
theorem wt_next {n k : Nat} {xs zs : List Int} (hk : k < n) (hx : xs.Perm (wt n k)) (hp : ((k : Int) :: zs).Perm xs) : (zs ++ chl n k).Perm (wt n (k + 1)) := by
  have hpw := hp.trans hx
  have hnd : ((k : Int) :: zs).Nodup := hpw.nodup_iff.2 (nodup_rises (wt_rises n k))
  rw [List.nodup_cons] at hnd
  have hz : ∀ q, q ∈ zs ↔ q ∈ wt n k ∧ q ≠ (k : Int) := fun q => by
    constructor
    · intro h
      exact ⟨hpw.subset (List.mem_cons_of_mem _ h), fun e => hnd.1 (e ▸ h)⟩
    · rintro ⟨h1, h2⟩
      rcases List.mem_cons.1 (hpw.symm.subset h1) with e | e
      · exact absurd e h2
      · exact e
  refine (List.perm_ext_iff_of_nodup ?_ (nodup_rises (wt_rises n (k + 1)))).2 (fun q => ?_)
  · rw [List.nodup_append]
    refine ⟨hnd.2, nodup_rises (chl_rises n k), fun a ha b hb e => ?_⟩
    subst e
    obtain ⟨i, rfl, h1, h2, h3⟩ := mem_wt.1 ((hz _).1 ha).1
    obtain ⟨j, e, h4, h5, h6⟩ := mem_chl.1 hb
    have : i = j := by omega
    subst this
    have := chl_gt hb
    rcases h3 with h | h <;> omega
  · rw [List.mem_append, hz, mem_wt, mem_wt, mem_chl]
    constructor
    · rintro (⟨⟨i, rfl, h1, h2, h3⟩, h4⟩ | ⟨i, rfl, h1, h2, h3⟩)
      · refine ⟨i, rfl, h1, by omega, ?_⟩
        rcases h3 with h | h
        · exact .inl h
        · exact .inr (by omega)
      · have := par_lt h2
        exact ⟨i, rfl, h1, by omega, .inr (by omega)⟩
    · rintro ⟨i, rfl, h1, h2, h3⟩
      by_cases e : par i = k
      · exact .inr ⟨i, rfl, h1, by omega, e⟩
      · refine .inl ⟨⟨i, rfl, h1, by omega, ?_⟩, by omega⟩
        rcases h3 with h | h
        · omega
        · exact .inr (by omega)
/-- All numbers below k. -/
def upto9 (k : Nat) : List Int := (List.range k).map (fun i : Nat => (i : Int))
theorem upto9_succ (k : Nat) : upto9 (k + 1) = upto9 k ++ [(k : Int)] := by simp [upto9, List.range_succ]
theorem upto9_len (k : Nat) : (upto9 k).length = k := by simp [upto9]
theorem upto9_el {k i : Nat} (h : i < k) : el (upto9 k) i = (i : Int) := by simp [upto9, el, h]
end Go.Proofs.Ytjefneaghlohlaa
