/-
  Wave by wave: how the program's search for all that is ahead of an event goes, and the contract of (*table).past.
-/
import Derived.Test.YtacogcfdolmfpaaSts
import Derived.Deep.LoopGhost
namespace Go.Proofs.Ytacogcfdolmfpaa
set_option linter.unusedSimpArgs false
set_option linter.unusedVariables false
open Go.RowKit Go.Sort

def waveB (es : List Ev) (k : Nat) : Nat → Nat → Bool
  | 0, i => sB es k i
  | t + 1, i => (List.range 40).any (fun j => waveB es k t j && sB es j i)
def allB (es : List Ev) (k t : Nat) (i : Nat) : Bool := (List.range t).any (fun s => waveB es k s i)
def frB (es : List Ev) (k t q : Nat) (i : Nat) : Bool := (List.range q).any (fun j => waveB es k t j && sB es j i)
theorem frB_all (es : List Ev) (k t i : Nat) : frB es k t 40 i = waveB es k (t + 1) i := rfl
theorem frB_succ (es : List Ev) (k t q i : Nat) : frB es k t (q + 1) i = (frB es k t q i || (waveB es k t q && sB es q i)) := by
  simp [frB, List.range_succ, List.any_append]
theorem allB_succ (es : List Ev) (k t i : Nat) : allB es k (t + 1) i = (allB es k t i || waveB es k t i) := by
  simp [allB, List.range_succ, List.any_append]
theorem sB_lt {es : List Ev} {k i : Nat} (h : sB es k i = true) : i < k := src_lt (by simpa [sB] using h)
theorem waveB_lt {es : List Ev} {k : Nat} : ∀ {t i : Nat}, waveB es k t i = true → i + t < k := by
  intro t
  induction t with
  | zero => intro i h; have := sB_lt h; omega
  | succ t ih =>
    intro i h
    simp only [waveB, List.any_eq_true, Bool.and_eq_true] at h
    obtain ⟨j, _, h1, h2⟩ := h
    have := ih h1; have := sB_lt h2; omega
theorem waveB_anc {es : List Ev} {k : Nat} : ∀ {t i : Nat}, waveB es k t i = true → Anc es i k := by
  intro t
  induction t with
  | zero => intro i h; exact .base (by simpa [waveB, sB] using h)
  | succ t ih =>
    intro i h
    simp only [waveB, List.any_eq_true, Bool.and_eq_true] at h
    obtain ⟨j, _, h1, h2⟩ := h
    exact Anc.cons (by simpa [sB] using h2) (ih h1)
theorem anc_head {es : List Ev} {i k : Nat} (h : Anc es i k) : i ∈ src es k ∨ ∃ j, i ∈ src es j ∧ Anc es j k := by
  induction h with
  | base h => exact .inl h
  | step h g ih =>
    rcases ih with ih | ⟨j, h1, h2⟩
    · exact .inr ⟨_, ih, .base g⟩
    · exact .inr ⟨j, h1, .step h2 g⟩
theorem anc_waveB {es : List Ev} {k : Nat} (hk : k ≤ 40) : ∀ {i : Nat}, Anc es i k → ∃ t, waveB es k t i = true := by
  have key : ∀ n i, k - i ≤ n → Anc es i k → ∃ t, waveB es k t i = true := by
    intro n
    induction n with
    | zero => intro i h ha; have := ha.lt; omega
    | succ n ih =>
      intro i h ha
      rcases anc_head ha with h1 | ⟨j, h1, h2⟩
      · exact ⟨0, by simp [waveB, sB, h1]⟩
      · have hij := src_lt h1
        have hjk := h2.lt
        obtain ⟨t, ht⟩ := ih j (by omega) h2
        refine ⟨t + 1, ?_⟩
        simp only [waveB, List.any_eq_true, Bool.and_eq_true]
        exact ⟨j, by simp; omega, ht, by simp [sB, h1]⟩
  exact fun {i} h => key (k - i) i (Nat.le_refl _) h
theorem wave_empty {es : List Ev} {k t : Nat} (h : ∀ i, i < 40 → waveB es k t i = false) : ∀ s, t ≤ s → ∀ i, i < 40 → waveB es k s i = false := by
  intro s hs
  induction s with
  | zero => have : t = 0 := by omega
            subst this; exact h
  | succ s ih =>
    by_cases e : t = s + 1
    · subst e; exact h
    · intro i hi
      have hs' := ih (by omega)
      simp only [waveB]
      rw [List.any_eq_false]
      intro j hj
      rw [hs' j (List.mem_range.1 hj)]; simp
open Classical in
/-- What is ahead of event k. -/
noncomputable def aB (es : List Ev) (k : Nat) (i : Nat) : Bool := decide (Anc es i k)
theorem aB_iff {es : List Ev} {k i : Nat} : aB es k i = true ↔ Anc es i k := by
  unfold aB; exact @decide_eq_true_iff _ (Classical.propDecidable _)
theorem allB_done {es : List Ev} {k t : Nat} (hk : k ≤ 40) (h : ∀ i, i < 40 → waveB es k t i = false) : ∀ i, i < 40 → allB es k t i = aB es k i := by
  intro i hi
  rw [Bool.eq_iff_iff, aB_iff]
  simp only [allB, List.any_eq_true, List.mem_range]
  constructor
  · rintro ⟨s, _, hs⟩; exact waveB_anc hs
  · intro ha
    obtain ⟨s, hs⟩ := anc_waveB hk ha
    refine ⟨s, ?_, hs⟩
    rcases Nat.lt_or_ge s t with h1 | h1
    · exact h1
    · rw [wave_empty h s h1 i hi] at hs; cases hs
theorem tB_row {es : List Ev} {len i : Nat} (hi : i < len) (j : Nat) (hj : j < 40) : tB es len (i * 40 + j) = sB es i j := by
  unfold tB
  rw [show (i * 40 + j) / 40 = i by omega, show (i * 40 + j) % 40 = j by omega]
  simp [hi]
end Go.Proofs.Ytacogcfdolmfpaa
