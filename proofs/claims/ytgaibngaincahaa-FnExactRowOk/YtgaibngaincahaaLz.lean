/-
  Several texts in one: Vwp Vws Vwt.
-/
import Derived.Test.YtgaibngaincahaaJe
import Derived.Test.YtgaibngaincahaaJf
import Derived.Test.YtgaibngaincahaaIx
import Derived.Test.YtgaibngaincahaaGb
/-
  Views, who leads, majorities, the view after and ranks as plain lists.
-/
namespace Go.Proofs.Ytgaibngaincahaa
set_option linter.unusedVariables false
set_option linter.unusedSimpArgs false

/-- A view: its number and its members. -/
abbrev Vw := Int × List Int
def okVw (v : Vw) : Prop := (1 ≤ v.1 ∧ v.1 ≤ 1000000) ∧ (1 ≤ v.2.length ∧ v.2.length ≤ 8) ∧ v.2.Pairwise (· < ·) ∧ ∀ x ∈ v.2, 0 ≤ x ∧ x ≤ 99
instance (v : Vw) : Decidable (okVw v) := by unfold okVw; infer_instance
theorem el_in {xs : List Int} {i : Nat} (h : i < xs.length) : el xs i ∈ xs := by simp [el, List.getD, h]
theorem el_of {xs : List Int} {x : Int} (h : x ∈ xs) : ∃ i, i < xs.length ∧ el xs i = x := by
  obtain ⟨i, hi, e⟩ := List.mem_iff_getElem.1 h
  exact ⟨i, hi, by simp [el, List.getD, hi, e]⟩
theorem el_up {xs : List Int} (h : xs.Pairwise (· < ·)) {i j : Nat} (hij : i < j) (hj : j < xs.length) : el xs i < el xs j := by
  have h1 := List.pairwise_iff_getElem.1 h i j (by omega) hj hij
  simpa [el, List.getD, hj, show i < xs.length by omega] using h1
theorem el_upe {xs : List Int} (h : xs.Pairwise (· < ·)) {i j : Nat} (hij : i ≤ j) (hj : j < xs.length) : el xs i ≤ el xs j := by
  rcases Nat.lt_or_eq_of_le hij with e | e
  · have := el_up h e hj; omega
  · rw [e]; exact Int.le_refl _
/-- A rising list lies within, if its ends do. -/
theorem ends_in {xs : List Int} (h1 : 1 ≤ xs.length) (hr : xs.Pairwise (· < ·)) : (∀ x ∈ xs, 0 ≤ x ∧ x ≤ 99) ↔ 0 ≤ el xs 0 ∧ el xs (xs.length - 1) ≤ 99 := by
  constructor
  · intro h
    exact ⟨(h _ (el_in (by omega))).1, (h _ (el_in (by omega))).2⟩
  · rintro ⟨h2, h3⟩ x hx
    obtain ⟨i, hi, rfl⟩ := el_of hx
    have h4 := el_upe hr (Nat.zero_le i) hi
    have h5 := el_upe hr (show i ≤ xs.length - 1 by omega) (by omega)
    omega
def okVwB (v : Vw) : Bool := decide (okVw v)
/-- The first member that is not among these. -/
def ldL (v : Vw) (s : List Int) : Int := if okVw v then (firstN v.2 s).getD (-1) else -1
/-- How many of these are in that list. -/
def cntL (m l : List Int) : Nat := (m.filter (fun x => decide (x ∈ l))).length
def mjP (v : Vw) (l : List Int) : Prop := okVw v ∧ v.2.length < 2 * cntL v.2 l
instance (v : Vw) (l : List Int) : Decidable (mjP v l) := by unfold mjP; infer_instance
def lftL (m gone : List Int) : List Int := m.filter (fun x => decide (x ∉ gone))
def putsL (m come : List Int) : List Int := come.foldl putL m
def aftP (v : Vw) (gone come : List Int) : Prop := okVw v ∧ mjP v (lftL v.2 gone) ∧ okVw (v.1 + 1, putsL (lftL v.2 gone) come)
instance (v : Vw) (gone come : List Int) : Decidable (aftP v gone come) := by unfold aftP; infer_instance
def aftL (v : Vw) (gone come : List Int) : Vw × Bool := if aftP v gone come then ((v.1 + 1, putsL (lftL v.2 gone) come), true) else ((0, []), false)
/-- The place of a member. -/
def rkF (m : List Int) (node : Int) : Nat → Option Nat
  | 0 => none
  | k + 1 => match rkF m node k with
    | some i => some i
    | none => if el m k = node then some k else none
def rnkL (v : Vw) (node : Int) : Int := if okVw v then (match rkF v.2 node v.2.length with | some i => (i : Int) | none => -1) else -1
theorem cntL_le (m l : List Int) : cntL m l ≤ m.length := List.length_filter_le _ _
theorem cntL_mono {m l k : List Int} (h : ∀ x ∈ m, x ∈ l → x ∈ k) : cntL m l ≤ cntL m k := by
  unfold cntL
  induction m with
  | nil => simp
  | cons x m ih =>
    have ih := ih (fun y hy => h y (by simp [hy]))
    have hx := h x (by simp)
    by_cases e : x ∈ l
    · have e2 := hx e
      simp only [List.filter_cons, e, e2, decide_true, if_true, List.length_cons]
      omega
    · by_cases e2 : x ∈ k
      · simp only [List.filter_cons, e, e2, decide_true, decide_false, if_true, List.length_cons, Bool.false_eq_true, if_false]
        omega
      · simp only [List.filter_cons, e, e2, decide_false, Bool.false_eq_true, if_false]
        exact ih
/-- Two that are more than half share one. -/
theorem share {m a b : List Int} (h : m.length < cntL m a + cntL m b) : ∃ x ∈ m, x ∈ a ∧ x ∈ b := by
  unfold cntL at h
  induction m with
  | nil => simp at h
  | cons x m ih =>
    by_cases e1 : x ∈ a
    · by_cases e2 : x ∈ b
      · exact ⟨x, by simp, e1, e2⟩
      · simp only [List.filter_cons, e1, e2, decide_true, decide_false, if_true, List.length_cons, Bool.false_eq_true, if_false] at h
        obtain ⟨y, hy, h2⟩ := ih (by omega)
        exact ⟨y, by simp [hy], h2⟩
    · by_cases e2 : x ∈ b
      · simp only [List.filter_cons, e1, e2, decide_true, decide_false, if_true, List.length_cons, Bool.false_eq_true, if_false] at h
        obtain ⟨y, hy, h2⟩ := ih (by omega)
        exact ⟨y, by simp [hy], h2⟩
      · simp only [List.filter_cons, e1, e2, decide_false, List.length_cons, Bool.false_eq_true, if_false] at h
        obtain ⟨y, hy, h2⟩ := ih (by omega)
        exact ⟨y, by simp [hy], h2⟩
theorem mj_share {v : Vw} {a b : List Int} (h1 : mjP v a) (h2 : mjP v b) : ∃ x ∈ v.2, x ∈ a ∧ x ∈ b := share (by have := h1.2; have := h2.2; omega)
theorem mj_mono {v : Vw} {l k : List Int} (h : mjP v l) (hs : ∀ x ∈ v.2, x ∈ l → x ∈ k) : mjP v k := ⟨h.1, by have := cntL_mono hs; have := h.2; omega⟩
theorem mem_lft {m gone : List Int} {x : Int} : x ∈ lftL m gone ↔ x ∈ m ∧ x ∉ gone := by simp [lftL]
theorem mem_puts {come : List Int} {x : Int} : ∀ {m : List Int}, x ∈ putsL m come ↔ x ∈ m ∨ x ∈ come := by
  unfold putsL
  induction come with
  | nil => intro m; simp
  | cons c come ih =>
    intro m
    rw [List.foldl_cons, ih, mem_putL, List.mem_cons]
    constructor
    · rintro ((h | h) | h)
      · exact .inr (.inl h)
      · exact .inl h
      · exact .inr (.inr h)
    · rintro (h | h | h)
      · exact .inl (.inr h)
      · exact .inl (.inl h)
      · exact .inr h
theorem puts_snoc (m come : List Int) (c : Int) : putsL m (come ++ [c]) = putL (putsL m come) c := by simp [putsL]
theorem lft_rises {m gone : List Int} (h : m.Pairwise (· < ·)) : (lftL m gone).Pairwise (· < ·) := List.Pairwise.filter _ h
theorem putL_len (h : List Int) (n : Int) : (putL h n).length ≤ h.length + 1 := by
  induction h with
  | nil => simp [putL]
  | cons x h ih =>
    unfold putL
    split
    · simp only [List.length_cons]; omega
    · split <;> simp only [List.length_cons] <;> omega
theorem puts_len (m : List Int) : ∀ come, (putsL m come).length ≤ m.length + come.length := by
  intro come
  unfold putsL
  induction come generalizing m with
  | nil => simp
  | cons c come ih =>
    rw [List.foldl_cons, List.length_cons]
    have := ih (putL m c)
    have := putL_len m c
    omega
/-- What the law tells of the view after. -/
theorem aft_told {v n : Vw} {gone come : List Int} (h : aftL v gone come = (n, true)) : okVw n ∧ n.1 = v.1 + 1 ∧ (∀ y ∈ n.2, y ∈ gone → y ∈ come) ∧ ∀ st : List Int, (∀ y ∈ n.2, y ∈ v.2 → y ∈ st) → mjP v st := by
  unfold aftL at h
  split at h
  · rename_i hp
    injection h with h1 h2
    subst h1
    obtain ⟨p1, p2, p3⟩ := hp
    refine ⟨p3, rfl, fun y hy hg => ?_, fun st hst => ?_⟩
    · rcases mem_puts.1 hy with h3 | h3
      · exact absurd hg (mem_lft.1 h3).2
      · exact h3
    · exact mj_mono p2 (fun x hx hl => hst x (mem_puts.2 (.inl hl)) hx)
  · injection h with h1 h2
    cases h2
theorem aft_no {v n : Vw} {gone come : List Int} (h : aftL v gone come = (n, false)) : n = (0, []) := by
  unfold aftL at h
  split at h
  · injection h with h1 h2; cases h2
  · injection h with h1 h2; exact h1.symm
theorem aftL_small (v : Vw) (gone come : List Int) : (aftL v gone come).1.2.length ≤ 8 ∧ (∀ x ∈ (aftL v gone come).1.2, 0 ≤ x ∧ x ≤ 99) ∧ 0 ≤ (aftL v gone come).1.1 ∧ (aftL v gone come).1.1 ≤ 1000000 := by
  unfold aftL
  split
  · rename_i h
    obtain ⟨_, _, p3⟩ := h
    exact ⟨p3.2.1.2, p3.2.2.2, by have h5 := p3.1.1; dsimp only at h5 ⊢; omega, p3.1.2⟩
  · simp
theorem rkF_none {m : List Int} {node : Int} : ∀ {k}, (∀ i, i < k → el m i ≠ node) → rkF m node k = none
  | 0, _ => rfl
  | k + 1, h => by
    unfold rkF
    rw [rkF_none (fun i hi => h i (by omega))]
    simp [h k (by omega)]
theorem rkF_at {m : List Int} (hr : m.Pairwise (· < ·)) {i : Nat} : ∀ {k}, i < k → k ≤ m.length → rkF m (el m i) k = some i
  | k + 1, hi, hk => by
    unfold rkF
    by_cases e : i = k
    · subst e
      rw [rkF_none (fun j hj he => by have := el_up hr hj (by omega); omega)]
      simp
    · rw [rkF_at hr (k := k) (by omega) (by omega)]
theorem rnk_at {v : Vw} (h : okVw v) {i : Nat} (hi : i < v.2.length) : rnkL v (el v.2 i) = (i : Int) := by
  unfold rnkL
  rw [if_pos h, rkF_at h.2.2.1 hi (Nat.le_refl _)]
/-- Who leads. -/
theorem ld_told {v : Vw} {s : List Int} (h : okVw v) : (∀ x ∈ v.2, x ∉ s → 0 ≤ ldL v s ∧ ldL v s ≤ x) ∧ (0 ≤ ldL v s → ldL v s ∈ v.2 ∧ ldL v s ∉ s) := by
  unfold ldL
  rw [if_pos h]
  unfold firstN
  cases e : v.2.find? (fun q => decide (q ∉ s)) with
  | none =>
    rw [List.find?_eq_none] at e
    refine ⟨fun x hx hn => absurd (e x hx) (by simpa using hn), fun h0 => ?_⟩
    simp at h0
  | some y =>
    have hy := List.find?_some e
    have hm := List.mem_of_find?_eq_some e
    simp only [Option.getD_some]
    refine ⟨fun x hx hn => ⟨(h.2.2.2 y hm).1, ?_⟩, fun _ => ⟨hm, by simpa using hy⟩⟩
    obtain ⟨j, hj, ex⟩ := el_of hx
    obtain ⟨_, i, hi, ei, hb⟩ := List.find?_eq_some_iff_getElem.1 e
    have ey : el v.2 i = y := by simp [el, List.getD, hi, ei]
    rcases Nat.lt_or_ge j i with h1 | h1
    · have h2 := hb j h1
      have e3 : v.2[j] = x := by rw [← ex]; simp [el, List.getD, hj]
      rw [e3] at h2
      simp at h2
      exact absurd h2 hn
    · rw [← ey, ← ex]
      exact el_upe h.2.2.1 h1 hj
end Go.Proofs.Ytgaibngaincahaa

/-
  The contracts of the specification's ViewOk, Leader, Majority and Rank.
-/
namespace Go.Proofs.Ytgaibngaincahaa
set_option linter.unusedVariables false
set_option linter.unusedSimpArgs false
open Go.RowKit Go.Sort

/-- A view as a value. -/
def vwV (F : Int) (a : Option Addr) (n c : Nat) : Value := .agg #[.int .i64 F, .slice a n c]
theorem risB_iff {xs : List Int} : risB xs = true ↔ xs.Pairwise (· < ·) := by
  rw [← rises_pairwise]
  simp [risB]
theorem okVw_no {F : Int} {M : List Int} (h : inB F 1 1000000 = false ∨ M.length < 1 ∨ 8 < M.length ∨ risB M = false) : decide (okVw (F, M)) = false := decide_eq_false (fun hk => by
  rcases h with h | h | h | h
  · have : inB F 1 1000000 = true := inB7.2 hk.1
    rw [h] at this; cases this
  · have := hk.2.1.1; dsimp only at this; omega
  · have := hk.2.1.2; dsimp only at this; omega
  · rw [risB_iff.2 hk.2.2.1] at h; cases h)
end Go.Proofs.Ytgaibngaincahaa

/-
  The contracts of the specification's Leader, Majority and Rank.
-/
namespace Go.Proofs.Ytgaibngaincahaa
set_option linter.unusedVariables false
set_option linter.unusedSimpArgs false
open Go.RowKit Go.Sort

/-- The first of the members from the k-th on that is not among these. -/
theorem ld_step {M s : List Int} {k : Nat} (hk : k < M.length) (hall : ∀ j, j < k → el M j ∈ s) : (el M k ∉ s → firstN M s = some (el M k)) ∧ (el M k ∈ s → ∀ j, j < k + 1 → el M j ∈ s) := by
  refine ⟨fun hn => ?_, fun hm j hj => ?_⟩
  · unfold firstN
    rw [List.find?_eq_some_iff_getElem]
    refine ⟨by simpa using hn, k, hk, by simp [el, List.getD, hk], fun j hj => ?_⟩
    have := hall j hj
    simp [el, List.getD, show j < M.length by omega] at this
    simpa using this
  · by_cases e : j = k
    · rw [e]; exact hm
    · exact hall j (by omega)
theorem ld_none {M s : List Int} (hall : ∀ j, j < M.length → el M j ∈ s) : firstN M s = none := by
  unfold firstN
  rw [List.find?_eq_none]
  intro x hx
  obtain ⟨i, hi, rfl⟩ := el_of hx
  simpa using hall i hi
theorem cnt_step {M l : List Int} {k : Nat} (h : k < M.length) : cntL (M.take (k + 1)) l = cntL (M.take k) l + (if el M k ∈ l then 1 else 0) := by
  have e : M.take (k + 1) = M.take k ++ [el M k] := by
    rw [List.take_succ_eq_append_getElem h]
    simp [el, List.getD, h]
  rw [e]
  unfold cntL
  rw [List.filter_append, List.length_append]
  by_cases h2 : el M k ∈ l <;> simp [h2]
end Go.Proofs.Ytgaibngaincahaa
