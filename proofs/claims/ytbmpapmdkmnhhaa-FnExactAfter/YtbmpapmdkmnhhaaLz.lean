/-
  Several texts in one: Vwp Vws Vwt.
-/
import Derived.Test.YtbmpapmdkmnhhaaJe
import Derived.Test.YtbmpapmdkmnhhaaJf
import Derived.Test.YtbmpapmdkmnhhaaIx
import Derived.Test.YtbmpapmdkmnhhaaGb
/-
  Views, who leads, majorities, the view after and ranks as plain lists.
-/
namespace Go.Proofs.Ytbmpapmdkmnhhaa
set_option linter.unusedVariables false
set_option linter.unusedSimpArgs false

/-- A view: its number and its members. -/
abbrev Vw := Int × List Int
def okVw (v : Vw) : Prop := (1 ≤ v.1 ∧ v.1 ≤ 1000000) ∧ (1 ≤ v.2.length ∧ v.2.length ≤ 8) ∧ v.2.Pairwise (· < ·) ∧ ∀ x ∈ v.2, 0 ≤ x ∧ x ≤ 99
instance (v : Vw) : Decidable (okVw v) := by unfold okVw; infer_instance
theorem el_in {xs : List Int} {i : Nat} (h : i < xs.length) : el xs i ∈ xs := by simp [el, List.getD, h]
theorem el_of {xs : List Int} {x : Int} (h : x ∈ xs) : ∃ i, i < xs.length ∧ el xs i = x := by
  obtain ⟨i, hi, e⟩ := List.mem_iff_getElem.1 h
  exact ⟨i, hi, by simp [el, List.getD, hi, e]⟩
theorem el_up {xs : List Int} (h : xs.Pairwise (· < ·)) {i j : Nat} (hij : i < j) (hj : j < xs.length) : el xs i < el xs j := by
  have h1 := List.pairwise_iff_getElem.1 h i j (by omega) hj hij
  simpa [el, List.getD, hj, show i < xs.length by omega] using h1
theorem el_upe {xs : List Int} (h : xs.Pairwise (· < ·)) {i j : Nat} (hij : i ≤ j) (hj : j < xs.length) : el xs i ≤ el xs j := by
  rcases Nat.lt_or_eq_of_le hij with e | e
  · have := el_up h e hj; omega
  · rw [e]; exact Int.le_refl _
/-- A rising list lies within, if its ends do. -/
theorem ends_in {xs : List Int} (h1 : 1 ≤ xs.length) (hr : xs.Pairwise (· < ·)) : (∀ x ∈ xs, 0 ≤ x ∧ x ≤ 99) ↔ 0 ≤ el xs 0 ∧ el xs (xs.length - 1) ≤ 99 := by
  constructor
  · intro h
    exact ⟨(h _ (el_in (by omega))).1, (h _ (el_in (by omega))).2⟩
  · rintro ⟨h2, h3⟩ x hx
    obtain ⟨i, hi, rfl⟩ := el_of hx
    have h4 := el_upe hr (Nat.zero_le i) hi
    have h5 := el_upe hr (show i ≤ xs.length - 1 by omega) (by omega)
    omega
def okVwB (v : Vw) : Bool := decide (okVw v)
/-- The first member that is not among these. -/
def ldL (v : Vw) (s : List Int) : Int := if okVw v then (firstN v.2 s).getD (-1) else -1
/-- How many of these are in that list. -/
def cntL (m l : List Int) : Nat := (m.filter (fun x => decide (x ∈ l))).length
def mjP (v : Vw) (l : List Int) : Prop := okVw v ∧ v.2.length < 2 * cntL v.2 l
instance (v : Vw) (l : List Int) : Decidable (mjP v l) := by unfold mjP; infer_instance
def lftL (m gone : List Int) : List Int := m.filter (fun x => decide (x ∉ gone))
def putsL (m come : List Int) : List Int := come.foldl putL m
def aftP (v : Vw) (gone come : List Int) : Prop := okVw v ∧ mjP v (lftL v.2 gone) ∧ okVw (v.1 + 1, putsL (lftL v.2 gone) come)
instance (v : Vw) (gone come : List Int) : Decidable (aftP v gone come) := by unfold aftP; infer_instance
def aftL (v : Vw) (gone come : List Int) : Vw × Bool := if aftP v gone come then ((v.1 + 1, putsL (lftL v.2 gone) come), true) else ((0, []), false)
/-- The place of a member. -/
def rkF (m : List Int) (node : Int) : Nat → Option Nat
  | 0 => none
  | k + 1 => match rkF m node k with
    | some i => some i
    | none => if el m k = node then some k else none
def rnkL (v : Vw) (node : Int) : Int := if okVw v then (match rkF v.2 node v.2.length with | some i => (i : Int) | none => -1) else -1
theorem cntL_le (m l : List Int) : cntL m l ≤ m.length := List.length_filter_le _ _
theorem cntL_mono {m l k : List Int} (h : ∀ x ∈ m, x ∈ l → x ∈ k) : cntL m l ≤ cntL m k := by
  unfold cntL
  induction m with
  | nil => simp
  | cons x m ih =>
    have ih := ih (fun y hy => h y (by simp [hy]))
    have hx := h x (by simp)
    by_cases e : x ∈ l
    · have e2 := hx e
      simp only [List.filter_cons, e, e2, decide_true, if_true, List.length_cons]
      omega
    · by_cases e2 : x ∈ k
      · simp only [List.filter_cons, e, e2, decide_true, decide_false, if_true, List.length_cons, Bool.false_eq_true, if_false]
        omega
      · simp only [List.filter_cons, e, e2, decide_false, Bool.false_eq_true, if_false]
        exact ih
/-- Two that are more than half share one. -/
theorem share {m a b : List Int} (h : m.length < cntL m a + cntL m b) : ∃ x ∈ m, x ∈ a ∧ x ∈ b := by
  unfold cntL at h
  induction m with
  | nil => simp at h
  | cons x m ih =>
    by_cases e1 : x ∈ a
    · by_cases e2 : x ∈ b
      · exact ⟨x, by simp, e1, e2⟩
      · simp only [List.filter_cons, e1, e2, decide_true, decide_false, if_true, List.length_cons, Bool.false_eq_true, if_false] at h
        obtain ⟨y, hy, h2⟩ := ih (by omega)
        exact ⟨y, by simp [hy], h2⟩
    · by_cases e2 : x ∈ b
      · simp only [List.filter_cons, e1, e2, decide_true, decide_false, if_true, List.length_cons, Bool.false_eq_true, if_false] at h
        obtain ⟨y, hy, h2⟩ := ih (by omega)
        exact ⟨y, by simp [hy], h2⟩
      · simp only [List.filter_cons, e1, e2, decide_false, List.length_cons, Bool.false_eq_true, if_false] at h
        obtain ⟨y, hy, h2⟩ := ih (by omega)
        exact ⟨y, by simp [hy], h2⟩
theorem mj_share {v : Vw} {a b : List Int} (h1 : mjP v a) (h2 : mjP v b) : ∃ x ∈ v.2, x ∈ a ∧ x ∈ b := share (by have := h1.2; have := h2.2; omega)
theorem mj_mono {v : Vw} {l k : List Int} (h : mjP v l) (hs : ∀ x ∈ v.2, x ∈ l → x ∈ k) : mjP v k := ⟨h.1, by have := cntL_mono hs; have := h.2; omega⟩
theorem mem_lft {m gone : List Int} {x : Int} : x ∈ lftL m gone ↔ x ∈ m ∧ x ∉ gone := by simp [lftL]
theorem mem_puts {come : List Int} {x : Int} : ∀ {m : List Int}, x ∈ putsL m come ↔ x ∈ m ∨ x ∈ come := by
  unfold putsL
  induction come with
  | nil => intro m; simp
  | cons c come ih =>
    intro m
    rw [List.foldl_cons, ih, mem_putL, List.mem_cons]
    constructor
    · rintro ((h | h) | h)
      · exact .inr (.inl h)
      · exact .inl h
      · exact .inr (.inr h)
    · rintro (h | h | h)
      · exact .inl (.inr h)
      · exact .inl (.inl h)
      · exact .inr h
theorem puts_snoc (m come : List Int) (c : Int) : putsL m (come ++ [c]) = putL (putsL m come) c := by simp [putsL]
theorem lft_rises {m gone : List Int} (h : m.Pairwise (· < ·)) : (lftL m gone).Pairwise (· < ·) := List.Pairwise.filter _ h
theorem putL_len (h : List Int) (n : Int) : (putL h n).length ≤ h.length + 1 := by
  induction h with
  | nil => simp [putL]
  | cons x h ih =>
    unfold putL
    split
    · simp only [List.length_cons]; omega
    · split <;> simp only [List.length_cons] <;> omega
theorem puts_len (m : List Int) : ∀ come, (putsL m come).length ≤ m.length + come.length := by
  intro come
  unfold putsL
  induction come generalizing m with
  | nil => simp
  | cons c come ih =>
    rw [List.foldl_cons, List.length_cons]
    have := ih (putL m c)
    have := putL_len m c
    omega
/-- What the law tells of the view after. -/
theorem aft_told {v n : Vw} {gone come : List Int} (h : aftL v gone come = (n, true)) : okVw n ∧ n.1 = v.1 + 1 ∧ (∀ y ∈ n.2, y ∈ gone → y ∈ come) ∧ ∀ st : List Int, (∀ y ∈ n.2, y ∈ v.2 → y ∈ st) → mjP v st := by
  unfold aftL at h
  split at h
  · rename_i hp
    injection h with h1 h2
    subst h1
    obtain ⟨p1, p2, p3⟩ := hp
    refine ⟨p3, rfl, fun y hy hg => ?_, fun st hst => ?_⟩
    · rcases mem_puts.1 hy with h3 | h3
      · exact absurd hg (mem_lft.1 h3).2
      · exact h3
    · exact mj_mono p2 (fun x hx hl => hst x (mem_puts.2 (.inl hl)) hx)
  · injection h with h1 h2
    cases h2
theorem aft_no {v n : Vw} {gone come : List Int} (h : aftL v gone come = (n, false)) : n = (0, []) := by
  unfold aftL at h
  split at h
  · injection h with h1 h2; cases h2
  · injection h with h1 h2; exact h1.symm
theorem aftL_small (v : Vw) (gone come : List Int) : (aftL v gone come).1.2.length ≤ 8 ∧ (∀ x ∈ (aftL v gone come).1.2, 0 ≤ x ∧ x ≤ 99) ∧ 0 ≤ (aftL v gone come).1.1 ∧ (aftL v gone come).1.1 ≤ 1000000 := by
  unfold aftL
  split
  · rename_i h
    obtain ⟨_, _, p3⟩ := h
    exact ⟨p3.2.1.2, p3.2.2.2, by have h5 := p3.1.1; dsimp only at h5 ⊢; omega, p3.1.2⟩
  · simp
theorem rkF_none {m : List Int} {node : Int} : ∀ {k}, (∀ i, i < k → el m i ≠ node) → rkF m node k = none
  | 0, _ => rfl
  | k + 1, h => by
    unfold rkF
    rw [rkF_none (fun i hi => h i (by omega))]
    simp [h k (by omega)]
theorem rkF_at {m : List Int} (hr : m.Pairwise (· < ·)) {i : Nat} : ∀ {k}, i < k → k ≤ m.length → rkF m (el m i) k = some i
  | k + 1, hi, hk => by
    unfold rkF
    by_cases e : i = k
    · subst e
      rw [rkF_none (fun j hj he => by have := el_up hr hj (by omega); omega)]
      simp
    · rw [rkF_at hr (k := k) (by omega) (by omega)]
theorem rnk_at {v : Vw} (h : okVw v) {i : Nat} (hi : i < v.2.length) : rnkL v (el v.2 i) = (i : Int) := by
  unfold rnkL
  rw [if_pos h, rkF_at h.2.2.1 hi (Nat.le_refl _)]
/-- Who leads. -/
theorem ld_told {v : Vw} {s : List Int} (h : okVw v) : (∀ x ∈ v.2, x ∉ s → 0 ≤ ldL v s ∧ ldL v s ≤ x) ∧ (0 ≤ ldL v s → ldL v s ∈ v.2 ∧ ldL v s ∉ s) := by
  unfold ldL
  rw [if_pos h]
  unfold firstN
  cases e : v.2.find? (fun q => decide (q ∉ s)) with
  | none =>
    rw [List.find?_eq_none] at e
    refine ⟨fun x hx hn => absurd (e x hx) (by simpa using hn), fun h0 => ?_⟩
    simp at h0
  | some y =>
    have hy := List.find?_some e
    have hm := List.mem_of_find?_eq_some e
    simp only [Option.getD_some]
    refine ⟨fun x hx hn => ⟨(h.2.2.2 y hm).1, ?_⟩, fun _ => ⟨hm, by simpa using hy⟩⟩
    obtain ⟨j, hj, ex⟩ := el_of hx
    obtain ⟨_, i, hi, ei, hb⟩ := List.find?_eq_some_iff_getElem.1 e
    have ey : el v.2 i = y := by simp [el, List.getD, hi, ei]
    rcases Nat.lt_or_ge j i with h1 | h1
    · have h2 := hb j h1
      have e3 : v.2[j] = x := by rw [← ex]; simp [el, List.getD, hj]
      rw [e3] at h2
      simp at h2
      exact absurd h2 hn
    · rw [← ey, ← ex]
      exact el_upe h.2.2.1 h1 hj
end Go.Proofs.Ytbmpapmdkmnhhaa

/-
  The contracts of the specification's ViewOk, Leader, Majority and Rank.
-/
namespace Go.Proofs.Ytbmpapmdkmnhhaa
set_option linter.unusedVariables false
set_option linter.unusedSimpArgs false
open Go.RowKit Go.Sort

/-- A view as a value. -/
def vwV (F : Int) (a : Option Addr) (n c : Nat) : Value := .agg #[.int .i64 F, .slice a n c]
theorem risB_iff {xs : List Int} : risB xs = true ↔ xs.Pairwise (· < ·) := by
  rw [← rises_pairwise]
  simp [risB]
theorem okVw_no {F : Int} {M : List Int} (h : inB F 1 1000000 = false ∨ M.length < 1 ∨ 8 < M.length ∨ risB M = false) : decide (okVw (F, M)) = false := decide_eq_false (fun hk => by
  rcases h with h | h | h | h
  · have : inB F 1 1000000 = true := inB7.2 hk.1
    rw [h] at this; cases this
  · have := hk.2.1.1; dsimp only at this; omega
  · have := hk.2.1.2; dsimp only at this; omega
  · rw [risB_iff.2 hk.2.2.1] at h; cases h)
set_option maxRecDepth 100000 in
set_option maxHeartbeats 1600000 in
theorem vwkS_any (F : Int) (a : Option Addr) (cap : Nat) (M : List Int) (w : World) (hv : Vec w a M.length M) (hm : M.length ≤ maxLen) :
    Calls Try.prog 35 #[vwV F a M.length cap] w fun e w' => e = .returned (.bool (decide (okVw (F, M)))) ∧ Grew w w' := by
  have hm' := hm
  unfold maxLen at hm
  unfold vwV
  have hG0 : Grew w (w.alloc (.cells #[.int .i64 F, .slice a M.length cap] 34)) := (Grew.refl _).alloc _
  have HG : Hid (Grew w (w.alloc (.cells #[.int .i64 F, .slice a M.length cap] 34))) := hG0
  have hvW := hv.below hG0.1 (Nat.le_refl _)
  have c0 : (w.alloc (.cells #[.int .i64 F, .slice a M.length cap] 34)).cell? ⟨w.heap.size, 0, none⟩ = some (.int .i64 F) := by simp
  have c1 : (w.alloc (.cells #[.int .i64 F, .slice a M.length cap] 34)).cell? ⟨w.heap.size, 1, none⟩ = some (.slice a M.length cap) := by simp
  generalize hW0 : w.alloc (.cells #[.int .i64 F, .slice a M.length cap] 34) = W0 at *
  have hR := l1Rises_any a M.length cap M W0 hvW hm'
  clear hv hG0
  cases e0 : inB F 1 1000000 with
  | false =>
    have HZ : Hid (decide (okVw (F, M)) = false) := okVw_no (.inl e0)
    have hI := fun X => l1In_any F 1 1000000 X
    rw [e0] at hI
    clear e0 hR hvW
    go_enter Try.func35, Try.ntmps35
    go_wp2_with (go_at_call 71; refine (hI _).mono ?_; rintro e w' ⟨rfl, hw'⟩; rw [hw']; clear hw')
    go_ret
    exact ⟨ret_bool (by rw [HZ.out]), HG.out⟩
  | true =>
    have HF : Hid (1 ≤ F ∧ F ≤ 1000000) := inB7.1 e0
    have hI := fun X => l1In_any F 1 1000000 X
    rw [e0] at hI
    clear e0
    by_cases h1 : M.length < 1
    · have HZ : Hid (decide (okVw (F, M)) = false) := okVw_no (.inr (.inl h1))
      have k1 : (M.length : Int) < 1 := by omega
      clear hR hvW
      go_enter Try.func35, Try.ntmps35
      go_wp2_with (go_at_call 71; refine (hI _).mono ?_; rintro e w' ⟨rfl, hw'⟩; rw [hw']; clear hw')
      go_ret
      exact ⟨ret_bool (by rw [HZ.out]), HG.out⟩
    · have k1 : ¬ ((M.length : Int) < 1) := by omega
      by_cases h2 : 8 < M.length
      · have HZ : Hid (decide (okVw (F, M)) = false) := okVw_no (.inr (.inr (.inl h2)))
        have k2 : (8 : Int) < (M.length : Int) := by omega
        clear hR hvW
        go_enter Try.func35, Try.ntmps35
        go_wp2_with (go_at_call 71; refine (hI _).mono ?_; rintro e w' ⟨rfl, hw'⟩; rw [hw']; clear hw')
        go_ret
        exact ⟨ret_bool (by rw [HZ.out]), HG.out⟩
      · have k2 : ¬ ((8 : Int) < (M.length : Int)) := by omega
        cases e1 : risB M with
        | false =>
          have HZ : Hid (decide (okVw (F, M)) = false) := okVw_no (.inr (.inr (.inr e1)))
          rw [e1] at hR
          clear e1 hvW
          go_enter Try.func35, Try.ntmps35
          go_wp2_with (first | (go_at_call 71; refine (hI _).mono ?_; rintro e w' ⟨rfl, hw'⟩; rw [hw']; clear hw') | (go_at_call 79; refine hR.mono ?_; rintro e w2 ⟨rfl, q, hw2⟩; have HG2 : Hid (Grew w w2) := (by rw [hw2]; exact HG.out.drewN q); clear hw2))
          go_ret
          exact ⟨ret_bool (by rw [HZ.out]), HG2.out⟩
        | true =>
          rw [e1] at hR
          have HP := risB_iff.1 e1
          obtain ⟨b, off, rfl, hc⟩ := hvW.cells (by omega)
          have f0 := hc 0 (by omega)
          have f1 := hc (M.length - 1) (by omega)
          rw [Nat.add_zero] at f0
          have HK : Hid (decide (okVw (F, M)) = (decide (0 ≤ el M 0) && decide (el M (M.length - 1) ≤ 99))) := by
            rw [Hid]
            by_cases h : 0 ≤ el M 0 ∧ el M (M.length - 1) ≤ 99
            · rw [decide_eq_true (show okVw (F, M) from ⟨HF.out, ⟨by dsimp only; omega, by dsimp only; omega⟩, HP, (ends_in (by omega) HP).2 h⟩)]
              simp [h]
            · rw [decide_eq_false (show ¬ okVw (F, M) from fun hk => h ((ends_in (by omega) HP).1 hk.2.2.2))]
              simp only [not_and] at h
              by_cases h3 : 0 ≤ el M 0
              · simp [h3, h h3]
              · simp [h3]
          clear e1 HP hc hvW
          have l1 : (M.length : Int) - 1 = ((M.length - 1 : Nat) : Int) := by omega
          have l2 : (0 : Int) ≤ ((M.length - 1 : Nat) : Int) := by omega
          have l3 : ((M.length - 1 : Nat) : Int) < (M.length : Int) := by omega
          have l0 : (0 : Int) < (M.length : Int) := by omega
          generalize el M 0 = E0 at *
          generalize el M (M.length - 1) = E1 at *
          generalize M.length - 1 = L1 at *
          cases hE0 : decide (0 ≤ E0) with
          | false =>
            have HZ : Hid (decide (okVw (F, M)) = false) := by rw [Hid, HK.out, hE0]; rfl
            have n0 : ¬ (0 ≤ E0) := by simpa using hE0
            clear hE0 HK
            go_enter Try.func35, Try.ntmps35
            go_wp2_with (first | (go_at_call 71; refine (hI _).mono ?_; rintro e w' ⟨rfl, hw'⟩; rw [hw']; clear hw') | (go_at_call 79; refine hR.mono ?_; rintro e w2 ⟨rfl, q, hw2⟩; have HG2 : Hid (Grew w w2) := (by rw [hw2]; exact HG.out.drewN q); have g0 : w2.cell? ⟨w.heap.size, 0, none⟩ = some (.int .i64 F) := (by rw [hw2]; exact c0); have g1 : w2.cell? ⟨w.heap.size, 1, none⟩ = some (.slice (some ⟨b, off, none⟩) M.length cap) := (by rw [hw2]; exact c1); have g2 : w2.cell? ⟨b, off, none⟩ = some (.int .i64 E0) := (by rw [hw2]; exact f0); have g3 : w2.cell? ⟨b, off + L1, none⟩ = some (.int .i64 E1) := (by rw [hw2]; exact f1); clear hw2))
            go_ret
            exact ⟨ret_bool (by rw [HZ.out]), HG2.out⟩
          | true =>
            have HZ : Hid (decide (okVw (F, M)) = decide (E1 ≤ 99)) := by rw [Hid, HK.out, hE0]; rfl
            have n0 : 0 ≤ E0 := by simpa using hE0
            clear hE0 HK
            go_enter Try.func35, Try.ntmps35
            go_wp2_with (first | (go_at_call 71; refine (hI _).mono ?_; rintro e w' ⟨rfl, hw'⟩; rw [hw']; clear hw') | (go_at_call 79; refine hR.mono ?_; rintro e w2 ⟨rfl, q, hw2⟩; have HG2 : Hid (Grew w w2) := (by rw [hw2]; exact HG.out.drewN q); have g0 : w2.cell? ⟨w.heap.size, 0, none⟩ = some (.int .i64 F) := (by rw [hw2]; exact c0); have g1 : w2.cell? ⟨w.heap.size, 1, none⟩ = some (.slice (some ⟨b, off, none⟩) M.length cap) := (by rw [hw2]; exact c1); have g2 : w2.cell? ⟨b, off, none⟩ = some (.int .i64 E0) := (by rw [hw2]; exact f0); have g3 : w2.cell? ⟨b, off + L1, none⟩ = some (.int .i64 E1) := (by rw [hw2]; exact f1); clear hw2))
            go_ret
            exact ⟨ret_bool (by rw [HZ.out]), HG2.out⟩
end Go.Proofs.Ytbmpapmdkmnhhaa

/-
  The contracts of the specification's Leader, Majority and Rank.
-/
namespace Go.Proofs.Ytbmpapmdkmnhhaa
set_option linter.unusedVariables false
set_option linter.unusedSimpArgs false
open Go.RowKit Go.Sort

/-- What a function of a view holds: its own copy, and the members to be read. -/
structure VX (W : World) (B : Nat) (F : Int) (a : Option Addr) (c : Nat) (M : List Int) : Prop where
  box : Bx W B 34 #[.int .i64 F, .slice a M.length c]
  vec : Vec W a M.length M
theorem VX.below {W W' : World} {B : Nat} {F : Int} {a : Option Addr} {c : Nat} {M : List Int} (h : VX W B F a c M) (hb : Below W.heap.size W W') : VX W' B F a c M := ⟨h.box.below hb, h.vec.below hb (Nat.le_refl _)⟩
theorem VX.new {W : World} {F : Int} {a : Option Addr} {c : Nat} {M : List Int} (h : Vec W a M.length M) : VX (W.alloc (.cells #[.int .i64 F, .slice a M.length c] 34)) W.heap.size F a c M := ⟨Bx.new _ _ _, h.below ((Below.refl _ _).alloc (Nat.le_refl _) _) (Nat.le_refl _)⟩
theorem VX.c {W : World} {B : Nat} {F : Int} {a : Option Addr} {c : Nat} {M : List Int} (h : VX W B F a c M) : W.cell? ⟨B, 0, none⟩ = some (.int .i64 F) ∧ W.cell? ⟨B, 1, none⟩ = some (.slice a M.length c) := ⟨h.box.at 0 rfl, h.box.at 1 rfl⟩
/-- The first of the members from the k-th on that is not among these. -/
theorem ld_step {M s : List Int} {k : Nat} (hk : k < M.length) (hall : ∀ j, j < k → el M j ∈ s) : (el M k ∉ s → firstN M s = some (el M k)) ∧ (el M k ∈ s → ∀ j, j < k + 1 → el M j ∈ s) := by
  refine ⟨fun hn => ?_, fun hm j hj => ?_⟩
  · unfold firstN
    rw [List.find?_eq_some_iff_getElem]
    refine ⟨by simpa using hn, k, hk, by simp [el, List.getD, hk], fun j hj => ?_⟩
    have := hall j hj
    simp [el, List.getD, show j < M.length by omega] at this
    simpa using this
  · by_cases e : j = k
    · rw [e]; exact hm
    · exact hall j (by omega)
theorem ld_none {M s : List Int} (hall : ∀ j, j < M.length → el M j ∈ s) : firstN M s = none := by
  unfold firstN
  rw [List.find?_eq_none]
  intro x hx
  obtain ⟨i, hi, rfl⟩ := el_of hx
  simpa using hall i hi
set_option maxRecDepth 100000 in
set_option maxHeartbeats 1600000 in
theorem ldrS_any (F : Int) (a : Option Addr) (cap : Nat) (M : List Int) (b : Option Addr) (cb : Nat) (s : List Int) (w : World) (hv : Vec w a M.length M) (hm : M.length ≤ maxLen) (hs : Vec w b s.length s) (hsm : s.length ≤ maxLen) :
    Calls Try.prog 43 #[vwV F a M.length cap, .slice b s.length cb] w fun e w' => e = .returned (.int .i64 (ldL (F, M) s)) ∧ Grew w w' := by
  have hG0 : Grew w (w.alloc (.cells #[.int .i64 F, .slice a M.length cap] 34)) := (Grew.refl _).alloc _
  have hX := VX.new (F := F) (c := cap) hv
  have hK := vwkS_any F a cap M _ hX.vec hm
  have hs0 := hs.below hG0.1 (Nat.le_refl _)
  unfold vwV at hK ⊢
  obtain ⟨c0, c1⟩ := hX.c
  have HG : Hid (Grew w (w.alloc (.cells #[.int .i64 F, .slice a M.length cap] 34))) := hG0
  clear hG0 hv hs
  generalize hW0 : w.alloc (.cells #[.int .i64 F, .slice a M.length cap] 34) = W0 at *
  unfold maxLen at hm
  by_cases hok : okVw (F, M)
  · rw [decide_eq_true hok] at hK
    have HL : Hid (ldL (F, M) s = (firstN M s).getD (-1)) := by rw [Hid, ldL, if_pos hok]
    have h8 := hok.2.1
    dsimp only at h8
    clear hok
    go_enter Try.func43, Try.ntmps43
    go_wp2_with (go_at_call 35; refine hK.mono ?_; rintro e w1 ⟨rfl, hg1⟩)
    have hX1 := hX.below hg1.1
    have hs1 := hs0.below hg1.1 (Nat.le_refl _)
    have HG1 : Hid (Grew w w1) := HG.out.trans hg1
    obtain ⟨d0, d1⟩ := hX1.c
    obtain ⟨bm, om, rfl, hc⟩ := hX1.vec.cells h8.1
    have HC : Hid (∀ i, i < M.length → w1.cell? ⟨bm, om + i, none⟩ = some (.int .i64 (el M i))) := hc
    clear hX hX1 hs0 hK hg1 c0 c1 hc HG
    go_loop [5] (fun i => ∃ k : Nat, k ≤ M.length ∧ i = .int .i64 (k : Int) ∧ ∀ j, j < k → el M j ∈ s) (fun i => M.length - (intOf i).toNat)
    case atStart => exact ⟨0, Nat.zero_le _, rfl, fun j hj => by omega⟩
    case round =>
      obtain ⟨k, hk, rfl, hall⟩ := hrel
      have HA : Hid (∀ j, j < k → el M j ∈ s) := hall
      clear hall
      by_cases hlt : k < M.length
      · have k1 : (k : Int) < (M.length : Int) := by omega
        have k0 : (0 : Int) ≤ (k : Int) := by omega
        have hck := HC.out k hlt
        have hH := l1Has_any b s.length cb (el M k) s w1 hs1 hsm
        have HST : Hid ((el M k ∉ s → firstN M s = some (el M k)) ∧ (el M k ∈ s → ∀ j, j < k + 1 → el M j ∈ s)) := ld_step hlt HA.out
        by_cases hin : el M k ∈ s
        · have HN : Hid (∀ j, j < k + 1 → el M j ∈ s) := HST.out.2 hin
          rw [decide_eq_true hin] at hH
          clear hin HST
          generalize el M k = E at *
          go_wp2_with (go_at_call 77; refine hH.mono ?_; rintro e w' ⟨rfl, hw'⟩; rw [hw']; clear hw')
          go_round
          case rel => exact ⟨k + 1, by omega, by go_num, HN.out⟩
          case measure => simp [intOf]; omega
        · have HN : Hid (ldL (F, M) s = el M k) := by rw [Hid, HL.out, HST.out.1 hin]; rfl
          rw [decide_eq_false hin] at hH
          clear hin HST
          generalize el M k = E at *
          go_wp2_with (go_at_call 77; refine hH.mono ?_; rintro e w' ⟨rfl, hw'⟩; rw [hw']; clear hw')
          go_ret
          exact ⟨ret_int (by rw [HN.out]), HG1.out⟩
      · have k1 : ¬ ((k : Int) < (M.length : Int)) := by omega
        obtain rfl : k = M.length := by omega
        have HN : Hid (ldL (F, M) s = -1) := by rw [Hid, HL.out, ld_none HA.out]; rfl
        go_wp2
        go_ret
        exact ⟨ret_int (by rw [HN.out]), HG1.out⟩
  · rw [decide_eq_false hok] at hK
    have HZ : Hid (ldL (F, M) s = -1) := by rw [Hid, ldL, if_neg hok]
    clear hok
    go_enter Try.func43, Try.ntmps43
    go_wp2_with (go_at_call 35; refine hK.mono ?_; rintro e w1 ⟨rfl, hg1⟩)
    have HG1 : Hid (Grew w w1) := HG.out.trans hg1
    clear hg1
    go_ret
    exact ⟨ret_int (by rw [HZ.out]), HG1.out⟩
set_option maxRecDepth 100000 in
set_option maxHeartbeats 1600000 in
theorem rnkS_any (F : Int) (a : Option Addr) (cap : Nat) (M : List Int) (node : Int) (w : World) (hv : Vec w a M.length M) (hm : M.length ≤ maxLen) :
    Calls Try.prog 45 #[vwV F a M.length cap, .int .i64 node] w fun e w' => e = .returned (.int .i64 (rnkL (F, M) node)) ∧ Grew w w' := by
  have hG0 : Grew w (w.alloc (.cells #[.int .i64 F, .slice a M.length cap] 34)) := (Grew.refl _).alloc _
  have hX := VX.new (F := F) (c := cap) hv
  have hK := vwkS_any F a cap M _ hX.vec hm
  unfold vwV at hK ⊢
  obtain ⟨c0, c1⟩ := hX.c
  have HG : Hid (Grew w (w.alloc (.cells #[.int .i64 F, .slice a M.length cap] 34))) := hG0
  clear hG0 hv
  generalize hW0 : w.alloc (.cells #[.int .i64 F, .slice a M.length cap] 34) = W0 at *
  unfold maxLen at hm
  by_cases hok : okVw (F, M)
  · rw [decide_eq_true hok] at hK
    have HL : Hid (rnkL (F, M) node = match rkF M node M.length with | some i => (i : Int) | none => -1) := by rw [Hid, rnkL, if_pos hok] <;> (cases h : rkF M node M.length <;> simp [h])
    have h8 := hok.2.1
    dsimp only at h8
    have HR : Hid (M.Pairwise (· < ·)) := hok.2.2.1
    clear hok
    go_enter Try.func45, Try.ntmps45
    go_wp2_with (go_at_call 35; refine hK.mono ?_; rintro e w1 ⟨rfl, hg1⟩)
    have hX1 := hX.below hg1.1
    have HG1 : Hid (Grew w w1) := HG.out.trans hg1
    obtain ⟨d0, d1⟩ := hX1.c
    obtain ⟨bm, om, rfl, hc⟩ := hX1.vec.cells h8.1
    have HC : Hid (∀ i, i < M.length → w1.cell? ⟨bm, om + i, none⟩ = some (.int .i64 (el M i))) := hc
    clear hX hX1 hK hg1 c0 c1 hc HG
    go_loop [5] (fun i => ∃ k : Nat, k ≤ M.length ∧ i = .int .i64 (k : Int) ∧ ∀ j, j < k → el M j ≠ node) (fun i => M.length - (intOf i).toNat)
    case atStart => exact ⟨0, Nat.zero_le _, rfl, fun j hj => by omega⟩
    case round =>
      obtain ⟨k, hk, rfl, hall⟩ := hrel
      have HA : Hid (∀ j, j < k → el M j ≠ node) := hall
      clear hall
      by_cases hlt : k < M.length
      · have k1 : (k : Int) < (M.length : Int) := by omega
        have k0 : (0 : Int) ≤ (k : Int) := by omega
        have hck := HC.out k hlt
        by_cases hin : el M k = node
        · have HN : Hid (rnkL (F, M) node = (k : Int)) := by rw [Hid, HL.out, ← hin, rkF_at HR.out hlt (Nat.le_refl _)]
          have hq : (el M k == node) = true := by simpa using hin
          clear hin
          generalize el M k = E at *
          go_wp2
          go_ret
          exact ⟨ret_int (by rw [HN.out]), HG1.out⟩
        · have HN : Hid (∀ j, j < k + 1 → el M j ≠ node) := fun j hj => by
            by_cases e : j = k
            · rw [e]; exact hin
            · exact HA.out j (by omega)
          have hq : (el M k == node) = false := by simpa using hin
          clear hin
          generalize el M k = E at *
          go_wp2
          go_round
          case rel => exact ⟨k + 1, by omega, by go_num, HN.out⟩
          case measure => simp [intOf]; omega
      · have k1 : ¬ ((k : Int) < (M.length : Int)) := by omega
        obtain rfl : k = M.length := by omega
        have HN : Hid (rnkL (F, M) node = -1) := by rw [Hid, HL.out, rkF_none HA.out]
        go_wp2
        go_ret
        exact ⟨ret_int (by rw [HN.out]), HG1.out⟩
  · rw [decide_eq_false hok] at hK
    have HZ : Hid (rnkL (F, M) node = -1) := by rw [Hid, rnkL, if_neg hok]
    clear hok
    go_enter Try.func45, Try.ntmps45
    go_wp2_with (go_at_call 35; refine hK.mono ?_; rintro e w1 ⟨rfl, hg1⟩)
    have HG1 : Hid (Grew w w1) := HG.out.trans hg1
    clear hg1
    go_ret
    exact ⟨ret_int (by rw [HZ.out]), HG1.out⟩
theorem cnt_step {M l : List Int} {k : Nat} (h : k < M.length) : cntL (M.take (k + 1)) l = cntL (M.take k) l + (if el M k ∈ l then 1 else 0) := by
  have e : M.take (k + 1) = M.take k ++ [el M k] := by
    rw [List.take_succ_eq_append_getElem h]
    simp [el, List.getD, h]
  rw [e]
  unfold cntL
  rw [List.filter_append, List.length_append]
  by_cases h2 : el M k ∈ l <;> simp [h2]
set_option maxRecDepth 100000 in
set_option maxHeartbeats 1600000 in
theorem majS_any (F : Int) (a : Option Addr) (cap : Nat) (M : List Int) (b : Option Addr) (cb : Nat) (s : List Int) (w : World) (hv : Vec w a M.length M) (hm : M.length ≤ 1048576) (hs : Vec w b s.length s) (hsm : s.length ≤ maxLen) :
    Calls Try.prog 33 #[vwV F a M.length cap, .slice b s.length cb] w fun e w' => e = .returned (.bool (decide (mjP (F, M) s))) ∧ Grew w w' := by
  have hG0 : Grew w (w.alloc (.cells #[.int .i64 F, .slice a M.length cap] 34)) := (Grew.refl _).alloc _
  have hX := VX.new (F := F) (c := cap) hv
  have hK := vwkS_any F a cap M _ hX.vec (by unfold maxLen; omega)
  have hs0 := hs.below hG0.1 (Nat.le_refl _)
  unfold vwV at hK ⊢
  obtain ⟨c0, c1⟩ := hX.c
  have HG : Hid (Grew w (w.alloc (.cells #[.int .i64 F, .slice a M.length cap] 34))) := hG0
  clear hG0 hv hs
  generalize hW0 : w.alloc (.cells #[.int .i64 F, .slice a M.length cap] 34) = W0 at *
  have HV : Hid (Vec W0 a M.length M) := hX.vec
  have HK : Hid (Calls Try.prog 35 #[.agg #[.int .i64 F, .slice a M.length cap]] W0 fun e w' => e = .returned (.bool (decide (okVw (F, M)))) ∧ Grew W0 w') := hK
  clear hX hK
  go_enter Try.func33, Try.ntmps33
  go_wp2
  go_loop [5, 6] (fun c i => ∃ k : Nat, k ≤ M.length ∧ i = .int .i64 (k : Int) ∧ c = .int .i64 ((cntL (M.take k) s : Nat) : Int)) (fun _ i => M.length - (intOf i).toNat)
  case atStart => exact ⟨0, Nat.zero_le _, rfl, rfl⟩
  case round =>
    obtain ⟨k, hk, rfl, rfl⟩ := hrel
    have hle : cntL (M.take k) s ≤ k := Nat.le_trans (cntL_le _ _) (by simp; omega)
    by_cases hlt : k < M.length
    · have k1 : (k : Int) < (M.length : Int) := by omega
      have k0 : (0 : Int) ≤ (k : Int) := by omega
      obtain ⟨bm, om, rfl, hc⟩ := HV.out.cells (by omega)
      have hck := hc k hlt
      have hH := l1Has_any b s.length cb (el M k) s W0 hs0 hsm
      have HST : Hid (cntL (M.take (k + 1)) s = cntL (M.take k) s + (if el M k ∈ s then 1 else 0)) := cnt_step hlt
      clear hc
      by_cases hin : el M k ∈ s
      · have HN : Hid (cntL (M.take (k + 1)) s = cntL (M.take k) s + 1) := by rw [Hid, HST.out, if_pos hin]
        rw [decide_eq_true hin] at hH
        clear hin HST
        generalize el M k = E at *
        generalize hC1 : cntL (M.take (k + 1)) s = C1 at *
        generalize cntL (M.take k) s = C0 at *
        go_wp2_with (go_at_call 77; refine hH.mono ?_; rintro e w' ⟨rfl, hw'⟩; rw [hw']; clear hw')
        go_round
        case rel => exact ⟨k + 1, by omega, by go_num, by rw [hC1, HN.out]; go_num⟩
        case measure => simp [intOf]; omega
      · have HN : Hid (cntL (M.take (k + 1)) s = cntL (M.take k) s) := by rw [Hid, HST.out, if_neg hin]; rfl
        rw [decide_eq_false hin] at hH
        clear hin HST
        generalize el M k = E at *
        generalize hC1 : cntL (M.take (k + 1)) s = C1 at *
        generalize cntL (M.take k) s = C0 at *
        go_wp2_with (go_at_call 77; refine hH.mono ?_; rintro e w' ⟨rfl, hw'⟩; rw [hw']; clear hw')
        go_round
        case rel => exact ⟨k + 1, by omega, by go_num, by rw [hC1, HN.out]⟩
        case measure => simp [intOf]; omega
    · have k1 : ¬ ((k : Int) < (M.length : Int)) := by omega
      have hkl : k = M.length := by omega
      have HT : Hid (M.take k = M) := by rw [Hid, hkl, List.take_length]
      rw [HT.out] at hle ⊢
      have hK := HK.out
      by_cases hok : okVw (F, M)
      · rw [decide_eq_true hok] at hK
        have HZ : Hid (decide (mjP (F, M) s) = decide ((M.length : Int) < 2 * (cntL M s : Int))) := by
          rw [Hid]
          refine decide_eq_decide.2 ⟨fun h => by have := h.2; dsimp only at this; omega, fun h => ⟨hok, by dsimp only; omega⟩⟩
        clear hok hkl HT
        generalize cntL M s = C at *
        go_wp2_with (go_at_call 35; refine hK.mono ?_; rintro e w1 ⟨rfl, hg1⟩; have d1 := hg1.cell c1)
        have HG1 : Hid (Grew w w1) := HG.out.trans hg1
        clear hg1
        go_ret
        exact ⟨ret_bool (by rw [HZ.out]), HG1.out⟩
      · rw [decide_eq_false hok] at hK
        have HZ : Hid (decide (mjP (F, M) s) = false) := decide_eq_false (fun h => hok h.1)
        clear hok hkl HT
        generalize cntL M s = C at *
        go_wp2_with (go_at_call 35; refine hK.mono ?_; rintro e w1 ⟨rfl, hg1⟩; have d1 := hg1.cell c1)
        have HG1 : Hid (Grew w w1) := HG.out.trans hg1
        clear hg1
        go_ret
        exact ⟨ret_bool (by rw [HZ.out]), HG1.out⟩
end Go.Proofs.Ytbmpapmdkmnhhaa
