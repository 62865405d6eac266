/-
  ticked at an event of a trace: the clock of the event, and the map of the clocks that later events look for.
-/
import Derived.Test.YtacogcfdolmfpaaTck
namespace Go.Proofs.Ytacogcfdolmfpaa
set_option linter.unusedSimpArgs false
set_option linter.unusedVariables false
open Go.RowKit Go.Sort

theorem ckV_congr {c d : Nat → Int} (h : ∀ j, j < 8 → c j = d j) : ckV c = ckV d := by
  unfold ckV
  rw [h 0 (by omega), h 1 (by omega), h 2 (by omega), h 3 (by omega), h 4 (by omega), h 5 (by omega), h 6 (by omega), h 7 (by omega)]
theorem ckD_congr {c d : Nat → Int} (h : ∀ j, j < 8 → c j = d j) : ckD c = ckD d := by
  unfold ckD
  rw [h 0 (by omega), h 1 (by omega), h 2 (by omega), h 3 (by omega), h 4 (by omega), h 5 (by omega), h 6 (by omega), h 7 (by omega)]
/-- Alike as far as a clock goes. -/
def Like : Option (Nat → Int) → Option (Nat → Int) → Prop
  | none, none => True
  | some c, some d => ∀ j, j < 8 → c j = d j
  | _, _ => False
theorem Like.refl (o : Option (Nat → Int)) : Like o o := by
  cases o with
  | none => trivial
  | some c => exact fun j _ => rfl
theorem KM.like {w : World} {B n n' : Nat} {F F' : Int → Int → Option (Nat → Int)} (h : KM w B n F) (hn : n ≤ n') (e : ∀ a b, Like (F a b) (F' a b)) : KM w B n' F' := by
  obtain ⟨D, h1, h2⟩ := h
  refine ⟨D, h1.mono hn, fun a b kl hk => ?_⟩
  obtain ⟨g1, g2⟩ := h2 a b kl hk
  have he := e a b
  revert g1 g2 he
  cases F a b with
  | none =>
    cases F' a b with
    | none => exact fun g1 g2 _ => ⟨g1, g2⟩
    | some d => exact fun _ _ he => he.elim
  | some c =>
    cases F' a b with
    | none => exact fun _ _ he => he.elim
    | some d => exact fun g1 g2 he => ⟨g1, fun c' hc' z => by cases hc'; rw [g2 c rfl z]; exact ckD_congr he⟩
/-- What the map tells ahead of event k. -/
def Fk (es : List Ev) (k : Nat) : Int → Int → Option (Nat → Int) := fun a b =>
  if a = 1 then (lastB es b k).map (fun i => el (cl es i)) else if a = 2 then (firstS es b k).map (fun i => el (cl es i)) else none
theorem fk_zero (es : List Ev) (a b : Int) : Fk es 0 a b = none := by
  unfold Fk
  split
  · rfl
  · split <;> rfl
theorem fk_getD (es : List Ev) (o : Option Nat) (j : Nat) : ((o.map (fun i => el (cl es i))).getD (fun _ => 0)) j = el (ckO (cl es) o) j := by
  cases o with
  | none => simp [ckO, el_zer8]
  | some i => rfl
theorem ckO_bound (es : List Ev) {o : Option Nat} {k : Nat} (h : ∀ i, o = some i → i < k) {j : Nat} (hj : j < 8) : 0 ≤ el (ckO (cl es) o) j ∧ el (ckO (cl es) o) j ≤ k := by
  cases o with
  | none => simp only [ckO, el_zer8]; omega
  | some i => have := cl_bound es i j hj; have := h i rfl; simp only [ckO]; omega
theorem okE_kind {es : List Ev} {k : Nat} (h : okE es k = true) : (evAt es k).k = 1 ∨ (evAt es k).k = 2 ∨ (evAt es k).k = 3 := by
  unfold okE at h
  by_cases h1 : (evAt es k).k = 1
  · exact .inl h1
  · by_cases h2 : (evAt es k).k = 2
    · exact .inr (.inl h2)
    · by_cases h3 : (evAt es k).k = 3
      · exact .inr (.inr h3)
      · rw [if_neg h1, if_neg h2, if_neg h3] at h
        simp at h
theorem okE_sent {es : List Ev} {k : Nat} (h : okE es k = true) (h2 : (evAt es k).k = 2) : firstS es (evAt es k).m k = none := by
  unfold okE at h
  rw [if_neg (by omega), if_pos h2] at h
  simp only [Bool.and_eq_true, Option.isNone_iff_eq_none] at h
  exact h.2.2
theorem okT_mail {es : List Ev} {len k : Nat} (hok : okT es len = true) (hk : k < len) : 0 ≤ (evAt es k).m ∧ (evAt es k).m ≤ 1000 := by
  obtain ⟨h40, hall⟩ := okT_all hok
  have hE := hall k hk
  rcases okE_kind hE with h1 | h2 | h3
  · unfold okE at hE
    rw [if_pos h1] at hE
    simp only [Bool.and_eq_true, decide_eq_true_eq] at hE
    omega
  · have := okE_mail hE h2
    omega
  · obtain ⟨s, hs⟩ := Option.ne_none_iff_exists'.1 (okE_first hE h3)
    obtain ⟨a, b, c⟩ := firstS_some hs
    have := okE_mail (hall s (by omega)) b
    omega
theorem lastB_succ (es : List Ev) (b : Int) (k : Nat) : lastB es b (k + 1) = if (evAt es k).n = b then some k else lastB es b k := rfl
theorem firstS_keep {es : List Ev} {b : Int} {k : Nat} (h : (evAt es k).k ≠ 2 ∨ (evAt es k).m ≠ b) : firstS es b (k + 1) = firstS es b k := by
  have e : firstS es b (k + 1) = (match firstS es b k with | some i => some i | none => if (evAt es k).k = 2 ∧ (evAt es k).m = b then some k else none) := rfl
  rw [e]
  cases firstS es b k with
  | some i => rfl
  | none => simp only; rw [if_neg (by rintro ⟨h1, h2⟩; rcases h with h | h <;> exact h (by assumption))]

theorem fk_put1 {es : List Ev} {k : Nat} {c : Nat → Int} {p : Nat} (hp : (evAt es k).n = (p : Int)) (h2 : (evAt es k).k ≠ 2) (hc : ∀ j, j < 8 → c j = el (cl es k) j) (a b : Int) : Like (put2 (Fk es k) 1 p c a b) (Fk es (k + 1) a b) := by
  unfold put2 Fk
  by_cases ha : a = 1
  · subst ha
    simp only [if_true, lastB_succ, hp, true_and]
    by_cases hb : b = (p : Int)
    · subst hb
      rw [if_pos rfl, if_pos rfl]
      exact hc
    · rw [if_neg hb, if_neg (Ne.symm hb)]
      exact Like.refl _
  · rw [if_neg (by rintro ⟨h, _⟩; exact ha h), if_neg ha, if_neg ha]
    by_cases ha2 : a = 2
    · rw [if_pos ha2, if_pos ha2, firstS_keep (.inl h2)]
      exact Like.refl _
    · rw [if_neg ha2, if_neg ha2]; trivial
theorem fk_put2 {es : List Ev} {k : Nat} {c : Nat → Int} {p : Nat} (hp : (evAt es k).n = (p : Int)) (h2 : (evAt es k).k = 2) (hf : firstS es (evAt es k).m k = none) (hc : ∀ j, j < 8 → c j = el (cl es k) j) (a b : Int) :
    Like (put2 (put2 (Fk es k) 1 p c) 2 (evAt es k).m c a b) (Fk es (k + 1) a b) := by
  unfold put2 Fk
  by_cases ha : a = 1
  · subst ha
    simp only [if_true, lastB_succ, hp, true_and]
    rw [if_neg (by omega)]
    by_cases hb : b = (p : Int)
    · subst hb
      rw [if_pos rfl, if_pos rfl]
      exact hc
    · rw [if_neg hb, if_neg (Ne.symm hb)]
      exact Like.refl _
  · by_cases ha2 : a = 2
    · subst ha2
      simp only [if_true, true_and]
      by_cases hb : b = (evAt es k).m
      · subst hb
        rw [if_pos rfl, if_neg ha, firstS_hit hf ⟨h2, rfl⟩ (Nat.lt_succ_self k)]
        exact hc
      · rw [if_neg hb, if_neg (by omega), if_neg ha, if_neg ha, firstS_keep (.inr (Ne.symm hb))]
        exact Like.refl _
    · rw [if_neg (by omega), if_neg (by omega), if_neg ha, if_neg ha2, if_neg ha, if_neg ha2]; trivial

theorem ticked_at (es : List Ev) (k len M nn : Nat) (w : World) (hok : okT es len = true) (hk : k < len) (hK : KM w M nn (Fk es k)) (hn : nn ≤ 900) :
    Calls Try.prog 100 #[.map (some M), .agg #[.int .i64 (evAt es k).n, .int .i64 (evAt es k).k, .int .i64 (evAt es k).m]] w fun r w' => r = .returned (ckV (el (cl es k))) ∧ KM w' M (nn + 2) (Fk es (k + 1)) ∧ w.grownBy w' (some M) := by
  obtain ⟨h40, hall⟩ := okT_all hok
  have hE := hall k hk
  have hr := okE_rng hE
  have hm : -9223372036854775808 ≤ (evAt es k).m ∧ (evAt es k).m ≤ 9223372036854775807 := by
    have := okT_mail hok hk
    omega
  obtain ⟨p, hp⟩ : ∃ p : Nat, (evAt es k).n = (p : Int) := ⟨(evAt es k).n.toNat, by omega⟩
  have hp8 : p < 8 := by omega
  have hpt : (evAt es k).n.toNat = p := by omega
  have hb1 : ∀ j, j < 8 → 0 ≤ el (ckO (cl es) (lastB es (evAt es k).n k)) j ∧ el (ckO (cl es) (lastB es (evAt es k).n k)) j ≤ k := fun j hj => ckO_bound es (fun i hi => (lastB_some hi).1) hj
  have e1 : (Fk es k 1 p).getD (fun _ => 0) = fun j => el (ckO (cl es) (lastB es (evAt es k).n k)) j := by
    funext j
    rw [hp]
    exact fk_getD es _ j
  have e2 : (Fk es k 2 (evAt es k).m).getD (fun _ => 0) = fun j => el (ckO (cl es) (firstS es (evAt es k).m k)) j := by
    funext j
    exact fk_getD es _ j
  have hu : ∀ (o : Option Nat), sndO es k = o → ∀ j, j < 8 → up1 (fun j => max (el (ckO (cl es) (lastB es (evAt es k).n k)) j) (el (ckO (cl es) o) j)) p j = el (cl es k) j := by
    intro o ho j hj
    rw [cl_el hj, ho, hpt]
    unfold up1
    by_cases e : j = p
    · rw [if_pos e, if_pos e.symm]
    · rw [if_neg e, if_neg (Ne.symm e)]
  have hu0 : sndO es k = none → ∀ j, j < 8 → up1 (fun j => el (ckO (cl es) (lastB es (evAt es k).n k)) j) p j = el (cl es k) j := by
    intro ho j hj
    rw [← hu none ho j hj]
    unfold up1
    have := hb1 j hj
    have e0 : el (ckO (cl es) none) j = 0 := el_zer8 j
    dsimp only
    rw [e0]
    omega
  rcases okE_kind hE with h1 | h2 | h3
  · have hs : sndO es k = none := by unfold sndO; rw [if_neg (by omega)]
    rw [hp]
    refine (tickedL M nn p (Fk es k) (evAt es k).k (evAt es k).m _ w hK (by omega) hp8 e1 (fun j hj => by have := hb1 j hj; omega) (by omega) (by omega)).mono ?_
    rintro r w' ⟨rfl, hK', hg⟩
    exact ⟨by rw [ckV_congr (hu0 hs)], hK'.like (by omega) (fk_put1 hp (by omega) (hu0 hs)), hg⟩
  · have hs : sndO es k = none := by unfold sndO; rw [if_neg (by omega)]
    rw [hp, h2]
    refine (tickedS M nn p (Fk es k) (evAt es k).m _ w hK (by omega) hp8 e1 (fun j hj => by have := hb1 j hj; omega) hm).mono ?_
    rintro r w' ⟨rfl, hK', hg⟩
    exact ⟨by rw [ckV_congr (hu0 hs)], hK'.like (by omega) (fk_put2 hp h2 (okE_sent hE h2) (hu0 hs)), hg⟩
  · have hs : sndO es k = firstS es (evAt es k).m k := by unfold sndO; rw [if_pos h3]
    have hb2 : ∀ j, j < 8 → 0 ≤ el (ckO (cl es) (firstS es (evAt es k).m k)) j ∧ el (ckO (cl es) (firstS es (evAt es k).m k)) j ≤ k := fun j hj => ckO_bound es (fun i hi => (firstS_some hi).1) hj
    rw [hp, h3]
    refine (tickedH M nn p (Fk es k) (evAt es k).m _ w hK (by omega) hp8 e1 (fun j hj => by have := hb1 j hj; omega) hm _ e2 (fun j hj => by have := hb2 j hj; omega)).mono ?_
    rintro r w' ⟨rfl, hK', hg⟩
    exact ⟨by rw [ckV_congr (hu _ hs)], hK'.like (by omega) (fk_put1 hp (by omega) (hu _ hs)), hg⟩
end Go.Proofs.Ytacogcfdolmfpaa
