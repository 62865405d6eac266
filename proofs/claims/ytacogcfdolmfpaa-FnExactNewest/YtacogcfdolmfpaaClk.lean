/-
  The clocks of a trace as plain lists, and what they tell of what is ahead of what (Fidge and Mattern). No word of the model.
-/
import Derived.Test.YtacogcfdolmfpaaJoinSpec
import Derived.Test.YtacogcfdolmfpaaTr
namespace Go.Proofs.Ytacogcfdolmfpaa

/-- The kind of what an event of a trace is. -/
theorem okE_rng {es : List Ev} {k : Nat} (h : okE es k = true) : 0 ≤ (evAt es k).n ∧ (evAt es k).n ≤ 7 := by
  unfold okE at h
  simp only [Bool.and_eq_true, rangeB, decide_eq_true_eq] at h
  exact h.1

/-- Eight noughts. -/
def zer8 : List Int := List.replicate 8 0
/-- The clock at a place that may be none. -/
def ckO (c : Nat → List Int) : Option Nat → List Int
  | none => zer8
  | some i => c i
/-- One more at place n. -/
def tick (v : List Int) (n : Int) : List Int := v.set n.toNat (el v n.toNat + 1)
/-- The event that is heard at event k. -/
def sndO (es : List Ev) (k : Nat) : Option Nat := if (evAt es k).k = 3 then firstS es (evAt es k).m k else none
/-- The clocks of the first k events. -/
def ckL (es : List Ev) : Nat → List (List Int)
  | 0 => []
  | k + 1 => ckL es k ++ [tick (jn max (ckO (fun i => (ckL es k).getD i []) (lastB es (evAt es k).n k)) (ckO (fun i => (ckL es k).getD i []) (sndO es k)) 8) (evAt es k).n]
def cl (es : List Ev) (k : Nat) : List Int := (ckL es (k + 1)).getD k []
theorem ckL_len (es : List Ev) (k : Nat) : (ckL es k).length = k := by
  induction k with
  | zero => rfl
  | succ k ih => simp [ckL, ih]
theorem ckL_get {es : List Ev} {n i : Nat} (h : i < n) : (ckL es n).getD i [] = cl es i := by
  induction n with
  | zero => omega
  | succ n ih =>
    by_cases e : i = n
    · subst e; rfl
    · have : i < (ckL es n).length := by rw [ckL_len]; omega
      rw [← ih (by omega)]
      simp only [ckL, List.getD_eq_getElem?_getD]
      rw [List.getElem?_append_left this]
theorem sndO_lt {es : List Ev} {k i : Nat} (h : sndO es k = some i) : i < k := by
  unfold sndO at h
  split at h
  · exact (firstS_some h).1
  · cases h
theorem cl_eq (es : List Ev) (k : Nat) : cl es k = tick (jn max (ckO (cl es) (lastB es (evAt es k).n k)) (ckO (cl es) (sndO es k)) 8) (evAt es k).n := by
  have h0 : cl es k = tick (jn max (ckO (fun i => (ckL es k).getD i []) (lastB es (evAt es k).n k)) (ckO (fun i => (ckL es k).getD i []) (sndO es k)) 8) (evAt es k).n := by
    have : (ckL es k).length = k := ckL_len es k
    show (ckL es k ++ [_]).getD k [] = _
    rw [List.getD_eq_getElem?_getD, List.getElem?_append_right (by omega), this, Nat.sub_self]
    rfl
  have hL : ckO (fun i => (ckL es k).getD i []) (lastB es (evAt es k).n k) = ckO (cl es) (lastB es (evAt es k).n k) := by
    cases hl : lastB es (evAt es k).n k with
    | none => rfl
    | some i => exact ckL_get (lastB_some hl).1
  have hS : ckO (fun i => (ckL es k).getD i []) (sndO es k) = ckO (cl es) (sndO es k) := by
    cases hl : sndO es k with
    | none => rfl
    | some i => exact ckL_get (sndO_lt hl)
  rw [h0, hL, hS]
theorem ckL_succ (es : List Ev) (k : Nat) : ckL es (k + 1) = ckL es k ++ [cl es k] := by
  have : (ckL es (k + 1)).getD k [] = cl es k := ckL_get (Nat.lt_succ_self k)
  have h1 : ∃ x, ckL es (k + 1) = ckL es k ++ [x] := ⟨_, rfl⟩
  obtain ⟨x, hx⟩ := h1
  rw [hx] at this ⊢
  rw [List.getD_eq_getElem?_getD, List.getElem?_append_right (by rw [ckL_len]; omega), ckL_len, Nat.sub_self] at this
  simp at this
  rw [this]
theorem tick_len (v : List Int) (n : Int) : (tick v n).length = v.length := by simp [tick]
theorem cl_len (es : List Ev) (k : Nat) : (cl es k).length = 8 := by rw [cl_eq, tick_len, jn_length]
theorem zer8_len : zer8.length = 8 := by simp [zer8]
theorem ckO_len (es : List Ev) (o : Option Nat) : (ckO (cl es) o).length = 8 := by
  cases o with
  | none => exact zer8_len
  | some i => exact cl_len es i
theorem el_zer8 (p : Nat) : el zer8 p = 0 := by
  simp only [el, zer8, List.getD_eq_getElem?_getD, List.getElem?_replicate]
  split <;> rfl
theorem el_tick {v : List Int} {n : Int} {p : Nat} (hp : p < v.length) : el (tick v n) p = el v p + (if n.toNat = p then 1 else 0) := by
  simp only [el, tick, List.getD_eq_getElem?_getD, List.getElem?_set]
  by_cases e : n.toNat = p
  · subst e
    rw [if_pos rfl, if_pos hp, if_pos rfl]
    rfl
  · rw [if_neg e, if_neg e]
    omega
theorem cl_el {es : List Ev} {k p : Nat} (hp : p < 8) : el (cl es k) p = max (el (ckO (cl es) (lastB es (evAt es k).n k)) p) (el (ckO (cl es) (sndO es k)) p) + (if (evAt es k).n.toNat = p then 1 else 0) := by
  rw [cl_eq, el_tick (by rw [jn_length]; exact hp), jn_el _ _ _ hp]
theorem cl_bound (es : List Ev) : ∀ k p, p < 8 → 0 ≤ el (cl es k) p ∧ el (cl es k) p ≤ k + 1 := by
  intro k
  induction k using Nat.strongRecOn with
  | ind k ih =>
    intro p hp
    rw [cl_el hp]
    have h1 : 0 ≤ el (ckO (cl es) (lastB es (evAt es k).n k)) p ∧ el (ckO (cl es) (lastB es (evAt es k).n k)) p ≤ k := by
      cases hl : lastB es (evAt es k).n k with
      | none => simp only [ckO, el_zer8]; omega
      | some i => have h := (lastB_some hl).1; have := ih i h p hp; simp only [ckO]; omega
    have h2 : 0 ≤ el (ckO (cl es) (sndO es k)) p ∧ el (ckO (cl es) (sndO es k)) p ≤ k := by
      cases hl : sndO es k with
      | none => simp only [ckO, el_zer8]; omega
      | some i => have h := sndO_lt hl; have := ih i h p hp; simp only [ckO]; omega
    split <;> omega

/-- How many of the first k events are of node p. -/
def num (es : List Ev) (p : Int) : Nat → Nat
  | 0 => 0
  | k + 1 => num es p k + (if (evAt es k).n = p then 1 else 0)
theorem num_mono {es : List Ev} {p : Int} {i k : Nat} (h : i ≤ k) : num es p i ≤ num es p k := by
  induction k with
  | zero => have : i = 0 := by omega
            subst this; exact Nat.le_refl _
  | succ k ih =>
    by_cases e : i = k + 1
    · subst e; exact Nat.le_refl _
    · have := ih (by omega)
      simp only [num]; omega
theorem num_flat {es : List Ev} {p : Int} {i k : Nat} (hik : i ≤ k) (h : ∀ j, i ≤ j → j < k → (evAt es j).n ≠ p) : num es p k = num es p i := by
  induction k with
  | zero => have : i = 0 := by omega
            subst this; rfl
  | succ k ih =>
    by_cases e : i = k + 1
    · subst e; rfl
    · simp only [num]
      rw [if_neg (h k (by omega) (by omega)), ih (by omega) (fun j h1 h2 => h j h1 (by omega))]
      omega
theorem num_at {es : List Ev} {p : Int} {k : Nat} (h : (evAt es k).n = p) : num es p (k + 1) = num es p k + 1 := by simp [num, h]
theorem src_eq (es : List Ev) (k : Nat) : src es k = (lastB es (evAt es k).n k).toList ++ (sndO es k).toList := by
  unfold src sndO
  split <;> rfl
/-- What event k knows: itself and what is ahead of it. -/
def Knows (es : List Ev) (j k : Nat) : Prop := j = k ∨ Anc es j k
theorem Knows.le {es : List Ev} {j k : Nat} (h : Knows es j k) : j ≤ k := by
  rcases h with rfl | h
  · exact Nat.le_refl _
  · exact Nat.le_of_lt h.lt
theorem Knows.trans {es : List Ev} {i j k : Nat} (h : Knows es i j) (g : Knows es j k) : Knows es i k := by
  rcases h with rfl | h
  · exact g
  · rcases g with rfl | g
    · exact .inr h
    · exact .inr (h.trans g)
theorem knows_src {es : List Ev} {s k : Nat} (h : s ∈ src es k) : Knows es s k := .inr (.base h)
/-- A clock's place p: as many of node p as the last one that is known. -/
structure Char (es : List Ev) (k p : Nat) : Prop where
  up : ∀ j, Knows es j k → (evAt es j).n = (p : Int) → (num es p (j + 1) : Int) ≤ el (cl es k) p
  at_ : el (cl es k) p = 0 ∨ ∃ j, Knows es j k ∧ (evAt es j).n = (p : Int) ∧ el (cl es k) p = num es p (j + 1)
theorem char_own {es : List Ev} {k : Nat} (ih : ∀ i, i < k → ∀ p, p < 8 → Char es i p ∧ ((evAt es i).n = (p : Int) → el (cl es i) p = num es p (i + 1))) {p : Nat} (hp : p < 8) (hn : (evAt es k).n = (p : Int)) :
    el (cl es k) p = num es p (k + 1) := by
  rw [cl_el hp, num_at hn, if_pos (by rw [hn]; rfl)]
  have h1 : el (ckO (cl es) (lastB es (evAt es k).n k)) p = num es p k := by
    cases hl : lastB es (evAt es k).n k with
    | none =>
      simp only [ckO, el_zer8]
      have := num_flat (es := es) (p := (p : Int)) (i := 0) (k := k) (by omega) (fun j _ hj => by rw [← hn]; exact lastB_none hl j hj)
      rw [this]; rfl
    | some i =>
      obtain ⟨a, b, c⟩ := lastB_some hl
      simp only [ckO]
      rw [(ih i a p hp).2 (by rw [b, hn])]
      have := num_flat (es := es) (p := (p : Int)) (i := i + 1) (k := k) (by omega) (fun j h1 h2 => by rw [← hn]; exact c j (by omega) h2)
      rw [this]
  have h2 : el (ckO (cl es) (sndO es k)) p ≤ num es p k := by
    cases hl : sndO es k with
    | none => simp only [ckO, el_zer8]; omega
    | some i =>
      have a := sndO_lt hl
      simp only [ckO]
      rcases ((ih i a p hp).1).at_ with h | ⟨j, hj, _, h⟩
      · rw [h]; omega
      · rw [h]
        have := num_mono (es := es) (p := (p : Int)) (i := j + 1) (k := k) (by have := hj.le; omega)
        omega
  rw [h1]
  omega
theorem char_all {es : List Ev} {n : Nat} (hok : ∀ j, j < n → 0 ≤ (evAt es j).n ∧ (evAt es j).n ≤ 7) : ∀ k, k < n → ∀ p, p < 8 → Char es k p ∧ ((evAt es k).n = (p : Int) → el (cl es k) p = num es p (k + 1)) := by
  intro k
  induction k using Nat.strongRecOn with
  | ind k ih0 =>
    intro hk p hp
    have ih : ∀ i, i < k → ∀ p, p < 8 → Char es i p ∧ ((evAt es i).n = (p : Int) → el (cl es i) p = num es p (i + 1)) := fun i hi => ih0 i hi (by omega)
    by_cases hn : (evAt es k).n = (p : Int)
    · have own := char_own ih hp hn
      refine ⟨⟨fun j hj _ => ?_, .inr ⟨k, .inl rfl, hn, own⟩⟩, fun _ => own⟩
      rw [own]
      exact Int.ofNat_le.2 (num_mono (by have := hj.le; omega))
    · refine ⟨?_, fun h => absurd h hn⟩
      have hr := hok k hk
      have e : el (cl es k) p = max (el (ckO (cl es) (lastB es (evAt es k).n k)) p) (el (ckO (cl es) (sndO es k)) p) := by
        rw [cl_el hp, if_neg (by omega)]
        omega
      have hsrc : ∀ o : Option Nat, (∀ s, o = some s → s ∈ src es k) → el (ckO (cl es) o) p = 0 ∨ ∃ j, Knows es j k ∧ (evAt es j).n = (p : Int) ∧ el (ckO (cl es) o) p = num es p (j + 1) := by
        intro o ho
        cases o with
        | none => exact .inl (el_zer8 p)
        | some s =>
          have hs := ho s rfl
          rcases ((ih s (src_lt hs) p hp).1).at_ with h | ⟨j, hj, h1, h2⟩
          · exact .inl h
          · exact .inr ⟨j, hj.trans (knows_src hs), h1, h2⟩
      have m1 : ∀ s, lastB es (evAt es k).n k = some s → s ∈ src es k := fun s h => by rw [src_eq, h]; simp
      have m2 : ∀ s, sndO es k = some s → s ∈ src es k := fun s h => by rw [src_eq, h]; simp
      constructor
      · intro j hj hjp
        rcases hj with rfl | hj
        · exact absurd hjp hn
        · obtain ⟨s, hs, hjs⟩ := anc_iff.1 hj
          have := ((ih s (src_lt hs) p hp).1).up j hjs hjp
          rw [e]
          rw [src_eq, List.mem_append, Option.mem_toList, Option.mem_toList] at hs
          rcases hs with hs | hs
          · rw [hs]; simp only [ckO]; omega
          · rw [hs]; simp only [ckO]; omega
      · rw [e]
        rcases Int.le_total (el (ckO (cl es) (lastB es (evAt es k).n k)) p) (el (ckO (cl es) (sndO es k)) p) with hle | hle
        · rw [Int.max_eq_right hle]; exact hsrc _ m2
        · rw [Int.max_eq_left hle]; exact hsrc _ m1
theorem okT_nodes {es : List Ev} {len : Nat} (hok : okT es len = true) : ∀ j, j < len → 0 ≤ (evAt es j).n ∧ (evAt es j).n ≤ 7 := by
  unfold okT at hok
  simp only [Bool.and_eq_true, decide_eq_true_eq] at hok
  exact fun j hj => okE_rng (allE_iff.1 hok.2 j hj)
/-- Who is known, by the number. -/
theorem knows_iff {es : List Ev} {len i k p : Nat} (hok : okT es len = true) (hk : k < len) (hi : i < len) (hp : (evAt es i).n = (p : Int)) : Knows es i k ↔ (num es p (i + 1) : Int) ≤ el (cl es k) p := by
  have hr := okT_nodes hok
  have hp8 : p < 8 := by have := hr i hi; omega
  obtain ⟨c, _⟩ := char_all hr k hk p hp8
  constructor
  · exact fun h => c.up i h hp
  · intro h
    have h1 := num_at hp
    rcases c.at_ with e | ⟨j, hj, hjp, e⟩
    · rw [e] at h; omega
    · rw [e] at h
      have hij : i ≤ j := by
        rcases Nat.lt_or_ge j i with hlt | hge
        · have := num_mono (es := es) (p := (p : Int)) (i := j + 1) (k := i) (by omega)
          omega
        · exact hge
      rcases Nat.lt_or_ge i j with hlt | hge
      · exact (Knows.trans (.inr (anc_node hlt (by rw [hp, hjp]))) hj)
      · have : i = j := by omega
        subst this; exact hj
theorem cl_own {es : List Ev} {len k p : Nat} (hok : okT es len = true) (hk : k < len) (hp : (evAt es k).n = (p : Int)) : el (cl es k) p = num es p (k + 1) := by
  have hr := okT_nodes hok
  exact (char_all hr k hk p (by have := hr k hk; omega)).2 hp
/-- A clock is under another one just where its event is known. -/
theorem under_iff {es : List Ev} {len i k : Nat} (hok : okT es len = true) (hi : i < len) (hk : k < len) : (∀ p, p < 8 → el (cl es i) p ≤ el (cl es k) p) ↔ Knows es i k := by
  have hr := okT_nodes hok
  constructor
  · intro h
    have hri := hr i hi
    have hp : (evAt es i).n = (((evAt es i).n.toNat : Nat) : Int) := by omega
    rw [knows_iff hok hk hi hp, ← cl_own hok hi hp]
    exact h _ (by omega)
  · intro h p hp
    obtain ⟨c, _⟩ := char_all hr i hi p hp
    obtain ⟨c', _⟩ := char_all hr k hk p hp
    rcases c.at_ with e | ⟨j, hj, hjp, e⟩
    · rw [e]; exact (cl_bound es k p hp).1
    · rw [e]; exact c'.up j (hj.trans h) hjp
/-- FIDGE and MATTERN. -/
theorem mattern {es : List Ev} {len i k : Nat} (hok : okT es len = true) (hi : i < len) (hk : k < len) : ((∀ p, p < 8 → el (cl es i) p ≤ el (cl es k) p) ∧ cl es i ≠ cl es k) ↔ Anc es i k := by
  rw [under_iff hok hi hk]
  constructor
  · rintro ⟨rfl | h, hne⟩
    · exact absurd rfl hne
    · exact h
  · intro h
    refine ⟨.inr h, fun e => ?_⟩
    have : Knows es k i := (under_iff hok hk hi).1 (fun p hp => by rw [e]; exact Int.le_refl _)
    have h1 := this.le
    have h2 := h.lt
    omega
/-- How many of node p an event knows. -/
theorem count_num (es : List Ev) (p : Int) (c K : Nat) : ((List.range K).filter (fun j => decide ((evAt es j).n = p ∧ num es p (j + 1) ≤ c))).length = min c (num es p K) := by
  induction K with
  | zero => simp [num]
  | succ K ih =>
    rw [List.range_succ, List.filter_append, List.length_append, ih]
    by_cases h : (evAt es K).n = p
    · have h1 := num_at h
      by_cases hc : num es p (K + 1) ≤ c
      · rw [List.filter_cons, if_pos (by simp [h, hc]), List.filter_nil]
        simp only [List.length_singleton]
        omega
      · rw [List.filter_cons, if_neg (by simp [h, hc]), List.filter_nil]
        simp only [List.length_nil]
        omega
    · rw [List.filter_cons, if_neg (by simp [h]), List.filter_nil]
      simp only [List.length_nil, num, if_neg h]
      omega
theorem cl_count {es : List Ev} {len k p : Nat} (hok : okT es len = true) (hk : k < len) (hp : p < 8) : (((pastL es k ++ [k]).filter (fun j => decide ((evAt es j).n = (p : Int)))).length : Int) = el (cl es k) p := by
  have hr := okT_nodes hok
  obtain ⟨c, _⟩ := char_all hr k hk p hp
  obtain ⟨cn, hcn⟩ : ∃ n : Nat, el (cl es k) p = n := ⟨(el (cl es k) p).toNat, by have := (cl_bound es k p hp).1; omega⟩
  have hle : cn ≤ num es p (k + 1) := by
    rcases c.at_ with e | ⟨j, hj, _, e⟩
    · omega
    · have := num_mono (es := es) (p := (p : Int)) (i := j + 1) (k := k + 1) (by have := hj.le; omega)
      omega
  have hs : (pastL es k ++ [k]).filter (fun j => decide ((evAt es j).n = (p : Int))) = (List.range (k + 1)).filter (fun j => decide ((evAt es j).n = (p : Int) ∧ num es p (j + 1) ≤ cn)) := by
    refine sorted_ext ?_ (List.Pairwise.filter _ List.pairwise_lt_range) ?_
    · refine List.Pairwise.filter _ ?_
      rw [List.pairwise_append]
      exact ⟨pastL_sorted es k, by simp, fun a ha b hb => by rw [List.mem_singleton] at hb; subst hb; exact (mem_pastL.1 ha).lt⟩
    · intro x
      simp only [List.mem_filter, List.mem_append, List.mem_singleton, decide_eq_true_eq, List.mem_range, mem_pastL]
      constructor
      · rintro ⟨h, hx⟩
        have hkx : Knows es x k := h.symm.imp id id
        have := hkx.le
        refine ⟨by omega, hx, ?_⟩
        have := (knows_iff hok hk (by omega) hx).1 hkx
        omega
      · rintro ⟨h, hx, h2⟩
        have : Knows es x k := (knows_iff hok hk (by omega) hx).2 (by omega)
        exact ⟨this.symm.imp id id, hx⟩
  rw [hs, count_num, hcn]
  omega
end Go.Proofs.Ytacogcfdolmfpaa
