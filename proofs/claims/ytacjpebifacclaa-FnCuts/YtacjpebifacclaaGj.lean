/-
  Several texts in one: Lnm Arv Lni Lnw.
-/
import Derived.Test.YtacjpebifacclaaGi
import Derived.Test.YtacjpebifacclaaGf
import Derived.Lib.AppendZeros
import Derived.Deep.RegionHeld3
/-
  Lanes of a trace as plain lists: the events of each node in their order; the greatest consistent cut under one, the least above one and what flies, told by lanes and clocks. No word of the model.
-/
namespace Go.Proofs.Ytacjpebifacclaa
set_option linter.unusedVariables false

/-- The numbers of node p's events among the first k. -/
def laneN (es : List Ev) (p : Nat) : Nat → List Nat
  | 0 => []
  | k + 1 => if (evAt es k).n = (p : Int) then laneN es p k ++ [k] else laneN es p k
theorem laneN_hit {es : List Ev} {p k : Nat} (h : (evAt es k).n = (p : Int)) : laneN es p (k + 1) = laneN es p k ++ [k] := by simp [laneN, h]
theorem laneN_miss {es : List Ev} {p k : Nat} (h : (evAt es k).n ≠ (p : Int)) : laneN es p (k + 1) = laneN es p k := by simp [laneN, h]
theorem laneN_len (es : List Ev) (p k : Nat) : (laneN es p k).length = num es (p : Int) k := by
  induction k with
  | zero => rfl
  | succ k ih =>
    by_cases h : (evAt es k).n = (p : Int)
    · rw [laneN_hit h, num_at h, List.length_append, ih]; rfl
    · rw [laneN_miss h, ih]; simp [num, h]
theorem laneN_at {es : List Ev} {p k n : Nat} (hk : k < n) (h : (evAt es k).n = (p : Int)) : (laneN es p n)[num es (p : Int) k]? = some k := by
  induction n with
  | zero => omega
  | succ n ih =>
    by_cases e : k = n
    · subst e
      rw [laneN_hit h, ← laneN_len, List.getElem?_append_right (Nat.le_refl _), Nat.sub_self]; rfl
    · have h1 := ih (by omega)
      by_cases h2 : (evAt es n).n = (p : Int)
      · rw [laneN_hit h2, List.getElem?_append_left]
        · exact h1
        · rcases Nat.lt_or_ge (num es (p : Int) k) (laneN es p n).length with h3 | h3
          · exact h3
          · rw [List.getElem?_eq_none h3] at h1; cases h1
      · rw [laneN_miss h2]; exact h1
theorem laneN_get {es : List Ev} {p n j k : Nat} (h : (laneN es p n)[j]? = some k) : k < n ∧ (evAt es k).n = (p : Int) ∧ num es (p : Int) k = j := by
  induction n with
  | zero => simp [laneN] at h
  | succ n ih =>
    by_cases h2 : (evAt es n).n = (p : Int)
    · rw [laneN_hit h2] at h
      rcases Nat.lt_or_ge j (laneN es p n).length with h3 | h3
      · rw [List.getElem?_append_left h3] at h
        obtain ⟨a, b, c⟩ := ih h
        exact ⟨by omega, b, c⟩
      · rw [List.getElem?_append_right h3] at h
        have h4 : j - (laneN es p n).length = 0 := by
          rcases Nat.eq_zero_or_pos (j - (laneN es p n).length) with h4 | h4
          · exact h4
          · rw [List.getElem?_eq_none (by simp; omega)] at h; cases h
        rw [h4] at h
        simp only [List.getElem?_cons_zero, Option.some.injEq] at h
        subst h
        rw [laneN_len] at h3 h4
        exact ⟨by omega, h2, by omega⟩
    · rw [laneN_miss h2] at h
      obtain ⟨a, b, c⟩ := ih h
      exact ⟨by omega, b, c⟩
theorem laneN_some {es : List Ev} {p n j : Nat} (h : j < num es (p : Int) n) : ∃ k, (laneN es p n)[j]? = some k ∧ k < n ∧ (evAt es k).n = (p : Int) ∧ num es (p : Int) k = j := by
  have hl : j < (laneN es p n).length := by rw [laneN_len]; exact h
  refine ⟨(laneN es p n)[j], List.getElem?_eq_getElem hl, ?_⟩
  exact laneN_get (List.getElem?_eq_getElem hl)
/-- The same as numbers of Go. -/
def lanI (es : List Ev) (p n : Nat) : List Int := (laneN es p n).map (fun (i : Nat) => (i : Int))
theorem lanI_len (es : List Ev) (p k : Nat) : (lanI es p k).length = num es (p : Int) k := by simp [lanI, laneN_len]
theorem lanI_hit {es : List Ev} {p k : Nat} (h : (evAt es k).n = (p : Int)) : lanI es p (k + 1) = lanI es p k ++ [(k : Int)] := by simp [lanI, laneN_hit h]
theorem lanI_miss {es : List Ev} {p k : Nat} (h : (evAt es k).n ≠ (p : Int)) : lanI es p (k + 1) = lanI es p k := by simp [lanI, laneN_miss h]
/-- The lane as far as the cut goes. -/
def cutI (es : List Ev) (n : Nat) (c : List Int) (p : Nat) : List Int := (lanI es p n).take (el c p).toNat
theorem cutI_len {es : List Ev} {n p : Nat} {c : List Int} (h : IsCut es n c) (hp : p < 8) : (cutI es n c p).length = (el c p).toNat := by
  have := h.hi p hp
  simp only [cutI, List.length_take, lanI_len]
  omega
theorem cutI_el {es : List Ev} {n p j : Nat} {c : List Int} (h : IsCut es n c) (hp : p < 8) (hj : j < (el c p).toNat) : ∃ k : Nat, el (cutI es n c p) j = (k : Int) ∧ k < n ∧ (evAt es k).n = (p : Int) ∧ num es (p : Int) k = j := by
  have := h.hi p hp
  obtain ⟨k, h1, h2⟩ := laneN_some (es := es) (p := p) (n := n) (j := j) (by omega)
  refine ⟨k, ?_, h2⟩
  show ((lanI es p n).take (el c p).toNat).getD j 0 = _
  generalize (el c p).toNat = q at *
  simp only [lanI, List.getD_eq_getElem?_getD, List.getElem?_take, List.getElem?_map, h1]
  rw [if_pos hj]
  rfl

/-- Event k's clock is under the cut. -/
def Ucl (es : List Ev) (c : List Int) (k : Nat) : Prop := ∀ q, q < 8 → el (cl es k) q ≤ el c q
theorem Ucl.mono {es : List Ev} {c d : List Int} {k : Nat} (h : Ucl es c k) (hle : ∀ q, q < 8 → el c q ≤ el d q) : Ucl es d k := fun q hq => Int.le_trans (h q hq) (hle q hq)
theorem Ucl.known {es : List Ev} {n j k : Nat} {c : List Int} (hok : okT es n = true) (hj : j < n) (hk : k < n) (h : Ucl es c k) (hjk : Knows es j k) : Ucl es c j := fun q hq =>
  Int.le_trans ((under_iff hok hj hk).2 hjk q hq) (h q hq)
theorem Ucl.inC {es : List Ev} {n k : Nat} {c : List Int} (hok : okT es n = true) (hk : k < n) (h : Ucl es c k) : inC es c k = true := by
  obtain ⟨p, hp, h8⟩ := node8 hok hk
  rw [inC_iff hp]
  have h1 := h p h8
  rw [cl_own hok hk hp, num_at hp] at h1
  omega
theorem cons_known {es : List Ev} {n j k : Nat} {c : List Int} (hok : okT es n = true) (hk : k < n) (hc : Cons es n c) (hi : inC es c k = true) (h : Anc es j k) : inC es c j = true := by
  induction k using Nat.strongRecOn with
  | ind k ih =>
    obtain ⟨s, hs, hjs⟩ := anc_iff.1 h
    have hsk := src_lt hs
    have hsi : inC es c s = true := by
      rw [src_eq, List.mem_append, Option.mem_toList, Option.mem_toList] at hs
      rcases hs with hs | hs
      · obtain ⟨a, b, _⟩ := lastB_some hs
        obtain ⟨p, hp, h8⟩ := node8 hok hk
        have hps : (evAt es s).n = (p : Int) := by rw [b, hp]
        rw [inC_iff hp] at hi
        rw [inC_iff hps]
        have := num_mono (es := es) (p := (p : Int)) (i := s) (k := k) (by omega)
        omega
      · unfold sndO at hs
        split at hs
        · rename_i h3
          have h1 := hc k hk h3 hi
          obtain ⟨h2, _, _⟩ := sOf_at hok hk h3
          rw [hs] at h2
          cases h2
          exact h1
        · cases hs
    rcases hjs with e | e
    · rw [e]; exact hsi
    · exact ih s hsk (by omega) hsi e
/-- What is in a consistent cut has its clock under it. -/
theorem cons_ucl {es : List Ev} {n k : Nat} {c : List Int} (h : IsCut es n c) (hc : Cons es n c) (hk : k < n) (hi : inC es c k = true) : Ucl es c k := by
  intro q hq
  have hok := h.ok
  rcases ((char_all (okT_nodes hok) k hk q hq).1).at_ with e | ⟨j, hj, hjq, e⟩
  · rw [e]; exact h.lo q hq
  · have hji : inC es c j = true := by
      rcases hj with rfl | hj
      · exact hi
      · exact cons_known hok hk hc hi hj
    rw [inC_iff hjq] at hji
    rw [e, num_at hjq]
    omega
/-- Where lane p ends within the cut. -/
structure Wat (es : List Ev) (n : Nat) (c : List Int) (p : Nat) (v : Int) : Prop where
  lo : 0 ≤ v
  hi : v ≤ el c p
  ins : ∀ k, k < n → (evAt es k).n = (p : Int) → ((num es (p : Int) k : Nat) : Int) < v → Ucl es c k
  stop : v = el c p ∨ ∃ k, k < n ∧ (evAt es k).n = (p : Int) ∧ ((num es (p : Int) k : Nat) : Int) = v ∧ ¬ Ucl es c k
theorem same_place {es : List Ev} {p : Int} {i k : Nat} (hi : (evAt es i).n = p) (h : num es p k ≤ num es p i) : k ≤ i ∨ num es p k = num es p i := by
  rcases Nat.lt_or_ge i k with h1 | h1
  · have h2 := num_at hi
    have := num_mono (es := es) (p := p) (i := i + 1) (k := k) (by omega)
    omega
  · exact .inl h1
theorem place_le {es : List Ev} {p : Int} {i k : Nat} (hi : (evAt es i).n = p) (hk : (evAt es k).n = p) (h : num es p k ≤ num es p i) : k ≤ i := by
  rcases Nat.lt_or_ge i k with h1 | h1
  · have h2 := num_at hi
    have := num_mono (es := es) (p := p) (i := i + 1) (k := k) (by omega)
    omega
  · exact h1
theorem node_knows {es : List Ev} {p : Int} {i k : Nat} (hi : (evAt es i).n = p) (hk : (evAt es k).n = p) (h : i ≤ k) : Knows es i k := by
  rcases Nat.lt_or_ge i k with h1 | h1
  · exact .inr (anc_node h1 (by rw [hi, hk]))
  · exact .inl (by omega)
theorem within_of {es : List Ev} {n : Nat} {c r : List Int} (h : IsCut es n c) (hl : r.length = 8) (hw : ∀ p, p < 8 → Wat es n c p (el r p)) : IsWithin es n c r := by
  have hok := h.ok
  have hin : ∀ k, k < n → Ucl es c k → inC es r k = true := by
    intro k hk hu
    obtain ⟨p, hp, h8⟩ := node8 hok hk
    rw [inC_iff hp]
    have hi := hu.inC hok hk
    rw [inC_iff hp] at hi
    rcases (hw p h8).stop with e | ⟨j, hj, hjp, e, hn⟩
    · rw [e]; exact hi
    · rcases Int.lt_or_le ((num es (p : Int) k : Nat) : Int) (el r p) with h1 | h1
      · exact h1
      · have hjk : j ≤ k := place_le hp hjp (by omega)
        exact absurd (hu.known hok hj hk (node_knows hjp hp hjk)) hn
  refine ⟨⟨hok, hl, fun p hp => (hw p hp).lo, fun p hp => Int.le_trans (hw p hp).hi (h.hi p hp)⟩, fun k hk h3 hi => ?_, fun p hp => (hw p hp).hi, fun d hd hcd hdc p hp => ?_⟩
  · obtain ⟨p, hp, h8⟩ := node8 hok hk
    rw [inC_iff hp] at hi
    have hu := (hw p h8).ins k hk hp hi
    obtain ⟨_, hsk, hss⟩ := sOf_at hok hk h3
    exact hin _ (by omega) (hu.known hok (by omega) hk (knows_src hss))
  · rcases (hw p hp).stop with e | ⟨k, hk, hkp, e, hn⟩
    · rw [e]; exact hdc p hp
    · rcases Int.lt_or_le (el r p) (el d p) with h1 | h1
      · have hi : inC es d k = true := by rw [inC_iff hkp]; omega
        exact absurd ((cons_ucl hd hcd hk hi).mono hdc) hn
      · exact h1
/-- How far the least one is told, behind j lanes. -/
structure Aat (es : List Ev) (n : Nat) (c : List Int) (j : Nat) (r : List Int) : Prop where
  len : r.length = 8
  above : ∀ q, q < 8 → el c q ≤ el r q
  lasts : ∀ p k, p < j → k < n → (evAt es k).n = (p : Int) → ((num es (p : Int) k : Nat) : Int) + 1 = el c p → ∀ q, q < 8 → el (cl es k) q ≤ el r q
  att : ∀ q, q < 8 → el r q = el c q ∨ ∃ p k, p < j ∧ k < n ∧ (evAt es k).n = (p : Int) ∧ ((num es (p : Int) k : Nat) : Int) + 1 = el c p ∧ el r q = el (cl es k) q
theorem Aat.start {es : List Ev} {n : Nat} {c : List Int} (h : c.length = 8) : Aat es n c 0 c := ⟨h, fun _ _ => Int.le_refl _, fun p _ hp => by omega, fun _ _ => .inl rfl⟩
theorem Aat.skip {es : List Ev} {n j : Nat} {c r : List Int} (h : Aat es n c j r) (h0 : el c j ≤ 0) : Aat es n c (j + 1) r :=
  ⟨h.len, h.above, fun p k hp hk hn he q hq => by
    by_cases e : p = j
    · subst e; omega
    · exact h.lasts p k (by omega) hk hn he q hq, fun q hq => by
    rcases h.att q hq with e | ⟨p, k, hp, h1⟩
    · exact .inl e
    · exact .inr ⟨p, k, by omega, h1⟩⟩
theorem Aat.join {es : List Ev} {n j k : Nat} {c r : List Int} (h : Aat es n c j r) (hk : k < n) (hn : (evAt es k).n = (j : Int)) (he : ((num es (j : Int) k : Nat) : Int) + 1 = el c j) : Aat es n c (j + 1) (jn max r (cl es k) 8) := by
  have hj : ∀ q, q < 8 → el (jn max r (cl es k) 8) q = max (el r q) (el (cl es k) q) := fun q hq => jn_el _ _ _ hq
  refine ⟨jn_length _ _ _ _, fun q hq => ?_, fun p k' hp hk' hn' he' q hq => ?_, fun q hq => ?_⟩
  · rw [hj q hq]; have := h.above q hq; omega
  · rw [hj q hq]
    by_cases e : p = j
    · subst e
      have e1 : num es (p : Int) k' = num es (p : Int) k := by omega
      have a := place_le hn hn' (by omega)
      have b := place_le hn' hn (by omega)
      have : k' = k := by omega
      subst this
      omega
    · have := h.lasts p k' (by omega) hk' hn' he' q hq; omega
  · rw [hj q hq]
    rcases Int.le_total (el r q) (el (cl es k) q) with hle | hle
    · rw [Int.max_eq_right hle]
      exact .inr ⟨j, k, by omega, hk, hn, he, rfl⟩
    · rw [Int.max_eq_left hle]
      rcases h.att q hq with e | ⟨p, k', hp, h1⟩
      · exact .inl e
      · exact .inr ⟨p, k', by omega, h1⟩
theorem around_of {es : List Ev} {n : Nat} {c r : List Int} (h : IsCut es n c) (ha : Aat es n c 8 r) : IsAround es n c r := by
  have hok := h.ok
  refine ⟨⟨hok, ha.len, fun q hq => Int.le_trans (h.lo q hq) (ha.above q hq), fun q hq => ?_⟩, fun k hk h3 hi => ?_, ha.above, fun d hd hcd hcc q hq => ?_⟩
  · rcases ha.att q hq with e | ⟨p, k, hp, hk, hn, he, e⟩
    · rw [e]; exact h.hi q hq
    · rw [e]; exact (cons_cl hok hk).1.hi q hq
  · obtain ⟨q, hq, h8⟩ := node8 hok hk
    obtain ⟨_, hsk, hss⟩ := sOf_at hok hk h3
    rw [inC_iff hq] at hi
    rcases ha.att q h8 with e | ⟨p, k', hp, hk', hn, he, e⟩
    · rw [e] at hi
      have hhi := h.hi q h8
      obtain ⟨k', _, hk', hn, hr⟩ := laneN_some (es := es) (p := q) (n := n) (j := (el c q).toNat - 1) (by omega)
      have hle := ha.lasts q k' h8 hk' hn (by omega)
      have hkk : k ≤ k' := place_le hn hq (by omega)
      have hkn : Knows es (sOf es k) k' := (knows_src hss).trans (node_knows hq hn hkk)
      exact inC_mono hok (by omega) hle ((cl_in hok hk' (by omega)).2 hkn)
    · rw [e] at hi
      have hik : inC es (cl es k') k = true := (inC_iff hq).2 hi
      exact inC_mono hok (by omega) (ha.lasts p k' hp hk' hn he) ((cons_cl hok hk').2 k hk h3 hik)
  · rcases ha.att q hq with e | ⟨p, k, hp, hk, hn, he, e⟩
    · rw [e]; exact hcc q hq
    · rw [e]
      refine cons_ucl hd hcd hk ?_ q hq
      rw [inC_iff hn]
      have := hcc p (by omega)
      omega
/-- CutOk by Within. -/
theorem okC_within {es : List Ev} {n : Nat} {a Z : List Int} (h : WiT es n a Z) (h0 : 0 < a.length) : okC es n a = decide (Z = a) := by
  rw [Bool.eq_iff_iff, decide_eq_true_eq, okC_iff]
  rcases h with ⟨h1, rfl⟩ | ⟨h1, h2⟩
  · constructor
    · rintro ⟨h2, _⟩; rw [cutB_iff.2 h2] at h1; cases h1
    · intro e; rw [← e] at h0; simp at h0
  · have hI := cutB_iff.1 h1
    constructor
    · rintro ⟨_, hc⟩
      exact h2.unique ⟨hI, hc, fun _ _ => Int.le_refl _, fun _ _ _ h => h⟩
    · intro e; exact ⟨hI, by rw [← e]; exact h2.cons⟩
/-- What is told to fly of the numbers L of a list M of numbers. -/
def flyB (es : List Ev) (M : List Int) (i : Int) : Bool := decide ((evAt es i.toNat).k = 2) && !(M.any (fun k => decide ((evAt es k.toNat).k = 3) && decide ((evAt es k.toNat).m = (evAt es i.toNat).m)))
def flyL (es : List Ev) (M L : List Int) : List Int := (L.filter (flyB es M)).map (fun i => (evAt es i.toNat).m)
theorem flyL_snoc (es : List Ev) (M L : List Int) (i : Int) : flyL es M (L ++ [i]) = flyL es M L ++ (if flyB es M i = true then [(evAt es i.toNat).m] else []) := by
  unfold flyL
  rw [List.filter_append, List.map_append]
  by_cases h : flyB es M i = true
  · rw [if_pos h, List.filter_cons, if_pos h]; rfl
  · rw [if_neg h, List.filter_cons, if_neg h]; rfl
/-- The numbers of all events in a cut, lane by lane. -/
def allI (es : List Ev) (n : Nat) (c : List Int) : List Int := ((List.range 8).map (cutI es n c)).flatten
theorem mem_cutI {es : List Ev} {n p : Nat} {c : List Int} {x : Int} (h : IsCut es n c) (hp : p < 8) : x ∈ cutI es n c p ↔ ∃ k : Nat, x = (k : Int) ∧ k < n ∧ (evAt es k).n = (p : Int) ∧ inC es c k = true := by
  have hlo := h.lo p hp
  constructor
  · intro hx
    obtain ⟨j, hj, rfl⟩ := el_mem_iff.1 hx
    rw [cutI_len h hp] at hj
    obtain ⟨k, h1, h2, h3, h4⟩ := cutI_el h hp hj
    refine ⟨k, h1, h2, h3, ?_⟩
    rw [inC_iff h3]
    omega
  · rintro ⟨k, rfl, hk, hn, hi⟩
    rw [inC_iff hn] at hi
    have hj : num es (p : Int) k < (el c p).toNat := by omega
    obtain ⟨k', h1, h2, h3, h4⟩ := cutI_el h hp hj
    have e1 := place_le h3 hn (by omega)
    have e2 := place_le hn h3 (by omega)
    have : k' = k := by omega
    subst this
    exact el_mem_iff.2 ⟨_, by rw [cutI_len h hp]; exact hj, h1⟩
theorem mem_allI {es : List Ev} {n : Nat} {c : List Int} {x : Int} (h : IsCut es n c) : x ∈ allI es n c ↔ ∃ k : Nat, x = (k : Int) ∧ k < n ∧ inC es c k = true := by
  unfold allI
  rw [List.mem_flatten]
  constructor
  · rintro ⟨l, hl, hx⟩
    rw [List.mem_map] at hl
    obtain ⟨p, hp, rfl⟩ := hl
    obtain ⟨k, h1, h2, _, h3⟩ := (mem_cutI h (List.mem_range.1 hp)).1 hx
    exact ⟨k, h1, h2, h3⟩
  · rintro ⟨k, rfl, hk, hi⟩
    obtain ⟨p, hp, h8⟩ := node8 h.ok hk
    exact ⟨_, List.mem_map.2 ⟨p, List.mem_range.2 h8, rfl⟩, (mem_cutI h h8).2 ⟨k, rfl, hk, hp, hi⟩⟩
theorem cutI_nodup {es : List Ev} {n p : Nat} {c : List Int} (h : IsCut es n c) (hp : p < 8) : (cutI es n c p).Nodup := by
  rw [List.Nodup, List.pairwise_iff_getElem]
  intro i j hi hj hij e
  have e1 : ∀ q (hq : q < (cutI es n c p).length), el (cutI es n c p) q = (cutI es n c p)[q] := fun q hq => el_eq hq
  rw [← e1 i hi, ← e1 j hj] at e
  rw [cutI_len h hp] at hi hj
  obtain ⟨k, a1, _, _, a4⟩ := cutI_el h hp hi
  obtain ⟨k', b1, _, _, b4⟩ := cutI_el h hp hj
  rw [a1, b1] at e
  have : k = k' := by omega
  subst this
  omega
theorem allI_nodup {es : List Ev} {n : Nat} {c : List Int} (h : IsCut es n c) : (allI es n c).Nodup := by
  unfold allI List.Nodup
  rw [List.pairwise_flatten]
  refine ⟨fun l hl => ?_, ?_⟩
  · rw [List.mem_map] at hl
    obtain ⟨p, hp, rfl⟩ := hl
    exact cutI_nodup h (List.mem_range.1 hp)
  · rw [List.pairwise_map]
    refine List.Pairwise.imp_of_mem ?_ (List.pairwise_lt_range (n := 8))
    intro p q hp hq hpq x hx y hy e
    subst e
    obtain ⟨k, h1, _, h2, _⟩ := (mem_cutI h (List.mem_range.1 hp)).1 hx
    obtain ⟨k', h1', _, h2', _⟩ := (mem_cutI h (List.mem_range.1 hq)).1 hy
    rw [h1] at h1'
    have : k = k' := by omega
    subst this
    omega
theorem sent_once {es : List Ev} {n i j : Nat} (hok : okT es n = true) (hi : i < n) (hj : j < n) (h2 : (evAt es i).k = 2) (h2' : (evAt es j).k = 2) (hm : (evAt es i).m = (evAt es j).m) : i = j := by
  have key : ∀ a b, a < b → b < n → (evAt es a).k = 2 → (evAt es b).k = 2 → (evAt es a).m = (evAt es b).m → False := by
    intro a b hab hb ha2 hb2 hab'
    have hc : ∃ c : List Int, inC es c a = true := ⟨List.replicate ((evAt es a).n.toNat + 1) (((rankN es a : Nat) : Int) + 1), by
      unfold inC
      rw [decide_eq_true_eq]
      simp only [el, List.getD_eq_getElem?_getD, List.getElem?_replicate]
      rw [if_pos (by omega)]
      simp only [Option.getD_some]
      omega⟩
    have hE : okE es b = true := (okT_all hok).2 b hb
    unfold okE at hE
    rw [if_neg (by omega), if_pos hb2] at hE
    simp only [Bool.and_eq_true, Option.isNone_iff_eq_none] at hE
    have hn := hE.2.2
    have : ∀ k, firstS es (evAt es b).m k = none → ∀ i, i < k → ¬ ((evAt es i).k = 2 ∧ (evAt es i).m = (evAt es b).m) := by
      intro k
      induction k with
      | zero => intro _ i hi; omega
      | succ k ih =>
        intro h i hi
        unfold firstS at h
        cases hf : firstS es (evAt es b).m k with
        | some s => rw [hf] at h; cases h
        | none =>
          rw [hf] at h
          simp only at h
          split at h
          · cases h
          · rename_i hne
            rcases Nat.lt_succ_iff_lt_or_eq.1 hi with h1 | h1
            · exact ih hf i h1
            · subst h1; exact hne
    exact this b hn a hab ⟨ha2, hab'⟩
  rcases Nat.lt_trichotomy i j with h | h | h
  · exact (key i j h hj h2 h2' hm).elim
  · exact h
  · exact (key j i h hi h2' h2 hm.symm).elim
theorem flyB_iff {es : List Ev} {n : Nat} {c : List Int} (h : IsCut es n c) (i : Nat) : flyB es (allI es n c) (i : Int) = true ↔ (evAt es i).k = 2 ∧ ¬ HeardIn es n c (evAt es i).m := by
  unfold flyB HeardIn
  simp only [Bool.and_eq_true, decide_eq_true_eq, Bool.not_eq_true', Int.toNat_natCast]
  constructor
  · rintro ⟨h1, h2⟩
    refine ⟨h1, ?_⟩
    rintro ⟨k, hk, h3, hm, hi⟩
    rw [List.any_eq_false] at h2
    exact h2 (k : Int) ((mem_allI h).2 ⟨k, rfl, hk, hi⟩) (by simp [h3, hm])
  · rintro ⟨h1, h2⟩
    refine ⟨h1, ?_⟩
    rw [List.any_eq_false]
    intro x hx
    obtain ⟨k, rfl, hk, hi⟩ := (mem_allI h).1 hx
    simp only [Int.toNat_natCast, Bool.and_eq_true, decide_eq_true_eq]
    rintro ⟨h3, hm⟩
    exact h2 ⟨k, hk, h3, hm, hi⟩
theorem flyL_mem {es : List Ev} {n : Nat} {c : List Int} (h : IsCut es n c) (m : Int) : m ∈ flyL es (allI es n c) (allI es n c) ↔ SentIn es c n m ∧ ¬ HeardIn es n c m := by
  unfold flyL SentIn
  rw [List.mem_map]
  constructor
  · rintro ⟨x, hx, rfl⟩
    rw [List.mem_filter] at hx
    obtain ⟨k, rfl, hk, hi⟩ := (mem_allI h).1 hx.1
    have h2 := (flyB_iff h k).1 hx.2
    simp only [Int.toNat_natCast]
    exact ⟨⟨k, hk, h2.1, rfl, hi⟩, h2.2⟩
  · rintro ⟨⟨k, hk, h1, h2, hi⟩, h3⟩
    exact ⟨(k : Int), List.mem_filter.2 ⟨(mem_allI h).2 ⟨k, rfl, hk, hi⟩, (flyB_iff h k).2 ⟨h1, by rw [h2]; exact h3⟩⟩, by simpa using h2⟩
theorem flyL_nodup {es : List Ev} {n : Nat} {c : List Int} (h : IsCut es n c) : (flyL es (allI es n c) (allI es n c)).Nodup := by
  unfold flyL List.Nodup
  rw [List.pairwise_map]
  refine List.Pairwise.imp_of_mem ?_ (List.Pairwise.filter _ (allI_nodup h))
  intro x y hx hy hne e
  rw [List.mem_filter] at hx hy
  obtain ⟨i, rfl, hi, _⟩ := (mem_allI h).1 hx.1
  obtain ⟨j, rfl, hj, _⟩ := (mem_allI h).1 hy.1
  have h1 := ((flyB_iff h i).1 hx.2).1
  have h2 := ((flyB_iff h j).1 hy.2).1
  simp only [Int.toNat_natCast] at e
  exact hne (by rw [sent_once h.ok hi hj h1 h2 e])
theorem flyL_sorted {es : List Ev} {n : Nat} {c : List Int} (h : IsCut es n c) : IsFly es n c n ((flyL es (allI es n c) (allI es n c)).mergeSort (fun x y => decide (x ≤ y))) := by
  have hp := List.mergeSort_perm (flyL es (allI es n c) (allI es n c)) (fun x y => decide (x ≤ y))
  refine ⟨?_, fun m => by rw [hp.mem_iff]; exact flyL_mem h m⟩
  have hs := List.pairwise_mergeSort (le := fun (x y : Int) => decide (x ≤ y)) (fun a b c h1 h2 => by
    simp only [decide_eq_true_eq] at *; omega) (fun a b => by simp only [Bool.or_eq_true, decide_eq_true_eq]; omega) (flyL es (allI es n c) (allI es n c))
  have hn : ((flyL es (allI es n c) (allI es n c)).mergeSort (fun x y => decide (x ≤ y))).Nodup := hp.nodup_iff.2 (flyL_nodup h)
  rw [List.Nodup] at hn
  refine (hs.and hn).imp ?_
  rintro a b ⟨h1, h2⟩
  simp only [decide_eq_true_eq] at h1
  omega
end Go.Proofs.Ytacjpebifacclaa

/-
  Arrays of values of one cell each (the lanes of a cut): their laws at the operations, the array never laid out.
-/
namespace Go.Proofs.Ytacjpebifacclaa
set_option linter.unusedSimpArgs false
set_option linter.unusedVariables false
open Go.RowKit Go.Sort

/-- The cells of an array of n values. -/
def aV (n : Nat) (f : Nat → Value) : Array Value := ((List.range n).map f).toArray
theorem aV_size (n : Nat) (f : Nat → Value) : (aV n f).size = n := by simp [aV]
theorem aV_get {n : Nat} {f : Nat → Value} {j : Nat} (h : j < n) : (aV n f)[j]? = some (f j) := by simp [aV, h]
theorem aV_congr {n : Nat} {f f' : Nat → Value} (h : ∀ j, j < n → f j = f' j) : aV n f = aV n f' := by
  unfold aV
  rw [List.map_congr_left (fun j hj => h j (List.mem_range.1 hj))]
theorem aV_one {n : Nat} {f : Nat → Value} (h : ∀ j, j < n → (f j).oneCell' = true) : ∀ v ∈ (aV n f).toList, v.oneCell' = true := by
  intro v hv
  simp only [aV, List.mem_map, List.mem_range] at hv
  obtain ⟨j, hj, rfl⟩ := hv
  exact h j hj
def nilS : Nat → Value := fun _ => .slice none 0 0

theorem Try.infoLn : (Try.prog.info? 105).map (fun i => (i.zero, i.size, i.bytes)) = some (some (.agg (aV 8 nilS)), 8, 192) := by kernel_rfl
theorem Try.infoSi : (Try.prog.info? 75).map (fun i => (i.zero, i.size, i.bytes)) = some (some (.slice none 0 0), 1, 24) := by kernel_rfl

/-- Block b, from off on, holds the n values f, which may be written. -/
structure Av (w : World) (b off n : Nat) (f : Nat → Value) : Prop where
  cell : ∀ j, j < n → w.cell? ⟨b, off + j, none⟩ = some (f j)
  free : ∀ j, j < n → w.frozen? ⟨b, off + j, none⟩ = false
  blk : b < w.heap.size
theorem Av.of_block {w w' : World} {b off n : Nat} {m : Nat → Value} (h : Av w b off n m) (e : w'.heap[b]? = w.heap[b]?) (hs : b < w'.heap.size) : Av w' b off n m :=
  ⟨fun j hj => by rw [World.cell?_of_block (w := w) e]; exact h.cell j hj,
   fun j hj => by rw [show w'.frozen? ⟨b, off + j, none⟩ = w.frozen? ⟨b, off + j, none⟩ from by simp only [World.frozen?, e]]; exact h.free j hj, hs⟩
theorem Av.below {w w' : World} {b off n B : Nat} {m : Nat → Value} (h : Av w b off n m) (hb : Below B w w') (hg : b < B) : Av w' b off n m := h.of_block (hb.block b hg) (Nat.lt_of_lt_of_le h.blk hb.size)
theorem Av.drewN {w : World} {b off n : Nat} {m : Nat → Value} (h : Av w b off n m) (k : Nat) : Av (w.drewN k) b off n m := ⟨h.cell, h.free, h.blk⟩
theorem Av.grown {w w' : World} {b off n : Nat} {m : Nat → Value} {r : Option Nat} (h : Av w b off n m) (hg : w.grownBy w' r) (hr : r ≠ some b) : Av w' b off n m :=
  h.of_block (hg.block b h.blk (Ne.symm hr)) (Nat.lt_of_lt_of_le h.blk hg.size)
theorem Av.congr {w : World} {b off n : Nat} {m m' : Nat → Value} (h : Av w b off n m) (e : ∀ j, j < n → m j = m' j) : Av w b off n m' := ⟨fun j hj => by rw [← e j hj]; exact h.cell j hj, h.free, h.blk⟩
/-- f with v at place i. -/
def upV (f : Nat → Value) (i : Nat) (v : Value) : Nat → Value := fun j => if j = i then v else f j
theorem upV_same (f : Nat → Value) (i : Nat) (v : Value) : upV f i v i = v := by simp [upV]
theorem upV_other {f : Nat → Value} {i j : Nat} {v : Value} (h : j ≠ i) : upV f i v j = f j := by simp [upV, h]
theorem Av.set {w : World} {b off n : Nat} {m : Nat → Value} (h : Av w b off n m) {i : Nat} (hi : i < n) (v : Value) : Av (w.setCell ⟨b, off + i, none⟩ v) b off n (upV m i v) := by
  refine ⟨fun j hj => ?_, fun j hj => by rw [World.frozen?_setCell]; exact h.free j hj, by simp [World.setCell]; exact h.blk⟩
  by_cases e : j = i
  · subst e
    rw [World.cell?_setCell_same _ _ _ (h.cell j hj), upV_same]
  · rw [World.cell?_setCell_other _ _ _ _ (by intro h; have := congrArg Addr.off h; simp only at this; omega), upV_other e]; exact h.cell j hj
theorem Av.setFar {w : World} {b g off n i : Nat} {m : Nat → Value} {u : Value} (h : Av w b off n m) (hne : b ≠ g) : Av (w.setCell ⟨g, i, none⟩ u) b off n m :=
  h.of_block (Below.heap_setCell _ _ _ _ (by exact hne)) (by simp [World.setCell]; exact h.blk)
theorem Av.setsFar {w : World} {b g off n i : Nat} {m : Nat → Value} {us : List Value} (h : Av w b off n m) (hne : b ≠ g) : Av (w.setCells g i us) b off n m :=
  h.of_block ((grown_setCells g us i w).block b h.blk (by simpa using hne)) (by rw [size_setCells]; exact h.blk)
theorem Av.sets {w : World} {b off n : Nat} {m : Nat → Value} (h : Av w b off n m) (m' : Nat → Value) : Av (w.setCells b off (aV n m').toList) b off n m' := by
  have hl : (aV n m').toList.length = n := by simp [aV]
  have hin := World.cell?_setCells_in b (aV n m').toList off w (fun j hj => by rw [hl] at hj; rw [h.cell j hj]; rfl)
  refine ⟨fun j hj => ?_, fun j hj => by rw [World.frozen?_setCells]; exact h.free j hj, by rw [size_setCells]; exact h.blk⟩
  rw [hin j (by rw [hl]; exact hj)]
  simp [aV, hj]
theorem av_alloc (w : World) (n : Nat) (m : Nat → Value) (T : TypeId) : Av (w.alloc (.cells (aV n m) T)) w.heap.size 0 n m := by
  have hb := heap_alloc_new w (.cells (aV n m) T)
  refine ⟨fun j hj => ?_, fun j hj => ?_, by simp⟩
  · simp only [World.cell?, hb, Nat.zero_add]
    simp [aV_get hj]
  · unfold World.frozen?
    rw [hb]
    simp

theorem ldA_run {w : World} {b off n : Nat} {m : Nat → Value} (h : Av w b off n m) : (loadCells ⟨b, off, none⟩ n).run Try.prog w = .ok (aV n m) w :=
  run_loadCells (P := Try.prog) w ⟨b, off, none⟩ n m (fun j hj => by rw [add_lit0]; exact h.cell j hj)
theorem stA_run {w : World} {b off n : Nat} {m : Nat → Value} (h : Av w b off n m) (m' : Nat → Value) (h1 : ∀ j, j < n → (m' j).oneCell' = true) : (storeCells ⟨b, off, none⟩ (aV n m').toList).run Try.prog w = .ok () (w.setCells b off (aV n m').toList) := by
  have hl : (aV n m').toList.length = n := by simp [aV]
  exact run_storeCells_cells (P := Try.prog) b off (aV n m').toList 0 w (fun j hj => by rw [hl] at hj; rw [Nat.add_zero, h.cell j hj]; rfl) (fun j hj => by rw [hl] at hj; rw [Nat.add_zero]; exact h.free j hj) (aV_one h1)
theorem allocA_run {T n b : Nat} {z : Nat → Value} (hi : (Try.prog.info? T).map (fun i => (i.zero, i.size, i.bytes)) = some (some (.agg (aV n z)), n, b)) (w : World) :
    (Instr.alloc T true (.tuple #[])).run Try.prog w = .ok (.pointer (some ⟨w.heap.size, 0, none⟩)) (w.alloc (.cells (aV n z) T)) := by
  obtain ⟨i, hi0, hz, _, _⟩ := info_parts hi
  simp [Instr.alloc, zeroValue, typeInfo, hi0, hz, newVar, newRow, Value.cells]
theorem loadA_run {T n k by_ : Nat} {z : Nat → Value} {e : TypeId} (hu : Try.prog.underlying T = some (.array k e)) (hi : (Try.prog.info? T).map (fun i => (i.zero, i.size, i.bytes)) = some (some (.agg (aV n z)), n, by_)) {w : World} {b off : Nat} {m : Nat → Value} (h : Av w b off n m) :
    (Instr.loadAt T (.pointer (some ⟨b, off, none⟩))).run Try.prog w = .ok (.agg (aV n m)) w := by
  obtain ⟨i, hi0, _, hs, _⟩ := info_parts hi
  simp [Instr.loadAt, Instr.sureAddr, loadVar, isAgg, run_underlying hu, sizeOf, typeInfo, hi0, hs, ldA_run h]
theorem storeA_run {T n by_ : Nat} {z : Nat → Value} (hi : (Try.prog.info? T).map (fun i => (i.zero, i.size, i.bytes)) = some (some (.agg (aV n z)), n, by_)) {w : World} {b off : Nat} {m : Nat → Value} (h : Av w b off n m) (m' : Nat → Value) (h1 : ∀ j, j < n → (m' j).oneCell' = true) :
    (Instr.storeAt T (.pointer (some ⟨b, off, none⟩)) (.agg (aV n m'))).run Try.prog w = .ok () (w.setCells b off (aV n m').toList) := by
  obtain ⟨i, hi0, _, hs, _⟩ := info_parts hi
  simp [Instr.storeAt, Instr.sureAddr, storeVar, sizeOf, typeInfo, hi0, hs, Value.cells, aV_size, stA_run h m' h1]
theorem indexA_run {m : Nat → Value} {i : Nat} (hi : i < 8) (w : World) : (Instr.index 105 (.agg (aV 8 m)) (.int .i64 (i : Int))).run Try.prog w = .ok (m i) w := by
  obtain ⟨t, ht, _, hs, _⟩ := info_parts Try.infoSi
  have h0 : (0 : Int) ≤ (i : Int) ∧ (i : Int) < ((8 : Nat) : Int) := by omega
  simp [Instr.index, asIntOf, run_underlying Try.underlying105, Go.part, isAgg, run_underlying Try.underlying75, sizeOf, typeInfo, ht, hs, h0.1, hi, aV_get hi]
theorem buildA_run (w : World) : (Instr.build 105 #[]).run Try.prog w = .ok (.agg (aV 8 nilS)) w := by
  obtain ⟨t, ht, hz, hs, _⟩ := info_parts Try.infoLn
  obtain ⟨t4, ht4, _, hs4, _⟩ := info_parts Try.infoSi
  simp [Instr.build, zeroValue, typeInfo, ht, hz, run_underlying Try.underlying105, sizeOf, ht4, hs4, Instr.fill, Value.cells]

section
variable (w : World) {ops : Array Oper} {rest : List Oper} {o : Oper} {a : Act} {Q : Exit → Act → World → Prop}
theorem wpA_val (hgd : o.guard = none) (v : Value) (w' : World) (hrun : (execOp a.eval o).run Try.prog w = .ok (.value v) w') (h : wpList Try.prog ops Q rest (a.put o.dst v) w') : wpList Try.prog ops Q (o :: rest) a w :=
  wpList_plain hgd fun _ hK => by
    unfold Oper.wp
    rw [hrun]
    exact hK _ _ h
theorem wpA_alloc (hgd : o.guard = none) (T n by_ : Nat) (z : Nat → Value) (hop : o.op = .alloc T) (hi : (Try.prog.info? T).map (fun i => (i.zero, i.size, i.bytes)) = some (some (.agg (aV n z)), n, by_))
    (h : wpList Try.prog ops Q rest (a.put o.dst (.pointer (some ⟨w.heap.size, 0, none⟩))) (w.alloc (.cells (aV n z) T))) : wpList Try.prog ops Q (o :: rest) a w :=
  wpA_val w hgd _ _ (by unfold execOp; simp only [hop, Sem.run_bind, allocA_run hi, Result.andThen_ok, Sem.run_pure]) h
theorem wpA_load (hgd : o.guard = none) (T n by_ k : Nat) (z : Nat → Value) (s : Operand) (hop : o.op = .load T s) (e : TypeId) (hu : Try.prog.underlying T = some (.array k e)) (hi : (Try.prog.info? T).map (fun i => (i.zero, i.size, i.bytes)) = some (some (.agg (aV n z)), n, by_))
    (b off : Nat) (m : Nat → Value) (hs : a.eval s = .pointer (some ⟨b, off, none⟩)) (hb : Av w b off n m)
    (h : wpList Try.prog ops Q rest (a.put o.dst (.agg (aV n m))) w) : wpList Try.prog ops Q (o :: rest) a w :=
  wpA_val w hgd _ _ (by unfold execOp; simp only [hop, hs, Sem.run_bind, loadA_run hu hi hb, Result.andThen_ok, Sem.run_pure]) h
theorem wpA_index (hgd : o.guard = none) (s x : Operand) (hop : o.op = .index 105 s x) (m : Nat → Value) (i : Nat) (v : Value) (hs : a.eval s = .agg (aV 8 m)) (hx : a.eval x = .int .i64 (i : Int)) (hi : i < 8) (hv : m i = v)
    (h : wpList Try.prog ops Q rest (a.put o.dst v) w) : wpList Try.prog ops Q (o :: rest) a w :=
  wpA_val w hgd _ _ (by unfold execOp; simp only [hop, hs, hx, Sem.run_bind, indexA_run hi, Result.andThen_ok, Sem.run_pure, hv]) h
theorem wpA_build (hgd : o.guard = none) (hop : o.op = .build 105 #[]) (h : wpList Try.prog ops Q rest (a.put o.dst (.agg (aV 8 nilS))) w) : wpList Try.prog ops Q (o :: rest) a w :=
  wpA_val w hgd _ _ (by unfold execOp; simp only [hop, List.map_toArray, List.map_nil, Sem.run_bind, buildA_run, Result.andThen_ok, Sem.run_pure]) h
theorem wpA_store (hgd : o.guard = none) (hd : o.dst = none) (T n by_ : Nat) (z : Nat → Value) (s x : Operand) (hop : o.op = .store T s x) (hi : (Try.prog.info? T).map (fun i => (i.zero, i.size, i.bytes)) = some (some (.agg (aV n z)), n, by_))
    (b off : Nat) (m m' : Nat → Value) (h1 : ∀ j, j < n → (m' j).oneCell' = true) (hs : a.eval s = .pointer (some ⟨b, off, none⟩)) (hx : a.eval x = .agg (aV n m')) (hb : Av w b off n m)
    (h : wpList Try.prog ops Q rest a (w.setCells b off (aV n m').toList)) : wpList Try.prog ops Q (o :: rest) a w :=
  wpList_plain hgd fun _ hK => by
    unfold Oper.wp
    have : (execOp a.eval o).run Try.prog w = .ok .skip (w.setCells b off (aV n m').toList) := by
      unfold execOp; simp only [hop, hs, hx, Sem.run_bind, storeA_run hi hb m' h1, Result.andThen_ok, Sem.run_pure]
    rw [this]
    have e : a.put o.dst undef = a := by rw [hd]; rfl
    exact hK (a.put o.dst undef) _ (by rw [e]; exact h)
end
/-- A result that is such an array, in a cell, and a flag behind it. -/
theorem resA_cell {fn : Func} {c d : Nat} {T n k by_ : Nat} {z : Nat → Value} {e : TypeId} {tmps : Array Value} {w : World} {b off : Nat} {m : Nat → Value} {x : Value} (hr : fn.results = #[.cell c T, .tmp d]) (hu : Try.prog.underlying T = some (.array k e))
    (hi : (Try.prog.info? T).map (fun i => (i.zero, i.size, i.bytes)) = some (some (.agg (aV n z)), n, by_)) (ht : tmps.getD c undef = .pointer (some ⟨b, off, none⟩)) (hx : tmps.getD d undef = x) (hb : Av w b off n m) :
    (results fn tmps).run Try.prog w = .ok (.tuple #[.agg (aV n m), x]) w := by
  obtain ⟨i, hi0, _, hs, _⟩ := info_parts hi
  have hl : (loadVar T ⟨b, off, none⟩).run Try.prog w = .ok (.agg (aV n m)) w := by
    simp [loadVar, isAgg, run_underlying hu, sizeOf, typeInfo, hi0, hs, ldA_run hb]
  have ht' : tmps[c]?.getD undef = .pointer (some ⟨b, off, none⟩) := by simpa using ht
  have hx' : tmps[d]?.getD undef = x := by simpa using hx
  simp [results, hr, ht', hx', asAddr, hl]
end Go.Proofs.Ytacjpebifacclaa

/-
  Lanes as slices of one's own; append onto them; the contract of the program's lanesIn.
-/
namespace Go.Proofs.Ytacjpebifacclaa
set_option linter.unusedSimpArgs false
set_option linter.unusedVariables false
open Go.RowKit Go.Sort

/-- A lane that is being filled: nil, or numbers in a block of its own. -/
def LaneV (w : World) (B : Nat) (v : Value) (L : List Int) : Prop :=
  (v = .slice none 0 0 ∧ L = []) ∨ ∃ g off cap, v = .slice (some ⟨g, off, none⟩) L.length cap ∧ B ≤ g ∧ OI w g off L.length cap L
theorem LaneV.one {w : World} {B : Nat} {v : Value} {L : List Int} (h : LaneV w B v L) : v.oneCell' = true := by
  rcases h with ⟨rfl, _⟩ | ⟨g, off, cap, rfl, _⟩ <;> rfl
theorem LaneV.lt {w : World} {B g : Nat} {v : Value} {L : List Int} (h : LaneV w B v L) (hg : v.ownBlock = some g) : B ≤ g ∧ g < w.heap.size := by
  rcases h with ⟨rfl, _⟩ | ⟨g', off, cap, rfl, h1, h2⟩
  · cases hg
  · simp only [Value.ownBlock, Option.some.injEq] at hg
    subst hg
    exact ⟨h1, h2.blk⟩
theorem LaneV.of_block {w w' : World} {B : Nat} {v : Value} {L : List Int} (h : LaneV w B v L) (hs : w.heap.size ≤ w'.heap.size) (e : ∀ g, v.ownBlock = some g → w'.heap[g]? = w.heap[g]?) : LaneV w' B v L := by
  rcases h with h | ⟨g, off, cap, rfl, h1, h2⟩
  · exact .inl h
  · exact .inr ⟨g, off, cap, rfl, h1, OSl.of_block h2 (e g rfl) (Nat.lt_of_lt_of_le h2.blk hs)⟩
theorem LaneV.below {w w' : World} {B : Nat} {v : Value} {L : List Int} (h : LaneV w B v L) (hb : Below w.heap.size w w') : LaneV w' B v L :=
  h.of_block hb.size (fun g hg => hb.block g (h.lt hg).2)
theorem LaneV.setFar {w : World} {B I i : Nat} {v u : Value} {L : List Int} (h : LaneV w B v L) (hI : I < B) : LaneV (w.setCell ⟨I, i, none⟩ u) B v L :=
  h.of_block (by simp [World.setCell]) (fun g hg => Below.heap_setCell _ _ _ _ (by have := (h.lt hg).1; show g ≠ I; omega))
/-- A lane that is only read: its room ends with it. -/
def Lv (w : World) (v : Value) (L : List Int) : Prop := ∃ a, v = .slice a L.length L.length ∧ Vec w a L.length L
theorem Lv.one {w : World} {v : Value} {L : List Int} (h : Lv w v L) : v.oneCell' = true := by
  obtain ⟨a, rfl, _⟩ := h; rfl
theorem Lv.below {w w' : World} {v : Value} {L : List Int} (h : Lv w v L) (hb : Below w.heap.size w w') : Lv w' v L := by
  obtain ⟨a, rfl, hv⟩ := h
  exact ⟨a, rfl, hv.below hb (Nat.le_refl _)⟩
/-- The eight lanes, each in memory of its own from B on. -/
structure Lns (w : World) (B : Nat) (v : Nat → Value) (L : Nat → List Int) : Prop where
  own : ∀ p, p < 8 → LaneV w B (v p) (L p)
  apart : ∀ p q g, p < 8 → q < 8 → p ≠ q → (v p).ownBlock = some g → (v q).ownBlock ≠ some g
theorem Lns.below {w w' : World} {B : Nat} {v : Nat → Value} {L : Nat → List Int} (h : Lns w B v L) (hb : Below w.heap.size w w') : Lns w' B v L := ⟨fun p hp => (h.own p hp).below hb, h.apart⟩
theorem Lns.setFar {w : World} {B I i : Nat} {v : Nat → Value} {u : Value} {L : Nat → List Int} (h : Lns w B v L) (hI : I < B) : Lns (w.setCell ⟨I, i, none⟩ u) B v L := ⟨fun p hp => (h.own p hp).setFar hI, h.apart⟩
theorem Lns.congr {w : World} {B : Nat} {v : Nat → Value} {L L' : Nat → List Int} (h : Lns w B v L) (e : ∀ p, p < 8 → L p = L' p) : Lns w B v L' := ⟨fun p hp => by rw [← e p hp]; exact h.own p hp, h.apart⟩
theorem lns_nil (w : World) (B : Nat) : Lns w B nilS (fun _ => []) := ⟨fun _ _ => .inl ⟨rfl, rfl⟩, fun p q g _ _ _ h => by cases h⟩
theorem Lns.append {w w' : World} {B p : Nat} {v : Nat → Value} {u : Value} {L : Nat → List Int} {Z : List Int} (h : Lns w B v L) (hp : p < 8) (hl : LaneV w' B u Z) (hg : w.grownBy w' (v p).ownBlock) (hb : u.ownBlock = (v p).ownBlock ∨ u.ownBlock = some w.heap.size) :
    Lns w' B (upV v p u) (fun q => if q = p then Z else L q) := by
  refine ⟨fun q hq => ?_, fun q r g hq hr hne he => ?_⟩
  · by_cases e : q = p
    · subst e
      rw [upV_same]; simp only [if_true]; exact hl
    · rw [upV_other e]; simp only [if_neg e]
      exact (h.own q hq).of_block hg.size (fun g hq' => hg.block g ((h.own q hq).lt hq').2 (fun e' => h.apart q p g hq hp e hq' e'.symm))
  · by_cases e1 : q = p
    · subst e1
      rw [upV_same] at he
      rw [upV_other (Ne.symm hne)]
      rcases hb with hb | hb
      · exact h.apart q r g hq hr hne (hb ▸ he)
      · intro h2
        have := ((h.own r hr).lt h2).2
        rw [hb] at he
        simp only [Option.some.injEq] at he
        omega
    · rw [upV_other e1] at he
      by_cases e2 : r = p
      · subst e2
        rw [upV_same]
        rcases hb with hb | hb
        · rw [hb]; exact h.apart q r g hq hr hne he
        · rw [hb]
          intro h2
          have := ((h.own q hq).lt he).2
          simp only [Option.some.injEq] at h2
          omega
      · rw [upV_other e2]; exact h.apart q r g hq hr hne he
/-- One number more at the end of a lane. -/
theorem lane_append {w : World} {B : Nat} {v : Value} {L : List Int} (h : LaneV w B v L) (hB : B ≤ w.heap.size) (hL : L.length ≤ 1000) (ty : TypeId) (x : Int) :
    ∃ g' off' cap' w', (Builtin.append_ #[75, 75] ty #[v, .slice (some ⟨w.heap.size, 0, none⟩) 1 1]).run Try.prog (w.alloc (.cells #[.int .i64 x] 3)) = .ok (.slice (some ⟨g', off', none⟩) (L.length + 1) cap') w' ∧ B ≤ g' ∧ OI w' g' off' (L.length + 1) cap' (L ++ [x]) ∧ (w.alloc (.cells #[.int .i64 x] 3)).grownBy w' v.ownBlock ∧
      (some g' = v.ownBlock ∨ g' = (w.alloc (.cells #[.int .i64 x] 3)).heap.size) := by
  obtain ⟨i0, hi0, hz0, hz1, hz2⟩ := info_parts Try.info3
  have hnews := World.news_of_block (w := w.alloc (.cells #[.int .i64 x] 3)) (cs := #[.int .i64 x]) (t := 3) (fr := (0, 0)) (heap_alloc_new w _)
  have h1 : ∀ u ∈ [Value.int .i64 x], u.oneCell' = true := by simp [Value.oneCell']
  rcases h with ⟨rfl, rfl⟩ | ⟨g, off, cap, rfl, h1', h2⟩
  · obtain ⟨v', w', hr, hown, hg, hn⟩ := run_append_own (P := Try.prog) (w.alloc (.cells #[.int .i64 x] 3)) B 75 ty 3 i0 _ 1 8 Try.underlying75 hi0 hz0 hz1 hz2 rfl (by omega) (.slice none 0 0) 0 [] (World.ownsRow_nil _ _ _ _) ⟨w.heap.size, 0, none⟩ 1 1 [.int .i64 x] rfl hnews h1 (by unfold maxLen; omega) (by omega) (by simp; omega)
    have hr2 := run_append_nil (P := Try.prog) (w.alloc (.cells #[.int .i64 x] 3)) 75 ty 3 i0 _ Try.underlying75 hi0 hz0 ⟨w.heap.size, 0, none⟩ 1 1 [.int .i64 x] (by rw [hz1]; rfl) hnews (by omega) (by omega) (by rw [hz2]; omega)
    obtain ⟨g2, cap2, hv2, hb2, hO⟩ := OSl.of_ownsRow hown (by rw [Ne, hn]; omega)
    subst hv2
    have e := hr
    rw [hr2] at e
    simp only [Result.ok.injEq, Value.slice.injEq, Option.some.injEq, Addr.mk.injEq] at e
    exact ⟨g2, 0, cap2, w', hr, hb2, hO, hg, .inr e.1.1.1.symm⟩
  · have hO : OSl (w.alloc (.cells #[.int .i64 x] 3)) 1 g off L.length cap (L.map (Value.int .i64)) := OSl.below h2 ((Below.refl _ _).alloc (Nat.le_refl _) _) h2.blk
    obtain ⟨g', off', cap', w', hr, hO', hg, hat⟩ := run_append_os (P := Try.prog) (w.alloc (.cells #[.int .i64 x] 3)) 75 ty 3 i0 _ 1 8 Try.underlying75 hi0 hz0 hz1 hz2 rfl (by omega) g off L.length cap _ hO ⟨w.heap.size, 0, none⟩ 1 1 [.int .i64 x] rfl hnews h1 (by unfold maxLen; omega) (by omega)
    refine ⟨g', off', cap', w', hr, ?_, ?_, hg, ?_⟩
    · rcases hat with h | h
      · rw [h]; exact h1'
      · rw [h]; simp; omega
    · unfold OI
      rw [List.map_append]
      exact hO'
    · rcases hat with h | h
      · rw [h]; exact .inl rfl
      · exact .inr h
/-- An append whose run is known, in a drawn region. -/
theorem step_append_run {P : Program} (w : World) {ops : Array Oper} {o : Oper} {a : Act} {K : Act → World → Prop} {Q : Exit → Act → World → Prop} {E : Prop} (hgd : o.guard = none) (s x : Operand) (t tn : TypeId)
    (ho : o.op = .call { callee := .builtin .append, args := #[s, x], argTypes := #[t, tn] }) (vs vx : Value) (hs : a.eval s = vs) (hx : a.eval x = vx)
    (v' : Value) (w' : World) (hr : (Builtin.append_ #[t, tn] o.type #[vs, vx]).run P w = .ok v' w') (h : K (a.put o.dst v') w') :
    if Region.wanted o (yielded ops a.tmps) = true then Oper.wp P o a w K Q else E := by
  have hw : Region.wanted o (yielded ops a.tmps) = true := by simp [Region.wanted, hgd]
  rw [if_pos hw]
  exact Lib.wp_append_run w s x t tn ho vs vx hs hx v' w' hr h
/-- What lanesIn holds as it fills the lanes. -/
structure Lst (w cur : World) (es : List Ev) (k : Nat) (v : Nat → Value) : Prop where
  below : Below w.heap.size w cur
  res : Av cur w.heap.size 0 8 nilS
  ins : Av cur (w.heap.size + 1) 0 8 v
  lanes : Lns cur (w.heap.size + 2) v (fun p => lanI es p k)
theorem Lst.step {w cur next : World} {es : List Ev} {k : Nat} {v : Nat → Value} (h : Lst w cur es k v) (hb : Below cur.heap.size cur next) : Lst w next es k v :=
  ⟨h.below.trans (hb.mono h.below.size), h.res.below hb h.res.blk, h.ins.below hb h.ins.blk, h.lanes.below hb⟩
theorem Lst.drewN {w cur : World} {es : List Ev} {k : Nat} {v : Nat → Value} (h : Lst w cur es k v) (n : Nat) : Lst w (cur.drewN n) es k v := h.step (belowN (Below.refl _ _))
theorem Lst.start {w w' : World} (es : List Ev) (h : Grew ((w.alloc (.cells (aV 8 nilS) 105)).alloc (.cells (aV 8 nilS) 105)) w') : Lst w w' es 0 nilS := by
  have h1 := av_alloc w 8 nilS 105
  have h2 := av_alloc (w.alloc (.cells (aV 8 nilS) 105)) 8 nilS 105
  have e : (w.alloc (.cells (aV 8 nilS) 105)).heap.size = w.heap.size + 1 := by simp
  rw [e] at h2
  have b1 : Below w.heap.size w ((w.alloc (.cells (aV 8 nilS) 105)).alloc (.cells (aV 8 nilS) 105)) := ((Below.refl _ _).alloc (Nat.le_refl _) _).alloc (by simp) _
  have b2 : Below (w.alloc (.cells (aV 8 nilS) 105)).heap.size (w.alloc (.cells (aV 8 nilS) 105)) ((w.alloc (.cells (aV 8 nilS) 105)).alloc (.cells (aV 8 nilS) 105)) := (Below.refl _ _).alloc (Nat.le_refl _) _
  exact ⟨b1.trans (h.1.mono b1.size), (h1.below b2 h1.blk).below h.1 (by have := h2.blk; omega), h2.below h.1 h2.blk, (lns_nil _ _).congr (fun p _ => rfl)⟩
theorem Lst.next {w cur X w' : World} {es : List Ev} {k p : Nat} {v : Nat → Value} {u : Value} (h : Lst w cur es k v) (hp : p < 8) (hn : (evAt es k).n = (p : Int)) (hX : Below cur.heap.size cur X)
    {g' off' cap' : Nat} (hu : u = .slice (some ⟨g', off', none⟩) ((lanI es p k).length + 1) cap') (hB' : w.heap.size + 2 ≤ g') (hO : OI w' g' off' ((lanI es p k).length + 1) cap' (lanI es p k ++ [(k : Int)]))
    (hg : (X.alloc (.cells #[.int .i64 (k : Int)] 3)).grownBy w' (v p).ownBlock) (hb' : some g' = (v p).ownBlock ∨ g' = (X.alloc (.cells #[.int .i64 (k : Int)] 3)).heap.size) :
    Lst w (w'.setCell ⟨w.heap.size + 1, p, none⟩ u) es (k + 1) (upV v p u) := by
  have hl : LaneV w' (w.heap.size + 2) u (lanI es p k ++ [(k : Int)]) := .inr ⟨g', off', cap', by rw [hu, List.length_append]; rfl, hB', by rw [List.length_append]; exact hO⟩
  have hb : u.ownBlock = (v p).ownBlock ∨ u.ownBlock = some (X.alloc (.cells #[.int .i64 (k : Int)] 3)).heap.size := by
    rw [hu]
    rcases hb' with h | h
    · exact .inl h
    · rw [h]; exact .inr rfl
  have hX2 : Below cur.heap.size cur (X.alloc (.cells #[.int .i64 (k : Int)] 3)) := hX.alloc hX.size _
  have h' := h.step hX2
  have far : ∀ g, (v p).ownBlock = some g → w.heap.size + 2 ≤ g := fun g hg' => ((h.lanes.own p hp).lt hg').1
  have hr : ∀ x, x < w.heap.size + 2 → (v p).ownBlock ≠ some x := fun x hx e => by have := far x e; omega
  have L1 := h'.lanes.append hp hl hg hb
  have B1 : Below w.heap.size w w' := ⟨hg.os.trans h'.below.os, hg.tape.trans h'.below.tape, hg.output.trans h'.below.output, Nat.le_trans h'.below.size hg.size, fun x hx => (hg.block x (Nat.lt_of_lt_of_le hx h'.below.size) (fun e => hr x (by omega) e.symm)).trans (h'.below.block x hx)⟩
  have I1 := (h'.ins.grown hg (hr _ (by omega))).set hp u
  rw [Nat.zero_add] at I1
  refine ⟨B1.setCell (Nat.le_succ _) _, (h'.res.grown hg (hr _ (by omega))).setFar (by omega), I1, (L1.setFar (by omega)).congr (fun q hq => ?_)⟩
  by_cases e : q = p
  · subst e; rw [if_pos rfl, lanI_hit hn]
  · rw [if_neg e, lanI_miss (by rw [hn]; omega)]
end Go.Proofs.Ytacjpebifacclaa

/-
  The contract of the program's lanesIn.
-/
namespace Go.Proofs.Ytacjpebifacclaa
set_option linter.unusedSimpArgs false
set_option linter.unusedVariables false
open Go.RowKit Go.Sort
attribute [local irreducible] aV World.setCells

/-- What lanesIn holds as it cuts the lanes. -/
structure Cst (w cur : World) (es : List Ev) (n : Nat) (c : List Int) (k : Nat) (v : Nat → Value) : Prop where
  below : Below w.heap.size w cur
  res : Av cur w.heap.size 0 8 nilS
  ins : Av cur (w.heap.size + 1) 0 8 v
  done : ∀ p, p < k → Lv cur (v p) (cutI es n c p)
  lanes : ∀ p, k ≤ p → p < 8 → LaneV cur (w.heap.size + 2) (v p) (lanI es p n)
  far : ∀ p, p < 8 → ∀ g, (v p).ownBlock = some g → w.heap.size + 2 ≤ g
theorem Lst.cst {w cur : World} {es : List Ev} {n : Nat} {v : Nat → Value} (h : Lst w cur es n v) (c : List Int) : Cst w cur es n c 0 v :=
  ⟨h.below, h.res, h.ins, fun p hp => by omega, fun p _ hp => h.lanes.own p hp, fun p hp g hg => ((h.lanes.own p hp).lt hg).1⟩
theorem Lv.setFar {w : World} {v u : Value} {L : List Int} {I i : Nat} (h : Lv w v L) (hI : ∀ g, v.ownBlock = some g → g ≠ I) : Lv (w.setCell ⟨I, i, none⟩ u) v L := by
  obtain ⟨a, rfl, h1, h2, h3⟩ := h
  refine ⟨a, rfl, h1, h2, ?_⟩
  rcases h3 with h3 | ⟨b, off, rfl, hc⟩
  · exact .inl h3
  · refine .inr ⟨b, off, rfl, fun j hj => ?_⟩
    rw [World.cell?_setCell_other _ _ _ _ (by intro e; have := congrArg Addr.block e; simp only at this; exact hI b rfl this.symm)]
    exact hc j hj
theorem Cst.cut {w cur : World} {es : List Ev} {n p q : Nat} {c : List Int} {v : Nat → Value} {u : Value} (h : Cst w cur es n c p v) (hp : p < 8) (hu : Lv cur u (cutI es n c p)) (hb : u.ownBlock = (v p).ownBlock) :
    Cst w (cur.setCell ⟨w.heap.size + 1, p, none⟩ u) es n c (p + 1) (upV v p u) := by
  have far : ∀ q, q < 8 → ∀ g, (upV v p u q).ownBlock = some g → w.heap.size + 2 ≤ g := fun q hq g hg => by
    by_cases e : q = p
    · subst e; rw [upV_same, hb] at hg; exact h.far q hq g hg
    · rw [upV_other e] at hg; exact h.far q hq g hg
  have I1 := h.ins.set hp u
  rw [Nat.zero_add] at I1
  refine ⟨h.below.setCell (Nat.le_succ _) _, h.res.setFar (by omega), I1, fun q hq => ?_, fun q hq hq8 => ?_, far⟩
  · by_cases e : q = p
    · subst e; rw [upV_same]; exact hu.setFar (fun g hg => by have := h.far q hp g (hb ▸ hg); omega)
    · rw [upV_other e]; exact (h.done q (by omega)).setFar (fun g hg => by have := h.far q (by omega) g hg; omega)
  · rw [upV_other (by omega)]; exact (h.lanes q (by omega) hq8).setFar (by omega)
theorem cell_new (w : World) (cs : Array Value) (T : TypeId) {i : Nat} {v : Value} (h : cs[i]? = some v) : (w.alloc (.cells cs T)).cell? ⟨w.heap.size, i, none⟩ = some v := by
  have hb := heap_alloc_new w (.cells cs T)
  simp only [World.cell?, hb]
  simp [h]
/-- A lane, cut. -/
theorem lane_cut {w : World} {g off cap n : Nat} {L : List Int} {k : Nat} (h : OI w g off n cap L) (hf : Fits L) (hk : k ≤ n) : Lv w (.slice (some ⟨g, off, none⟩) k k) (L.take k) := by
  have hl := h.length
  have e : (L.take k).length = k := by rw [List.length_take]; omega
  refine ⟨some ⟨g, off, none⟩, by rw [e], ?_⟩
  rw [e]
  exact (oi_take h hk).vec (fun x hx => hf x (List.mem_of_mem_take hx))
theorem lanI_fits {es : List Ev} {p n : Nat} (h : n ≤ 40) : Fits (lanI es p n) := by
  intro x hx
  obtain ⟨j, hj, rfl⟩ := el_mem_iff.1 hx
  rw [lanI_len] at hj
  obtain ⟨k, h1, h2, _⟩ := laneN_some (es := es) (p := p) (n := n) (j := j) hj
  have : el (lanI es p n) j = (k : Int) := by simp [el, lanI, h1]
  omega

theorem not_cut {es : List Ev} {n j : Nat} {c : List Int} (hj : j < 8) (h : el c j < 0 ∨ ((num es (j : Int) n : Nat) : Int) < el c j) : cutB es n c = false := by
  cases hb : cutB es n c with
  | false => rfl
  | true =>
    have h1 := (cutB_iff.1 hb).lo j hj
    have h2 := (cutB_iff.1 hb).hi j hj
    omega
theorem Lv.grown {w w' : World} {v : Value} {L : List Int} {r : Nat} (h : Lv w v L) (hg : w.grownBy w' (some r)) (hI : ∀ g, v.ownBlock = some g → g ≠ r) : Lv w' v L := by
  obtain ⟨a, rfl, h1, h2, h3⟩ := h
  refine ⟨a, rfl, h1, h2, ?_⟩
  rcases h3 with h3 | ⟨b, off, rfl, hc⟩
  · exact .inl h3
  · exact .inr ⟨b, off, rfl, fun j hj => grown_cell hg (hc j hj) (hI b rfl)⟩
theorem Cst.fin {w cur : World} {es : List Ev} {n : Nat} {c : List Int} {v : Nat → Value} (h : Cst w cur es n c 8 v) (us : List Value) : (∀ p, p < 8 → Lv (cur.setCells w.heap.size 0 us) (v p) (cutI es n c p)) ∧ (∀ p, p < 8 → (v p).oneCell' = true) ∧ Below w.heap.size w (cur.setCells w.heap.size 0 us) :=
  ⟨fun p hp => (h.done p hp).grown (grown_setCells _ _ _ _) (fun g hg => by have := h.far p hp g hg; omega), fun p hp => (h.done p hp).one, below_grown h.below (grown_setCells _ _ _ _) (Nat.le_refl _) h.below.size⟩

set_option maxRecDepth 100000 in
set_option maxHeartbeats 3200000 in
theorem lanesIn_any (b off len cap : Nat) (es : List Ev) (a : Option Addr) (m c : Nat) (xs : List Int) (w : World) (hc : EvsAt w b off len es) (hm : len ≤ maxLen) (hcap : len ≤ cap) (hv : Vec w a m xs) (hmc : m ≤ c) (hcm : c ≤ maxLen) :
    Calls Try.prog 110 #[.slice (some ⟨b, off, none⟩) len cap, .slice a m c] w fun e w' => ∃ f, e = .returned (.tuple #[.agg (aV 8 f), .bool (cutB es len xs)]) ∧ (cutB es len xs = true → ∀ p, p < 8 → Lv w' (f p) (cutI es len xs p)) ∧ (∀ p, p < 8 → (f p).oneCell' = true) ∧ Below w.heap.size w w' := by
  have hg0 : Grew w ((w.alloc (.cells (aV 8 nilS) 105)).alloc (.cells (aV 8 nilS) 105)) := ((Grew.refl _).alloc _).alloc _
  have hT := implTok_any b off len cap es _ (hc.grew hg0) hm hcap
  cases ho : okT es len
  · rw [ho] at hT
    have HZ : Hid (cutB es len xs = false) := by rw [Hid, cutB, ho]; rfl
    go_enter Try.func110, Try.ntmps110
    go_wp2_with (first | (refine wpA_alloc _ rfl 105 8 192 nilS rfl Try.infoLn ?_))
    refine hT.mono ?_
    rintro e w1 ⟨rfl, hg1⟩
    have HS : Hid (Lst w w1 es 0 nilS) := Lst.start es hg1
    clear hg1 hT
    go_wp2_with (first | (refine wpA_build _ rfl rfl ?_) | (refine wpA_store _ rfl rfl 105 8 192 nilS _ _ rfl Try.infoLn w.heap.size 0 nilS nilS (fun _ _ => rfl) rfl rfl HS.out.res ?_))
    refine bodyPost_ret (resA_cell Try.results110 Try.underlying105 Try.infoLn (by rfl) (by rfl) (HS.out.res.sets nilS)) rfl ?_
    rw [HZ.out]
    exact ⟨nilS, rfl, (fun h => nomatch h), fun _ _ => rfl, below_grown HS.out.below (grown_setCells _ _ _ _) (Nat.le_refl _) HS.out.below.size⟩
  · rw [ho] at hT
    have HOK : Hid (okT es len = true) := ho
    have h40 := (okT_all ho).1
    by_cases hm8 : m = 8
    · subst hm8
      have hl8 : xs.length = 8 := hv.1
      have hf : Fits xs := hv.2.1
      obtain ⟨gx, fx, rfl, hx⟩ := hv.cells (by omega)
      clear ho hv
      go_enter Try.func110, Try.ntmps110
      go_wp2_with (first | (refine wpA_alloc _ rfl 105 8 192 nilS rfl Try.infoLn ?_))
      refine hT.mono ?_
      rintro e w1 ⟨rfl, hg1⟩
      have HS : Hid (Lst w w1 es 0 nilS) := Lst.start es hg1
      clear hg1 hT
      go_wp2
      go_loopw [22] (fun i wr => ∃ k : Nat, k ≤ len ∧ i = .int .i64 k ∧ ∃ v, Lst w wr es k v) (fun i _ => len - (intOf i).toNat)
      case atStart => exact ⟨0, Nat.zero_le _, rfl, nilS, HS.out⟩
      case round =>
        obtain ⟨k, hk, rfl, v, hst⟩ := hrel
        have HV : Hid (Lst w wr es k v) := hst
        clear hst HS
        by_cases hlt : k < len
        · have HE : Hid (EvsAt wr b off len es) := evs_below hc HV.out.below (Nat.le_refl _)
          obtain ⟨c0, c1, c2⟩ := HE.out k hlt
          obtain ⟨p, hp, h8⟩ := node8 HOK.out hlt
          rw [hp] at c0
          have HP : Hid ((evAt es k).n = (p : Int)) := hp
          have hp0 : (0 : Int) ≤ (p : Int) := by omega
          have hp8 : (p : Int) < 8 := by omega
          have hkl : (k : Int) < (len : Int) := by omega
          have hk0 : (0 : Int) ≤ (k : Int) := by omega
          obtain ⟨W0, hW0⟩ : ∃ W0, wr.alloc (.cells #[.int .i64 (p : Int), .int .i64 (evAt es k).k, .int .i64 (evAt es k).m] 47) = W0 := ⟨_, rfl⟩
          have hsz : W0.heap.size = wr.heap.size + 1 := by rw [← hW0]; simp
          have B0 : Below wr.heap.size wr W0 := by rw [← hW0]; exact (Below.refl _ _).alloc (Nat.le_refl _) _
          have e0 : W0.cell? ⟨wr.heap.size, 0, none⟩ = some (.int .i64 (p : Int)) := by rw [← hW0]; exact cell_new _ _ _ rfl
          have HV0 : Hid (Lst w W0 es k v) := HV.out.step B0
          have i0 : W0.cell? ⟨w.heap.size + 1, p, none⟩ = some (v p) := by have := HV0.out.ins.cell p h8; rwa [Nat.zero_add] at this
          have f0 : W0.frozen? ⟨w.heap.size + 1, p, none⟩ = false := by have := HV0.out.ins.free p h8; rwa [Nat.zero_add] at this
          have HN : Hid ((lanI es p k).length ≤ 1000) := by rw [Hid, lanI_len]; have := num_leK es (p : Int) k; omega
          have hsw : w.heap.size + 2 ≤ W0.heap.size := by have := HV.out.ins.blk; omega
          have bd : ∀ n, Below W0.heap.size W0 (W0.drewN n) := fun n => belowN (Below.refl _ _)
          have hA : ∀ ty : TypeId, ∃ g' off' cap' w', (Builtin.append_ #[75, 75] ty #[v p, .slice (some ⟨wr.heap.size + 1, 0, none⟩) 1 1]).run Try.prog ((W0.drewN 1).alloc (.cells #[.int .i64 (k : Int)] 3)) = .ok (.slice (some ⟨g', off', none⟩) ((lanI es p k).length + 1) cap') w' ∧ w.heap.size + 2 ≤ g' ∧ OI w' g' off' ((lanI es p k).length + 1) cap' (lanI es p k ++ [(k : Int)]) ∧
              ((W0.drewN 1).alloc (.cells #[.int .i64 (k : Int)] 3)).grownBy w' (v p).ownBlock ∧ (some g' = (v p).ownBlock ∨ g' = ((W0.drewN 1).alloc (.cells #[.int .i64 (k : Int)] 3)).heap.size) := fun ty => by
            have h := lane_append (((HV0.out.step (bd 1)).lanes.own p h8)) (Nat.le_trans hsw (bd 1).size) HN.out ty (k : Int)
            rwa [show (W0.drewN 1).heap.size = wr.heap.size + 1 from hsz] at h
          have bA : Below W0.heap.size W0 (W0.alloc (.cells #[.int .i64 (k : Int)] 3)).drew := belowN (n := 1) ((Below.refl _ _).alloc (Nat.le_refl _) _)
          have hE : wr.heap.size < W0.heap.size := by omega
          have hKS : ∀ X, Below W0.heap.size W0 X → X.cell? ⟨wr.heap.size, 0, none⟩ = some (.int .i64 (p : Int)) ∧ X.cell? ⟨w.heap.size + 1, p, none⟩ = some (v p) ∧ X.frozen? ⟨w.heap.size + 1, p, none⟩ = false := fun X hX =>
            ⟨(hX.cell hE).trans e0, (hX.cell (by show w.heap.size + 1 < _; omega)).trans i0, by have := (HV0.out.step hX).ins.free p h8; rwa [Nat.zero_add] at this⟩
          have hK4 : ∀ X w4, Below W0.heap.size W0 X → X.grownBy w4 (v p).ownBlock → w4.cell? ⟨wr.heap.size, 0, none⟩ = some (.int .i64 (p : Int)) ∧ w4.cell? ⟨w.heap.size + 1, p, none⟩ = some (v p) ∧ w4.frozen? ⟨w.heap.size + 1, p, none⟩ = false := fun X w4 hX hg => by
            obtain ⟨h1, h2, h3⟩ := hKS X hX
            have r1 : some wr.heap.size ≠ (v p).ownBlock := fun e => by have := ((HV.out.lanes.own p h8).lt e.symm).2; omega
            have r2 : (v p).ownBlock ≠ some (w.heap.size + 1) := fun e => by have := ((HV.out.lanes.own p h8).lt e).1; omega
            have h4 := ((HV0.out.step hX).ins.grown hg r2)
            refine ⟨hg.cell h1 r1, hg.cell h2 r2.symm, ?_⟩
            have := h4.free p h8
            rwa [Nat.zero_add] at this
          have n1 : ¬ w.heap.size = wr.heap.size := by have := HV.out.ins.blk; omega
          have n2 : ¬ w.heap.size + 1 = wr.heap.size + 1 := by omega
          obtain ⟨y1, y2, y3⟩ := hKS _ (bA : Below W0.heap.size W0 _)
          have z1 : (W0.alloc (.cells #[.int .i64 (k : Int)] 3)).cell? ⟨wr.heap.size, 0, none⟩ = some (.int .i64 (p : Int)) := y1
          have z2 : (W0.alloc (.cells #[.int .i64 (k : Int)] 3)).cell? ⟨w.heap.size + 1, p, none⟩ = some (v p) := y2
          clear y1 y2 y3
          clear hp
          go_wp2_with fail
          clear c0 c1 c2
          go_region_law
            (first
              | (obtain ⟨g4, o4, k4, w4, hr4, hB4, hO4, hg4, hb4⟩ := hA _; have hx4 := hK4 _ _ bA hg4; obtain ⟨x1, x2, x3⟩ := hx4; refine step_append_run _ (by rfl) _ _ _ _ (by rfl) (v p) _ (by rfl) (by rfl) _ w4 hr4 ?_))
          all_goals
            have HV4 : Hid (Lst w (w4.setCell ⟨w.heap.size + 1, p, none⟩ (.slice (some ⟨g4, o4, none⟩) ((lanI es p k).length + 1) k4)) es (k + 1) (upV v p (.slice (some ⟨g4, o4, none⟩) ((lanI es p k).length + 1) k4))) := HV0.out.next h8 HP.out (bd 1) rfl hB4 hO4 hg4 hb4
            clear hr4 hB4 hO4 hg4 hb4 x1 x2 x3
            go_wp2
            go_roundw
            case rel => exact ⟨k + 1, by omega, by go_num, _, HV4.out⟩
            case measure => simp [intOf]; omega
        · have hkl : k = len := by omega
          subst hkl
          have HC0 : Hid (Cst w wr es k xs 0 v) := HV.out.cst xs
          clear HV
          go_wp2
          go_loopw [40] (fun i wr => ∃ j : Nat, j ≤ 8 ∧ i = .int .i64 j ∧ (∀ q, q < j → 0 ≤ el xs q ∧ el xs q ≤ (num es (q : Int) k : Nat)) ∧ ∃ v, Cst w wr es k xs j v) (fun i _ => 8 - (intOf i).toNat)
          case atStart => exact ⟨0, Nat.zero_le _, rfl, fun q hq => by omega, v, HC0.out⟩
          case round =>
            obtain ⟨j, hj, rfl, hq, v, hst⟩ := hrel
            have HV : Hid (Cst w wr es k xs j v) := hst
            have HQ : Hid (∀ q, q < j → 0 ≤ el xs q ∧ el xs q ≤ (num es (q : Int) k : Nat)) := hq
            clear hst hq HC0
            by_cases hlt : j < 8
            · have xj : wr.cell? ⟨gx, fx + j, none⟩ = some (.int .i64 (el xs j)) := (HV.out.below.cell (World.block_lt_of_cell? _ _ (hx j hlt))).trans (hx j hlt)
              have ij := HV.out.ins.cell j hlt
              have fj := HV.out.ins.free j hlt
              simp only [Nat.zero_add] at ij fj
              have j1 : (j : Int) < 8 := by omega
              have j0 : (0 : Int) ≤ (j : Int) := by omega
              by_cases hneg : el xs j < 0
              · have HZ : Hid (cutB es k xs = false) := not_cut hlt (.inl hneg)
                have hd : decide (el xs j < 0) = true := by simpa using hneg
                clear hneg
                go_wp2_with (first | (refine wpA_build _ rfl rfl ?_) | (refine wpA_store _ rfl rfl 105 8 192 nilS _ _ rfl Try.infoLn w.heap.size 0 nilS nilS (fun _ _ => rfl) rfl rfl HV.out.res ?_))
                refine bodyPost_ret (resA_cell Try.results110 Try.underlying105 Try.infoLn (by rfl) (by rfl) (HV.out.res.sets nilS)) rfl ?_
                rw [HZ.out]
                exact ⟨nilS, rfl, (fun h => nomatch h), fun _ _ => rfl, below_grown HV.out.below (grown_setCells _ _ _ _) (Nat.le_refl _) HV.out.below.size⟩
              · obtain ⟨z, hz⟩ : ∃ z : Nat, el xs j = (z : Int) := ⟨(el xs j).toNat, by omega⟩
                have HZE : Hid (el xs j = (z : Int)) := hz
                rw [hz] at xj
                clear hneg hz
                have z0 : (0 : Int) ≤ (z : Int) := by omega
                have hN := lanI_len es j k
                rcases HV.out.lanes j (Nat.le_refl _) hlt with ⟨hvj, hL⟩ | ⟨g, o, cp, hvj, hB, hO⟩
                · rw [hvj] at ij
                  rw [hL] at hN
                  have HN : Hid (num es (j : Int) k = 0) := hN.symm
                  clear hN
                  rcases Nat.eq_zero_or_pos z with hz0 | hzp
                  · subst hz0
                    have HU : Hid (Lv wr (.slice none 0 0) (cutI es k xs j)) := by
                      have e : cutI es k xs j = [] := by rw [cutI, hL, List.take_nil]
                      rw [Hid, e]
                      exact ⟨none, rfl, rfl, fun x hx => by simp at hx, .inl rfl⟩
                    have HV' : Hid (Cst w (wr.setCell ⟨w.heap.size + 1, j, none⟩ (.slice none 0 0)) es k xs (j + 1) (upV v j (.slice none 0 0))) := HV.out.cut (q := 0) hlt HU.out (by rw [hvj])
                    clear hL hvj
                    go_wp2
                    go_roundw
                    case rel => exact ⟨j + 1, by omega, by go_num, fun q hq => by
                      rcases Nat.lt_succ_iff_lt_or_eq.1 hq with h | h
                      · exact HQ.out q h
                      · rw [h, HZE.out, HN.out]; omega, _, HV'.out⟩
                    case measure => simp [intOf]; omega
                  · have HZ : Hid (cutB es k xs = false) := not_cut hlt (.inr (by rw [HN.out, HZE.out]; omega))
                    have hzi : (0 : Int) < (z : Int) := by omega
                    clear hL hvj
                    go_wp2_with (first | (refine wpA_build _ rfl rfl ?_) | (refine wpA_store _ rfl rfl 105 8 192 nilS _ _ rfl Try.infoLn w.heap.size 0 nilS nilS (fun _ _ => rfl) rfl rfl HV.out.res ?_))
                    refine bodyPost_ret (resA_cell Try.results110 Try.underlying105 Try.infoLn (by rfl) (by rfl) (HV.out.res.sets nilS)) rfl ?_
                    rw [HZ.out]
                    exact ⟨nilS, rfl, (fun h => nomatch h), fun _ _ => rfl, below_grown HV.out.below (grown_setCells _ _ _ _) (Nat.le_refl _) HV.out.below.size⟩
                · rw [hvj] at ij
                  have hcp := hO.le
                  have hmx := hO.max
                  have HO : Hid (OI wr g o (lanI es j k).length cp (lanI es j k)) := hO
                  have HVJ : Hid (v j = .slice (some ⟨g, o, none⟩) (lanI es j k).length cp) := hvj
                  have HNN : Hid ((lanI es j k).length = num es (j : Int) k) := hN
                  clear hN hO hB hvj
                  generalize hln : (lanI es j k).length = ln at *
                  by_cases hbig : ln < z
                  · have HZ : Hid (cutB es k xs = false) := not_cut hlt (.inr (by rw [HZE.out, ← HNN.out]; omega))
                    have hzi : (ln : Int) < (z : Int) := by omega
                    clear hbig hln
                    go_wp2_with (first | (refine wpA_build _ rfl rfl ?_) | (refine wpA_store _ rfl rfl 105 8 192 nilS _ _ rfl Try.infoLn w.heap.size 0 nilS nilS (fun _ _ => rfl) rfl rfl HV.out.res ?_))
                    refine bodyPost_ret (resA_cell Try.results110 Try.underlying105 Try.infoLn (by rfl) (by rfl) (HV.out.res.sets nilS)) rfl ?_
                    rw [HZ.out]
                    exact ⟨nilS, rfl, (fun h => nomatch h), fun _ _ => rfl, below_grown HV.out.below (grown_setCells _ _ _ _) (Nat.le_refl _) HV.out.below.size⟩
                  · have hzi : (z : Int) ≤ (ln : Int) := by omega
                    have hzd : decide ((ln : Int) < (z : Int)) = false := by simp; omega
                    have hzc : (z : Int) ≤ (cp : Int) := by omega
                    have HU : Hid (Lv wr (.slice (some ⟨g, o, none⟩) z z) (cutI es k xs j)) := by
                      have e : cutI es k xs j = (lanI es j k).take z := by rw [cutI, HZE.out]; rfl
                      rw [Hid, e]
                      exact lane_cut HO.out (lanI_fits h40) (by omega)
                    have HV' : Hid (Cst w (wr.setCell ⟨w.heap.size + 1, j, none⟩ (.slice (some ⟨g, o, none⟩) z z)) es k xs (j + 1) (upV v j (.slice (some ⟨g, o, none⟩) z z))) := HV.out.cut (q := 0) hlt HU.out (by rw [HVJ.out]; rfl)
                    clear hln hbig
                    go_wp2
                    go_roundw
                    case rel => exact ⟨j + 1, by omega, by go_num, fun q hq => by
                      rcases Nat.lt_succ_iff_lt_or_eq.1 hq with h | h
                      · exact HQ.out q h
                      · rw [h, HZE.out, ← HNN.out]; omega, _, HV'.out⟩
                    case measure => simp [intOf]; omega
            · have hj8 : j = 8 := by omega
              subst hj8
              have HZ : Hid (cutB es k xs = true) := cutB_iff.2 ⟨HOK.out, hl8, fun p hp => (HQ.out p hp).1, fun p hp => (HQ.out p hp).2⟩
              have H1 : Hid (∀ p, p < 8 → (v p).oneCell' = true) := fun p hp => (HV.out.done p hp).one
              go_wp2_with (first | (refine wpA_load _ rfl 105 8 192 8 nilS _ rfl 75 Try.underlying105 Try.infoLn (w.heap.size + 1) 0 v rfl HV.out.ins ?_) | (refine wpA_store _ rfl rfl 105 8 192 nilS _ _ rfl Try.infoLn w.heap.size 0 nilS v H1.out rfl rfl HV.out.res ?_))
              refine bodyPost_ret (resA_cell Try.results110 Try.underlying105 Try.infoLn (by rfl) (by rfl) (HV.out.res.sets v)) rfl ?_
              rw [HZ.out]
              obtain ⟨r1, r2, r3⟩ := HV.out.fin (aV 8 v).toList
              exact ⟨v, rfl, fun _ => r1, r2, r3⟩
    · have HZ : Hid (cutB es len xs = false) := by
        cases hb : cutB es len xs with
        | false => exact rfl
        | true => exact absurd (hv.1.symm.trans (cutB_iff.1 hb).len) hm8
      have hmi : ((m : Int) != 8) = true := by simp; omega
      have hmi2 : ((m : Int) == 8) = false := by simp; omega
      have hlm : m ≤ maxLen := by omega
      clear ho hm8 hv
      go_enter Try.func110, Try.ntmps110
      go_wp2_with (first | (refine wpA_alloc _ rfl 105 8 192 nilS rfl Try.infoLn ?_))
      refine hT.mono ?_
      rintro e w1 ⟨rfl, hg1⟩
      have HV : Hid (Lst w w1 es 0 nilS) := Lst.start es hg1
      clear hg1 hT
      go_wp2_with (first | (refine wpA_build _ rfl rfl ?_) | (refine wpA_store _ rfl rfl 105 8 192 nilS _ _ rfl Try.infoLn w.heap.size 0 nilS nilS (fun _ _ => rfl) rfl rfl HV.out.res ?_))
      refine bodyPost_ret (resA_cell Try.results110 Try.underlying105 Try.infoLn (by rfl) (by rfl) (HV.out.res.sets nilS)) rfl ?_
      rw [HZ.out]
      exact ⟨nilS, rfl, (fun h => nomatch h), fun _ _ => rfl, below_grown HV.out.below (grown_setCells _ _ _ _) (Nat.le_refl _) HV.out.below.size⟩
end Go.Proofs.Ytacjpebifacclaa
