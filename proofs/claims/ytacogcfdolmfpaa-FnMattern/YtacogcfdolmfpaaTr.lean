/-
  Traces as plain lists: what is ahead of what, stamps, their order. No word of the model.
-/
namespace Go.Proofs.Ytacogcfdolmfpaa

structure Ev where
  n : Int
  k : Int
  m : Int
  deriving DecidableEq, Inhabited

def evAt (es : List Ev) (i : Nat) : Ev := es.getD i ⟨0, 0, 0⟩

/-- The first sending of a mail among the first k events. -/
def firstS (es : List Ev) (m : Int) : Nat → Option Nat
  | 0 => none
  | k + 1 => match firstS es m k with
    | some i => some i
    | none => if (evAt es k).k = 2 ∧ (evAt es k).m = m then some k else none
/-- The last event of a node among the first k events. -/
def lastB (es : List Ev) (n : Int) : Nat → Option Nat
  | 0 => none
  | k + 1 => if (evAt es k).n = n then some k else lastB es n k
def hasE (es : List Ev) (e : Ev) : Nat → Bool
  | 0 => false
  | k + 1 => hasE es e k || decide (evAt es k = e)
def ixI : Option Nat → Int
  | none => -1
  | some i => (i : Int)

def rangeB (x lo hi : Int) : Bool := decide (lo ≤ x) && decide (x ≤ hi)
def okE (es : List Ev) (i : Nat) : Bool :=
  rangeB (evAt es i).n 0 7 &&
    (if (evAt es i).k = 1 then decide ((evAt es i).m = 0)
     else if (evAt es i).k = 2 then rangeB (evAt es i).m 1 1000 && (firstS es (evAt es i).m i).isNone
     else if (evAt es i).k = 3 then
       (match firstS es (evAt es i).m i with
        | none => false
        | some s => decide ((evAt es s).n ≠ (evAt es i).n) && !hasE es (evAt es i) i)
     else false)
def allE (es : List Ev) : Nat → Bool
  | 0 => true
  | k + 1 => allE es k && okE es k
def okT (es : List Ev) (len : Nat) : Bool := decide (len ≤ 40) && allE es len

theorem firstS_some {es : List Ev} {m : Int} {k i : Nat} (h : firstS es m k = some i) : i < k ∧ (evAt es i).k = 2 ∧ (evAt es i).m = m := by
  induction k with
  | zero => simp [firstS] at h
  | succ k ih =>
    simp only [firstS] at h
    split at h
    · rename_i j hj
      simp at h; subst h
      have := ih hj
      exact ⟨by omega, this.2⟩
    · split at h
      · rename_i hc
        simp at h; subst h
        exact ⟨by omega, hc⟩
      · simp at h
theorem firstS_mono {es : List Ev} {m : Int} {k i : Nat} (h : firstS es m k = some i) : ∀ n, k ≤ n → firstS es m n = some i := by
  intro n hn
  induction n with
  | zero => have : k = 0 := by omega
            subst this; exact h
  | succ n ih =>
    by_cases e : k = n + 1
    · subst e; exact h
    · simp only [firstS, ih (by omega)]
theorem firstS_hit {es : List Ev} {m : Int} {k : Nat} (h0 : firstS es m k = none) (h : (evAt es k).k = 2 ∧ (evAt es k).m = m) {n : Nat} (hn : k < n) : firstS es m n = some k :=
  firstS_mono (k := k + 1) (by simp only [firstS, h0]; rw [if_pos h]) n hn
theorem firstS_miss {es : List Ev} {m : Int} {k : Nat} (h0 : firstS es m k = none) (h : ¬ ((evAt es k).k = 2 ∧ (evAt es k).m = m)) : firstS es m (k + 1) = none := by
  simp only [firstS, h0]; rw [if_neg h]
theorem lastB_some {es : List Ev} {n : Int} {k i : Nat} (h : lastB es n k = some i) : i < k ∧ (evAt es i).n = n ∧ ∀ j, i < j → j < k → (evAt es j).n ≠ n := by
  induction k with
  | zero => simp [lastB] at h
  | succ k ih =>
    simp only [lastB] at h
    split at h
    · rename_i hc
      simp at h; subst h
      exact ⟨by omega, hc, fun j h1 h2 => by omega⟩
    · rename_i hc
      obtain ⟨a, b, c⟩ := ih h
      refine ⟨by omega, b, fun j h1 h2 => ?_⟩
      by_cases e : j = k
      · subst e; exact hc
      · exact c j h1 (by omega)
theorem lastB_none {es : List Ev} {n : Int} {k : Nat} (h : lastB es n k = none) : ∀ j, j < k → (evAt es j).n ≠ n := by
  induction k with
  | zero => intro j hj; omega
  | succ k ih =>
    simp only [lastB] at h
    split at h
    · simp at h
    · rename_i hc
      intro j hj
      by_cases e : j = k
      · subst e; exact hc
      · exact ih h j (by omega)
theorem hasE_iff {es : List Ev} {e : Ev} {k : Nat} : hasE es e k = true ↔ ∃ j, j < k ∧ evAt es j = e := by
  induction k with
  | zero => simp [hasE]
  | succ k ih =>
    simp only [hasE, Bool.or_eq_true, ih, decide_eq_true_eq]
    constructor
    · rintro (⟨j, h, e⟩ | h)
      · exact ⟨j, by omega, e⟩
      · exact ⟨k, by omega, h⟩
    · rintro ⟨j, h, e⟩
      by_cases e' : j = k
      · subst e'; exact .inr e
      · exact .inl ⟨j, by omega, e⟩
theorem hasE_mono {es : List Ev} {e : Ev} {k n : Nat} (h : hasE es e k = true) (hn : k ≤ n) : hasE es e n = true := by
  rw [hasE_iff] at *
  obtain ⟨j, h1, h2⟩ := h
  exact ⟨j, by omega, h2⟩
theorem allE_iff {es : List Ev} {k : Nat} : allE es k = true ↔ ∀ j, j < k → okE es j = true := by
  induction k with
  | zero => simp [allE]
  | succ k ih =>
    simp only [allE, Bool.and_eq_true, ih]
    constructor
    · rintro ⟨h1, h2⟩ j hj
      by_cases e : j = k
      · subst e; exact h2
      · exact h1 j (by omega)
    · intro h; exact ⟨fun j hj => h j (by omega), h k (by omega)⟩
theorem allE_false {es : List Ev} {k n : Nat} (h : okE es k = false) (hk : k < n) : allE es n = false := by
  cases hc : allE es n with
  | false => rfl
  | true => rw [allE_iff.1 hc k hk] at h; cases h

/-- What the program asks of an event, given those ahead of it. -/
def mayB (es : List Ev) (i : Nat) : Bool :=
  if (evAt es i).n < 0 ∨ 7 < (evAt es i).n then false
  else if (evAt es i).k = 1 then decide ((evAt es i).m = 0)
  else if (evAt es i).m < 1 ∨ 1000 < (evAt es i).m then false
  else if (evAt es i).k = 2 then (firstS es (evAt es i).m i).isNone
  else if (evAt es i).k = 3 then
    (match firstS es (evAt es i).m i with
     | none => false
     | some s => decide ((evAt es s).n ≠ (evAt es i).n) && !hasE es (evAt es i) i)
  else false
theorem okE_mail {es : List Ev} {i : Nat} (h : okE es i = true) (h2 : (evAt es i).k = 2) : 1 ≤ (evAt es i).m ∧ (evAt es i).m ≤ 1000 := by
  unfold okE rangeB at h
  simp [h2] at h
  omega
theorem mayB_eq {es : List Ev} {i : Nat} (hall : allE es i = true) : mayB es i = okE es i := by
  unfold mayB okE rangeB
  by_cases h1 : (evAt es i).n < 0 ∨ 7 < (evAt es i).n
  · rw [if_pos h1]
    have : (decide (0 ≤ (evAt es i).n) && decide ((evAt es i).n ≤ 7)) = false := by
      rw [Bool.and_eq_false_iff]; simp; omega
    rw [this]; rfl
  · rw [if_neg h1]
    have : (decide (0 ≤ (evAt es i).n) && decide ((evAt es i).n ≤ 7)) = true := by
      rw [Bool.and_eq_true]; simp; omega
    rw [this, Bool.true_and]
    by_cases hk1 : (evAt es i).k = 1
    · rw [if_pos hk1, if_pos hk1]
    · rw [if_neg hk1, if_neg hk1]
      by_cases h2 : (evAt es i).m < 1 ∨ 1000 < (evAt es i).m
      · rw [if_pos h2]
        by_cases hk2 : (evAt es i).k = 2
        · rw [if_pos hk2]
          have : (decide (1 ≤ (evAt es i).m) && decide ((evAt es i).m ≤ 1000)) = false := by
            rw [Bool.and_eq_false_iff]; simp; omega
          rw [this]; rfl
        · rw [if_neg hk2]
          by_cases hk3 : (evAt es i).k = 3
          · rw [if_pos hk3]
            cases hf : firstS es (evAt es i).m i with
            | none => rfl
            | some s =>
              obtain ⟨a, b, c⟩ := firstS_some hf
              have := okE_mail (allE_iff.1 hall s a) b
              rw [c] at this; omega
          · rw [if_neg hk3]
      · rw [if_neg h2]
        have : (decide (1 ≤ (evAt es i).m) && decide ((evAt es i).m ≤ 1000)) = true := by
          rw [Bool.and_eq_true]; simp; omega
        rw [this, Bool.true_and]

/-- The events that event k goes on from. -/
def src (es : List Ev) (k : Nat) : List Nat :=
  (lastB es (evAt es k).n k).toList ++ (if (evAt es k).k = 3 then (firstS es (evAt es k).m k).toList else [])
theorem src_lt {es : List Ev} {k i : Nat} (h : i ∈ src es k) : i < k := by
  unfold src at h
  rw [List.mem_append] at h
  rcases h with h | h
  · rw [Option.mem_toList] at h
    exact (lastB_some h).1
  · split at h
    · rw [Option.mem_toList] at h
      exact (firstS_some h).1
    · simp at h

/-- Event i is ahead of event k. -/
inductive Anc (es : List Ev) : Nat → Nat → Prop
  | base {i k : Nat} : i ∈ src es k → Anc es i k
  | step {i j k : Nat} : Anc es i j → j ∈ src es k → Anc es i k
theorem Anc.lt {es : List Ev} {i k : Nat} (h : Anc es i k) : i < k := by
  induction h with
  | base h => exact src_lt h
  | step _ h ih => have := src_lt h; omega
theorem Anc.trans {es : List Ev} {i j k : Nat} (h : Anc es i j) (g : Anc es j k) : Anc es i k := by
  induction g with
  | base g => exact .step h g
  | step _ g ih => exact .step ih g
theorem Anc.cons {es : List Ev} {i j k : Nat} (h : i ∈ src es j) (g : Anc es j k) : Anc es i k := (Anc.base h).trans g
theorem anc_iff {es : List Ev} {i k : Nat} : Anc es i k ↔ ∃ j ∈ src es k, i = j ∨ Anc es i j := by
  constructor
  · intro h
    cases h with
    | base h => exact ⟨i, h, .inl rfl⟩
    | step h g => exact ⟨_, g, .inr h⟩
  · rintro ⟨j, hj, rfl | h⟩
    · exact .base hj
    · exact .step h hj
/-- A set that holds all sources of k and of its own members holds all that is ahead of k. -/
theorem anc_closed {es : List Ev} {S : Nat → Prop} {k : Nat} (h0 : ∀ i ∈ src es k, S i) (hS : ∀ x, S x → ∀ i ∈ src es x, S i) : ∀ i, Anc es i k → S i := by
  have key : ∀ j i, Anc es i j → (∀ x ∈ src es j, S x) → S i := by
    intro j i h
    induction h with
    | base h => exact fun hj => hj _ h
    | step _ h ih => exact fun hj => ih (hS _ (hj _ h))
  exact fun i h => key k i h h0

theorem anc_node {es : List Ev} {i k : Nat} (hlt : i < k) (hn : (evAt es i).n = (evAt es k).n) : Anc es i k := by
  induction k using Nat.strongRecOn with
  | ind k ih =>
    cases hl : lastB es (evAt es k).n k with
    | none => exact absurd hn (lastB_none hl i hlt)
    | some l =>
      obtain ⟨h1, h2, h3⟩ := lastB_some hl
      have hm : l ∈ src es k := by unfold src; rw [hl]; simp
      by_cases e : i = l
      · subst e; exact .base hm
      · have hil : i < l := by
          rcases Nat.lt_or_ge l i with h | h
          · exact absurd hn (h3 i h hlt)
          · omega
        exact .step (ih l h1 hil (by rw [h2]; exact hn)) hm

open Classical in
/-- The numbers of all that are ahead of event k, rising. -/
noncomputable def pastL (es : List Ev) (k : Nat) : List Nat := (List.range k).filter (fun i => decide (Anc es i k))
theorem mem_pastL {es : List Ev} {i k : Nat} : i ∈ pastL es k ↔ Anc es i k := by
  unfold pastL
  rw [List.mem_filter, List.mem_range, @decide_eq_true_eq _ (Classical.propDecidable _)]
  exact ⟨fun h => h.2, fun h => ⟨h.lt, h⟩⟩
theorem pastL_sorted (es : List Ev) (k : Nat) : (pastL es k).Pairwise (· < ·) := List.Pairwise.filter _ List.pairwise_lt_range
theorem sorted_ext : ∀ {l l' : List Nat}, l.Pairwise (· < ·) → l'.Pairwise (· < ·) → (∀ x, x ∈ l ↔ x ∈ l') → l = l'
  | [], [], _, _, _ => rfl
  | [], y :: ys, _, _, h => absurd ((h y).2 (by simp)) (by simp)
  | x :: xs, [], _, _, h => absurd ((h x).1 (by simp)) (by simp)
  | x :: xs, y :: ys, h1, h2, h => by
    rw [List.pairwise_cons] at h1 h2
    have hxy : x = y := by
      have a := (h x).1 (by simp)
      have b := (h y).2 (by simp)
      simp only [List.mem_cons] at a b
      rcases a with a | a
      · exact a
      · rcases b with b | b
        · exact b.symm
        · have := h1.1 y b; have := h2.1 x a; omega
    subst hxy
    refine congrArg _ (sorted_ext h1.2 h2.2 (fun z => ?_))
    constructor
    · intro hz
      have a := (h z).1 (by simp [hz])
      simp only [List.mem_cons] at a
      rcases a with a | a
      · have := h1.1 z hz; omega
      · exact a
    · intro hz
      have a := (h z).2 (by simp [hz])
      simp only [List.mem_cons] at a
      rcases a with a | a
      · have := h2.1 z hz; omega
      · exact a

/-- The stamps of the first k events. -/
def stL (es : List Ev) : Nat → List Int
  | 0 => []
  | k + 1 => stL es k ++ [(src es k).foldl (fun m i => max m ((stL es k).getD i 0)) 0 + 1]
def st (es : List Ev) (k : Nat) : Int := (stL es (k + 1)).getD k 0
theorem stL_len (es : List Ev) (k : Nat) : (stL es k).length = k := by
  induction k with
  | zero => rfl
  | succ k ih => simp [stL, ih]
theorem stL_get {es : List Ev} {n i : Nat} (h : i < n) : (stL es n).getD i 0 = st es i := by
  induction n with
  | zero => omega
  | succ n ih =>
    by_cases e : i = n
    · subst e; rfl
    · have : i < (stL es n).length := by rw [stL_len]; omega
      rw [← ih (by omega)]
      simp only [stL, List.getD_eq_getElem?_getD]
      rw [List.getElem?_append_left this]
theorem foldl_max_ge (f : Nat → Int) : ∀ (l : List Nat) (m : Int), m ≤ l.foldl (fun m i => max m (f i)) m ∧ ∀ i ∈ l, f i ≤ l.foldl (fun m i => max m (f i)) m
  | [], m => ⟨by simp, fun i hi => by simp at hi⟩
  | x :: l, m => by
    obtain ⟨a, b⟩ := foldl_max_ge f l (max m (f x))
    simp only [List.foldl_cons]
    refine ⟨by omega, fun i hi => ?_⟩
    rcases List.mem_cons.1 hi with rfl | h
    · omega
    · exact b i h
theorem st_eq (es : List Ev) (k : Nat) : st es k = (src es k).foldl (fun m i => max m (st es i)) 0 + 1 := by
  have h0 : st es k = (src es k).foldl (fun m i => max m ((stL es k).getD i 0)) 0 + 1 := by
    have : (stL es k).length = k := stL_len es k
    show (stL es k ++ [(src es k).foldl (fun m i => max m ((stL es k).getD i 0)) 0 + 1]).getD k 0 = _
    rw [List.getD_eq_getElem?_getD, List.getElem?_append_right (by omega), this, Nat.sub_self]
    rfl
  rw [h0]
  congr 1
  have : ∀ (l : List Nat) (m : Int), (∀ i ∈ l, i < k) → l.foldl (fun m i => max m ((stL es k).getD i 0)) m = l.foldl (fun m i => max m (st es i)) m := by
    intro l
    induction l with
    | nil => intro m _; rfl
    | cons x l ih =>
      intro m hl
      simp only [List.foldl_cons]
      rw [stL_get (hl x (by simp)), ih _ (fun i hi => hl i (by simp [hi]))]
  exact this _ _ (fun i hi => src_lt hi)
theorem st_pos (es : List Ev) (k : Nat) : 1 ≤ st es k := by
  rw [st_eq]
  have := (foldl_max_ge (st es) (src es k) 0).1
  omega
theorem st_le (es : List Ev) : ∀ k, st es k ≤ k + 1 := by
  intro k
  induction k using Nat.strongRecOn with
  | ind k ih =>
    rw [st_eq]
    have : ∀ (l : List Nat) (m : Int), m ≤ k → (∀ i ∈ l, i < k) → l.foldl (fun m i => max m (st es i)) m ≤ k := by
      intro l
      induction l with
      | nil => intro m hm _; simpa using hm
      | cons x l ih2 =>
        intro m hm hl
        simp only [List.foldl_cons]
        have := ih x (hl x (by simp))
        have hx := hl x (by simp)
        exact ih2 _ (by omega) (fun i hi => hl i (by simp [hi]))
    have := this (src es k) 0 (by omega) (fun i hi => src_lt hi)
    omega
theorem st_src {es : List Ev} {i k : Nat} (h : i ∈ src es k) : st es i < st es k := by
  rw [st_eq es k]
  have := (foldl_max_ge (st es) (src es k) 0).2 i h
  omega
theorem st_anc {es : List Ev} {i k : Nat} (h : Anc es i k) : st es i < st es k := by
  induction h with
  | base h => exact st_src h
  | step _ h ih => have := st_src h; omega

/-- Event i comes ahead of event k in the order. -/
def before (es : List Ev) (i k : Nat) : Bool := decide (st es i < st es k) || (decide (st es i = st es k) && decide ((evAt es i).n < (evAt es k).n))
theorem before_iff {es : List Ev} {i k : Nat} : before es i k = true ↔ st es i < st es k ∨ (st es i = st es k ∧ (evAt es i).n < (evAt es k).n) := by
  simp [before]
theorem before_irrefl (es : List Ev) (i : Nat) : before es i i = false := by simp [before]
theorem before_trans {es : List Ev} {i j k : Nat} (h : before es i j = true) (g : before es j k = true) : before es i k = true := by
  rw [before_iff] at *; omega
theorem before_total {es : List Ev} {i k : Nat} (h : before es i k = false) (g : before es k i = false) : i = k := by
  have h' : ¬ (st es i < st es k ∨ (st es i = st es k ∧ (evAt es i).n < (evAt es k).n)) := fun hc => by rw [before_iff.2 hc] at h; cases h
  have g' : ¬ (st es k < st es i ∨ (st es k = st es i ∧ (evAt es k).n < (evAt es i).n)) := fun hc => by rw [before_iff.2 hc] at g; cases g
  rcases Nat.lt_trichotomy i k with hl | hl | hl
  · by_cases hn : (evAt es i).n = (evAt es k).n
    · have := st_anc (anc_node hl hn); omega
    · omega
  · exact hl
  · by_cases hn : (evAt es k).n = (evAt es i).n
    · have := st_anc (anc_node hl hn); omega
    · omega
/-- The order of the first n events. -/
def IsOrder (es : List Ev) (n : Nat) (o : List Nat) : Prop := o.Perm (List.range n) ∧ o.Pairwise (fun i k => before es i k = true)
theorem order_unique : ∀ {es : List Ev} {l l' : List Nat}, l.Pairwise (fun i k => before es i k = true) → l'.Pairwise (fun i k => before es i k = true) → (∀ x, x ∈ l ↔ x ∈ l') → l = l'
  | _, [], [], _, _, _ => rfl
  | _, [], y :: ys, _, _, h => absurd ((h y).2 (by simp)) (by simp)
  | _, x :: xs, [], _, _, h => absurd ((h x).1 (by simp)) (by simp)
  | es, x :: xs, y :: ys, h1, h2, h => by
    rw [List.pairwise_cons] at h1 h2
    have hxy : x = y := by
      have a := (h x).1 (by simp)
      have b := (h y).2 (by simp)
      simp only [List.mem_cons] at a b
      rcases a with a | a
      · exact a
      · rcases b with b | b
        · exact b.symm
        · have c := before_trans (h1.1 y b) (h2.1 x a)
          rw [before_irrefl] at c; cases c
    subst hxy
    refine congrArg _ (order_unique h1.2 h2.2 (fun z => ?_))
    constructor
    · intro hz
      have a := (h z).1 (by simp [hz])
      simp only [List.mem_cons] at a
      rcases a with a | a
      · have := h1.1 z hz; rw [a, before_irrefl] at this; cases this
      · exact a
    · intro hz
      have a := (h z).2 (by simp [hz])
      simp only [List.mem_cons] at a
      rcases a with a | a
      · have := h2.1 z hz; rw [a, before_irrefl] at this; cases this
      · exact a
theorem IsOrder.unique {es : List Ev} {n : Nat} {o o' : List Nat} (h : IsOrder es n o) (h' : IsOrder es n o') : o = o' :=
  order_unique h.2 h'.2 (fun x => by rw [h.1.mem_iff, h'.1.mem_iff])
theorem IsOrder.length {es : List Ev} {n : Nat} {o : List Nat} (h : IsOrder es n o) : o.length = n := by simpa using h.1.length_eq
theorem IsOrder.lt {es : List Ev} {n : Nat} {o : List Nat} (h : IsOrder es n o) {x : Nat} (hx : x ∈ o) : x < n := by
  have := h.1.mem_iff.1 hx
  simpa using this
/-- One more event put where it belongs. -/
theorem IsOrder.put {es : List Ev} {n : Nat} {o : List Nat} (h : IsOrder es n o) {k : Nat} (hk : k ≤ o.length) (ha : ∀ j (hj : j < k), before es (o[j]'(by omega)) n = true)
    (hb : k < o.length → before es (o.getD k 0) n = false) : IsOrder es (n + 1) (o.take k ++ [n] ++ o.drop k) := by
  have hpw := h.2
  refine ⟨?_, ?_⟩
  · rw [List.range_succ]
    have h1 : (o.take k ++ [n] ++ o.drop k).Perm (n :: o) := by
      rw [List.append_assoc]
      refine (List.perm_append_comm_assoc _ _ _).trans ?_
      rw [List.take_append_drop]; exact List.Perm.refl _
    refine h1.trans ?_
    refine (List.Perm.cons n h.1).trans ?_
    exact (List.perm_append_singleton n (List.range n)).symm
  · have hd : ∀ x ∈ o.drop k, before es n x = true := by
      intro x hx
      have hkl : k < o.length := by
        rcases Nat.lt_or_ge k o.length with h | h
        · exact h
        · rw [List.drop_eq_nil_of_le h] at hx; simp at hx
      have hgk : o.getD k 0 = o[k] := by simp [hkl]
      have hb' := hb hkl
      rw [hgk] at hb'
      have hne : o[k] ≠ n := by
        have := h.lt (List.getElem_mem hkl); omega
      have hnk : before es n o[k] = true := by
        cases hc : before es n o[k] with
        | true => rfl
        | false => exact absurd (before_total hb' hc) hne
      rw [List.drop_eq_getElem_cons hkl] at hx
      rcases List.mem_cons.1 hx with rfl | hx
      · exact hnk
      · refine before_trans hnk ?_
        have := (List.pairwise_cons.1 (by rw [← List.drop_eq_getElem_cons hkl]; exact hpw.drop : (o[k] :: o.drop (k + 1)).Pairwise (fun i k => before es i k = true))).1
        exact this x hx
    have ht : ∀ x ∈ o.take k, before es x n = true := by
      intro x hx
      obtain ⟨j, hj, rfl⟩ := List.getElem_of_mem hx
      rw [List.getElem_take]
      have : j < k := by simp at hj; omega
      exact ha j this
    rw [List.append_assoc, List.pairwise_append]
    refine ⟨hpw.take, ?_, ?_⟩
    · rw [List.singleton_append, List.pairwise_cons]
      exact ⟨hd, hpw.drop⟩
    · intro x hx y hy
      rw [List.singleton_append, List.mem_cons] at hy
      rcases hy with rfl | hy
      · exact ht x hx
      · exact before_trans (ht x hx) (hd y hy)
/-- In the order, all that is ahead of an event stands ahead of it. -/
theorem IsOrder.ahead {es : List Ev} {n : Nat} {o : List Nat} (h : IsOrder es n o) {x i : Nat} (hx : x < o.length) (ha : Anc es i o[x]) : i ∈ o.take x := by
  have hlt := h.lt (List.getElem_mem hx)
  have hi : i ∈ o := h.1.mem_iff.2 (by have := ha.lt; simp; omega)
  obtain ⟨j, hj, rfl⟩ := List.getElem_of_mem hi
  have hs := st_anc ha
  have hjx : j < x := by
    rcases Nat.lt_trichotomy j x with h' | h' | h'
    · exact h'
    · subst h'; omega
    · have := List.pairwise_iff_getElem.1 h.2 x j hx hj h'
      rw [before_iff] at this; omega
  exact List.mem_take_iff_getElem.2 ⟨j, by omega, rfl⟩
theorem IsOrder.fresh {es : List Ev} {n : Nat} {o : List Nat} (h : IsOrder es n o) {x : Nat} (hx : x < o.length) : o[x] ∉ o.take x := by
  intro hm
  obtain ⟨j, hj, e⟩ := List.getElem_of_mem hm
  rw [List.getElem_take] at e
  have hj' : j < x := by simp at hj; omega
  have := List.pairwise_iff_getElem.1 h.2 j x (by omega) hx hj'
  rw [e, before_irrefl] at this; cases this
end Go.Proofs.Ytacogcfdolmfpaa
