/-
  Several texts in one: Tr Clk Cut.
-/
import Derived.Test.YtacjpebifacclaaGa
/-
  Traces as plain lists: what is ahead of what, stamps, their order. No word of the model.
-/
namespace Go.Proofs.Ytacjpebifacclaa

structure Ev where
  n : Int
  k : Int
  m : Int
  deriving DecidableEq, Inhabited

def evAt (es : List Ev) (i : Nat) : Ev := es.getD i ⟨0, 0, 0⟩

/-- The first sending of a mail among the first k events. -/
def firstS (es : List Ev) (m : Int) : Nat → Option Nat
  | 0 => none
  | k + 1 => match firstS es m k with
    | some i => some i
    | none => if (evAt es k).k = 2 ∧ (evAt es k).m = m then some k else none
/-- The last event of a node among the first k events. -/
def lastB (es : List Ev) (n : Int) : Nat → Option Nat
  | 0 => none
  | k + 1 => if (evAt es k).n = n then some k else lastB es n k
def hasE (es : List Ev) (e : Ev) : Nat → Bool
  | 0 => false
  | k + 1 => hasE es e k || decide (evAt es k = e)
def ixI : Option Nat → Int
  | none => -1
  | some i => (i : Int)

def rangeB (x lo hi : Int) : Bool := decide (lo ≤ x) && decide (x ≤ hi)
def okE (es : List Ev) (i : Nat) : Bool :=
  rangeB (evAt es i).n 0 7 &&
    (if (evAt es i).k = 1 then decide ((evAt es i).m = 0)
     else if (evAt es i).k = 2 then rangeB (evAt es i).m 1 1000 && (firstS es (evAt es i).m i).isNone
     else if (evAt es i).k = 3 then
       (match firstS es (evAt es i).m i with
        | none => false
        | some s => decide ((evAt es s).n ≠ (evAt es i).n) && !hasE es (evAt es i) i)
     else false)
def allE (es : List Ev) : Nat → Bool
  | 0 => true
  | k + 1 => allE es k && okE es k
def okT (es : List Ev) (len : Nat) : Bool := decide (len ≤ 40) && allE es len

theorem firstS_some {es : List Ev} {m : Int} {k i : Nat} (h : firstS es m k = some i) : i < k ∧ (evAt es i).k = 2 ∧ (evAt es i).m = m := by
  induction k with
  | zero => simp [firstS] at h
  | succ k ih =>
    simp only [firstS] at h
    split at h
    · rename_i j hj
      simp at h; subst h
      have := ih hj
      exact ⟨by omega, this.2⟩
    · split at h
      · rename_i hc
        simp at h; subst h
        exact ⟨by omega, hc⟩
      · simp at h
theorem firstS_mono {es : List Ev} {m : Int} {k i : Nat} (h : firstS es m k = some i) : ∀ n, k ≤ n → firstS es m n = some i := by
  intro n hn
  induction n with
  | zero => have : k = 0 := by omega
            subst this; exact h
  | succ n ih =>
    by_cases e : k = n + 1
    · subst e; exact h
    · simp only [firstS, ih (by omega)]
theorem firstS_hit {es : List Ev} {m : Int} {k : Nat} (h0 : firstS es m k = none) (h : (evAt es k).k = 2 ∧ (evAt es k).m = m) {n : Nat} (hn : k < n) : firstS es m n = some k :=
  firstS_mono (k := k + 1) (by simp only [firstS, h0]; rw [if_pos h]) n hn
theorem firstS_miss {es : List Ev} {m : Int} {k : Nat} (h0 : firstS es m k = none) (h : ¬ ((evAt es k).k = 2 ∧ (evAt es k).m = m)) : firstS es m (k + 1) = none := by
  simp only [firstS, h0]; rw [if_neg h]
theorem lastB_some {es : List Ev} {n : Int} {k i : Nat} (h : lastB es n k = some i) : i < k ∧ (evAt es i).n = n ∧ ∀ j, i < j → j < k → (evAt es j).n ≠ n := by
  induction k with
  | zero => simp [lastB] at h
  | succ k ih =>
    simp only [lastB] at h
    split at h
    · rename_i hc
      simp at h; subst h
      exact ⟨by omega, hc, fun j h1 h2 => by omega⟩
    · rename_i hc
      obtain ⟨a, b, c⟩ := ih h
      refine ⟨by omega, b, fun j h1 h2 => ?_⟩
      by_cases e : j = k
      · subst e; exact hc
      · exact c j h1 (by omega)
theorem lastB_none {es : List Ev} {n : Int} {k : Nat} (h : lastB es n k = none) : ∀ j, j < k → (evAt es j).n ≠ n := by
  induction k with
  | zero => intro j hj; omega
  | succ k ih =>
    simp only [lastB] at h
    split at h
    · simp at h
    · rename_i hc
      intro j hj
      by_cases e : j = k
      · subst e; exact hc
      · exact ih h j (by omega)
theorem hasE_iff {es : List Ev} {e : Ev} {k : Nat} : hasE es e k = true ↔ ∃ j, j < k ∧ evAt es j = e := by
  induction k with
  | zero => simp [hasE]
  | succ k ih =>
    simp only [hasE, Bool.or_eq_true, ih, decide_eq_true_eq]
    constructor
    · rintro (⟨j, h, e⟩ | h)
      · exact ⟨j, by omega, e⟩
      · exact ⟨k, by omega, h⟩
    · rintro ⟨j, h, e⟩
      by_cases e' : j = k
      · subst e'; exact .inr e
      · exact .inl ⟨j, by omega, e⟩
theorem hasE_mono {es : List Ev} {e : Ev} {k n : Nat} (h : hasE es e k = true) (hn : k ≤ n) : hasE es e n = true := by
  rw [hasE_iff] at *
  obtain ⟨j, h1, h2⟩ := h
  exact ⟨j, by omega, h2⟩
theorem allE_iff {es : List Ev} {k : Nat} : allE es k = true ↔ ∀ j, j < k → okE es j = true := by
  induction k with
  | zero => simp [allE]
  | succ k ih =>
    simp only [allE, Bool.and_eq_true, ih]
    constructor
    · rintro ⟨h1, h2⟩ j hj
      by_cases e : j = k
      · subst e; exact h2
      · exact h1 j (by omega)
    · intro h; exact ⟨fun j hj => h j (by omega), h k (by omega)⟩
theorem allE_false {es : List Ev} {k n : Nat} (h : okE es k = false) (hk : k < n) : allE es n = false := by
  cases hc : allE es n with
  | false => rfl
  | true => rw [allE_iff.1 hc k hk] at h; cases h

/-- What the program asks of an event, given those ahead of it. -/
def mayB (es : List Ev) (i : Nat) : Bool :=
  if (evAt es i).n < 0 ∨ 7 < (evAt es i).n then false
  else if (evAt es i).k = 1 then decide ((evAt es i).m = 0)
  else if (evAt es i).m < 1 ∨ 1000 < (evAt es i).m then false
  else if (evAt es i).k = 2 then (firstS es (evAt es i).m i).isNone
  else if (evAt es i).k = 3 then
    (match firstS es (evAt es i).m i with
     | none => false
     | some s => decide ((evAt es s).n ≠ (evAt es i).n) && !hasE es (evAt es i) i)
  else false
theorem okE_mail {es : List Ev} {i : Nat} (h : okE es i = true) (h2 : (evAt es i).k = 2) : 1 ≤ (evAt es i).m ∧ (evAt es i).m ≤ 1000 := by
  unfold okE rangeB at h
  simp [h2] at h
  omega
theorem mayB_eq {es : List Ev} {i : Nat} (hall : allE es i = true) : mayB es i = okE es i := by
  unfold mayB okE rangeB
  by_cases h1 : (evAt es i).n < 0 ∨ 7 < (evAt es i).n
  · rw [if_pos h1]
    have : (decide (0 ≤ (evAt es i).n) && decide ((evAt es i).n ≤ 7)) = false := by
      rw [Bool.and_eq_false_iff]; simp; omega
    rw [this]; rfl
  · rw [if_neg h1]
    have : (decide (0 ≤ (evAt es i).n) && decide ((evAt es i).n ≤ 7)) = true := by
      rw [Bool.and_eq_true]; simp; omega
    rw [this, Bool.true_and]
    by_cases hk1 : (evAt es i).k = 1
    · rw [if_pos hk1, if_pos hk1]
    · rw [if_neg hk1, if_neg hk1]
      by_cases h2 : (evAt es i).m < 1 ∨ 1000 < (evAt es i).m
      · rw [if_pos h2]
        by_cases hk2 : (evAt es i).k = 2
        · rw [if_pos hk2]
          have : (decide (1 ≤ (evAt es i).m) && decide ((evAt es i).m ≤ 1000)) = false := by
            rw [Bool.and_eq_false_iff]; simp; omega
          rw [this]; rfl
        · rw [if_neg hk2]
          by_cases hk3 : (evAt es i).k = 3
          · rw [if_pos hk3]
            cases hf : firstS es (evAt es i).m i with
            | none => rfl
            | some s =>
              obtain ⟨a, b, c⟩ := firstS_some hf
              have := okE_mail (allE_iff.1 hall s a) b
              rw [c] at this; omega
          · rw [if_neg hk3]
      · rw [if_neg h2]
        have : (decide (1 ≤ (evAt es i).m) && decide ((evAt es i).m ≤ 1000)) = true := by
          rw [Bool.and_eq_true]; simp; omega
        rw [this, Bool.true_and]

/-- The events that event k goes on from. -/
def src (es : List Ev) (k : Nat) : List Nat :=
  (lastB es (evAt es k).n k).toList ++ (if (evAt es k).k = 3 then (firstS es (evAt es k).m k).toList else [])
theorem src_lt {es : List Ev} {k i : Nat} (h : i ∈ src es k) : i < k := by
  unfold src at h
  rw [List.mem_append] at h
  rcases h with h | h
  · rw [Option.mem_toList] at h
    exact (lastB_some h).1
  · split at h
    · rw [Option.mem_toList] at h
      exact (firstS_some h).1
    · simp at h

/-- Event i is ahead of event k. -/
inductive Anc (es : List Ev) : Nat → Nat → Prop
  | base {i k : Nat} : i ∈ src es k → Anc es i k
  | step {i j k : Nat} : Anc es i j → j ∈ src es k → Anc es i k
theorem Anc.lt {es : List Ev} {i k : Nat} (h : Anc es i k) : i < k := by
  induction h with
  | base h => exact src_lt h
  | step _ h ih => have := src_lt h; omega
theorem Anc.trans {es : List Ev} {i j k : Nat} (h : Anc es i j) (g : Anc es j k) : Anc es i k := by
  induction g with
  | base g => exact .step h g
  | step _ g ih => exact .step ih g
theorem Anc.cons {es : List Ev} {i j k : Nat} (h : i ∈ src es j) (g : Anc es j k) : Anc es i k := (Anc.base h).trans g
theorem anc_iff {es : List Ev} {i k : Nat} : Anc es i k ↔ ∃ j ∈ src es k, i = j ∨ Anc es i j := by
  constructor
  · intro h
    cases h with
    | base h => exact ⟨i, h, .inl rfl⟩
    | step h g => exact ⟨_, g, .inr h⟩
  · rintro ⟨j, hj, rfl | h⟩
    · exact .base hj
    · exact .step h hj
/-- A set that holds all sources of k and of its own members holds all that is ahead of k. -/
theorem anc_closed {es : List Ev} {S : Nat → Prop} {k : Nat} (h0 : ∀ i ∈ src es k, S i) (hS : ∀ x, S x → ∀ i ∈ src es x, S i) : ∀ i, Anc es i k → S i := by
  have key : ∀ j i, Anc es i j → (∀ x ∈ src es j, S x) → S i := by
    intro j i h
    induction h with
    | base h => exact fun hj => hj _ h
    | step _ h ih => exact fun hj => ih (hS _ (hj _ h))
  exact fun i h => key k i h h0

theorem anc_node {es : List Ev} {i k : Nat} (hlt : i < k) (hn : (evAt es i).n = (evAt es k).n) : Anc es i k := by
  induction k using Nat.strongRecOn with
  | ind k ih =>
    cases hl : lastB es (evAt es k).n k with
    | none => exact absurd hn (lastB_none hl i hlt)
    | some l =>
      obtain ⟨h1, h2, h3⟩ := lastB_some hl
      have hm : l ∈ src es k := by unfold src; rw [hl]; simp
      by_cases e : i = l
      · subst e; exact .base hm
      · have hil : i < l := by
          rcases Nat.lt_or_ge l i with h | h
          · exact absurd hn (h3 i h hlt)
          · omega
        exact .step (ih l h1 hil (by rw [h2]; exact hn)) hm

open Classical in
/-- The numbers of all that are ahead of event k, rising. -/
noncomputable def pastL (es : List Ev) (k : Nat) : List Nat := (List.range k).filter (fun i => decide (Anc es i k))
theorem mem_pastL {es : List Ev} {i k : Nat} : i ∈ pastL es k ↔ Anc es i k := by
  unfold pastL
  rw [List.mem_filter, List.mem_range, @decide_eq_true_eq _ (Classical.propDecidable _)]
  exact ⟨fun h => h.2, fun h => ⟨h.lt, h⟩⟩
theorem pastL_sorted (es : List Ev) (k : Nat) : (pastL es k).Pairwise (· < ·) := List.Pairwise.filter _ List.pairwise_lt_range
theorem sorted_ext : ∀ {l l' : List Nat}, l.Pairwise (· < ·) → l'.Pairwise (· < ·) → (∀ x, x ∈ l ↔ x ∈ l') → l = l'
  | [], [], _, _, _ => rfl
  | [], y :: ys, _, _, h => absurd ((h y).2 (by simp)) (by simp)
  | x :: xs, [], _, _, h => absurd ((h x).1 (by simp)) (by simp)
  | x :: xs, y :: ys, h1, h2, h => by
    rw [List.pairwise_cons] at h1 h2
    have hxy : x = y := by
      have a := (h x).1 (by simp)
      have b := (h y).2 (by simp)
      simp only [List.mem_cons] at a b
      rcases a with a | a
      · exact a
      · rcases b with b | b
        · exact b.symm
        · have := h1.1 y b; have := h2.1 x a; omega
    subst hxy
    refine congrArg _ (sorted_ext h1.2 h2.2 (fun z => ?_))
    constructor
    · intro hz
      have a := (h z).1 (by simp [hz])
      simp only [List.mem_cons] at a
      rcases a with a | a
      · have := h1.1 z hz; omega
      · exact a
    · intro hz
      have a := (h z).2 (by simp [hz])
      simp only [List.mem_cons] at a
      rcases a with a | a
      · have := h2.1 z hz; omega
      · exact a

/-- The stamps of the first k events. -/
def stL (es : List Ev) : Nat → List Int
  | 0 => []
  | k + 1 => stL es k ++ [(src es k).foldl (fun m i => max m ((stL es k).getD i 0)) 0 + 1]
def st (es : List Ev) (k : Nat) : Int := (stL es (k + 1)).getD k 0
theorem stL_len (es : List Ev) (k : Nat) : (stL es k).length = k := by
  induction k with
  | zero => rfl
  | succ k ih => simp [stL, ih]
theorem stL_get {es : List Ev} {n i : Nat} (h : i < n) : (stL es n).getD i 0 = st es i := by
  induction n with
  | zero => omega
  | succ n ih =>
    by_cases e : i = n
    · subst e; rfl
    · have : i < (stL es n).length := by rw [stL_len]; omega
      rw [← ih (by omega)]
      simp only [stL, List.getD_eq_getElem?_getD]
      rw [List.getElem?_append_left this]
theorem foldl_max_ge (f : Nat → Int) : ∀ (l : List Nat) (m : Int), m ≤ l.foldl (fun m i => max m (f i)) m ∧ ∀ i ∈ l, f i ≤ l.foldl (fun m i => max m (f i)) m
  | [], m => ⟨by simp, fun i hi => by simp at hi⟩
  | x :: l, m => by
    obtain ⟨a, b⟩ := foldl_max_ge f l (max m (f x))
    simp only [List.foldl_cons]
    refine ⟨by omega, fun i hi => ?_⟩
    rcases List.mem_cons.1 hi with rfl | h
    · omega
    · exact b i h
theorem st_eq (es : List Ev) (k : Nat) : st es k = (src es k).foldl (fun m i => max m (st es i)) 0 + 1 := by
  have h0 : st es k = (src es k).foldl (fun m i => max m ((stL es k).getD i 0)) 0 + 1 := by
    have : (stL es k).length = k := stL_len es k
    show (stL es k ++ [(src es k).foldl (fun m i => max m ((stL es k).getD i 0)) 0 + 1]).getD k 0 = _
    rw [List.getD_eq_getElem?_getD, List.getElem?_append_right (by omega), this, Nat.sub_self]
    rfl
  rw [h0]
  congr 1
  have : ∀ (l : List Nat) (m : Int), (∀ i ∈ l, i < k) → l.foldl (fun m i => max m ((stL es k).getD i 0)) m = l.foldl (fun m i => max m (st es i)) m := by
    intro l
    induction l with
    | nil => intro m _; rfl
    | cons x l ih =>
      intro m hl
      simp only [List.foldl_cons]
      rw [stL_get (hl x (by simp)), ih _ (fun i hi => hl i (by simp [hi]))]
  exact this _ _ (fun i hi => src_lt hi)
theorem st_pos (es : List Ev) (k : Nat) : 1 ≤ st es k := by
  rw [st_eq]
  have := (foldl_max_ge (st es) (src es k) 0).1
  omega
theorem st_le (es : List Ev) : ∀ k, st es k ≤ k + 1 := by
  intro k
  induction k using Nat.strongRecOn with
  | ind k ih =>
    rw [st_eq]
    have : ∀ (l : List Nat) (m : Int), m ≤ k → (∀ i ∈ l, i < k) → l.foldl (fun m i => max m (st es i)) m ≤ k := by
      intro l
      induction l with
      | nil => intro m hm _; simpa using hm
      | cons x l ih2 =>
        intro m hm hl
        simp only [List.foldl_cons]
        have := ih x (hl x (by simp))
        have hx := hl x (by simp)
        exact ih2 _ (by omega) (fun i hi => hl i (by simp [hi]))
    have := this (src es k) 0 (by omega) (fun i hi => src_lt hi)
    omega
theorem st_src {es : List Ev} {i k : Nat} (h : i ∈ src es k) : st es i < st es k := by
  rw [st_eq es k]
  have := (foldl_max_ge (st es) (src es k) 0).2 i h
  omega
theorem st_anc {es : List Ev} {i k : Nat} (h : Anc es i k) : st es i < st es k := by
  induction h with
  | base h => exact st_src h
  | step _ h ih => have := st_src h; omega

/-- Event i comes ahead of event k in the order. -/
def before (es : List Ev) (i k : Nat) : Bool := decide (st es i < st es k) || (decide (st es i = st es k) && decide ((evAt es i).n < (evAt es k).n))
theorem before_iff {es : List Ev} {i k : Nat} : before es i k = true ↔ st es i < st es k ∨ (st es i = st es k ∧ (evAt es i).n < (evAt es k).n) := by
  simp [before]
theorem before_irrefl (es : List Ev) (i : Nat) : before es i i = false := by simp [before]
theorem before_trans {es : List Ev} {i j k : Nat} (h : before es i j = true) (g : before es j k = true) : before es i k = true := by
  rw [before_iff] at *; omega
theorem before_total {es : List Ev} {i k : Nat} (h : before es i k = false) (g : before es k i = false) : i = k := by
  have h' : ¬ (st es i < st es k ∨ (st es i = st es k ∧ (evAt es i).n < (evAt es k).n)) := fun hc => by rw [before_iff.2 hc] at h; cases h
  have g' : ¬ (st es k < st es i ∨ (st es k = st es i ∧ (evAt es k).n < (evAt es i).n)) := fun hc => by rw [before_iff.2 hc] at g; cases g
  rcases Nat.lt_trichotomy i k with hl | hl | hl
  · by_cases hn : (evAt es i).n = (evAt es k).n
    · have := st_anc (anc_node hl hn); omega
    · omega
  · exact hl
  · by_cases hn : (evAt es k).n = (evAt es i).n
    · have := st_anc (anc_node hl hn); omega
    · omega
/-- The order of the first n events. -/
def IsOrder (es : List Ev) (n : Nat) (o : List Nat) : Prop := o.Perm (List.range n) ∧ o.Pairwise (fun i k => before es i k = true)
theorem order_unique : ∀ {es : List Ev} {l l' : List Nat}, l.Pairwise (fun i k => before es i k = true) → l'.Pairwise (fun i k => before es i k = true) → (∀ x, x ∈ l ↔ x ∈ l') → l = l'
  | _, [], [], _, _, _ => rfl
  | _, [], y :: ys, _, _, h => absurd ((h y).2 (by simp)) (by simp)
  | _, x :: xs, [], _, _, h => absurd ((h x).1 (by simp)) (by simp)
  | es, x :: xs, y :: ys, h1, h2, h => by
    rw [List.pairwise_cons] at h1 h2
    have hxy : x = y := by
      have a := (h x).1 (by simp)
      have b := (h y).2 (by simp)
      simp only [List.mem_cons] at a b
      rcases a with a | a
      · exact a
      · rcases b with b | b
        · exact b.symm
        · have c := before_trans (h1.1 y b) (h2.1 x a)
          rw [before_irrefl] at c; cases c
    subst hxy
    refine congrArg _ (order_unique h1.2 h2.2 (fun z => ?_))
    constructor
    · intro hz
      have a := (h z).1 (by simp [hz])
      simp only [List.mem_cons] at a
      rcases a with a | a
      · have := h1.1 z hz; rw [a, before_irrefl] at this; cases this
      · exact a
    · intro hz
      have a := (h z).2 (by simp [hz])
      simp only [List.mem_cons] at a
      rcases a with a | a
      · have := h2.1 z hz; rw [a, before_irrefl] at this; cases this
      · exact a
theorem IsOrder.unique {es : List Ev} {n : Nat} {o o' : List Nat} (h : IsOrder es n o) (h' : IsOrder es n o') : o = o' :=
  order_unique h.2 h'.2 (fun x => by rw [h.1.mem_iff, h'.1.mem_iff])
theorem IsOrder.length {es : List Ev} {n : Nat} {o : List Nat} (h : IsOrder es n o) : o.length = n := by simpa using h.1.length_eq
theorem IsOrder.lt {es : List Ev} {n : Nat} {o : List Nat} (h : IsOrder es n o) {x : Nat} (hx : x ∈ o) : x < n := by
  have := h.1.mem_iff.1 hx
  simpa using this
/-- One more event put where it belongs. -/
theorem IsOrder.put {es : List Ev} {n : Nat} {o : List Nat} (h : IsOrder es n o) {k : Nat} (hk : k ≤ o.length) (ha : ∀ j (hj : j < k), before es (o[j]'(by omega)) n = true)
    (hb : k < o.length → before es (o.getD k 0) n = false) : IsOrder es (n + 1) (o.take k ++ [n] ++ o.drop k) := by
  have hpw := h.2
  refine ⟨?_, ?_⟩
  · rw [List.range_succ]
    have h1 : (o.take k ++ [n] ++ o.drop k).Perm (n :: o) := by
      rw [List.append_assoc]
      refine (List.perm_append_comm_assoc _ _ _).trans ?_
      rw [List.take_append_drop]; exact List.Perm.refl _
    refine h1.trans ?_
    refine (List.Perm.cons n h.1).trans ?_
    exact (List.perm_append_singleton n (List.range n)).symm
  · have hd : ∀ x ∈ o.drop k, before es n x = true := by
      intro x hx
      have hkl : k < o.length := by
        rcases Nat.lt_or_ge k o.length with h | h
        · exact h
        · rw [List.drop_eq_nil_of_le h] at hx; simp at hx
      have hgk : o.getD k 0 = o[k] := by simp [hkl]
      have hb' := hb hkl
      rw [hgk] at hb'
      have hne : o[k] ≠ n := by
        have := h.lt (List.getElem_mem hkl); omega
      have hnk : before es n o[k] = true := by
        cases hc : before es n o[k] with
        | true => rfl
        | false => exact absurd (before_total hb' hc) hne
      rw [List.drop_eq_getElem_cons hkl] at hx
      rcases List.mem_cons.1 hx with rfl | hx
      · exact hnk
      · refine before_trans hnk ?_
        have := (List.pairwise_cons.1 (by rw [← List.drop_eq_getElem_cons hkl]; exact hpw.drop : (o[k] :: o.drop (k + 1)).Pairwise (fun i k => before es i k = true))).1
        exact this x hx
    have ht : ∀ x ∈ o.take k, before es x n = true := by
      intro x hx
      obtain ⟨j, hj, rfl⟩ := List.getElem_of_mem hx
      rw [List.getElem_take]
      have : j < k := by simp at hj; omega
      exact ha j this
    rw [List.append_assoc, List.pairwise_append]
    refine ⟨hpw.take, ?_, ?_⟩
    · rw [List.singleton_append, List.pairwise_cons]
      exact ⟨hd, hpw.drop⟩
    · intro x hx y hy
      rw [List.singleton_append, List.mem_cons] at hy
      rcases hy with rfl | hy
      · exact ht x hx
      · exact before_trans (ht x hx) (hd y hy)
/-- In the order, all that is ahead of an event stands ahead of it. -/
theorem IsOrder.ahead {es : List Ev} {n : Nat} {o : List Nat} (h : IsOrder es n o) {x i : Nat} (hx : x < o.length) (ha : Anc es i o[x]) : i ∈ o.take x := by
  have hlt := h.lt (List.getElem_mem hx)
  have hi : i ∈ o := h.1.mem_iff.2 (by have := ha.lt; simp; omega)
  obtain ⟨j, hj, rfl⟩ := List.getElem_of_mem hi
  have hs := st_anc ha
  have hjx : j < x := by
    rcases Nat.lt_trichotomy j x with h' | h' | h'
    · exact h'
    · subst h'; omega
    · have := List.pairwise_iff_getElem.1 h.2 x j hx hj h'
      rw [before_iff] at this; omega
  exact List.mem_take_iff_getElem.2 ⟨j, by omega, rfl⟩
theorem IsOrder.fresh {es : List Ev} {n : Nat} {o : List Nat} (h : IsOrder es n o) {x : Nat} (hx : x < o.length) : o[x] ∉ o.take x := by
  intro hm
  obtain ⟨j, hj, e⟩ := List.getElem_of_mem hm
  rw [List.getElem_take] at e
  have hj' : j < x := by simp at hj; omega
  have := List.pairwise_iff_getElem.1 h.2 j x (by omega) hx hj'
  rw [e, before_irrefl] at this; cases this
end Go.Proofs.Ytacjpebifacclaa

/-
  The clocks of a trace as plain lists, and what they tell of what is ahead of what (Fidge and Mattern). No word of the model.
-/
namespace Go.Proofs.Ytacjpebifacclaa

/-- The kind of what an event of a trace is. -/
theorem okE_rng {es : List Ev} {k : Nat} (h : okE es k = true) : 0 ≤ (evAt es k).n ∧ (evAt es k).n ≤ 7 := by
  unfold okE at h
  simp only [Bool.and_eq_true, rangeB, decide_eq_true_eq] at h
  exact h.1

/-- Eight noughts. -/
def zer8 : List Int := List.replicate 8 0
/-- The clock at a place that may be none. -/
def ckO (c : Nat → List Int) : Option Nat → List Int
  | none => zer8
  | some i => c i
/-- One more at place n. -/
def tick (v : List Int) (n : Int) : List Int := v.set n.toNat (el v n.toNat + 1)
/-- The event that is heard at event k. -/
def sndO (es : List Ev) (k : Nat) : Option Nat := if (evAt es k).k = 3 then firstS es (evAt es k).m k else none
/-- The clocks of the first k events. -/
def ckL (es : List Ev) : Nat → List (List Int)
  | 0 => []
  | k + 1 => ckL es k ++ [tick (jn max (ckO (fun i => (ckL es k).getD i []) (lastB es (evAt es k).n k)) (ckO (fun i => (ckL es k).getD i []) (sndO es k)) 8) (evAt es k).n]
def cl (es : List Ev) (k : Nat) : List Int := (ckL es (k + 1)).getD k []
theorem ckL_len (es : List Ev) (k : Nat) : (ckL es k).length = k := by
  induction k with
  | zero => rfl
  | succ k ih => simp [ckL, ih]
theorem ckL_get {es : List Ev} {n i : Nat} (h : i < n) : (ckL es n).getD i [] = cl es i := by
  induction n with
  | zero => omega
  | succ n ih =>
    by_cases e : i = n
    · subst e; rfl
    · have : i < (ckL es n).length := by rw [ckL_len]; omega
      rw [← ih (by omega)]
      simp only [ckL, List.getD_eq_getElem?_getD]
      rw [List.getElem?_append_left this]
theorem sndO_lt {es : List Ev} {k i : Nat} (h : sndO es k = some i) : i < k := by
  unfold sndO at h
  split at h
  · exact (firstS_some h).1
  · cases h
theorem cl_eq (es : List Ev) (k : Nat) : cl es k = tick (jn max (ckO (cl es) (lastB es (evAt es k).n k)) (ckO (cl es) (sndO es k)) 8) (evAt es k).n := by
  have h0 : cl es k = tick (jn max (ckO (fun i => (ckL es k).getD i []) (lastB es (evAt es k).n k)) (ckO (fun i => (ckL es k).getD i []) (sndO es k)) 8) (evAt es k).n := by
    have : (ckL es k).length = k := ckL_len es k
    show (ckL es k ++ [_]).getD k [] = _
    rw [List.getD_eq_getElem?_getD, List.getElem?_append_right (by omega), this, Nat.sub_self]
    rfl
  have hL : ckO (fun i => (ckL es k).getD i []) (lastB es (evAt es k).n k) = ckO (cl es) (lastB es (evAt es k).n k) := by
    cases hl : lastB es (evAt es k).n k with
    | none => rfl
    | some i => exact ckL_get (lastB_some hl).1
  have hS : ckO (fun i => (ckL es k).getD i []) (sndO es k) = ckO (cl es) (sndO es k) := by
    cases hl : sndO es k with
    | none => rfl
    | some i => exact ckL_get (sndO_lt hl)
  rw [h0, hL, hS]
theorem ckL_succ (es : List Ev) (k : Nat) : ckL es (k + 1) = ckL es k ++ [cl es k] := by
  have : (ckL es (k + 1)).getD k [] = cl es k := ckL_get (Nat.lt_succ_self k)
  have h1 : ∃ x, ckL es (k + 1) = ckL es k ++ [x] := ⟨_, rfl⟩
  obtain ⟨x, hx⟩ := h1
  rw [hx] at this ⊢
  rw [List.getD_eq_getElem?_getD, List.getElem?_append_right (by rw [ckL_len]; omega), ckL_len, Nat.sub_self] at this
  simp at this
  rw [this]
theorem tick_len (v : List Int) (n : Int) : (tick v n).length = v.length := by simp [tick]
theorem cl_len (es : List Ev) (k : Nat) : (cl es k).length = 8 := by rw [cl_eq, tick_len, jn_length]
theorem zer8_len : zer8.length = 8 := by simp [zer8]
theorem ckO_len (es : List Ev) (o : Option Nat) : (ckO (cl es) o).length = 8 := by
  cases o with
  | none => exact zer8_len
  | some i => exact cl_len es i
theorem el_zer8 (p : Nat) : el zer8 p = 0 := by
  simp only [el, zer8, List.getD_eq_getElem?_getD, List.getElem?_replicate]
  split <;> rfl
theorem el_tick {v : List Int} {n : Int} {p : Nat} (hp : p < v.length) : el (tick v n) p = el v p + (if n.toNat = p then 1 else 0) := by
  simp only [el, tick, List.getD_eq_getElem?_getD, List.getElem?_set]
  by_cases e : n.toNat = p
  · subst e
    rw [if_pos rfl, if_pos hp, if_pos rfl]
    rfl
  · rw [if_neg e, if_neg e]
    omega
theorem cl_el {es : List Ev} {k p : Nat} (hp : p < 8) : el (cl es k) p = max (el (ckO (cl es) (lastB es (evAt es k).n k)) p) (el (ckO (cl es) (sndO es k)) p) + (if (evAt es k).n.toNat = p then 1 else 0) := by
  rw [cl_eq, el_tick (by rw [jn_length]; exact hp), jn_el _ _ _ hp]
theorem cl_bound (es : List Ev) : ∀ k p, p < 8 → 0 ≤ el (cl es k) p ∧ el (cl es k) p ≤ k + 1 := by
  intro k
  induction k using Nat.strongRecOn with
  | ind k ih =>
    intro p hp
    rw [cl_el hp]
    have h1 : 0 ≤ el (ckO (cl es) (lastB es (evAt es k).n k)) p ∧ el (ckO (cl es) (lastB es (evAt es k).n k)) p ≤ k := by
      cases hl : lastB es (evAt es k).n k with
      | none => simp only [ckO, el_zer8]; omega
      | some i => have h := (lastB_some hl).1; have := ih i h p hp; simp only [ckO]; omega
    have h2 : 0 ≤ el (ckO (cl es) (sndO es k)) p ∧ el (ckO (cl es) (sndO es k)) p ≤ k := by
      cases hl : sndO es k with
      | none => simp only [ckO, el_zer8]; omega
      | some i => have h := sndO_lt hl; have := ih i h p hp; simp only [ckO]; omega
    split <;> omega

/-- How many of the first k events are of node p. -/
def num (es : List Ev) (p : Int) : Nat → Nat
  | 0 => 0
  | k + 1 => num es p k + (if (evAt es k).n = p then 1 else 0)
theorem num_mono {es : List Ev} {p : Int} {i k : Nat} (h : i ≤ k) : num es p i ≤ num es p k := by
  induction k with
  | zero => have : i = 0 := by omega
            subst this; exact Nat.le_refl _
  | succ k ih =>
    by_cases e : i = k + 1
    · subst e; exact Nat.le_refl _
    · have := ih (by omega)
      simp only [num]; omega
theorem num_flat {es : List Ev} {p : Int} {i k : Nat} (hik : i ≤ k) (h : ∀ j, i ≤ j → j < k → (evAt es j).n ≠ p) : num es p k = num es p i := by
  induction k with
  | zero => have : i = 0 := by omega
            subst this; rfl
  | succ k ih =>
    by_cases e : i = k + 1
    · subst e; rfl
    · simp only [num]
      rw [if_neg (h k (by omega) (by omega)), ih (by omega) (fun j h1 h2 => h j h1 (by omega))]
      omega
theorem num_at {es : List Ev} {p : Int} {k : Nat} (h : (evAt es k).n = p) : num es p (k + 1) = num es p k + 1 := by simp [num, h]
theorem src_eq (es : List Ev) (k : Nat) : src es k = (lastB es (evAt es k).n k).toList ++ (sndO es k).toList := by
  unfold src sndO
  split <;> rfl
/-- What event k knows: itself and what is ahead of it. -/
def Knows (es : List Ev) (j k : Nat) : Prop := j = k ∨ Anc es j k
theorem Knows.le {es : List Ev} {j k : Nat} (h : Knows es j k) : j ≤ k := by
  rcases h with rfl | h
  · exact Nat.le_refl _
  · exact Nat.le_of_lt h.lt
theorem Knows.trans {es : List Ev} {i j k : Nat} (h : Knows es i j) (g : Knows es j k) : Knows es i k := by
  rcases h with rfl | h
  · exact g
  · rcases g with rfl | g
    · exact .inr h
    · exact .inr (h.trans g)
theorem knows_src {es : List Ev} {s k : Nat} (h : s ∈ src es k) : Knows es s k := .inr (.base h)
/-- A clock's place p: as many of node p as the last one that is known. -/
structure Char (es : List Ev) (k p : Nat) : Prop where
  up : ∀ j, Knows es j k → (evAt es j).n = (p : Int) → (num es p (j + 1) : Int) ≤ el (cl es k) p
  at_ : el (cl es k) p = 0 ∨ ∃ j, Knows es j k ∧ (evAt es j).n = (p : Int) ∧ el (cl es k) p = num es p (j + 1)
theorem char_own {es : List Ev} {k : Nat} (ih : ∀ i, i < k → ∀ p, p < 8 → Char es i p ∧ ((evAt es i).n = (p : Int) → el (cl es i) p = num es p (i + 1))) {p : Nat} (hp : p < 8) (hn : (evAt es k).n = (p : Int)) :
    el (cl es k) p = num es p (k + 1) := by
  rw [cl_el hp, num_at hn, if_pos (by rw [hn]; rfl)]
  have h1 : el (ckO (cl es) (lastB es (evAt es k).n k)) p = num es p k := by
    cases hl : lastB es (evAt es k).n k with
    | none =>
      simp only [ckO, el_zer8]
      have := num_flat (es := es) (p := (p : Int)) (i := 0) (k := k) (by omega) (fun j _ hj => by rw [← hn]; exact lastB_none hl j hj)
      rw [this]; rfl
    | some i =>
      obtain ⟨a, b, c⟩ := lastB_some hl
      simp only [ckO]
      rw [(ih i a p hp).2 (by rw [b, hn])]
      have := num_flat (es := es) (p := (p : Int)) (i := i + 1) (k := k) (by omega) (fun j h1 h2 => by rw [← hn]; exact c j (by omega) h2)
      rw [this]
  have h2 : el (ckO (cl es) (sndO es k)) p ≤ num es p k := by
    cases hl : sndO es k with
    | none => simp only [ckO, el_zer8]; omega
    | some i =>
      have a := sndO_lt hl
      simp only [ckO]
      rcases ((ih i a p hp).1).at_ with h | ⟨j, hj, _, h⟩
      · rw [h]; omega
      · rw [h]
        have := num_mono (es := es) (p := (p : Int)) (i := j + 1) (k := k) (by have := hj.le; omega)
        omega
  rw [h1]
  omega
theorem char_all {es : List Ev} {n : Nat} (hok : ∀ j, j < n → 0 ≤ (evAt es j).n ∧ (evAt es j).n ≤ 7) : ∀ k, k < n → ∀ p, p < 8 → Char es k p ∧ ((evAt es k).n = (p : Int) → el (cl es k) p = num es p (k + 1)) := by
  intro k
  induction k using Nat.strongRecOn with
  | ind k ih0 =>
    intro hk p hp
    have ih : ∀ i, i < k → ∀ p, p < 8 → Char es i p ∧ ((evAt es i).n = (p : Int) → el (cl es i) p = num es p (i + 1)) := fun i hi => ih0 i hi (by omega)
    by_cases hn : (evAt es k).n = (p : Int)
    · have own := char_own ih hp hn
      refine ⟨⟨fun j hj _ => ?_, .inr ⟨k, .inl rfl, hn, own⟩⟩, fun _ => own⟩
      rw [own]
      exact Int.ofNat_le.2 (num_mono (by have := hj.le; omega))
    · refine ⟨?_, fun h => absurd h hn⟩
      have hr := hok k hk
      have e : el (cl es k) p = max (el (ckO (cl es) (lastB es (evAt es k).n k)) p) (el (ckO (cl es) (sndO es k)) p) := by
        rw [cl_el hp, if_neg (by omega)]
        omega
      have hsrc : ∀ o : Option Nat, (∀ s, o = some s → s ∈ src es k) → el (ckO (cl es) o) p = 0 ∨ ∃ j, Knows es j k ∧ (evAt es j).n = (p : Int) ∧ el (ckO (cl es) o) p = num es p (j + 1) := by
        intro o ho
        cases o with
        | none => exact .inl (el_zer8 p)
        | some s =>
          have hs := ho s rfl
          rcases ((ih s (src_lt hs) p hp).1).at_ with h | ⟨j, hj, h1, h2⟩
          · exact .inl h
          · exact .inr ⟨j, hj.trans (knows_src hs), h1, h2⟩
      have m1 : ∀ s, lastB es (evAt es k).n k = some s → s ∈ src es k := fun s h => by rw [src_eq, h]; simp
      have m2 : ∀ s, sndO es k = some s → s ∈ src es k := fun s h => by rw [src_eq, h]; simp
      constructor
      · intro j hj hjp
        rcases hj with rfl | hj
        · exact absurd hjp hn
        · obtain ⟨s, hs, hjs⟩ := anc_iff.1 hj
          have := ((ih s (src_lt hs) p hp).1).up j hjs hjp
          rw [e]
          rw [src_eq, List.mem_append, Option.mem_toList, Option.mem_toList] at hs
          rcases hs with hs | hs
          · rw [hs]; simp only [ckO]; omega
          · rw [hs]; simp only [ckO]; omega
      · rw [e]
        rcases Int.le_total (el (ckO (cl es) (lastB es (evAt es k).n k)) p) (el (ckO (cl es) (sndO es k)) p) with hle | hle
        · rw [Int.max_eq_right hle]; exact hsrc _ m2
        · rw [Int.max_eq_left hle]; exact hsrc _ m1
theorem okT_nodes {es : List Ev} {len : Nat} (hok : okT es len = true) : ∀ j, j < len → 0 ≤ (evAt es j).n ∧ (evAt es j).n ≤ 7 := by
  unfold okT at hok
  simp only [Bool.and_eq_true, decide_eq_true_eq] at hok
  exact fun j hj => okE_rng (allE_iff.1 hok.2 j hj)
/-- Who is known, by the number. -/
theorem knows_iff {es : List Ev} {len i k p : Nat} (hok : okT es len = true) (hk : k < len) (hi : i < len) (hp : (evAt es i).n = (p : Int)) : Knows es i k ↔ (num es p (i + 1) : Int) ≤ el (cl es k) p := by
  have hr := okT_nodes hok
  have hp8 : p < 8 := by have := hr i hi; omega
  obtain ⟨c, _⟩ := char_all hr k hk p hp8
  constructor
  · exact fun h => c.up i h hp
  · intro h
    have h1 := num_at hp
    rcases c.at_ with e | ⟨j, hj, hjp, e⟩
    · rw [e] at h; omega
    · rw [e] at h
      have hij : i ≤ j := by
        rcases Nat.lt_or_ge j i with hlt | hge
        · have := num_mono (es := es) (p := (p : Int)) (i := j + 1) (k := i) (by omega)
          omega
        · exact hge
      rcases Nat.lt_or_ge i j with hlt | hge
      · exact (Knows.trans (.inr (anc_node hlt (by rw [hp, hjp]))) hj)
      · have : i = j := by omega
        subst this; exact hj
theorem cl_own {es : List Ev} {len k p : Nat} (hok : okT es len = true) (hk : k < len) (hp : (evAt es k).n = (p : Int)) : el (cl es k) p = num es p (k + 1) := by
  have hr := okT_nodes hok
  exact (char_all hr k hk p (by have := hr k hk; omega)).2 hp
/-- A clock is under another one just where its event is known. -/
theorem under_iff {es : List Ev} {len i k : Nat} (hok : okT es len = true) (hi : i < len) (hk : k < len) : (∀ p, p < 8 → el (cl es i) p ≤ el (cl es k) p) ↔ Knows es i k := by
  have hr := okT_nodes hok
  constructor
  · intro h
    have hri := hr i hi
    have hp : (evAt es i).n = (((evAt es i).n.toNat : Nat) : Int) := by omega
    rw [knows_iff hok hk hi hp, ← cl_own hok hi hp]
    exact h _ (by omega)
  · intro h p hp
    obtain ⟨c, _⟩ := char_all hr i hi p hp
    obtain ⟨c', _⟩ := char_all hr k hk p hp
    rcases c.at_ with e | ⟨j, hj, hjp, e⟩
    · rw [e]; exact (cl_bound es k p hp).1
    · rw [e]; exact c'.up j (hj.trans h) hjp
/-- FIDGE and MATTERN. -/
theorem mattern {es : List Ev} {len i k : Nat} (hok : okT es len = true) (hi : i < len) (hk : k < len) : ((∀ p, p < 8 → el (cl es i) p ≤ el (cl es k) p) ∧ cl es i ≠ cl es k) ↔ Anc es i k := by
  rw [under_iff hok hi hk]
  constructor
  · rintro ⟨rfl | h, hne⟩
    · exact absurd rfl hne
    · exact h
  · intro h
    refine ⟨.inr h, fun e => ?_⟩
    have : Knows es k i := (under_iff hok hk hi).1 (fun p hp => by rw [e]; exact Int.le_refl _)
    have h1 := this.le
    have h2 := h.lt
    omega
/-- How many of node p an event knows. -/
theorem count_num (es : List Ev) (p : Int) (c K : Nat) : ((List.range K).filter (fun j => decide ((evAt es j).n = p ∧ num es p (j + 1) ≤ c))).length = min c (num es p K) := by
  induction K with
  | zero => simp [num]
  | succ K ih =>
    rw [List.range_succ, List.filter_append, List.length_append, ih]
    by_cases h : (evAt es K).n = p
    · have h1 := num_at h
      by_cases hc : num es p (K + 1) ≤ c
      · rw [List.filter_cons, if_pos (by simp [h, hc]), List.filter_nil]
        simp only [List.length_singleton]
        omega
      · rw [List.filter_cons, if_neg (by simp [h, hc]), List.filter_nil]
        simp only [List.length_nil]
        omega
    · rw [List.filter_cons, if_neg (by simp [h]), List.filter_nil]
      simp only [List.length_nil, num, if_neg h]
      omega
theorem cl_count {es : List Ev} {len k p : Nat} (hok : okT es len = true) (hk : k < len) (hp : p < 8) : (((pastL es k ++ [k]).filter (fun j => decide ((evAt es j).n = (p : Int)))).length : Int) = el (cl es k) p := by
  have hr := okT_nodes hok
  obtain ⟨c, _⟩ := char_all hr k hk p hp
  obtain ⟨cn, hcn⟩ : ∃ n : Nat, el (cl es k) p = n := ⟨(el (cl es k) p).toNat, by have := (cl_bound es k p hp).1; omega⟩
  have hle : cn ≤ num es p (k + 1) := by
    rcases c.at_ with e | ⟨j, hj, _, e⟩
    · omega
    · have := num_mono (es := es) (p := (p : Int)) (i := j + 1) (k := k + 1) (by have := hj.le; omega)
      omega
  have hs : (pastL es k ++ [k]).filter (fun j => decide ((evAt es j).n = (p : Int))) = (List.range (k + 1)).filter (fun j => decide ((evAt es j).n = (p : Int) ∧ num es p (j + 1) ≤ cn)) := by
    refine sorted_ext ?_ (List.Pairwise.filter _ List.pairwise_lt_range) ?_
    · refine List.Pairwise.filter _ ?_
      rw [List.pairwise_append]
      exact ⟨pastL_sorted es k, by simp, fun a ha b hb => by rw [List.mem_singleton] at hb; subst hb; exact (mem_pastL.1 ha).lt⟩
    · intro x
      simp only [List.mem_filter, List.mem_append, List.mem_singleton, decide_eq_true_eq, List.mem_range, mem_pastL]
      constructor
      · rintro ⟨h, hx⟩
        have hkx : Knows es x k := h.symm.imp id id
        have := hkx.le
        refine ⟨by omega, hx, ?_⟩
        have := (knows_iff hok hk (by omega) hx).1 hkx
        omega
      · rintro ⟨h, hx, h2⟩
        have : Knows es x k := (knows_iff hok hk (by omega) hx).2 (by omega)
        exact ⟨this.symm.imp id id, hx⟩
  rw [hs, count_num, hcn]
  omega
end Go.Proofs.Ytacjpebifacclaa

/-
  Cuts of a trace as plain lists: what is in one, which are consistent, the greatest under one and the least above it; joins, meets and clocks. No word of the model.
-/
namespace Go.Proofs.Ytacjpebifacclaa
set_option linter.unusedVariables false

theorem el_set8 {c : List Int} {p q : Nat} {v : Int} (hp : p < c.length) : el (c.set p v) q = if p = q then v else el c q := by
  simp only [el, List.getD_eq_getElem?_getD, List.getElem?_set]
  by_cases h : p = q
  · subst h; simp [hp]
  · simp [h]
/-- How many events each node has. -/
def allL (es : List Ev) (n : Nat) : List Int := (List.range 8).map (fun (p : Nat) => ((num es (p : Int) n : Nat) : Int))
theorem allL_len (es : List Ev) (n : Nat) : (allL es n).length = 8 := by simp [allL]
theorem allL_el {es : List Ev} {n p : Nat} (h : p < 8) : el (allL es n) p = (num es (p : Int) n : Nat) := by simp [allL, el, h]
theorem num_leK (es : List Ev) (p : Int) (k : Nat) : num es p k ≤ k := by
  induction k with
  | zero => exact Nat.le_refl _
  | succ k ih => simp only [num]; split <;> omega
/-- A cut of a trace, consistent or not. -/
structure IsCut (es : List Ev) (n : Nat) (c : List Int) : Prop where
  ok : okT es n = true
  len : c.length = 8
  lo : ∀ p, p < 8 → 0 ≤ el c p
  hi : ∀ p : Nat, p < 8 → el c p ≤ (num es (p : Int) n : Nat)
theorem IsCut.le40 {es : List Ev} {n : Nat} {c : List Int} (h : IsCut es n c) : n ≤ 40 := by
  have := h.ok
  unfold okT at this
  simp only [Bool.and_eq_true, decide_eq_true_eq] at this
  exact this.1
/-- How many events of its node stand ahead of event k. -/
def rankN (es : List Ev) (k : Nat) : Nat := num es (evAt es k).n k
/-- Is event k in the cut? -/
def inC (es : List Ev) (c : List Int) (k : Nat) : Bool := decide (((rankN es k : Nat) : Int) < el c (evAt es k).n.toNat)
/-- The sending that is heard at event k. -/
def sOf (es : List Ev) (k : Nat) : Nat := (firstS es (evAt es k).m k).getD 0
/-- A hearing in the cut without its sending. -/
def badB (es : List Ev) (c : List Int) (k : Nat) : Bool := decide ((evAt es k).k = 3) && inC es c k && !inC es c (sOf es k)
def firstBad (es : List Ev) (c : List Int) : Nat → Option Nat
  | 0 => none
  | k + 1 => match firstBad es c k with
    | some i => some i
    | none => if badB es c k = true then some k else none
theorem firstBad_some {es : List Ev} {c : List Int} {n k : Nat} (h : firstBad es c n = some k) : k < n ∧ badB es c k = true := by
  induction n with
  | zero => cases h
  | succ n ih =>
    unfold firstBad at h
    cases hb : firstBad es c n with
    | some i =>
      rw [hb] at h
      cases h
      have := ih hb
      exact ⟨by omega, this.2⟩
    | none =>
      rw [hb] at h
      simp only at h
      split at h
      · cases h; exact ⟨by omega, by assumption⟩
      · cases h
theorem firstBad_none {es : List Ev} {c : List Int} {n : Nat} : firstBad es c n = none ↔ ∀ k, k < n → badB es c k = false := by
  induction n with
  | zero => exact ⟨fun _ k hk => by omega, fun _ => rfl⟩
  | succ n ih =>
    unfold firstBad
    cases hb : firstBad es c n with
    | some i =>
      simp only [reduceCtorEq, false_iff]
      intro h
      obtain ⟨h1, h2⟩ := firstBad_some hb
      rw [h i (by omega)] at h2
      cases h2
    | none =>
      simp only
      constructor
      · intro h k hk
        rcases Nat.lt_succ_iff_lt_or_eq.1 hk with h1 | h1
        · exact (ih.1 hb) k h1
        · subst h1
          split at h
          · cases h
          · rename_i hne; simpa using hne
      · intro h
        rw [if_neg (by rw [h n (by omega)]; simp)]
theorem firstBad_hit {es : List Ev} {c : List Int} {k : Nat} (h0 : firstBad es c k = none) (h : badB es c k = true) : ∀ {n : Nat}, k < n → firstBad es c n = some k := by
  intro n hn
  induction n with
  | zero => omega
  | succ n ih =>
    unfold firstBad
    by_cases e : k = n
    · subst e
      rw [h0]
      simp only [h, if_true]
    · rw [ih (by omega)]
/-- Nothing crosses it backwards. -/
def Cons (es : List Ev) (n : Nat) (c : List Int) : Prop := ∀ k, k < n → (evAt es k).k = 3 → inC es c k = true → inC es c (sOf es k) = true
theorem cons_iff {es : List Ev} {n : Nat} {c : List Int} : firstBad es c n = none ↔ Cons es n c := by
  rw [firstBad_none]
  unfold badB Cons
  constructor
  · intro h k hk h3 hi
    have := h k hk
    simpa [h3, hi] using this
  · intro h k hk
    by_cases h3 : (evAt es k).k = 3
    · cases hi : inC es c k
      · simp
      · simp [h k hk h3 hi]
    · simp [h3]
theorem inC_iff {es : List Ev} {c : List Int} {k p : Nat} (hp : (evAt es k).n = (p : Int)) : inC es c k = true ↔ ((num es (p : Int) k : Nat) : Int) < el c p := by
  unfold inC rankN
  rw [decide_eq_true_eq, hp]
  rfl
/-- The sending of a hearing of a trace. -/
theorem sOf_at {es : List Ev} {n k : Nat} (hok : okT es n = true) (hk : k < n) (h3 : (evAt es k).k = 3) : firstS es (evAt es k).m k = some (sOf es k) ∧ sOf es k < k ∧ sOf es k ∈ src es k := by
  have hE : okE es k = true := by
    unfold okT at hok
    simp only [Bool.and_eq_true, decide_eq_true_eq] at hok
    exact allE_iff.1 hok.2 k hk
  have hne : firstS es (evAt es k).m k ≠ none := by
    intro hn
    unfold okE at hE
    rw [if_neg (by omega), if_neg (by omega), if_pos h3, hn] at hE
    simp at hE
  obtain ⟨s, hs⟩ := Option.ne_none_iff_exists'.1 hne
  have e : sOf es k = s := by unfold sOf; rw [hs]; rfl
  rw [e]
  refine ⟨hs, (firstS_some hs).1, ?_⟩
  rw [src_eq]
  unfold sndO
  rw [if_pos h3, hs]
  simp
theorem node8 {es : List Ev} {n k : Nat} (hok : okT es n = true) (hk : k < n) : ∃ p : Nat, (evAt es k).n = (p : Int) ∧ p < 8 := by
  have := okT_nodes hok k hk
  exact ⟨(evAt es k).n.toNat, by omega, by omega⟩
/-- A greater cut has what a less one has. -/
theorem inC_mono {es : List Ev} {n k : Nat} {c d : List Int} (hok : okT es n = true) (hk : k < n) (h : ∀ p, p < 8 → el c p ≤ el d p) (hi : inC es c k = true) : inC es d k = true := by
  obtain ⟨p, hp, h8⟩ := node8 hok hk
  rw [inC_iff hp] at hi ⊢
  have := h p h8
  omega

/-- The greatest consistent cut under a. -/
structure IsWithin (es : List Ev) (n : Nat) (a r : List Int) : Prop where
  cut : IsCut es n r
  cons : Cons es n r
  under : ∀ p, p < 8 → el r p ≤ el a p
  great : ∀ c, IsCut es n c → Cons es n c → (∀ p, p < 8 → el c p ≤ el a p) → ∀ p, p < 8 → el c p ≤ el r p
/-- The least consistent cut above a. -/
structure IsAround (es : List Ev) (n : Nat) (a r : List Int) : Prop where
  cut : IsCut es n r
  cons : Cons es n r
  above : ∀ p, p < 8 → el a p ≤ el r p
  least : ∀ c, IsCut es n c → Cons es n c → (∀ p, p < 8 → el a p ≤ el c p) → ∀ p, p < 8 → el r p ≤ el c p
theorem eq8 {c d : List Int} (hc : c.length = 8) (hd : d.length = 8) (h : ∀ p, p < 8 → el c p = el d p) : c = d := by
  refine List.ext_getElem (by omega) (fun i h1 h2 => ?_)
  have := h i (by omega)
  simp only [el, List.getD_eq_getElem?_getD, List.getElem?_eq_getElem h1, List.getElem?_eq_getElem h2, Option.getD_some] at this
  exact this
theorem IsWithin.unique {es : List Ev} {n : Nat} {a r s : List Int} (h : IsWithin es n a r) (k : IsWithin es n a s) : r = s :=
  eq8 h.cut.len k.cut.len (fun p hp => by
    have h1 := k.great r h.cut h.cons h.under p hp
    have h2 := h.great s k.cut k.cons k.under p hp
    omega)
theorem IsAround.unique {es : List Ev} {n : Nat} {a r s : List Int} (h : IsAround es n a r) (k : IsAround es n a s) : r = s :=
  eq8 h.cut.len k.cut.len (fun p hp => by
    have h1 := k.least r h.cut h.cons h.above p hp
    have h2 := h.least s k.cut k.cons k.above p hp
    omega)
/-- How far the greatest one is sought. -/
structure WInv (es : List Ev) (n : Nat) (a c : List Int) : Prop where
  cut : IsCut es n c
  under : ∀ p, p < 8 → el c p ≤ el a p
  great : ∀ d, IsCut es n d → Cons es n d → (∀ p, p < 8 → el d p ≤ el a p) → ∀ p, p < 8 → el d p ≤ el c p
theorem WInv.start {es : List Ev} {n : Nat} {a : List Int} (h : IsCut es n a) : WInv es n a a := ⟨h, fun _ _ => Int.le_refl _, fun _ _ _ h => h⟩
theorem WInv.done {es : List Ev} {n : Nat} {a c : List Int} (h : WInv es n a c) (hb : firstBad es c n = none) : IsWithin es n a c := ⟨h.cut, cons_iff.1 hb, h.under, h.great⟩
theorem bad_parts {es : List Ev} {c : List Int} {k : Nat} (h : badB es c k = true) : (evAt es k).k = 3 ∧ inC es c k = true ∧ inC es c (sOf es k) = false := by
  unfold badB at h
  simp only [Bool.and_eq_true, decide_eq_true_eq, Bool.not_eq_true'] at h
  exact ⟨h.1.1, h.1.2, h.2⟩
theorem WInv.step {es : List Ev} {n k p : Nat} {a c : List Int} (h : WInv es n a c) (hk : k < n) (hb : badB es c k = true) (hp : (evAt es k).n = (p : Int)) : WInv es n a (c.set p ((rankN es k : Nat) : Int)) := by
  have hok := h.cut.ok
  obtain ⟨h3, hi, hs⟩ := bad_parts hb
  obtain ⟨p', hp', h8⟩ := node8 hok hk
  have e : p' = p := by rw [hp] at hp'; omega
  subst e
  have hl := h.cut.len
  have hr : rankN es k = num es (p' : Int) k := by unfold rankN; rw [hp]
  rw [inC_iff hp] at hi
  have hel : ∀ q, el (c.set p' ((rankN es k : Nat) : Int)) q = if p' = q then ((rankN es k : Nat) : Int) else el c q := fun q => el_set8 (by omega)
  have hle : ∀ q, q < 8 → el (c.set p' ((rankN es k : Nat) : Int)) q ≤ el c q := fun q hq => by
    rw [hel]
    split
    · rename_i e; subst e; rw [hr]; omega
    · exact Int.le_refl _
  refine ⟨⟨hok, by rw [List.length_set]; exact hl, fun q hq => ?_, fun q hq => Int.le_trans (hle q hq) (h.cut.hi q hq)⟩, fun q hq => Int.le_trans (hle q hq) (h.under q hq), fun d hd hcons hda q hq => ?_⟩
  · rw [hel]
    split
    · omega
    · exact h.cut.lo q hq
  · rw [hel]
    have hdc := h.great d hd hcons hda
    split
    · rename_i e
      subst e
      rw [hr]
      rcases Int.lt_or_le ((num es (p' : Int) k : Nat) : Int) (el d p') with hlt | hge
      · have hin : inC es d k = true := (inC_iff hp).2 hlt
        have hds := hcons k hk h3 hin
        obtain ⟨_, hsk, _⟩ := sOf_at hok hk h3
        rw [inC_mono hok (by omega) hdc hds] at hs
        cases hs
      · exact hge
    · exact hdc q hq
/-- How far the least one is sought. -/
structure AInv (es : List Ev) (n : Nat) (a c : List Int) : Prop where
  cut : IsCut es n c
  above : ∀ p, p < 8 → el a p ≤ el c p
  least : ∀ d, IsCut es n d → Cons es n d → (∀ p, p < 8 → el a p ≤ el d p) → ∀ p, p < 8 → el c p ≤ el d p
theorem AInv.start {es : List Ev} {n : Nat} {a : List Int} (h : IsCut es n a) : AInv es n a a := ⟨h, fun _ _ => Int.le_refl _, fun _ _ _ h => h⟩
theorem AInv.done {es : List Ev} {n : Nat} {a c : List Int} (h : AInv es n a c) (hb : firstBad es c n = none) : IsAround es n a c := ⟨h.cut, cons_iff.1 hb, h.above, h.least⟩
theorem AInv.step {es : List Ev} {n k p : Nat} {a c : List Int} (h : AInv es n a c) (hk : k < n) (hb : badB es c k = true) (hp : (evAt es (sOf es k)).n = (p : Int)) : AInv es n a (c.set p (((rankN es (sOf es k) : Nat) : Int) + 1)) := by
  have hok := h.cut.ok
  obtain ⟨h3, hi, hs⟩ := bad_parts hb
  obtain ⟨_, hsk, _⟩ := sOf_at hok hk h3
  have hsn : sOf es k < n := by omega
  obtain ⟨p', hp', h8⟩ := node8 hok hsn
  have e : p' = p := by rw [hp] at hp'; omega
  subst e
  have hl := h.cut.len
  have hr : rankN es (sOf es k) = num es (p' : Int) (sOf es k) := by unfold rankN; rw [hp]
  have hns : el c p' ≤ ((num es (p' : Int) (sOf es k) : Nat) : Int) := by
    rcases Int.lt_or_le ((num es (p' : Int) (sOf es k) : Nat) : Int) (el c p') with hlt | hge
    · rw [(inC_iff hp).2 hlt] at hs; cases hs
    · exact hge
  have hel : ∀ q, el (c.set p' (((rankN es (sOf es k) : Nat) : Int) + 1)) q = if p' = q then ((rankN es (sOf es k) : Nat) : Int) + 1 else el c q := fun q => el_set8 (by omega)
  have hle : ∀ q, q < 8 → el c q ≤ el (c.set p' (((rankN es (sOf es k) : Nat) : Int) + 1)) q := fun q hq => by
    rw [hel]
    split
    · rename_i e; subst e; rw [hr]; omega
    · exact Int.le_refl _
  refine ⟨⟨hok, by rw [List.length_set]; exact hl, fun q hq => Int.le_trans (h.cut.lo q hq) (hle q hq), fun q hq => ?_⟩, fun q hq => Int.le_trans (h.above q hq) (hle q hq), fun d hd hcons hda q hq => ?_⟩
  · rw [hel]
    split
    · rename_i e
      subst e
      rw [hr]
      have h1 := num_at hp
      have h2 := num_mono (es := es) (p := (p' : Int)) (i := sOf es k + 1) (k := n) (by omega)
      omega
    · exact h.cut.hi q hq
  · rw [hel]
    have hdc := h.least d hd hcons hda
    split
    · rename_i e
      subst e
      rw [hr]
      have hin : inC es d k = true := inC_mono hok hk hdc hi
      have hds := (inC_iff hp).1 (hcons k hk h3 hin)
      omega
    · exact hdc q hq
/-- All numbers of a cut together. -/
def tot (c : List Int) : Int := el c 0 + el c 1 + el c 2 + el c 3 + el c 4 + el c 5 + el c 6 + el c 7
theorem tot_def (c : List Int) : tot c = el c 0 + el c 1 + el c 2 + el c 3 + el c 4 + el c 5 + el c 6 + el c 7 := rfl
theorem tot_set {c : List Int} {p : Nat} {v : Int} (hl : c.length = 8) (hp : p < 8) : tot (c.set p v) = tot c - el c p + v := by
  have h : ∀ q, el (c.set p v) q = if p = q then v else el c q := fun q => el_set8 (by omega)
  unfold tot
  rw [h, h, h, h, h, h, h, h]
  match p, hp with
  | 0, _ => simp <;> omega
  | 1, _ => simp <;> omega
  | 2, _ => simp <;> omega
  | 3, _ => simp <;> omega
  | 4, _ => simp <;> omega
  | 5, _ => simp <;> omega
  | 6, _ => simp <;> omega
  | 7, _ => simp <;> omega
theorem IsCut.tots {es : List Ev} {n : Nat} {c : List Int} (h : IsCut es n c) : 0 ≤ tot c ∧ tot c ≤ 320 := by
  have h40 := h.le40
  have hb : ∀ p : Nat, p < 8 → 0 ≤ el c p ∧ el c p ≤ 40 := fun p hp => by
    have := h.lo p hp
    have := h.hi p hp
    have := num_leK es (p : Int) n
    omega
  have b0 := hb 0 (by omega)
  have b1 := hb 1 (by omega)
  have b2 := hb 2 (by omega)
  have b3 := hb 3 (by omega)
  have b4 := hb 4 (by omega)
  have b5 := hb 5 (by omega)
  have b6 := hb 6 (by omega)
  have b7 := hb 7 (by omega)
  rw [tot_def]
  omega
/-- Joins and meets. -/
theorem cons_join {es : List Ev} {n : Nat} {a b : List Int} (ha : IsCut es n a) (hb : IsCut es n b) (ca : Cons es n a) (cb : Cons es n b) : IsCut es n (jn max a b 8) ∧ Cons es n (jn max a b 8) := by
  have hok := ha.ok
  refine ⟨⟨hok, jn_length _ _ _ _, fun p hp => by rw [jn_el _ _ _ hp]; have := ha.lo p hp; omega, fun p hp => by rw [jn_el _ _ _ hp]; have := ha.hi p hp; have := hb.hi p hp; omega⟩, fun k hk h3 hi => ?_⟩
  obtain ⟨p, hp, h8⟩ := node8 hok hk
  obtain ⟨_, hsk, _⟩ := sOf_at hok hk h3
  rw [inC_iff hp, jn_el _ _ _ h8] at hi
  rcases Int.le_total (el a p) (el b p) with hle | hle
  · rw [Int.max_eq_right hle] at hi
    exact inC_mono hok (by omega) (fun q hq => by rw [jn_el _ _ _ hq]; omega) (cb k hk h3 ((inC_iff hp).2 hi))
  · rw [Int.max_eq_left hle] at hi
    exact inC_mono hok (by omega) (fun q hq => by rw [jn_el _ _ _ hq]; omega) (ca k hk h3 ((inC_iff hp).2 hi))
theorem cons_meet {es : List Ev} {n : Nat} {a b : List Int} (ha : IsCut es n a) (hb : IsCut es n b) (ca : Cons es n a) (cb : Cons es n b) : IsCut es n (jn min a b 8) ∧ Cons es n (jn min a b 8) := by
  have hok := ha.ok
  refine ⟨⟨hok, jn_length _ _ _ _, fun p hp => by rw [jn_el _ _ _ hp]; have := ha.lo p hp; have := hb.lo p hp; omega, fun p hp => by rw [jn_el _ _ _ hp]; have := ha.hi p hp; omega⟩, fun k hk h3 hi => ?_⟩
  obtain ⟨p, hp, h8⟩ := node8 hok hk
  obtain ⟨_, hsk, _⟩ := sOf_at hok hk h3
  obtain ⟨p', hp', h8'⟩ := node8 hok (k := sOf es k) (by omega)
  rw [inC_iff hp, jn_el _ _ _ h8] at hi
  have h1 := (inC_iff hp').1 (ca k hk h3 ((inC_iff hp).2 (by omega)))
  have h2 := (inC_iff hp').1 (cb k hk h3 ((inC_iff hp).2 (by omega)))
  rw [inC_iff hp', jn_el _ _ _ h8']
  omega
theorem cons_zero {es : List Ev} {n : Nat} (hok : okT es n = true) : IsCut es n zer8 ∧ Cons es n zer8 := by
  refine ⟨⟨hok, zer8_len, fun p _ => by rw [el_zer8]; omega, fun p _ => by rw [el_zer8]; omega⟩, fun k hk _ hi => ?_⟩
  obtain ⟨p, hp, h8⟩ := node8 hok hk
  rw [inC_iff hp, el_zer8] at hi
  omega
/-- Each event's clock is a consistent cut. -/
theorem cl_in {es : List Ev} {n i k : Nat} (hok : okT es n = true) (hi : i < n) (hk : k < n) : inC es (cl es i) k = true ↔ Knows es k i := by
  obtain ⟨p, hp, h8⟩ := node8 hok hk
  rw [inC_iff hp, knows_iff hok hi hk hp, num_at hp]
  omega
theorem cons_cl {es : List Ev} {n i : Nat} (hok : okT es n = true) (hi : i < n) : IsCut es n (cl es i) ∧ Cons es n (cl es i) := by
  have hr := okT_nodes hok
  refine ⟨⟨hok, cl_len es i, fun p hp => (cl_bound es i p hp).1, fun p hp => ?_⟩, fun k hk h3 hik => ?_⟩
  · rcases ((char_all hr i hi p hp).1).at_ with e | ⟨j, hj, _, e⟩
    · rw [e]; omega
    · rw [e]
      exact Int.ofNat_le.2 (num_mono (by have := hj.le; omega))
  · obtain ⟨_, hsk, hss⟩ := sOf_at hok hk h3
    rw [cl_in hok hi hk] at hik
    rw [cl_in hok hi (by omega)]
    exact (knows_src hss).trans hik
theorem sortedI_ext : ∀ {l l' : List Int}, l.Pairwise (· < ·) → l'.Pairwise (· < ·) → (∀ x, x ∈ l ↔ x ∈ l') → l = l'
  | [], [], _, _, _ => rfl
  | [], y :: ys, _, _, h => absurd ((h y).2 (by simp)) (by simp)
  | x :: xs, [], _, _, h => absurd ((h x).1 (by simp)) (by simp)
  | x :: xs, y :: ys, h1, h2, h => by
    rw [List.pairwise_cons] at h1 h2
    have hxy : x = y := by
      have a := (h x).1 (by simp)
      have b := (h y).2 (by simp)
      simp only [List.mem_cons] at a b
      rcases a with a | a
      · exact a
      · rcases b with b | b
        · exact b.symm
        · have := h1.1 y b; have := h2.1 x a; omega
    subst hxy
    refine congrArg _ (sortedI_ext h1.2 h2.2 (fun z => ?_))
    constructor
    · intro hz
      have a := (h z).1 (by simp [hz])
      simp only [List.mem_cons] at a
      rcases a with a | a
      · have := h1.1 z hz; omega
      · exact a
    · intro hz
      have a := (h z).2 (by simp [hz])
      simp only [List.mem_cons] at a
      rcases a with a | a
      · have := h2.1 z hz; omega
      · exact a
theorem insI_mem {l : List Int} {k : Nat} {x z : Int} : z ∈ l.take k ++ x :: l.drop k ↔ z = x ∨ z ∈ l := by
  conv => rhs; rw [← List.take_append_drop k l]
  simp only [List.mem_append, List.mem_cons]
  constructor
  · rintro (h | h | h)
    · exact .inr (.inl h)
    · exact .inl h
    · exact .inr (.inr h)
  · rintro (h | h | h)
    · exact .inr (.inl h)
    · exact .inl h
    · exact .inr (.inr h)
theorem insI_sorted {l : List Int} {k : Nat} {x : Int} (h : l.Pairwise (· < ·)) (hk : k ≤ l.length) (ha : ∀ j, j < k → el l j < x) (hb : k < l.length → x < el l k) : (l.take k ++ x :: l.drop k).Pairwise (· < ·) := by
  have hel : ∀ j (hj : j < l.length), el l j = l[j] := fun j hj => by simp [el, hj]
  rw [← List.take_append_drop k l, List.pairwise_append] at h
  rw [List.pairwise_append, List.pairwise_cons]
  refine ⟨h.1, ⟨fun z hz => ?_, h.2.1⟩, fun y hy z hz => ?_⟩
  · obtain ⟨i, hi, rfl⟩ := List.getElem_of_mem hz
    rw [List.length_drop] at hi
    have hkl : k < l.length := by omega
    have h1 := hb hkl
    rw [hel k hkl] at h1
    rw [List.getElem_drop]
    by_cases e : i = 0
    · subst e; simpa using h1
    · have hs := h.2.1
      have := List.pairwise_iff_getElem.1 hs 0 i (by rw [List.length_drop]; omega) (by rw [List.length_drop]; omega) (by omega)
      rw [List.getElem_drop, List.getElem_drop] at this
      simp only [Nat.add_zero] at this
      omega
  · have hyx : y < x := by
      obtain ⟨i, hi, rfl⟩ := List.getElem_of_mem hy
      rw [List.length_take] at hi
      have h1 := ha i (by omega)
      rw [hel i (by omega)] at h1
      rw [List.getElem_take]
      exact h1
    rcases List.mem_cons.1 hz with rfl | hz'
    · exact hyx
    · exact h.2.2 y hy z hz'
/-- Mail m is heard in the cut. -/
def HeardIn (es : List Ev) (n : Nat) (c : List Int) (m : Int) : Prop := ∃ k, k < n ∧ (evAt es k).k = 3 ∧ (evAt es k).m = m ∧ inC es c k = true
/-- Mail m is sent in the cut by one of the first j events. -/
def SentIn (es : List Ev) (c : List Int) (j : Nat) (m : Int) : Prop := ∃ i, i < j ∧ (evAt es i).k = 2 ∧ (evAt es i).m = m ∧ inC es c i = true
/-- What flies over the cut, as far as the first j events tell. -/
structure IsFly (es : List Ev) (n : Nat) (c : List Int) (j : Nat) (Z : List Int) : Prop where
  sorted : Z.Pairwise (· < ·)
  mem : ∀ m, m ∈ Z ↔ SentIn es c j m ∧ ¬ HeardIn es n c m
theorem IsFly.unique {es : List Ev} {n j : Nat} {c Z Z' : List Int} (h : IsFly es n c j Z) (h' : IsFly es n c j Z') : Z = Z' :=
  sortedI_ext h.sorted h'.sorted (fun x => by rw [h.mem, h'.mem])
theorem IsFly.start (es : List Ev) (n : Nat) (c : List Int) : IsFly es n c 0 [] := ⟨List.Pairwise.nil, fun m => by
  constructor
  · intro h; simp at h
  · rintro ⟨⟨i, hi, _⟩, _⟩; omega⟩
theorem IsFly.skip {es : List Ev} {n j : Nat} {c Z : List Int} (h : IsFly es n c j Z) (hs : ¬ ((evAt es j).k = 2 ∧ inC es c j = true) ∨ HeardIn es n c (evAt es j).m) : IsFly es n c (j + 1) Z := by
  refine ⟨h.sorted, fun m => ?_⟩
  rw [h.mem]
  constructor
  · rintro ⟨⟨i, hi, h1⟩, h2⟩
    exact ⟨⟨i, by omega, h1⟩, h2⟩
  · rintro ⟨⟨i, hi, h1, h2, h3⟩, h4⟩
    by_cases e : i = j
    · subst e
      rcases hs with hs | hs
      · exact absurd ⟨h1, h3⟩ hs
      · rw [h2] at hs; exact absurd hs h4
    · exact ⟨⟨i, by omega, h1, h2, h3⟩, h4⟩
theorem IsFly.put {es : List Ev} {n j k : Nat} {c Z : List Int} (h : IsFly es n c j Z) (h2 : (evAt es j).k = 2) (hi : inC es c j = true) (hh : ¬ HeardIn es n c (evAt es j).m) (hk : k ≤ Z.length)
    (ha : ∀ i, i < k → el Z i < (evAt es j).m) (hb : k < Z.length → (evAt es j).m < el Z k) : IsFly es n c (j + 1) (Z.take k ++ (evAt es j).m :: Z.drop k) := by
  refine ⟨insI_sorted h.sorted hk ha hb, fun m => ?_⟩
  rw [insI_mem, h.mem]
  constructor
  · rintro (rfl | ⟨⟨i, hi', h1⟩, h3⟩)
    · exact ⟨⟨j, by omega, h2, rfl, hi⟩, hh⟩
    · exact ⟨⟨i, by omega, h1⟩, h3⟩
  · rintro ⟨⟨i, hi', h1, h3, h4⟩, h5⟩
    by_cases e : i = j
    · subst e; exact .inl h3.symm
    · exact .inr ⟨⟨i, by omega, h1, h3, h4⟩, h5⟩
/-- No mail is sent twice. -/
theorem IsFly.fresh {es : List Ev} {n j : Nat} {c Z : List Int} (h : IsFly es n c j Z) (hok : okT es n = true) (hj : j < n) (h2 : (evAt es j).k = 2) : (evAt es j).m ∉ Z := by
  intro hm
  obtain ⟨⟨i, hi, h1, h3, _⟩, _⟩ := (h.mem _).1 hm
  have hE : okE es j = true := by
    unfold okT at hok
    simp only [Bool.and_eq_true, decide_eq_true_eq] at hok
    exact allE_iff.1 hok.2 j hj
  unfold okE at hE
  rw [if_neg (by omega), if_pos h2] at hE
  simp only [Bool.and_eq_true, Option.isNone_iff_eq_none] at hE
  have hn := hE.2.2
  have : ∀ k, firstS es (evAt es j).m k = none → ∀ i, i < k → ¬ ((evAt es i).k = 2 ∧ (evAt es i).m = (evAt es j).m) := by
    intro k
    induction k with
    | zero => intro _ i hi; omega
    | succ k ih =>
      intro h i hi
      unfold firstS at h
      cases hf : firstS es (evAt es j).m k with
      | some s => rw [hf] at h; cases h
      | none =>
        rw [hf] at h
        simp only at h
        split at h
        · cases h
        · rename_i hne
          rcases Nat.lt_succ_iff_lt_or_eq.1 hi with h1 | h1
          · exact ih hf i h1
          · subst h1; exact hne
  exact this j hn i hi ⟨h1, h3⟩
/-- What is heard in a consistent cut was sent in it. -/
theorem heard_sent {es : List Ev} {n : Nat} {c : List Int} {m : Int} (hok : okT es n = true) (hc : Cons es n c) (h : HeardIn es n c m) : SentIn es c n m := by
  obtain ⟨k, hk, h3, hm, hi⟩ := h
  obtain ⟨hs, hsk, _⟩ := sOf_at hok hk h3
  obtain ⟨_, h1, h2⟩ := firstS_some hs
  exact ⟨sOf es k, by omega, h1, by rw [h2, hm], hc k hk h3 hi⟩
end Go.Proofs.Ytacjpebifacclaa
