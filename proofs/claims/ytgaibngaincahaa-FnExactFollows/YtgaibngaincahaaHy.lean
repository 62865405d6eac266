/-
  Several texts in one: Rnd.
-/
import Derived.Test.YtgaibngaincahaaGa
/-
  Seqs, what is ready and what is woven, as plain numbers and lists. No word of the model.
-/
namespace Go.Proofs.Ytgaibngaincahaa
set_option linter.unusedVariables false
set_option linter.unusedSimpArgs false

def seqB (n s i : Int) : Bool := inB n 1 8 && inB s 0 (n - 1) && inB i 0 100000
def seqL (n s i : Int) : Int := if seqB n s i then n * i + s else -1
def tellB (n q : Int) : Bool := inB n 1 8 && inB q 0 800000
def sndL (n q : Int) : Int := if tellB n q then q % n else -1
def idxL (n q : Int) : Int := if tellB n q then q / n else -1
theorem inB7 {x lo hi : Int} : inB x lo hi = true ↔ lo ≤ x ∧ x ≤ hi := by simp [inB]
theorem seqB_iff {n s i : Int} : seqB n s i = true ↔ (1 ≤ n ∧ n ≤ 8) ∧ (0 ≤ s ∧ s ≤ n - 1) ∧ 0 ≤ i ∧ i ≤ 100000 := by simp [seqB, inB7, and_assoc]
theorem tellB_iff {n q : Int} : tellB n q = true ↔ (1 ≤ n ∧ n ≤ 8) ∧ 0 ≤ q ∧ q ≤ 800000 := by simp [tellB, inB7]
theorem seq_parts {n s i : Int} (hn : 0 < n) (hs : 0 ≤ s ∧ s < n) : (n * i + s) % n = s ∧ (n * i + s) / n = i := by
  constructor
  · rw [Int.mul_add_emod_self_left, Int.emod_eq_of_lt hs.1 hs.2]
  · rw [Int.mul_add_ediv_left _ _ (by omega), Int.ediv_eq_zero_of_lt hs.1 hs.2, Int.add_zero]
/-- Counts of messages: a vector, none above 100000. -/
def okCt (cs : List Int) : Bool := okB cs && cs.all (fun c => decide (c ≤ 100000))
/-- Message number q is below its sender's count. -/
def bel (cs : List Int) (q : Nat) : Prop := ((q / cs.length : Nat) : Int) < el cs (q % cs.length)
/-- How many seqs from 0 on, without a gap, are below their senders' counts. -/
def IsReady (cs : List Int) (r : Nat) : Prop := (∀ q, q < r → bel cs q) ∧ ¬ bel cs r
theorem IsReady.unique {cs : List Int} {r s : Nat} (h : IsReady cs r) (k : IsReady cs s) : r = s := by
  rcases Nat.lt_trichotomy r s with h1 | h1 | h1
  · exact absurd (k.1 r h1) h.2
  · exact h1
  · exact absurd (h.1 s h1) k.2
/-- Rising, and just the seqs that are below their senders' counts. -/
def IsWov (cs : List Int) (Z : List Int) : Prop := Z.Pairwise (· < ·) ∧ ∀ q : Int, q ∈ Z ↔ 0 ≤ q ∧ bel cs q.toNat
theorem rising_unique : ∀ {A B : List Int}, A.Pairwise (· < ·) → B.Pairwise (· < ·) → (∀ q, q ∈ A ↔ q ∈ B) → A = B := by
  intro A
  induction A with
  | nil =>
    intro B _ _ h
    cases B with
    | nil => rfl
    | cons b B => exact absurd ((h b).2 (by simp)) (by simp)
  | cons a A ih =>
    intro B hA hB h
    cases B with
    | nil => exact absurd ((h a).1 (by simp)) (by simp)
    | cons b B =>
      rw [List.pairwise_cons] at hA hB
      have hab : a = b := by
        have h1 := (h a).1 (by simp)
        have h2 := (h b).2 (by simp)
        rcases List.mem_cons.1 h1 with e | e
        · exact e
        · rcases List.mem_cons.1 h2 with e' | e'
          · exact e'.symm
          · have := hB.1 a e
            have := hA.1 b e'
            omega
      subst hab
      rw [ih hA.2 hB.2 (fun q => ?_)]
      constructor
      · intro hq
        rcases List.mem_cons.1 ((h q).1 (List.mem_cons_of_mem _ hq)) with e | e
        · have := hA.1 q hq; omega
        · exact e
      · intro hq
        rcases List.mem_cons.1 ((h q).2 (List.mem_cons_of_mem _ hq)) with e | e
        · have := hB.1 q hq; omega
        · exact e
theorem IsWov.unique {cs Z Y : List Int} (h : IsWov cs Z) (k : IsWov cs Y) : Z = Y := rising_unique h.1 k.1 (fun q => (h.2 q).trans (k.2 q).symm)
theorem rising_split (r : Int) : ∀ {A : List Int}, A.Pairwise (· < ·) → A = A.filter (fun q => decide (q < r)) ++ A.filter (fun q => decide (r ≤ q)) := by
  intro A
  induction A with
  | nil => intro _; rfl
  | cons a A ih =>
    intro hA
    rw [List.pairwise_cons] at hA
    by_cases h : a < r
    · have h' : ¬ r ≤ a := by omega
      simp only [List.filter_cons, decide_eq_true h, decide_eq_false h', if_true, if_false, List.cons_append, Bool.false_eq_true]
      rw [← ih hA.2]
    · have h' : r ≤ a := by omega
      have e1 : A.filter (fun q => decide (q < r)) = [] := by
        rw [List.filter_eq_nil_iff]
        intro q hq
        have := hA.1 q hq
        simp; omega
      have e2 : A.filter (fun q => decide (r ≤ q)) = A := by
        rw [List.filter_eq_self]
        intro q hq
        have := hA.1 q hq
        simp; omega
      simp [List.filter_cons, h, h', e1, e2]
/-- The first r of the woven ones are 0, 1, 2 .. -/
theorem wov_first {cs Z : List Int} {r : Nat} (h : IsWov cs Z) (k : IsReady cs r) : r ≤ Z.length ∧ (∀ i, i < r → el Z i = (i : Int)) ∧ (r : Int) ∉ Z := by
  have e : Z.filter (fun q => decide (q < (r : Int))) = (List.range r).map (fun i : Nat => (i : Int)) := by
    refine rising_unique (h.1.filter _) ?_ (fun q => ?_)
    · rw [List.pairwise_map]
      exact List.pairwise_lt_range.imp (fun hab => by omega)
    · simp only [List.mem_filter, decide_eq_true_eq, List.mem_map, List.mem_range]
      constructor
      · rintro ⟨h1, h2⟩
        have := ((h.2 q).1 h1).1
        exact ⟨q.toNat, by omega, by omega⟩
      · rintro ⟨i, hi, rfl⟩
        exact ⟨(h.2 _).2 ⟨by omega, by simpa using k.1 i hi⟩, by omega⟩
  have s := rising_split (r : Int) h.1
  rw [e] at s
  refine ⟨?_, fun i hi => ?_, fun hm => ?_⟩
  · rw [s]; simp
  · rw [s]
    unfold el
    rw [List.getD_eq_getElem?_getD, List.getElem?_append_left (by simpa using hi)]
    simp [hi]
  · have := ((h.2 _).1 hm).2
    rw [Int.toNat_natCast] at this
    exact k.2 this

/-- The spec's way to the ready ones: the least of n c + i. -/
def rdy (cs : List Int) (k : Nat) (b : Int) : Int := (List.range k).foldl (fun b i => min b ((cs.length : Int) * el cs i + (i : Int))) b
theorem rdy_succ (cs : List Int) (k : Nat) (b : Int) : rdy cs (k + 1) b = min (rdy cs k b) ((cs.length : Int) * el cs k + (k : Int)) := by simp [rdy, List.range_succ]
theorem rdy_le (cs : List Int) (b : Int) : ∀ k i, i < k → rdy cs k b ≤ (cs.length : Int) * el cs i + (i : Int) := by
  intro k
  induction k with
  | zero => intro i hi; omega
  | succ k ih =>
    intro i hi
    rw [rdy_succ]
    by_cases e : i = k
    · subst e; omega
    · have := ih i (by omega); omega
theorem rdy_is (cs : List Int) (b : Int) : ∀ k, rdy cs k b = b ∨ ∃ i, i < k ∧ rdy cs k b = (cs.length : Int) * el cs i + (i : Int) := by
  intro k
  induction k with
  | zero => exact .inl rfl
  | succ k ih =>
    rw [rdy_succ]
    by_cases h : rdy cs k b ≤ (cs.length : Int) * el cs k + (k : Int)
    · rw [show min (rdy cs k b) ((cs.length : Int) * el cs k + (k : Int)) = rdy cs k b by omega]
      rcases ih with h' | ⟨i, hi, h'⟩
      · exact .inl h'
      · exact .inr ⟨i, by omega, h'⟩
    · exact .inr ⟨k, by omega, by omega⟩
theorem rdy_bd {cs : List Int} (hc : ∀ i, i < cs.length → 0 ≤ el cs i ∧ el cs i ≤ 100000) (h8 : cs.length ≤ 8) {b : Int} (hb : 0 ≤ b ∧ b ≤ 800000) : ∀ k, k ≤ cs.length → 0 ≤ rdy cs k b ∧ rdy cs k b ≤ 800000 := by
  intro k
  induction k with
  | zero => intro _; exact hb
  | succ k ih =>
    intro hk
    have h1 := ih (by omega)
    have h2 := hc k (by omega)
    have h3 : 0 ≤ (cs.length : Int) * el cs k := Int.mul_nonneg (by omega) h2.1
    rw [rdy_succ]
    omega
/-- It is the number of those that are ready. -/
theorem rdy_ready {cs : List Int} (h1 : 1 ≤ cs.length) (h8 : cs.length ≤ 8) (hc : ∀ i, i < cs.length → 0 ≤ el cs i ∧ el cs i ≤ 100000) : IsReady cs (rdy cs cs.length ((cs.length : Int) * el cs 0)).toNat := by
  have hn : (0 : Int) < (cs.length : Int) := by omega
  have c0 := hc 0 (by omega)
  have hb0 : 0 ≤ (cs.length : Int) * el cs 0 := Int.mul_nonneg (by omega) c0.1
  have hb1 : (cs.length : Int) * el cs 0 ≤ 8 * 100000 := Int.mul_le_mul (by omega) c0.2 c0.1 (by omega)
  have hb := rdy_bd hc h8 (b := (cs.length : Int) * el cs 0) ⟨hb0, by omega⟩ cs.length (Nat.le_refl _)
  have hle := rdy_le cs ((cs.length : Int) * el cs 0) cs.length
  have his : ∃ i, i < cs.length ∧ rdy cs cs.length ((cs.length : Int) * el cs 0) = (cs.length : Int) * el cs i + (i : Int) := by
    rcases rdy_is cs ((cs.length : Int) * el cs 0) cs.length with h | h
    · exact ⟨0, by omega, by rw [h]; simp⟩
    · exact h
  generalize rdy cs cs.length ((cs.length : Int) * el cs 0) = R at *
  refine ⟨fun q hq => ?_, fun hbel => ?_⟩
  · unfold bel
    have hm : q % cs.length < cs.length := Nat.mod_lt _ (by omega)
    have h2 := hle (q % cs.length) hm
    have hd : (q : Int) = (cs.length : Int) * ((q / cs.length : Nat) : Int) + ((q % cs.length : Nat) : Int) := by
      have := Nat.div_add_mod q cs.length
      exact_mod_cast this.symm
    have h3 : (cs.length : Int) * ((q / cs.length : Nat) : Int) < (cs.length : Int) * el cs (q % cs.length) := by omega
    exact Int.lt_of_mul_lt_mul_left h3 (by omega)
  · obtain ⟨i, hi, hR⟩ := his
    have hci := hc i hi
    obtain ⟨c, hcc⟩ : ∃ c : Nat, el cs i = (c : Int) := ⟨(el cs i).toNat, by omega⟩
    have hq : R.toNat = cs.length * c + i := by
      rw [hR, hcc]
      have : (cs.length : Int) * (c : Int) + (i : Int) = ((cs.length * c + i : Nat) : Int) := by simp
      rw [this, Int.toNat_natCast]
    unfold bel at hbel
    rw [hq, Nat.mul_add_mod, Nat.mod_eq_of_lt hi, Nat.mul_add_div (by omega), Nat.div_eq_of_lt hi, hcc] at hbel
    omega
end Go.Proofs.Ytgaibngaincahaa
