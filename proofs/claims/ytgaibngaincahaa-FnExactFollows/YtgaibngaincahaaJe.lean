/-
  Several texts in one: Rel.
-/
import Derived.Test.YtgaibngaincahaaGa
/-
  Relays as plain lists: right ones, a turn, the chain, how many turns the chain takes. No word of the model.
-/
namespace Go.Proofs.Ytgaibngaincahaa
set_option linter.unusedVariables false
set_option linter.unusedSimpArgs false

def row (H : List (List Int)) (i : Nat) : List Int := H.getD i []
/-- A list of rising numbers from 0 to B - 1. -/
def okRow (B : Int) (h : List Int) : Prop := (∀ i, i < h.length → 0 ≤ el h i ∧ el h i ≤ B - 1) ∧ ∀ i, i < h.length - 1 → el h i < el h (i + 1)
instance (B : Int) (h : List Int) : Decidable (okRow B h) := by unfold okRow; infer_instance
def okRel (N B : Int) (H : List (List Int)) : Prop := (1 ≤ N ∧ N ≤ 12) ∧ (1 ≤ B ∧ B ≤ 12) ∧ (H.length : Int) = N ∧ ((row H 0).length : Int) = B ∧ ∀ i, i < H.length → okRow B (row H i)
instance (N B : Int) (H : List (List Int)) : Decidable (okRel N B H) := by unfold okRel; infer_instance
/-- A number is put into a rising list. -/
def putL : List Int → Int → List Int
  | [], n => [n]
  | x :: l, n => if x < n then x :: putL l n else if x = n then x :: l else n :: x :: l
theorem mem_putL {h : List Int} {n q : Int} : q ∈ putL h n ↔ q = n ∨ q ∈ h := by
  induction h with
  | nil => simp [putL]
  | cons x l ih =>
    unfold putL
    split
    · rw [List.mem_cons, ih, List.mem_cons]
      constructor
      · rintro (h | h | h)
        · exact .inr (.inl h)
        · exact .inl h
        · exact .inr (.inr h)
      · rintro (h | h | h)
        · exact .inr (.inl h)
        · exact .inl h
        · exact .inr (.inr h)
    · split
      · rename_i h1 h2
        subst h2
        simp
      · simp
theorem rises_pairwise {h : List Int} : (∀ i, i < h.length - 1 → el h i < el h (i + 1)) ↔ h.Pairwise (· < ·) := by
  rw [List.pairwise_iff_getElem]
  constructor
  · intro hr i j hi hj hij
    have : ∀ d, ∀ (hd : i + d + 1 < h.length), el h i < el h (i + d + 1) := by
      intro d
      induction d with
      | zero => intro hd; exact hr i (by omega)
      | succ d ih => intro hd; exact Int.lt_trans (ih (by omega)) (hr (i + d + 1) (by omega))
    have h2 := this (j - i - 1) (by omega)
    rw [show i + (j - i - 1) + 1 = j by omega] at h2
    simpa [el, hi, hj] using h2
  · intro hr i hi
    have := hr i (i + 1) (by omega) (by omega) (by omega)
    simpa [el, show i < h.length by omega, show i + 1 < h.length by omega] using this
theorem okRow_iff {B : Int} {h : List Int} : okRow B h ↔ (∀ q ∈ h, 0 ≤ q ∧ q ≤ B - 1) ∧ h.Pairwise (· < ·) := by
  unfold okRow
  rw [rises_pairwise]
  refine and_congr ⟨fun hh q hq => ?_, fun hh i hi => ?_⟩ Iff.rfl
  · obtain ⟨i, hi, rfl⟩ := List.mem_iff_getElem.1 hq
    have := hh i hi
    simpa [el, hi] using this
  · have := hh h[i] (List.getElem_mem hi)
    simpa [el, hi] using this
theorem putL_rises {h : List Int} {n : Int} (hr : h.Pairwise (· < ·)) : (putL h n).Pairwise (· < ·) := by
  induction h with
  | nil => simp [putL]
  | cons x l ih =>
    rw [List.pairwise_cons] at hr
    unfold putL
    split
    · rename_i h1
      rw [List.pairwise_cons]
      refine ⟨fun q hq => ?_, ih hr.2⟩
      rcases mem_putL.1 hq with h | h
      · rw [h]; exact h1
      · exact hr.1 q h
    · split
      · exact List.pairwise_cons.2 hr
      · rename_i h1 h2
        rw [List.pairwise_cons]
        refine ⟨fun q hq => ?_, List.pairwise_cons.2 hr⟩
        rcases List.mem_cons.1 hq with h | h
        · omega
        · have := hr.1 q h; omega
theorem putL_ok {B n : Int} {h : List Int} (hk : okRow B h) (hn : 0 ≤ n ∧ n ≤ B - 1) : okRow B (putL h n) := by
  rw [okRow_iff] at hk ⊢
  refine ⟨fun q hq => ?_, putL_rises hk.2⟩
  rcases mem_putL.1 hq with e | e
  · rw [e]; exact hn
  · exact hk.1 q e
theorem putL_same {h : List Int} {n : Int} (hr : h.Pairwise (· < ·)) (hn : n ∈ h) : putL h n = h := by
  induction h with
  | nil => simp at hn
  | cons x l ih =>
    rw [List.pairwise_cons] at hr
    unfold putL
    split
    · rename_i h1
      rcases List.mem_cons.1 hn with e | e
      · omega
      · rw [ih hr.2 e]
    · split
      · rfl
      · rename_i h1 h2
        rcases List.mem_cons.1 hn with e | e
        · omega
        · have := hr.1 n e; omega
/-- A row with all the numbers has each. -/
theorem full_row {B : Nat} {h : List Int} (hk : okRow (B : Int) h) (hl : h.length = B) : ∀ i, i < B → el h i = (i : Int) := by
  have lo : ∀ i, i < B → (i : Int) ≤ el h i := by
    intro i
    induction i with
    | zero => intro hi; exact (hk.1 0 (by omega)).1
    | succ i ih => intro hi; have := ih (by omega); have := hk.2 i (by omega); omega
  have hi2 : ∀ d, d < B → el h (B - 1 - d) ≤ (B : Int) - 1 - (d : Int) := by
    intro d
    induction d with
    | zero => intro hd; have := (hk.1 (B - 1) (by omega)).2; simpa using this
    | succ d ih =>
      intro hd
      have h1 := ih (by omega)
      have h2 := hk.2 (B - 1 - (d + 1)) (by omega)
      rw [show B - 1 - (d + 1) + 1 = B - 1 - d by omega] at h2
      omega
  intro i hi
  have h1 := lo i hi
  have h2 := hi2 (B - 1 - i) (by omega)
  rw [show B - 1 - (B - 1 - i) = i by omega] at h2
  omega
theorem full_mem {B : Nat} {h : List Int} (hk : okRow (B : Int) h) (hl : h.length = B) {q : Int} (hq : 0 ≤ q ∧ q ≤ (B : Int) - 1) : q ∈ h := by
  have := full_row hk hl q.toNat (by omega)
  have hlt : q.toNat < h.length := by omega
  have he : el h q.toNat = h[q.toNat] := by simp [el, hlt]
  have : h[q.toNat] = q := by rw [← he, this]; omega
  rw [← this]; exact List.getElem_mem hlt

/-- A pass: from, to, block. -/
abbrev Ps := Int × Int × Int
def pat (cs : List Ps) (i : Nat) : Ps := cs.getD i (0, 0, 0)
def psOk (N : Int) (H : List (List Int)) (cs : List Ps) (i : Nat) : Prop :=
  (0 ≤ (pat cs i).1 ∧ (pat cs i).1 ≤ N - 1) ∧ (0 ≤ (pat cs i).2.1 ∧ (pat cs i).2.1 ≤ N - 1) ∧ (pat cs i).2.2 ∈ row H (pat cs i).1.toNat ∧ ∀ k, k < i → (pat cs k).1 ≠ (pat cs i).1 ∧ (pat cs k).2.1 ≠ (pat cs i).2.1
instance (N : Int) (H : List (List Int)) (cs : List Ps) (i : Nat) : Decidable (psOk N H cs i) := by unfold psOk; infer_instance
def turnOk (N : Int) (H : List (List Int)) (cs : List Ps) : Prop := ∀ i, i < cs.length → psOk N H cs i
instance (N : Int) (H : List (List Int)) (cs : List Ps) : Decidable (turnOk N H cs) := by unfold turnOk; infer_instance
/-- What the first i passes leave. -/
def outs (H : List (List Int)) (cs : List Ps) : Nat → List (List Int)
  | 0 => H
  | i + 1 => (outs H cs i).set (pat cs i).2.1.toNat (putL (row (outs H cs i) (pat cs i).2.1.toNat) (pat cs i).2.2)
theorem outs_len (H : List (List Int)) (cs : List Ps) (i : Nat) : (outs H cs i).length = H.length := by
  induction i with
  | zero => rfl
  | succ i ih => rw [outs, List.length_set, ih]
theorem row_set {H : List (List Int)} {t k : Nat} {h : List Int} (ht : t < H.length) : row (H.set t h) k = if k = t then h else row H k := by
  unfold row
  rw [List.getD_eq_getElem?_getD, List.getD_eq_getElem?_getD, List.getElem?_set]
  by_cases e : t = k
  · subst e; simp [ht]
  · rw [if_neg e, if_neg (Ne.symm e)]
theorem outs_mem {H : List (List Int)} {cs : List Ps} {k : Nat} {q : Int} (i : Nat) (h : q ∈ row H k) : q ∈ row (outs H cs i) k := by
  induction i with
  | zero => exact h
  | succ i ih =>
    rw [outs]
    by_cases ht : (pat cs i).2.1.toNat < (outs H cs i).length
    · rw [row_set ht]
      split
      · rename_i e; rw [mem_putL]; right; rw [← e]; exact ih
      · exact ih
    · rw [List.set_eq_of_length_le (by omega)]; exact ih
theorem outs_ok {N B : Int} {H : List (List Int)} {cs : List Ps} (hr : okRel N B H) (ht : turnOk N H cs) : ∀ i, i ≤ cs.length → okRel N B (outs H cs i) := by
  intro i
  induction i with
  | zero => intro _; exact hr
  | succ i ih =>
    intro hi
    obtain ⟨a1, a2, a3, a4, a5⟩ := ih (by omega)
    obtain ⟨b1, b2, b3, b4⟩ := ht i (by omega)
    have hl : (outs H cs i).length = H.length := outs_len _ _ _
    have h3 := hr.2.2.1
    have htl : (pat cs i).2.1.toNat < (outs H cs i).length := by omega
    have hbq : 0 ≤ (pat cs i).2.2 ∧ (pat cs i).2.2 ≤ B - 1 := (okRow_iff.1 (hr.2.2.2.2 (pat cs i).1.toNat (by omega))).1 _ b3
    obtain ⟨Bn, rfl⟩ : ∃ Bn : Nat, B = (Bn : Int) := ⟨B.toNat, by omega⟩
    refine ⟨a1, a2, by rw [outs, List.length_set]; exact a3, ?_, fun k hk => ?_⟩
    · rw [outs, row_set htl]
      split
      · rename_i e
        rw [← e, putL_same (okRow_iff.1 (a5 0 (by omega))).2 (full_mem (a5 0 (by omega)) (by omega) hbq)]
        exact a4
      · exact a4
    · rw [outs, List.length_set] at hk
      rw [outs, row_set htl]
      split
      · exact putL_ok (a5 _ htl) hbq
      · exact a5 k hk
/-- What is answered: number of nodes, of blocks, the lists; whether. -/
def zeroR : Int × Int × List (List Int) := (0, 0, [])
def turnL (N B : Int) (H : List (List Int)) (cs : List Ps) : (Int × Int × List (List Int)) × Bool := if okRel N B H ∧ turnOk N H cs then ((N, B, outs H cs cs.length), true) else (zeroR, false)
def newH (N B : Nat) : List (List Int) := (List.range B).map (fun i : Nat => (i : Int)) :: List.replicate (N - 1) []
def newL (N B : Int) : (Int × Int × List (List Int)) × Bool := if (1 ≤ N ∧ N ≤ 12) ∧ 1 ≤ B ∧ B ≤ 12 then ((N, B, newH N.toNat B.toNat), true) else (zeroR, false)
def fullH (B : Int) (H : List (List Int)) : Prop := ∀ i, i < H.length → ((row H i).length : Int) = B
instance (B : Int) (H : List (List Int)) : Decidable (fullH B H) := by unfold fullH; infer_instance
def fullB (N B : Int) (H : List (List Int)) : Bool := decide (okRel N B H ∧ fullH B H)
def firstN (a b : List Int) : Option Int := a.find? (fun q => decide (q ∉ b))
def chnAt (H : List (List Int)) (k : Nat) : List Ps := match firstN (row H k) (row H (k + 1)) with
  | some q => [((k : Int), ((k + 1 : Nat) : Int), q)]
  | none => []
def chn (H : List (List Int)) (m : Nat) : List Ps := (List.range m).flatMap (chnAt H)
theorem chn_succ (H : List (List Int)) (m : Nat) : chn H (m + 1) = chn H m ++ chnAt H m := by simp [chn, List.range_succ]
def chainL (N B : Int) (H : List (List Int)) : List Ps := if okRel N B H then chn H (N.toNat - 1) else []
theorem new_ok {N B : Nat} (hN : 1 ≤ N ∧ N ≤ 12) (hB : 1 ≤ B ∧ B ≤ 12) : okRel (N : Int) (B : Int) (newH N B) := by
  refine ⟨by omega, by omega, by simp [newH]; omega, by simp [newH, row], fun i hi => ?_⟩
  rw [okRow_iff]
  cases i with
  | zero =>
    refine ⟨fun q hq => ?_, ?_⟩
    · simp [newH, row] at hq
      obtain ⟨a, ha, rfl⟩ := hq
      omega
    · simp only [newH, row, List.getD_cons_zero]
      rw [List.pairwise_map]
      exact List.pairwise_lt_range.imp (fun h => by omega)
  | succ i =>
    have : row (newH N B) (i + 1) = [] := by
      simp [newH, row, List.getD_eq_getElem?_getD, List.getElem?_replicate]
      split <;> rfl
    rw [this]
    exact ⟨fun q hq => by simp at hq, List.Pairwise.nil⟩
/-- m turns of the chain: none is full ahead of the last, each is allowed. -/
def chkC (N B : Nat) : List (List Int) → Nat → Bool
  | H, 0 => decide (fullH (B : Int) H)
  | H, m + 1 => !decide (fullH (B : Int) H) && decide (turnOk (N : Int) H (chn H (N - 1))) && chkC N B (outs H (chn H (N - 1)) (chn H (N - 1)).length) m
theorem chkC_full {N B m : Nat} {H : List (List Int)} (h : chkC N B H m = true) (hf : fullH (B : Int) H) : m = 0 := by
  cases m with
  | zero => rfl
  | succ m => simp [chkC, hf] at h
theorem chkC_next {N B m : Nat} {H : List (List Int)} (h : chkC N B H m = true) (hf : ¬ fullH (B : Int) H) : ∃ m', m = m' + 1 ∧ turnOk (N : Int) H (chn H (N - 1)) ∧ chkC N B (outs H (chn H (N - 1)) (chn H (N - 1)).length) m' = true := by
  cases m with
  | zero => simp [chkC, hf] at h
  | succ m =>
    simp only [chkC, Bool.and_eq_true, decide_eq_true_eq] at h
    exact ⟨m, rfl, h.1.2, h.2⟩
theorem chain_all : ((List.range 7).all fun N => (List.range 7).all fun B => N == 0 || B == 0 || chkC N B (newH N B) (if N = 1 then 0 else B + N - 2)) = true := by
  decide +kernel
theorem chain_turns {N B : Nat} (h1 : 1 ≤ N) (h2 : N < 7) (h3 : 1 ≤ B) (h4 : B < 7) : chkC N B (newH N B) (if N = 1 then 0 else B + N - 2) = true := by
  have h := chain_all
  rw [List.all_eq_true] at h
  have hN := h N (by simpa using h2)
  rw [List.all_eq_true] at hN
  have hB := hN B (by simpa using h4)
  rw [Bool.or_eq_true, Bool.or_eq_true] at hB
  rcases hB with (e | e) | e
  · simp at e; omega
  · simp at e; omega
  · exact e
end Go.Proofs.Ytgaibngaincahaa
