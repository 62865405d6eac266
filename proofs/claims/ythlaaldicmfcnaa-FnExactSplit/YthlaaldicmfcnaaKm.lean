/-
  Several texts in one: Bkp Bkl.
-/
import Derived.Test.YthlaaldicmfcnaaHy
/-
  Blocks, parts of a text, what is lacking and what is joined, as plain lists.
-/
namespace Go.Proofs.Ythlaaldicmfcnaa
set_option linter.unusedVariables false
set_option linter.unusedSimpArgs false

/-- A block: its index, its total, its text. -/
abbrev Blk := Int × Int × List UInt8
def bat (L : List Blk) (i : Nat) : Blk := L.getD i (0, 0, [])
def okBk (b : Blk) : Bool := inB b.2.1 1 12 && (inB b.1 0 (b.2.1 - 1) && decide (b.2.2.length ≤ 100))
theorem okBk_iff {b : Blk} : okBk b = true ↔ (1 ≤ b.2.1 ∧ b.2.1 ≤ 12) ∧ (0 ≤ b.1 ∧ b.1 ≤ b.2.1 - 1) ∧ b.2.2.length ≤ 100 := by simp [okBk, inB7]
/-- How many parts of z bytes each a text of n bytes has. -/
def prs (n z : Nat) : Nat := max 1 ((n + z - 1) / z)
def pt11 (s : List UInt8) (z i : Nat) : List UInt8 := (s.drop (i * z)).take z
def spl (s : List UInt8) (z n m : Nat) : List Blk := (List.range m).map (fun i : Nat => ((i : Int), (n : Int), pt11 s z i))
def splitL (s : List UInt8) (size : Int) : List Blk := if inB size 1 100 && decide (prs s.length size.toNat ≤ 12) then spl s size.toNat (prs s.length size.toNat) (prs s.length size.toNat) else []
theorem spl_succ (s : List UInt8) (z n m : Nat) : spl s z n (m + 1) = spl s z n m ++ [((m : Int), (n : Int), pt11 s z m)] := by simp [spl, List.range_succ]
theorem spl_len (s : List UInt8) (z n m : Nat) : (spl s z n m).length = m := by simp [spl]
theorem bat_spl {s : List UInt8} {z n m i : Nat} (h : i < m) : bat (spl s z n m) i = ((i : Int), (n : Int), pt11 s z i) := by simp [bat, spl, List.getD, h]
theorem pt11_len (s : List UInt8) (z i : Nat) : (pt11 s z i).length ≤ z := by simp [pt11]; omega
theorem prs_le {n z : Nat} (hz : 1 ≤ z) : n ≤ prs n z * z := by
  unfold prs
  have h := Nat.div_add_mod (n + z - 1) z
  have h2 := Nat.mod_lt (n + z - 1) hz
  have h3 : (n + z - 1) / z ≤ max 1 ((n + z - 1) / z) := Nat.le_max_right _ _
  have h4 := Nat.mul_le_mul_right z h3
  rw [Nat.mul_comm] at h
  omega
theorem prs_many {n z k : Nat} (hz : 1 ≤ z) (hk : 1 ≤ k) (h : k < prs n z) : k * z < n := by
  unfold prs at h
  have h1 : k < (n + z - 1) / z := by omega
  have h2 : (k + 1) * z ≤ n + z - 1 := (Nat.le_div_iff_mul_le (by omega)).1 (by omega)
  rw [Nat.add_mul] at h2
  omega
/-- The text of the first m parts. -/
theorem parts_take (s : List UInt8) (z : Nat) : ∀ m, ((List.range m).map (pt11 s z)).flatten = s.take (m * z)
  | 0 => by simp
  | m + 1 => by
    rw [List.range_succ, List.map_append, List.flatten_append, parts_take s z m]
    simp [pt11, Nat.add_mul, List.take_add]
/-- What no right block of this total has. -/
def hasB (L : List Blk) (total : Int) (i : Nat) : Bool := L.any (fun b => okBk b && (b.2.1 == total && b.1 == (i : Int)))
def lck (L : List Blk) (total : Int) (m : Nat) : List Int := ((List.range m).filter (fun i => !hasB L total i)).map (fun i : Nat => (i : Int))
def lackL (L : List Blk) (total : Int) : List Int := if inB total 1 12 then lck L total total.toNat else []
theorem lck_succ (L : List Blk) (total : Int) (m : Nat) : lck L total (m + 1) = lck L total m ++ (if hasB L total m = true then [] else [(m : Int)]) := by
  unfold lck
  rw [List.range_succ, List.filter_append, List.map_append]
  congr 1
  by_cases h : hasB L total m = true <;> simp [h]
theorem lck_len (L : List Blk) (total : Int) (m : Nat) : (lck L total m).length ≤ m := by
  unfold lck
  rw [List.length_map]
  exact Nat.le_trans (List.length_filter_le _ _) (by simp)
/-- The texts of the first ones of each index below m, if all are there. -/
def fst11 (L : List Blk) (i : Nat) : Option Blk := L.find? (fun b => b.1 == (i : Int))
def gath (L : List Blk) : Nat → Option (List UInt8)
  | 0 => some []
  | i + 1 => match gath L i, fst11 L i with
    | some s, some b => some (s ++ b.2.2)
    | _, _ => none
def allB (L : List Blk) : Bool := L.all (fun b => okBk b && b.2.1 == (bat L 0).2.1)
def jnO : Option (List UInt8) → List UInt8 × Bool
  | some s => (s, true)
  | none => ([], false)
def joinL (L : List Blk) : List UInt8 × Bool := if L ≠ [] ∧ allB L = true then jnO (gath L (bat L 0).2.1.toNat) else ([], false)
theorem gath_none {L : List Blk} {i : Nat} (h : gath L i = none) : ∀ {m}, i ≤ m → gath L m = none := by
  intro m hm
  induction m with
  | zero => obtain rfl : i = 0 := by omega
            exact h
  | succ m ih =>
    rcases Nat.lt_or_ge i (m + 1) with e | e
    · unfold gath
      rw [ih (by omega)]
    · obtain rfl : i = m + 1 := by omega
      exact h
theorem gath_lacks {L : List Blk} {i m : Nat} (h : fst11 L i = none) (hm : i < m) : gath L m = none := by
  refine gath_none (i := i + 1) ?_ hm
  unfold gath
  rw [h]
  cases gath L i <;> rfl
theorem gath_parts {L : List Blk} {s : List UInt8} {z : Nat} : ∀ {m : Nat}, (∀ i : Nat, i < m → ∃ b ∈ L, b.1 = (i : Int)) → (∀ b ∈ L, ∀ i : Nat, b.1 = (i : Int) → b.2.2 = pt11 s z i) → gath L m = some (s.take (m * z))
  | 0, _, _ => by simp [gath]
  | m + 1, h1, h2 => by
    have ih := gath_parts (m := m) (fun i hi => h1 i (by omega)) h2
    obtain ⟨b, hb, he⟩ := h1 m (by omega)
    obtain ⟨c, hc⟩ : ∃ c, fst11 L m = some c := by
      cases e : fst11 L m with
      | some c => exact ⟨c, rfl⟩
      | none =>
        have := List.find?_eq_none.1 e b hb
        simp [he] at this
    have hc1 : c ∈ L := List.mem_of_find?_eq_some hc
    have hc2 : c.1 = (m : Int) := by simpa using List.find?_some hc
    unfold gath
    rw [ih, hc]
    simp only [Option.some.injEq]
    rw [h2 c hc1 m hc2, pt11, Nat.add_mul, Nat.one_mul, List.take_add]
theorem joinL_no {L : List Blk} (h : ¬ (L ≠ [] ∧ allB L = true)) : joinL L = ([], false) := by rw [joinL, if_neg h]
theorem allB_iff {L : List Blk} : allB L = true ↔ ∀ b ∈ L, okBk b = true ∧ b.2.1 = (bat L 0).2.1 := by simp [allB]
theorem fst11_none {L : List Blk} {i : Nat} : fst11 L i = none ↔ ∀ b ∈ L, b.1 ≠ (i : Int) := by simp [fst11]
theorem bat_mem {L : List Blk} {i : Nat} (h : i < L.length) : bat L i ∈ L := by
  simp [bat, List.getD, h]
theorem mem_bat {L : List Blk} {b : Blk} (h : b ∈ L) : ∃ i, i < L.length ∧ bat L i = b := by
  obtain ⟨i, hi, e⟩ := List.mem_iff_getElem.1 h
  exact ⟨i, hi, by simp [bat, List.getD, hi, e]⟩
end Go.Proofs.Ythlaaldicmfcnaa

/-
  What the law FnSplit says of plain lists of blocks.
-/
namespace Go.Proofs.Ythlaaldicmfcnaa
set_option linter.unusedVariables false
set_option linter.unusedSimpArgs false

theorem splitL_nil {s : List UInt8} {z : Int} (h : splitL s z = []) : z < 1 ∨ 100 < z ∨ 12 * z < (s.length : Int) := by
  unfold splitL at h
  by_cases h1 : inB z 1 100 = true
  · have hz := inB7.1 h1
    by_cases h2 : prs s.length z.toNat ≤ 12
    · rw [h1, decide_eq_true h2] at h
      simp only [Bool.and_self, if_true] at h
      have := congrArg List.length h
      rw [spl_len] at this
      unfold prs at this
      simp at this
    · have := prs_many (n := s.length) (z := z.toNat) (k := 12) (by omega) (by omega) (by omega)
      omega
  · rw [inB7] at h1
    omega
/-- What is split, if it is not nothing. -/
theorem splitL_is {s : List UInt8} {z : Int} (h : splitL s z ≠ []) : ∃ zz m : Nat, (1 ≤ zz ∧ zz ≤ 100) ∧ (1 ≤ m ∧ m ≤ 12) ∧ s.length ≤ m * zz ∧ splitL s z = spl s zz m m := by
  unfold splitL at h ⊢
  split
  · rename_i h1
    rw [if_pos h1] at h
    simp only [Bool.and_eq_true, decide_eq_true_eq, inB7] at h1
    refine ⟨z.toNat, prs s.length z.toNat, by omega, ⟨by unfold prs; omega, h1.2⟩, prs_le (by omega), rfl⟩
  · rename_i h1
    rw [if_neg h1] at h
    exact absurd rfl h
theorem mem_spl {s : List UInt8} {z n m : Nat} {b : Blk} : b ∈ spl s z n m ↔ ∃ i, i < m ∧ b = ((i : Int), (n : Int), pt11 s z i) := by
  simp only [spl, List.mem_map, List.mem_range]
  constructor
  · rintro ⟨i, hi, rfl⟩; exact ⟨i, hi, rfl⟩
  · rintro ⟨i, hi, rfl⟩; exact ⟨i, hi, rfl⟩
theorem spl_take {s : List UInt8} {z n m k : Nat} (h : k ≤ m) : (spl s z n m).take k = spl s z n k := by
  simp only [spl, ← List.map_take, List.take_range]
  rw [Nat.min_eq_left h]
theorem mem_spl_drop {s : List UInt8} {z n m k : Nat} {b : Blk} (h : b ∈ (spl s z n m).drop k) : ∃ i, k ≤ i ∧ i < m ∧ b = ((i : Int), (n : Int), pt11 s z i) := by
  obtain ⟨i, hi, rfl⟩ := List.mem_iff_getElem.1 h
  simp [spl] at hi
  refine ⟨k + i, by omega, by omega, ?_⟩
  simp [spl]
theorem spl_drop_mem {s : List UInt8} {z n m k i : Nat} (h1 : k ≤ i) (h2 : i < m) : (((i : Int), (n : Int), pt11 s z i) : Blk) ∈ (spl s z n m).drop k := by
  rw [List.mem_iff_getElem]
  exact ⟨i - k, by simp [spl]; omega, by simp [spl, show k + (i - k) = i by omega]⟩
theorem okBk_part {s : List UInt8} {z m i : Nat} (hz : z ≤ 100) (hm : 1 ≤ m ∧ m ≤ 12) (hi : i < m) : okBk ((i : Int), (m : Int), pt11 s z i) = true := by
  rw [okBk_iff]
  have := pt11_len s z i
  exact ⟨by simp only; omega, by simp only; omega, by simp only; omega⟩
/-- All of some right parts of one text. -/
theorem all_parts {L : List Blk} {s : List UInt8} {z m : Nat} (hz : z ≤ 100) (hm : 1 ≤ m ∧ m ≤ 12) (h : ∀ b ∈ L, ∃ i, i < m ∧ b = ((i : Int), (m : Int), pt11 s z i)) (hne : L ≠ []) : allB L = true ∧ (bat L 0).2.1 = (m : Int) := by
  have h0 : 0 < L.length := List.length_pos_iff.2 hne
  have hb : (bat L 0).2.1 = (m : Int) := by
    obtain ⟨i, _, e⟩ := h _ (bat_mem h0)
    rw [e]
  refine ⟨?_, hb⟩
  rw [allB_iff, hb]
  intro b hbm
  obtain ⟨i, hi, rfl⟩ := h b hbm
  exact ⟨okBk_part hz hm hi, rfl⟩
theorem join_parts {L : List Blk} {s : List UInt8} {z m : Nat} (hz : z ≤ 100) (hm : 1 ≤ m ∧ m ≤ 12) (hs : s.length ≤ m * z) (h : ∀ b ∈ L, ∃ i, i < m ∧ b = ((i : Int), (m : Int), pt11 s z i)) (ha : ∀ i : Nat, i < m → ∃ b ∈ L, b.1 = (i : Int)) : joinL L = (s, true) := by
  have hne : L ≠ [] := by
    obtain ⟨b, hb, _⟩ := ha 0 (by omega)
    exact List.ne_nil_of_mem hb
  obtain ⟨h1, h2⟩ := all_parts hz hm h hne
  rw [joinL, if_pos ⟨hne, h1⟩, h2, Int.toNat_natCast, gath_parts (s := s) (z := z) ha (fun b hb i hi => by
    obtain ⟨j, _, rfl⟩ := h b hb
    simp only at hi
    have : j = i := by omega
    rw [this])]
  rw [List.take_of_length_le hs]
  rfl
theorem join_lacks {L : List Blk} {s : List UInt8} {z m k : Nat} (hz : z ≤ 100) (hm : 1 ≤ m ∧ m ≤ 12) (h : ∀ b ∈ L, ∃ i, i < m ∧ b = ((i : Int), (m : Int), pt11 s z i)) (hk : k < m) (hn : ∀ b ∈ L, b.1 ≠ (k : Int)) : joinL L = ([], false) := by
  by_cases hne : L ≠ []
  · obtain ⟨h1, h2⟩ := all_parts hz hm h hne
    rw [joinL, if_pos ⟨hne, h1⟩, h2, Int.toNat_natCast, gath_lacks (fst11_none.2 hn) hk]
    rfl
  · exact joinL_no (fun hh => hne hh.1)
theorem filter_one (k : Nat) : ∀ m, k < m → (List.range m).filter (fun i => decide (i = k)) = [k]
  | 0, h => by omega
  | m + 1, h => by
    rw [List.range_succ, List.filter_append]
    by_cases e : k = m
    · subst e
      have : (List.range k).filter (fun i => decide (i = k)) = [] := by
        rw [List.filter_eq_nil_iff]
        intro i hi
        simp only [List.mem_range] at hi
        simp
        omega
      rw [this]
      simp
    · rw [filter_one k m (by omega)]
      have : ¬ (m = k) := fun h => e h.symm
      simp [this]
theorem lack_one {L : List Blk} {s : List UInt8} {z m k : Nat} (hz : z ≤ 100) (hm : 1 ≤ m ∧ m ≤ 12) (h : ∀ b ∈ L, ∃ i, i < m ∧ b = ((i : Int), (m : Int), pt11 s z i)) (hk : k < m) (hn : ∀ b ∈ L, b.1 ≠ (k : Int)) (ha : ∀ i : Nat, i < m → i ≠ k → (((i : Int), (m : Int), pt11 s z i) : Blk) ∈ L) : lackL L (m : Int) = [(k : Int)] := by
  have e : lck L (m : Int) m = [(k : Int)] := by
    unfold lck
    have : (List.range m).filter (fun i => !hasB L (m : Int) i) = (List.range m).filter (fun i => decide (i = k)) := by
      apply List.filter_congr
      intro i hi
      simp only [List.mem_range] at hi
      by_cases he : i = k
      · subst he
        have : hasB L (m : Int) i = false := by
          rw [hasB, List.any_eq_false]
          intro b hb
          have := hn b hb
          simp [this]
        simp [this]
      · have : hasB L (m : Int) i = true := by
          rw [hasB, List.any_eq_true]
          exact ⟨_, ha i hi he, by simp [okBk_part hz hm hi]⟩
        simp [this, he]
    rw [this, filter_one k m hk]
    rfl
  rw [lackL, inB7.2 ⟨by omega, by omega⟩]
  simp only [if_true, Int.toNat_natCast]
  exact e
/-- The three that the law asks for. -/
theorem split_law {s : List UInt8} {zz m k : Nat} (hz : 1 ≤ zz ∧ zz ≤ 100) (hm : 1 ≤ m ∧ m ≤ 12) (hs : s.length ≤ m * zz) (hk : k < m) :
    joinL ((spl s zz m m).drop k ++ (spl s zz m m).take k ++ [bat (spl s zz m m) k]) = (s, true) ∧ joinL ((spl s zz m m).take k ++ (spl s zz m m).drop (k + 1)) = ([], false) ∧ lackL ((spl s zz m m).take k ++ (spl s zz m m).drop (k + 1)) (m : Int) = [(k : Int)] := by
  have hall : ∀ b ∈ (spl s zz m m).take k ++ (spl s zz m m).drop (k + 1), ∃ i, i < m ∧ b = ((i : Int), (m : Int), pt11 s zz i) := fun b hb => by
    rcases List.mem_append.1 hb with h | h
    · exact mem_spl.1 (List.mem_of_mem_take h)
    · exact mem_spl.1 (List.mem_of_mem_drop h)
  have hno : ∀ b ∈ (spl s zz m m).take k ++ (spl s zz m m).drop (k + 1), b.1 ≠ (k : Int) := fun b hb => by
    rcases List.mem_append.1 hb with h | h
    · rw [spl_take (by omega)] at h
      obtain ⟨i, hi, rfl⟩ := mem_spl.1 h
      simp only
      omega
    · obtain ⟨i, hi, _, rfl⟩ := mem_spl_drop h
      simp only
      omega
  refine ⟨join_parts hz.2 hm hs (fun b hb => ?_) (fun i hi => ?_), join_lacks hz.2 hm hall hk hno, lack_one hz.2 hm hall hk hno (fun i hi hne => ?_)⟩
  · rcases List.mem_append.1 hb with hb | hb
    · rcases List.mem_append.1 hb with h | h
      · exact mem_spl.1 (List.mem_of_mem_drop h)
      · exact mem_spl.1 (List.mem_of_mem_take h)
    · rw [List.mem_singleton] at hb
      rw [hb, bat_spl hk]
      exact ⟨k, hk, rfl⟩
  · refine ⟨((i : Int), (m : Int), pt11 s zz i), ?_, rfl⟩
    rw [List.mem_append, List.mem_append]
    rcases Nat.lt_or_ge i k with h | h
    · exact .inl (.inr (by rw [spl_take (by omega)]; exact mem_spl.2 ⟨i, h, rfl⟩))
    · exact .inl (.inl (spl_drop_mem h hi))
  · rw [List.mem_append]
    rcases Nat.lt_or_ge i k with h | h
    · exact .inl (by rw [spl_take (by omega)]; exact mem_spl.2 ⟨i, h, rfl⟩)
    · exact .inr (spl_drop_mem (by omega) hi)
end Go.Proofs.Ythlaaldicmfcnaa
