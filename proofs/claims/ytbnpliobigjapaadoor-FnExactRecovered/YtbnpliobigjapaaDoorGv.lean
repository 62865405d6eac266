/-
  Several texts in one: Rda.
-/
import Derived.Test.YtbnpliobigjapaaDoorGq
import Derived.Lib.ItoaNum
import Derived.Lib.AtoiAll
import Derived.Lib.IndexMore
import Derived.Lib.Strings
/-
  What the program reads of a disk, as plain lists of bytes: the library's words for decimals, cuts and prefixes against those of frames.
-/
namespace Go.Proofs.YtbnpliobigjapaaDoor
set_option linter.unusedVariables false

theorem decDigits_dec (n : Nat) : Lib.decDigits n = dec n := by
  induction n using Nat.strongRecOn with
  | ind n ih =>
    by_cases h : n < 10
    · rw [dec_small h, Lib.decDigits, dif_pos h]; rfl
    · rw [dec_big h, Lib.decDigits, dif_neg h, ih _ (by omega)]; rfl
theorem itoa_dec (n : Nat) : Lib.itoa (n : Int) = dec n := by
  unfold Lib.itoa
  rw [if_neg (by omega), Int.toNat_natCast, decDigits_dec]
theorem index_byte (l : List UInt8) (b : UInt8) : (Lib.index l [b] = -1 ∧ upto b l = l ∧ b ∉ l) ∨ (Lib.index l [b] = ((upto b l).length : Nat) ∧ l = upto b l ++ b :: l.drop ((upto b l).length + 1)) := by
  induction l with
  | nil => exact .inl ⟨rfl, rfl, by simp⟩
  | cons x l ih =>
    by_cases h : x = b
    · subst h
      right
      simp [Lib.index, upto]
    · have hb : ¬ b = x := fun e => h e.symm
      have e1 : upto b (x :: l) = x :: upto b l := by simp [upto, h]
      rw [e1]
      have e2 : Lib.index (x :: l) [b] = if Lib.index l [b] == -1 then -1 else Lib.index l [b] + 1 := by
        rw [Lib.index]
        simp [hb]
      rw [e2]
      rcases ih with ⟨h1, h2, h3⟩ | ⟨h1, h2⟩
      · left
        refine ⟨by rw [h1]; rfl, by rw [h2], ?_⟩
        simp [hb, h3]
      · right
        refine ⟨?_, ?_⟩
        · rw [h1]
          have : ¬ (((upto b l).length : Nat) : Int) = -1 := by omega
          simp [this]
        · simp only [List.cons_append, List.length_cons, List.drop_succ_cons]
          rw [← h2]
theorem cut_fst (l : List UInt8) (b : UInt8) : (Lib.cut l [b]).1 = upto b l := by
  rcases index_byte l b with ⟨h1, h2, _⟩ | ⟨h1, h2⟩
  · unfold Lib.cut
    rw [h1, if_neg (by omega)]
    exact h2.symm
  · unfold Lib.cut
    rw [h1, if_pos (by omega)]
    show l.take _ = _
    rw [Int.toNat_natCast]
    generalize upto b l = u at *
    rw [h2]
    exact List.take_left
theorem cut_snd (l : List UInt8) (b : UInt8) : (Lib.cut l [b]).2.1 = l.drop ((upto b l).length + 1) := by
  rcases index_byte l b with ⟨h1, h2, _⟩ | ⟨h1, h2⟩
  · unfold Lib.cut
    rw [h1, if_neg (by omega), h2]
    show [] = _
    rw [List.drop_of_length_le (by omega)]
  · unfold Lib.cut
    rw [h1, if_pos (by omega)]
    show l.drop _ = _
    rw [Int.toNat_natCast]
    rfl
theorem parse_dec (l : List UInt8) (acc : Nat) (h : ∀ b ∈ l, isDig b) (hb : l.foldl (fun n b => n * 10 + (b.toNat - 48)) acc < 1000000000000000000) : Lib.parseUint10 acc l = .ok (l.foldl (fun n b => n * 10 + (b.toNat - 48)) acc) := by
  induction l generalizing acc with
  | nil => rfl
  | cons x l ih =>
    have hx := h x (by simp)
    unfold isDig at hx
    have hge : ∀ (l : List UInt8) (a : Nat), a ≤ l.foldl (fun n b => n * 10 + (b.toNat - 48)) a := by
      intro l
      induction l with
      | nil => intro a; exact Nat.le_refl _
      | cons y l ih2 => intro a; exact Nat.le_trans (show a ≤ a * 10 + (y.toNat - 48) by omega) (ih2 _)
    rw [List.foldl_cons] at hb ⊢
    have := hge l (acc * 10 + (x.toNat - 48))
    rw [Lib.parseUint10, if_pos hx, if_neg (by omega), if_neg (by omega)]
    exact ih _ (fun b hb' => h b (by simp [hb'])) hb
theorem atoi_dec {n : Nat} (h : n < 1000000000000000000) : Lib.atoiAll (dec n) = .ok (n : Int) := by
  have hd := dec_dig n
  have hn := numL_dec n
  cases hc : dec n with
  | nil => exact absurd hc (dec_ne n)
  | cons c r =>
    rw [hc] at hd hn
    have hcd := hd c (by simp)
    unfold isDig at hcd
    have hp : Lib.parseMag (c :: r) = .ok n := by
      unfold Lib.parseMag
      rw [if_neg (by simp)]
      rw [parse_dec (c :: r) 0 hd (by rw [show (c :: r).foldl (fun n b => n * 10 + (b.toNat - 48)) 0 = n from hn]; exact h)]
      exact congrArg _ hn
    unfold Lib.atoiAll
    simp only []
    rw [if_neg (by omega), hp]
    simp only []
    rw [if_neg (by omega), if_neg (by omega), if_neg (by omega)]
theorem hasPrefix_iff (s p : List UInt8) : Lib.hasPrefix s p = true ↔ p <+: s := by
  unfold Lib.hasPrefix
  exact List.isPrefixOf_iff_prefix
/-- What stands behind the first byte 10. -/
def bodyQ (r : List UInt8) : List UInt8 := r.drop ((upto 10 r).length + 1)
/-- The length that the head tells: how the reading of it ends. -/
def lenL (r : List UInt8) : Lib.NumEnd Int := Lib.atoiAll (upto 32 (upto 10 r))
theorem begins_len {r t : List UInt8} (h : Begins r t) : lenL r = .ok (t.length : Int) ∧ t.length ≤ 2000 ∧ t.length ≤ (bodyQ r).length ∧ (bodyQ r).take t.length = t := by
  have h1 := begins_text h
  have h2 := h.1
  refine ⟨?_, h2, ?_, h1.1⟩
  · unfold lenL
    rw [begins_num h]
    exact atoi_dec (by omega)
  · unfold bodyQ
    rw [List.length_drop]
    omega
theorem none_bad {r : List UInt8} (h : ∀ v, lenL r ≠ .ok v) (t : List UInt8) : ¬ Begins r t := fun hb => h _ (begins_len hb).1
theorem none_far {r : List UInt8} {v : Int} (h : lenL r = .ok v) (hv : v < 0 ∨ ((bodyQ r).length : Int) < v ∨ 2000 < v) (t : List UInt8) : ¬ Begins r t := fun hb => by
  obtain ⟨h1, h2, h3, _⟩ := begins_len hb
  rw [h] at h1
  injection h1 with h1
  omega
theorem none_other {r : List UInt8} {n : Nat} (h : lenL r = .ok (n : Int)) (hn : n ≤ 2000) (hp : Lib.hasPrefix r (frameL ((bodyQ r).take n)) = false) (t : List UInt8) : ¬ Begins r t := fun hb => by
  obtain ⟨h1, h2, h3, h4⟩ := begins_len hb
  rw [h] at h1
  injection h1 with h1
  have e : n = t.length := by omega
  subst e
  rw [h4] at hp
  have : Lib.hasPrefix r (frameL t) = true := by
    rw [hasPrefix_iff]
    unfold frameL
    rw [if_pos h2]
    exact hb.2
  rw [hp] at this
  cases this
theorem some_here {r : List UInt8} {n : Nat} (hn : n ≤ 2000) (hp : Lib.hasPrefix r (frameL ((bodyQ r).take n)) = true) : Begins r ((bodyQ r).take n) := by
  have hl : ((bodyQ r).take n).length ≤ 2000 := by rw [List.length_take]; omega
  refine ⟨hl, ?_⟩
  rw [hasPrefix_iff] at hp
  unfold frameL at hp
  rwa [if_pos hl] at hp
end Go.Proofs.YtbnpliobigjapaaDoor
