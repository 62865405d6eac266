/-
  Several texts in one: Lgp.
-/
import Derived.Test.YtgaibngaincahaaGr
/-
  Logs as plain lists: right ones, what is added, found, shortened, cut, shown and recovered. No word of the model.
-/
namespace Go.Proofs.Ytgaibngaincahaa
set_option linter.unusedVariables false
set_option linter.unusedSimpArgs false

/-- A log: its first version and its texts. -/
abbrev Lg := Int × List (List UInt8)
def zeroLg : Lg := (0, [])
def okLg (l : Lg) : Prop := (1 ≤ l.1 ∧ l.1 ≤ 1000000) ∧ l.2.length ≤ 40 ∧ ∀ i, i < l.2.length → (l.2.getD i []).length ≤ 100
instance (l : Lg) : Decidable (okLg l) := by unfold okLg; infer_instance
theorem okLg_iff {l : Lg} : okLg l ↔ (1 ≤ l.1 ∧ l.1 ≤ 1000000) ∧ l.2.length ≤ 40 ∧ ∀ t ∈ l.2, t.length ≤ 100 := by
  unfold okLg
  refine and_congr Iff.rfl (and_congr Iff.rfl ⟨fun h t ht => ?_, fun h i hi => ?_⟩)
  · obtain ⟨i, hi, rfl⟩ := List.getElem_of_mem ht
    have := h i hi
    simpa [hi] using this
  · have := h _ (List.getElem_mem hi)
    simpa [hi] using this
def addB (l : Lg) (v : Int) (s : List UInt8) : Prop := v = l.1 + (l.2.length : Int) ∧ l.2.length ≠ 40 ∧ s.length ≤ 100
instance (l : Lg) (v : Int) (s : List UInt8) : Decidable (addB l v s) := by unfold addB; infer_instance
def addLg (l : Lg) (v : Int) (s : List UInt8) : Lg × Bool := if okLg l then (if addB l v s then ((l.1, l.2 ++ [s]), true) else (l, false)) else (zeroLg, false)
def txtB (l : Lg) (v : Int) : Prop := l.1 ≤ v ∧ v ≤ l.1 + (l.2.length : Int) - 1
instance (l : Lg) (v : Int) : Decidable (txtB l v) := by unfold txtB; infer_instance
def txtLg (l : Lg) (v : Int) : List UInt8 × Bool := if okLg l ∧ txtB l v then (l.2.getD (v - l.1).toNat [], true) else ([], false)
/-- How many are dropped, how many are kept. -/
def shN (l : Lg) (b : Int) : Int := min (max 0 (min (l.2.length : Int) (max 0 (min b 2000000) - l.1))) (1000000 - l.1)
def shLg (l : Lg) (b : Int) : Lg := if okLg l then (l.1 + shN l b, l.2.drop (shN l b).toNat) else zeroLg
def cuN (l : Lg) (a : Int) : Int := max 0 (min (l.2.length : Int) (max 0 (min a 2000000) - l.1 + 1))
def cuLg (l : Lg) (a : Int) : Lg := if okLg l then (l.1, l.2.take (cuN l a).toNat) else zeroLg
theorem shN_bound {l : Lg} (h : okLg l) (b : Int) : 0 ≤ shN l b ∧ shN l b ≤ (l.2.length : Int) ∧ l.1 + shN l b ≤ 1000000 := by
  have := h.1
  unfold shN
  omega
theorem cuN_bound {l : Lg} (h : okLg l) (a : Int) : 0 ≤ cuN l a ∧ cuN l a ≤ (l.2.length : Int) := by
  have := h.1
  unfold cuN
  omega
theorem shLg_ok {l : Lg} (h : okLg l) (b : Int) : okLg (shLg l b) := by
  have hb := shN_bound h b
  have h1 := h.1
  have h2 := h.2.1
  rw [shLg, if_pos h, okLg_iff]
  obtain ⟨_, _, h3⟩ := okLg_iff.1 h
  exact ⟨⟨by simp only; omega, by simp only; omega⟩, by simp only [List.length_drop]; omega, fun t ht => h3 t (List.mem_of_mem_drop ht)⟩
theorem cuLg_ok {l : Lg} (h : okLg l) (a : Int) : okLg (cuLg l a) := by
  rw [cuLg, if_pos h, okLg_iff]
  obtain ⟨h1, h2, h3⟩ := okLg_iff.1 h
  exact ⟨h1, by simp only [List.length_take]; omega, fun t ht => h3 t (List.mem_of_mem_take ht)⟩
theorem addLg_ok {l : Lg} {v : Int} {s : List UInt8} (h : (addLg l v s).2 = true) : okLg l ∧ addB l v s ∧ (addLg l v s).1 = (l.1, l.2 ++ [s]) ∧ okLg (addLg l v s).1 := by
  unfold addLg at h ⊢
  split at h
  · rename_i h1
    split at h
    · rename_i h2
      rw [if_pos h1, if_pos h2]
      refine ⟨h1, h2, rfl, ?_⟩
      obtain ⟨a1, a2, a3⟩ := okLg_iff.1 h1
      rw [okLg_iff]
      have := h2.2.1
      refine ⟨a1, by simp only [List.length_append, List.length_cons, List.length_nil]; omega, fun t ht => ?_⟩
      rcases List.mem_append.1 ht with h | h
      · exact a3 t h
      · rw [List.mem_singleton] at h; rw [h]; exact h2.2.2
    · cases h
  · cases h
/-- What the frame of number v with text s tells. -/
def lineL (v : Nat) (s : List UInt8) : List UInt8 := dec v ++ 32 :: s
def linesL (F : Nat) (T : List (List UInt8)) : List (List UInt8) := (List.range T.length).map (fun i => lineL (F + i) (T.getD i []))
def showLg (l : Lg) : List UInt8 := if okLg l then bytesOf (linesL l.1.toNat l.2) else []
/-- One frame of those that are recovered: is it added? -/
def recStep (l : Lg) (t : List UInt8) : Lg × Bool :=
  if (rdL (upto 32 t)).2 = true ∧ (upto 32 t).length < t.length then addLg l (rdL (upto 32 t)).1 (t.drop ((upto 32 t).length + 1)) else (l, false)
def recF (l : Lg) : List (List UInt8) → Lg
  | [] => l
  | t :: ts => if (recStep l t).2 = true then recF (recStep l t).1 ts else l
theorem recStep_no {l : Lg} {t : List UInt8} (hl : okLg l) (h : (recStep l t).2 = false) : (recStep l t).1 = l := by
  unfold recStep at h ⊢
  split
  · rename_i h1
    rw [if_pos h1] at h
    unfold addLg at h ⊢
    rw [if_pos hl] at h ⊢
    split
    · rename_i h2
      rw [if_pos h2] at h
      cases h
    · rfl
  · rfl
theorem recStep_ok {l : Lg} {t : List UInt8} (hl : okLg l) : okLg (recStep l t).1 := by
  cases h : (recStep l t).2 with
  | false => rw [recStep_no hl h]; exact hl
  | true =>
    unfold recStep at h ⊢
    split at h
    · rename_i h1
      rw [if_pos h1]
      exact (addLg_ok h).2.2.2
    · cases h
theorem recF_ok : ∀ (ts : List (List UInt8)) {l : Lg}, okLg l → okLg (recF l ts)
  | [], l, h => h
  | t :: ts, l, h => by
    unfold recF
    split
    · exact recF_ok ts (recStep_ok h)
    · exact h
theorem recF_first : ∀ (ts : List (List UInt8)) (l : Lg), okLg l → (recF l ts).1 = l.1
  | [], l, _ => rfl
  | t :: ts, l, h => by
    unfold recF
    split
    · rename_i h1
      rw [recF_first ts _ (recStep_ok h)]
      unfold recStep at h1 ⊢
      split at h1
      · rename_i h2
        rw [if_pos h2, (addLg_ok h1).2.2.1]
      · cases h1
    · rfl
/-- The lines of a log are read back. -/
theorem recStep_line {F : Nat} {T : List (List UInt8)} {s : List UInt8} (hF : 1 ≤ F ∧ F ≤ 1000000) (hT : T.length < 40) (hok : okLg ((F : Int), T)) (hs : s.length ≤ 100) : recStep ((F : Int), T) (lineL (F + T.length) s) = (((F : Int), T ++ [s]), true) := by
  have hu : upto 32 (lineL (F + T.length) s) = dec (F + T.length) := upto_at (dec_no32 _) _
  have hr : rdL (dec (F + T.length)) = (((F + T.length : Nat) : Int), true) := rdL_dec (by omega)
  unfold recStep
  rw [hu, hr, if_pos ⟨rfl, by simp [lineL]⟩]
  have hd : (lineL (F + T.length) s).drop ((dec (F + T.length)).length + 1) = s := by simp [lineL]
  rw [hd, addLg, if_pos hok, if_pos ⟨by simp only; omega, by simp only; omega, hs⟩]
theorem linesL_drop {F : Nat} {T : List (List UInt8)} {k : Nat} (hk : k < T.length) : (linesL F T).drop k = lineL (F + k) (T.getD k []) :: (linesL F T).drop (k + 1) := by
  have hl : k < (linesL F T).length := by simpa [linesL] using hk
  rw [List.drop_eq_getElem_cons hl]
  congr 1
  simp [linesL]
theorem okLg_take {F : Int} {T : List (List UInt8)} (h : okLg (F, T)) (k : Nat) : okLg (F, T.take k) := by
  rw [okLg_iff] at h ⊢
  exact ⟨h.1, by simp only [List.length_take]; have := h.2.1; simp only at this; omega, fun t ht => h.2.2 t (List.mem_of_mem_take ht)⟩
theorem recF_lines {F : Nat} {T : List (List UInt8)} (hok : okLg ((F : Int), T)) : ∀ (d k n : Nat), k + d = n → n ≤ T.length → recF ((F : Int), T.take k) (((linesL F T).take n).drop k) = ((F : Int), T.take n)
  | 0, k, n, h, hn => by
    have : k = n := by omega
    subst this
    rw [List.drop_eq_nil_of_le (by rw [List.length_take]; omega)]
    rfl
  | d + 1, k, n, h, hn => by
    have hk : k < T.length := by omega
    have hl : (linesL F T).length = T.length := by simp [linesL]
    have e1 : ((linesL F T).take n).drop k = lineL (F + k) (T.getD k []) :: ((linesL F T).take n).drop (k + 1) := by
      rw [List.drop_take, List.drop_take, linesL_drop hk, show n - k = (n - (k + 1)) + 1 by omega, List.take_succ_cons]
    have ht : (T.take k).length = k := by rw [List.length_take]; omega
    have h40 : T.length ≤ 40 := hok.2.1
    have hF := hok.1
    simp only at hF
    have e2 := recStep_line (F := F) (T := T.take k) (s := T.getD k []) (by omega) (by rw [ht]; omega) (okLg_take hok k) (hok.2.2 k hk)
    rw [ht] at e2
    have e3 : T.take k ++ [T.getD k []] = T.take (k + 1) := by rw [List.take_succ_eq_append_getElem hk]; simp [hk]
    rw [e3] at e2
    rw [e1, recF, e2, if_pos rfl]
    exact recF_lines hok d (k + 1) n (by omega) hn
theorem recF_all {F : Nat} {T : List (List UInt8)} (hok : okLg ((F : Int), T)) (n : Nat) (hn : n ≤ T.length) : recF ((F : Int), []) ((linesL F T).take n) = ((F : Int), T.take n) := by
  have := recF_lines hok n 0 n (by omega) hn
  simpa using this
theorem dec_len7 {n : Nat} (h : n < 10 ^ 7) : (dec n).length ≤ 7 := dec_len (k := 6) h
theorem linesL_short {F : Nat} {T : List (List UInt8)} (hok : okLg ((F : Int), T)) : ∀ t ∈ linesL F T, t.length ≤ 108 := by
  intro t ht
  simp only [linesL, List.mem_map, List.mem_range] at ht
  obtain ⟨i, hi, rfl⟩ := ht
  have h1 := hok.1
  have h2 := hok.2.1
  have h3 := hok.2.2 i hi
  simp only at h1 h2 h3
  have := dec_len7 (n := F + i) (by omega)
  simp only [lineL, List.length_append, List.length_cons]
  omega
theorem begins_nil (t : List UInt8) : ¬ Begins [] t := fun h => by
  have := h.2.length_le
  rw [frL_len] at this
  simp at this
/-- What a log is shown as has its lines as its frames. -/
theorem show_frames {l : Lg} (h : okLg l) : IsFrames (showLg l) (linesL l.1.toNat l.2) := by
  have hF : ((l.1.toNat : Nat) : Int) = l.1 := by have := h.1; omega
  have h' : okLg ((l.1.toNat : Int), l.2) := by rw [hF]; exact h
  refine isFrames_of (r := []) (by rw [showLg, if_pos h, List.append_nil]) (fun t ht => ?_) begins_nil
  have := linesL_short h' t ht
  omega
/-- Recovered of what a log is shown as is the log; of a first part of it, a first part. -/
theorem rec_show {l : Lg} (h : okLg l) {ts : List (List UInt8)} (hf : IsFrames (showLg l) ts) : recF (l.1, []) ts = l := by
  rw [← (show_frames h).unique hf]
  have hF : ((l.1.toNat : Nat) : Int) = l.1 := by have := h.1; omega
  have h' : okLg ((l.1.toNat : Int), l.2) := by rw [hF]; exact h
  have := recF_all h' l.2.length (Nat.le_refl _)
  rw [hF, List.take_length, List.take_of_length_le (by simp [linesL])] at this
  exact this
theorem rec_part {l : Lg} (h : okLg l) {c : List UInt8} {ts : List (List UInt8)} (hc : c <+: showLg l) (hf : IsFrames c ts) : ∃ n, n ≤ l.2.length ∧ recF (l.1, []) ts = (l.1, l.2.take n) := by
  have hp := (show_frames h).cut hc hf
  have hF : ((l.1.toNat : Nat) : Int) = l.1 := by have := h.1; omega
  have h' : okLg ((l.1.toNat : Int), l.2) := by rw [hF]; exact h
  have hl := hp.length_le
  have hn : ts.length ≤ l.2.length := by simpa [linesL] using hl
  refine ⟨ts.length, hn, ?_⟩
  have := recF_all h' ts.length hn
  rw [hF, ← List.prefix_iff_eq_take.1 hp] at this
  exact this
/-- What is left of a shortened or a cut log is as it was. -/
theorem sh_text {l : Lg} (h : okLg l) (b : Int) {i : Nat} (hi : i < l.2.length) : ((txtLg (shLg l b) (l.1 + (i : Int))).2 = true → (txtLg (shLg l b) (l.1 + (i : Int))).1 = l.2.getD i []) ∧ (b ≤ l.1 + (i : Int) → (txtLg (shLg l b) (l.1 + (i : Int))).2 = true) := by
  have hb := shN_bound h b
  have hk := shLg_ok h b
  have e : shLg l b = (l.1 + shN l b, l.2.drop (shN l b).toNat) := by rw [shLg, if_pos h]
  unfold txtLg
  constructor
  · intro h2
    split at h2
    · rename_i h3
      rw [if_pos h3]
      have h4 := h3.2
      rw [e] at h4 ⊢
      simp only [txtB, List.length_drop] at h4
      simp only [List.getD_eq_getElem?_getD, List.getElem?_drop]
      congr 2
      omega
    · cases h2
  · intro h2
    have h1 := h.1
    have hm : shN l b ≤ (i : Int) := by unfold shN; omega
    have ht : txtB (shLg l b) (l.1 + (i : Int)) := by
      rw [e]
      simp only [txtB, List.length_drop]
      omega
    rw [if_pos ⟨hk, ht⟩]
theorem cu_text {l : Lg} (h : okLg l) (a : Int) {i : Nat} (hi : i < l.2.length) : ((txtLg (cuLg l a) (l.1 + (i : Int))).2 = true → (txtLg (cuLg l a) (l.1 + (i : Int))).1 = l.2.getD i []) ∧ ((txtLg (cuLg l a) (l.1 + (i : Int))).2 = decide (l.1 + (i : Int) ≤ a)) := by
  have hb := cuN_bound h a
  have hk := cuLg_ok h a
  have e : cuLg l a = (l.1, l.2.take (cuN l a).toNat) := by rw [cuLg, if_pos h]
  have h1 := h.1
  have h40 := h.2.1
  unfold txtLg
  constructor
  · intro h2
    split at h2
    · rename_i h3
      rw [if_pos h3]
      have h4 := h3.2
      rw [e] at h4 ⊢
      simp only [txtB, List.length_take] at h4
      simp only [List.getD_eq_getElem?_getD]
      rw [show (l.1 + (i : Int) - l.1).toNat = i by omega, List.getElem?_take_of_lt (by omega)]
    · cases h2
  · by_cases ha : l.1 + (i : Int) ≤ a
    · have hm : (i : Int) < cuN l a := by unfold cuN; omega
      have ht : txtB (cuLg l a) (l.1 + (i : Int)) := by
        rw [e]
        simp only [txtB, List.length_take]
        omega
      rw [decide_eq_true ha, if_pos ⟨hk, ht⟩]
    · rw [decide_eq_false ha, if_neg (fun h3 => ?_)]
      have h4 := h3.2
      rw [e] at h4
      have hm : cuN l a ≤ (i : Int) := by unfold cuN; omega
      simp only [txtB, List.length_take] at h4
      omega
end Go.Proofs.Ytgaibngaincahaa
