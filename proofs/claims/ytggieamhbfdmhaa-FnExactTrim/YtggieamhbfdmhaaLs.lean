/-
  Several texts in one: Fnp Fns Fnt Fnu.
-/
import Derived.Test.YtggieamhbfdmhaaGa
import Derived.Test.YtggieamhbfdmhaaJe
import Derived.Test.YtggieamhbfdmhaaJs
import Derived.Test.YtggieamhbfdmhaaJn
import Derived.Test.YtggieamhbfdmhaaHh
import Derived.Deep.RegionHeld3
import Derived.BigQuiet
/-
  Rows, what is stable, columns and lags as plain lists.
-/
namespace Go.Proofs.Ytggieamhbfdmhaa
set_option linter.unusedVariables false
set_option linter.unusedSimpArgs false

/-- Rows that are right: one to eight vectors of one length. -/
def okFr (H : List (List Int)) : Bool := decide (1 ≤ H.length) && decide (H.length ≤ 8) && (List.range H.length).all (fun i => okB (row H i) && decide ((row H i).length = (row H 0).length))
theorem okFr_iff {H : List (List Int)} : okFr H = true ↔ (1 ≤ H.length ∧ H.length ≤ 8) ∧ ∀ i, i < H.length → okB (row H i) = true ∧ (row H i).length = (row H 0).length := by
  simp [okFr]
theorem okFr_no {H : List (List Int)} {i : Nat} (hi : i < H.length) (h : ¬ (okB (row H i) = true ∧ (row H i).length = (row H 0).length)) : okFr H = false := by
  cases e : okFr H with
  | false => rfl
  | true => exact absurd ((okFr_iff.1 e).2 i hi) h
/-- A flag. -/
def fl (al : List Bool) (i : Nat) : Bool := al.getD i false
theorem pair_ok {f : Int → Int → Int} (hf : ∀ x y, (0 ≤ x ∧ x ≤ 1000000) → (0 ≤ y ∧ y ≤ 1000000) → 0 ≤ f x y ∧ f x y ≤ 1000000) {xs ys : List Int} (h1 : okB xs = true) (h2 : okB ys = true) (hl : xs.length = ys.length) : pairB f xs ys = jn f xs ys xs.length ∧ (pairB f xs ys).length = xs.length ∧ okB (pairB f xs ys) = true := by
  have ht : twoB xs ys = true := by simp [twoB, h1, h2, hl]
  have e : pairB f xs ys = jn f xs ys xs.length := by rw [pairB, if_pos ht]
  have hlen : (pairB f xs ys).length = xs.length := by rw [e, jn_length]
  refine ⟨e, hlen, ?_⟩
  have h8 := okB_len h1
  refine okB_true_of (by omega) (by omega) (fun j hj => ?_)
  rw [hlen] at hj
  rw [e, jn_el _ _ _ hj]
  have := hf _ _ (okB_el h1 hj) (okB_el h2 (i := j) (by omega))
  simp [inB]
  omega
theorem minOk : ∀ x y : Int, (0 ≤ x ∧ x ≤ 1000000) → (0 ≤ y ∧ y ≤ 1000000) → 0 ≤ min x y ∧ min x y ≤ 1000000 := fun x y h1 h2 => by omega
theorem maxOk : ∀ x y : Int, (0 ≤ x ∧ x ≤ 1000000) → (0 ≤ y ∧ y ≤ 1000000) → 0 ≤ max x y ∧ max x y ≤ 1000000 := fun x y h1 h2 => by omega
/-- The meet of the first k rows that are alive. -/
def stF (H : List (List Int)) (al : List Bool) : Nat → List Int
  | 0 => []
  | i + 1 => if fl al i = false then stF H al i else if stF H al i = [] then row H i else pairB min (stF H al i) (row H i)
def stL (H : List (List Int)) (al : List Bool) : List Int := if okFr H = true ∧ al.length = H.length then stF H al H.length else []
/-- What is stable of the first k rows. -/
def IsSt (H : List (List Int)) (al : List Bool) (k : Nat) (Z : List Int) : Prop := (Z = [] ∧ ∀ i, i < k → fl al i = false) ∨ (Z.length = (row H 0).length ∧ okB Z = true ∧ (∀ i, i < k → fl al i = true → ∀ j, j < Z.length → el Z j ≤ el (row H i) j) ∧ ∀ j, j < Z.length → ∃ i, i < k ∧ fl al i = true ∧ el (row H i) j = el Z j)
theorem stF_is {H : List (List Int)} (al : List Bool) (h : okFr H = true) : ∀ k, k ≤ H.length → IsSt H al k (stF H al k)
  | 0, _ => .inl ⟨rfl, fun i hi => by omega⟩
  | k + 1, hk => by
    have ih := stF_is al h k (by omega)
    obtain ⟨hr, hrl⟩ := (okFr_iff.1 h).2 k (by omega)
    unfold stF
    by_cases ha : fl al k = false
    · rw [if_pos ha]
      rcases ih with ⟨e, h1⟩ | ⟨h1, h2, h3, h4⟩
      · refine .inl ⟨e, fun i hi => ?_⟩
        by_cases e : i = k
        · rw [e]; exact ha
        · exact h1 i (by omega)
      · refine .inr ⟨h1, h2, fun i hi hi2 j hj => ?_, fun j hj => ?_⟩
        · by_cases e : i = k
          · rw [e, ha] at hi2; cases hi2
          · exact h3 i (by omega) hi2 j hj
        · obtain ⟨i, h5, h6⟩ := h4 j hj
          exact ⟨i, by omega, h6⟩
    · have ha' : fl al k = true := by simpa using ha
      rw [if_neg ha]
      rcases ih with ⟨e, h1⟩ | ⟨h1, h2, h3, h4⟩
      · rw [if_pos e]
        refine .inr ⟨hrl, hr, fun i hi hi2 j hj => ?_, fun j hj => ⟨k, by omega, ha', rfl⟩⟩
        by_cases e2 : i = k
        · rw [e2]; omega
        · rw [h1 i (by omega)] at hi2; cases hi2
      · have hne : ¬ (stF H al k = []) := fun e => by rw [e] at h2; simp [okB] at h2
        rw [if_neg hne]
        obtain ⟨e1, e2, e3⟩ := pair_ok minOk h2 hr (by rw [h1, hrl])
        refine .inr ⟨by rw [e2, h1], e3, fun i hi hi2 j hj => ?_, fun j hj => ?_⟩
        · rw [e2] at hj
          rw [e1, jn_el _ _ _ hj]
          by_cases e5 : i = k
          · rw [e5]; omega
          · have := h3 i (by omega) hi2 j hj; omega
        · rw [e2] at hj
          rw [e1, jn_el _ _ _ hj]
          by_cases e5 : el (stF H al k) j ≤ el (row H k) j
          · obtain ⟨i, h5, h6, h7⟩ := h4 j hj
            exact ⟨i, by omega, h6, by rw [h7]; omega⟩
          · exact ⟨k, by omega, ha', by omega⟩
theorem stL_is {H : List (List Int)} {al : List Bool} (h : okFr H = true) (hl : al.length = H.length) : IsSt H al H.length (stL H al) := by
  unfold stL
  rw [if_pos ⟨h, hl⟩]
  exact stF_is al h _ (Nat.le_refl _)
theorem stL_ne {H : List (List Int)} {al : List Bool} (h : stL H al ≠ []) : okFr H = true ∧ al.length = H.length := by
  unfold stL at h
  split at h
  · rename_i h1; exact h1
  · exact absurd rfl h
theorem stL_small (H : List (List Int)) (al : List Bool) : (stL H al).length ≤ 8 ∧ ∀ x ∈ stL H al, 0 ≤ x ∧ x ≤ 1000000 := by
  by_cases h : okFr H = true ∧ al.length = H.length
  · rcases stL_is h.1 h.2 with ⟨e, _⟩ | ⟨h1, h2, _⟩
    · rw [e]; exact ⟨by simp, fun x hx => absurd hx List.not_mem_nil⟩
    · refine ⟨(okB_len h2).2, fun x hx => ?_⟩
      obtain ⟨i, hi, rfl⟩ := List.mem_iff_getElem.1 hx
      have := okB_el h2 hi
      simpa [el, hi] using this
  · unfold stL; rw [if_neg h]; exact ⟨by simp, fun x hx => absurd hx List.not_mem_nil⟩
/-- With more alive what is stable is no more. -/
theorem stL_more {H : List (List Int)} {al am : List Bool} (hl : am.length = al.length) (hm : ∀ i, fl al i = true → fl am i = true) (hne : stL H al ≠ []) : underB (stL H am) (stL H al) = true := by
  obtain ⟨h1, h2⟩ := stL_ne hne
  have A := stL_is h1 h2
  have B := stL_is (al := am) h1 (by rw [hl, h2])
  rcases A with ⟨e, _⟩ | ⟨a1, a2, a3, a4⟩
  · exact absurd e hne
  · have hpos : 0 < (stL H al).length := by have := okB_len a2; omega
    obtain ⟨i0, hi0, hf0, _⟩ := a4 0 hpos
    rcases B with ⟨e, hb⟩ | ⟨b1, b2, b3, b4⟩
    · have := hb i0 hi0; rw [hm i0 hf0] at this; cases this
    · have ht : twoB (stL H am) (stL H al) = true := by simp [twoB, a2, b2, a1, b1]
      unfold underB
      rw [ht, Bool.true_and]
      unfold leB
      rw [List.all_eq_true]
      intro j hj
      rw [List.mem_range] at hj
      have hj2 : j < (stL H al).length := by rw [a1, ← b1]; exact hj
      obtain ⟨i, hi, hf, he⟩ := a4 j hj2
      have := b3 i hi (hm i hf) j hj
      simp
      omega
/-- Number k of each row. -/
def colF (H : List (List Int)) (k m : Nat) : List Int := (List.range m).map (fun i => el (row H i) k)
def colL (H : List (List Int)) (k : Int) : List Int := if okFr H = true ∧ 0 ≤ k ∧ k ≤ ((row H 0).length : Int) - 1 then colF H k.toNat H.length else []
theorem colF_succ (H : List (List Int)) (k m : Nat) : colF H k (m + 1) = colF H k m ++ [el (row H m) k] := by simp [colF, List.range_succ]
theorem colF_len (H : List (List Int)) (k m : Nat) : (colF H k m).length = m := by simp [colF]
/-- The join of the rows from the first to the k-th. -/
def jnA (H : List (List Int)) : Nat → List Int
  | 0 => row H 0
  | i + 1 => pairB max (jnA H i) (row H (i + 1))
theorem jnA_is {H : List (List Int)} (h : okFr H = true) : ∀ k, k < H.length → okB (jnA H k) = true ∧ (jnA H k).length = (row H 0).length ∧ ∀ i, i ≤ k → ∀ j, j < (row H 0).length → el (row H i) j ≤ el (jnA H k) j
  | 0, hk => by
    obtain ⟨hr, _⟩ := (okFr_iff.1 h).2 0 hk
    refine ⟨hr, rfl, fun i hi j _ => ?_⟩
    obtain rfl : i = 0 := by omega
    exact Int.le_refl _
  | k + 1, hk => by
    obtain ⟨i1, i2, i3⟩ := jnA_is h k (by omega)
    obtain ⟨hr, hrl⟩ := (okFr_iff.1 h).2 (k + 1) hk
    obtain ⟨e1, e2, e3⟩ := pair_ok maxOk i1 hr (by rw [i2, hrl])
    refine ⟨e3, by rw [jnA, e2, i2], fun i hi j hj => ?_⟩
    rw [jnA, e1, jn_el _ _ _ (by omega)]
    by_cases e : i = k + 1
    · rw [e]; omega
    · have := i3 i (by omega) j hj; omega
def lagL (H : List (List Int)) (who : Int) : Int := if okFr H = true ∧ 0 ≤ who ∧ who ≤ (H.length : Int) - 1 then sumB (jnA H (H.length - 1)) - sumB (row H who.toNat) else -1
theorem sumL_le : ∀ {n : Nat} {xs ys : List Int}, xs.length = n → ys.length = n → (∀ j, j < n → el xs j ≤ el ys j) → sumL xs ≤ sumL ys := by
  intro n
  induction n with
  | zero => intro xs ys h1 h2 _; rw [List.eq_nil_of_length_eq_zero h1, List.eq_nil_of_length_eq_zero h2]; exact Int.le_refl _
  | succ n ih =>
    intro xs ys h1 h2 h
    have ex : xs = xs.take n ++ [el xs n] := by
      conv => lhs; rw [← List.take_length (l := xs), h1, List.take_succ_eq_append_getElem (by omega)]
      simp [el, show n < xs.length by omega]
    have ey : ys = ys.take n ++ [el ys n] := by
      conv => lhs; rw [← List.take_length (l := ys), h2, List.take_succ_eq_append_getElem (by omega)]
      simp [el, show n < ys.length by omega]
    rw [ex, ey, sumL_snoc, sumL_snoc]
    have h3 := ih (xs := xs.take n) (ys := ys.take n) (by simp; omega) (by simp; omega) (fun j hj => by
      have := h j (by omega)
      simpa [el, List.getD_eq_getElem?_getD, List.getElem?_take, hj] using this)
    have h4 := h n (by omega)
    omega
theorem sumB_bd {xs : List Int} (h : okB xs = true) : 0 ≤ sumB xs ∧ sumB xs ≤ 8000000 := by
  have h1 := sumL_take h xs.length (Nat.le_refl _)
  rw [List.take_length] at h1
  have h2 := (okB_len h).2
  rw [sumB, if_pos h]
  omega
theorem lagL_pos {H : List (List Int)} {who : Int} (h : okFr H = true) (h0 : 0 ≤ who) (h1 : who < (H.length : Int)) : 0 ≤ lagL H who := by
  unfold lagL
  rw [if_pos ⟨h, h0, by omega⟩]
  obtain ⟨n1, n2⟩ := (okFr_iff.1 h).1
  obtain ⟨i1, i2, i3⟩ := jnA_is h (H.length - 1) (by omega)
  obtain ⟨hr, hrl⟩ := (okFr_iff.1 h).2 who.toNat (by omega)
  rw [sumB, if_pos i1, sumB, if_pos hr]
  have := sumL_le (xs := row H who.toNat) (ys := jnA H (H.length - 1)) hrl i2 (fun j hj => i3 _ (by omega) j hj)
  omega
end Go.Proofs.Ytggieamhbfdmhaa

/-
  Flags in memory; the contracts of the specification's RowsOk, Stable, Column, l13Join and Lag.
-/
namespace Go.Proofs.Ytggieamhbfdmhaa
set_option linter.unusedVariables false
set_option linter.unusedSimpArgs false
open Go.RowKit Go.Sort

theorem mixed13 : Try.prog.follows .mixedOrders = true := by kernel_rfl
/-- Flags, to be read. -/
def FlS (w : World) (a : Option Addr) (al : List Bool) : Prop := al.length = 0 ∨ ∃ b off, a = some ⟨b, off, none⟩ ∧ ∀ i, i < al.length → w.cell? ⟨b, off + i, none⟩ = some (.bool (fl al i))
theorem FlS.below {w w' : World} {a : Option Addr} {al : List Bool} (h : FlS w a al) (hb : Below w.heap.size w w') : FlS w' a al := by
  rcases h with h | ⟨b, off, ha, hc⟩
  · exact .inl h
  · exact .inr ⟨b, off, ha, fun i hi => (hb.cell (World.block_lt_of_cell? _ _ (hc i hi))).trans (hc i hi)⟩
theorem FlS.drewN {w : World} {a : Option Addr} {al : List Bool} (h : FlS w a al) (n : Nat) : FlS (w.drewN n) a al := h
theorem vv_cells {w : World} {a : Option Addr} {n c : Nat} {H : List (List Int)} (h : VV w a n c H) (hn : 0 < n) : ∃ b off, a = some ⟨b, off, none⟩ ∧ ∀ i, i < n → ∃ x cx, w.cell? ⟨b, off + i, none⟩ = some (.slice x (row H i).length cx) ∧ Vec w x (row H i).length (row H i) ∧ (row H i).length ≤ cx ∧ cx ≤ maxLen := by
  obtain ⟨b, off, _, _, ha, _⟩ := h.row 0 hn
  refine ⟨b, off, ha, fun i hi => ?_⟩
  obtain ⟨b', off', x, cx, ha', h1, h2, h3, h4⟩ := h.row i hi
  rw [ha] at ha'
  cases ha'
  exact ⟨x, cx, h1, h2, h3, h4⟩
set_option maxRecDepth 100000 in
set_option maxHeartbeats 1600000 in
theorem froS_any (a : Option Addr) (n cap : Nat) (H : List (List Int)) (w : World) (hv : VV w a n cap H) :
    Calls Try.prog 73 #[.slice a n cap] w fun e w' => e = .returned (.bool (okFr H)) ∧ ∃ q, w' = w.drewN q := by
  have hm : n ≤ maxLen := Nat.le_trans hv.le hv.mx
  unfold maxLen at hm
  have HN : Hid (H.length = n) := hv.n
  have hmix := mixed13
  have h9 : n < 1 ∨ (¬ n < 1 ∧ 8 < n) ∨ (¬ n < 1 ∧ ¬ 8 < n) := by omega
  rcases h9 with h1 | ⟨h1, h2⟩ | ⟨h1, h2⟩
  · have HZ : Hid (okFr H = false) := by rw [Hid, okFr, HN.out]; simp; omega
    have k1 : (n : Int) < 1 := by omega
    go_enter Try.func73, Try.ntmps73
    go_wp2
    go_ret
    exact ⟨ret_bool (by rw [HZ.out]), 0, rfl⟩
  · have HZ : Hid (okFr H = false) := by rw [Hid, okFr, HN.out]; simp; omega
    have k1 : ¬ ((n : Int) < 1) := by omega
    have k2 : (8 : Int) < (n : Int) := by omega
    go_enter Try.func73, Try.ntmps73
    go_wp2
    go_ret
    exact ⟨ret_bool (by rw [HZ.out]), 0, rfl⟩
  · have k1 : ¬ ((n : Int) < 1) := by omega
    have k2 : ¬ ((8 : Int) < (n : Int)) := by omega
    have n0 : (0 : Int) < (n : Int) := by omega
    obtain ⟨b, off, rfl, hc⟩ := vv_cells hv (by omega)
    have HC : Hid (∀ i, i < n → ∃ x cx, w.cell? ⟨b, off + i, none⟩ = some (.slice x (row H i).length cx) ∧ Vec w x (row H i).length (row H i) ∧ (row H i).length ≤ cx ∧ cx ≤ maxLen) := hc
    obtain ⟨x0, y0, c00, _, hle0, hmx0⟩ := hc 0 (by omega)
    rw [Nat.add_zero] at c00
    clear hv hc
    go_enter Try.func73, Try.ntmps73
    go_wp2
    go_loopw [3] (fun i wr => ∃ k q : Nat, k ≤ n ∧ i = .int .i64 (k : Int) ∧ wr = w.drewN q ∧ ∀ j, j < k → okB (row H j) = true ∧ (row H j).length = (row H 0).length) (fun i _ => n - (intOf i).toNat)
    case atStart => exact ⟨0, 0, Nat.zero_le _, rfl, rfl, fun j hj => by omega⟩
    case round =>
      obtain ⟨k, q, hk, rfl, rfl, hall⟩ := hrel
      have HA : Hid (∀ j, j < k → okB (row H j) = true ∧ (row H j).length = (row H 0).length) := hall
      clear hall
      by_cases hlt : k < n
      · have i1 : (k : Int) < (n : Int) := by omega
        have i0 : (0 : Int) ≤ (k : Int) := by omega
        obtain ⟨x, cx, hcx, hvx, hlx, hmx⟩ := HC.out k hlt
        have hE : ∀ X : Nat, Calls Try.prog 24 #[.slice x (row H k).length cx] (w.drewN X) fun e w' => e = .returned (.bool (okB (row H k))) ∧ ∃ m, w' = (w.drewN X).drewN m := fun X => (specOk_any x (row H k).length cx (row H k) (w.drewN X) (hvx.drewN X) (Nat.le_trans hlx hmx)).mono (fun e w' h => ⟨h.1, 0, h.2⟩)
        have HNo : Hid (¬ (okB (row H k) = true ∧ (row H k).length = (row H 0).length) → okFr H = false) := fun h => okFr_no (by rw [HN.out]; exact hlt) h
        have HYes : Hid (okB (row H k) = true ∧ (row H k).length = (row H 0).length → ∀ j, j < k + 1 → okB (row H j) = true ∧ (row H j).length = (row H 0).length) := fun h j hj => by
          by_cases e : j = k
          · rw [e]; exact h
          · exact HA.out j (by omega)
        clear hvx
        cases hok : okB (row H k) with
        | false =>
          have HZ : Hid (okFr H = false) := HNo.out (fun h => by rw [hok] at h; cases h.1)
          rw [hok] at hE
          clear hok HNo HYes
          generalize (row H k).length = L at *
          generalize (row H 0).length = L0 at *
          go_wp2_with fail
          go_quiet (first | (go_at_call 24; exact (hE (q + _)).mono (fun e w' h => ⟨h.1, drew_more10 h.2⟩)))
          go_wp2
          go_ret
          exact ⟨ret_bool (by rw [HZ.out]), _, World.drewN_drewN _ _ _⟩
        | true =>
          rw [hok] at hE
          by_cases hq : (row H k).length = (row H 0).length
          · have HY : Hid (∀ j, j < k + 1 → okB (row H j) = true ∧ (row H j).length = (row H 0).length) := HYes.out ⟨hok, hq⟩
            have hq' : (((row H k).length : Int) != ((row H 0).length : Int)) = false := by rw [hq]; simp
            clear hok HNo HYes hq
            generalize (row H k).length = L at *
            generalize hL0 : (row H 0).length = L0 at *
            go_wp2_with fail
            go_quiet (first | (go_at_call 24; exact (hE (q + _)).mono (fun e w' h => ⟨h.1, drew_more10 h.2⟩)))
            go_wp2
            go_roundw
            case rel => exact ⟨k + 1, _, by omega, by go_num, rfl, HY.out⟩
            case measure => simp [intOf]; omega
          · have HZ : Hid (okFr H = false) := HNo.out (fun h => hq h.2)
            have hq' : (((row H k).length : Int) != ((row H 0).length : Int)) = true := by simp; omega
            clear hok HNo HYes hq
            generalize (row H k).length = L at *
            generalize (row H 0).length = L0 at *
            go_wp2_with fail
            go_quiet (first | (go_at_call 24; exact (hE (q + _)).mono (fun e w' h => ⟨h.1, drew_more10 h.2⟩)))
            go_wp2
            go_ret
            exact ⟨ret_bool (by rw [HZ.out]), _, World.drewN_drewN _ _ _⟩
      · have i1 : ¬ ((k : Int) < (n : Int)) := by omega
        obtain rfl : k = n := by omega
        have HZ : Hid (okFr H = true) := okFr_iff.2 ⟨by rw [HN.out]; omega, fun i hi => HA.out i (by rw [← HN.out]; exact hi)⟩
        go_wp2
        go_ret
        exact ⟨ret_bool (by rw [HZ.out]), _, rfl⟩
end Go.Proofs.Ytggieamhbfdmhaa

/-
  The contracts of the specification's Stable, Column, l13Join and Lag.
-/
namespace Go.Proofs.Ytggieamhbfdmhaa
set_option linter.unusedVariables false
set_option linter.unusedSimpArgs false
open Go.RowKit Go.Sort

/-- Rows where they lie. -/
def RwC (w : World) (b off n : Nat) (H : List (List Int)) : Prop := ∀ i, i < n → ∃ x cx, w.cell? ⟨b, off + i, none⟩ = some (.slice x (row H i).length cx) ∧ Vec w x (row H i).length (row H i) ∧ (row H i).length ≤ cx ∧ cx ≤ maxLen
theorem RwC.below {w w' : World} {b off n : Nat} {H : List (List Int)} (h : RwC w b off n H) (hb : Below w.heap.size w w') : RwC w' b off n H := fun i hi => by
  obtain ⟨x, cx, h1, h2, h3, h4⟩ := h i hi
  exact ⟨x, cx, (hb.cell (World.block_lt_of_cell? _ _ h1)).trans h1, h2.below hb (Nat.le_refl _), h3, h4⟩
theorem VV.below13 {w w' : World} {a : Option Addr} {n c : Nat} {H : List (List Int)} (h : VV w a n c H) (hb : Below w.heap.size w w') : VV w' a n c H := h.below hb
theorem okFr_fits {H : List (List Int)} (h : okFr H = true) {i : Nat} (hi : i < H.length) : Fits (row H i) := fun x hx => by
  obtain ⟨j, hj, rfl⟩ := List.mem_iff_getElem.1 hx
  have := okB_el ((okFr_iff.1 h).2 i hi).1 hj
  simp [el, hj] at this
  omega
set_option maxRecDepth 100000 in
set_option maxHeartbeats 1600000 in
theorem stbS_any (a a2 : Option Addr) (n cap c2 : Nat) (H : List (List Int)) (al : List Bool) (w : World) (hv : VV w a n cap H) (hf : FlS w a2 al) (hl2 : al.length ≤ maxLen) :
    Calls Try.prog 65 #[.slice a n cap, .slice a2 al.length c2] w fun e w' => AnsN w w' e (stL H al) := by
  obtain ⟨i0, hi0, hz0, hz1, hz2⟩ := info_parts2n Try.info2n
  unfold maxLen at hl2
  have hb0 : Below w.heap.size w (w.alloc (.cells #[] 2)) := (Below.refl _ _).alloc (Nat.le_refl _) _
  have hR := froS_any a n cap H _ (hv.below hb0)
  have HN : Hid (H.length = n) := hv.n
  have hm : n ≤ maxLen := Nat.le_trans hv.le hv.mx
  unfold maxLen at hm
  by_cases hok : okFr H = true
  · rw [hok] at hR
    by_cases hq : al.length = n
    · have hq' : ((al.length : Int) != (n : Int)) = false := by rw [hq]; simp
      have HZ : Hid (stL H al = stF H al n) := by rw [Hid, stL, if_pos ⟨hok, by rw [hq, HN.out]⟩, HN.out]
      have h8 := (okFr_iff.1 hok).1
      rw [HN.out] at h8
      have HIS : Hid (∀ k, k ≤ n → IsSt H al k (stF H al k)) := fun k hk => stF_is al hok k (by rw [HN.out]; exact hk)
      have HRW : Hid (∀ k, k < n → okB (row H k) = true ∧ (row H k).length = (row H 0).length) := fun k hk => (okFr_iff.1 hok).2 k (by rw [HN.out]; exact hk)
      obtain ⟨b, off, rfl, hc⟩ := vv_cells hv (by omega)
      have HC : Hid (RwC w b off n H) := hc
      obtain hz | ⟨b2, o2, rfl, hfc⟩ := hf
      · omega
      have HF : Hid (∀ i, i < n → w.cell? ⟨b2, o2 + i, none⟩ = some (.bool (fl al i))) := fun i hi => hfc i (by omega)
      have HQ : Hid (al.length = n) := hq
      clear hv hc hfc hok hq
      generalize al.length = nl at *
      go_enter Try.func65, Try.ntmps65
      go_wp2_with (go_at_call 73; refine hR.mono ?_; rintro e w1 ⟨rfl, q1, hw1⟩; have hb1 : Below w.heap.size w w1 := (by rw [hw1]; exact belowN hb0); have hs1 : w.heap.size < w1.heap.size := (by rw [hw1]; simp); clear hw1)
      clear hq' hR hb0
      go_loopw [5, 6] (fun v i wr => ∃ (k g og cg : Nat), k ≤ n ∧ i = .int .i64 (k : Int) ∧ v = .slice (some ⟨g, og, none⟩) (stF H al k).length cg ∧ w.heap.size ≤ g ∧ OI wr g og (stF H al k).length cg (stF H al k) ∧ Below w.heap.size w wr) (fun _ i _ => n - (intOf i).toNat)
      case atStart => exact ⟨0, w.heap.size, 0, 0, Nat.zero_le _, rfl, rfl, Nat.le_refl _, ⟨rfl, Nat.le_refl _, Nat.zero_le _, hs1, fun i hi => by simp [stF] at hi, fun i hi => by simp at hi, fun i hi => by simp at hi⟩, hb1⟩
      case round =>
        clear hb1 hs1
        obtain ⟨k, g, og, cg, hk, rfl, rfl, hg, hO, hB⟩ := hrel
        have LO : Hid (OI wr g og (stF H al k).length cg (stF H al k)) := hO
        have LB : Hid (Below w.heap.size w wr) := hB
        have LG : Hid (w.heap.size ≤ g) := hg
        clear hO hg
        by_cases hlt : k < n
        · have k1 : (k : Int) < (n : Int) := by omega
          have k1' : (k : Int) < (nl : Int) := by have := HQ.out; omega
          have k0 : (0 : Int) ≤ (k : Int) := by omega
          have f1 := (hB.cell (World.block_lt_of_cell? _ _ (HF.out k hlt))).trans (HF.out k hlt)
          have HS : Hid (stF H al (k + 1) = if fl al k = false then stF H al k else if stF H al k = [] then row H k else pairB min (stF H al k) (row H k)) := rfl
          cases hfl : fl al k with
          | false =>
            have HS' : Hid (stF H al (k + 1) = stF H al k) := by rw [Hid, HS.out, if_pos hfl]
            rw [hfl] at f1
            clear hB
            go_wp2
            go_roundw
            case rel => exact ⟨k + 1, g, og, cg, by omega, by go_num, by rw [HS'.out], LG.out, by rw [HS'.out]; exact LO.out, LB.out⟩
            case measure => simp [intOf]; omega
          | true =>
            rw [hfl] at f1
            obtain ⟨x, cx, hcx, hvx, hlx, hmx⟩ := (HC.out.below hB) k hlt
            obtain ⟨hrk, hrl⟩ := HRW.out k hlt
            have h18 := okB_len hrk
            obtain ⟨bx, ox, rfl, hxc⟩ := hvx.cells h18.1
            by_cases hemp : stF H al k = []
            · have HS' : Hid (stF H al (k + 1) = row H k) := by rw [Hid, HS.out, if_neg (by simp [hfl]), if_pos hemp]
              have LO2 : OSl wr 1 g og 0 cg [] := by have := LO.out; rw [hemp] at this; exact this
              rw [hemp]
              have hnews := num_news (xs := row H k) (w := wr) (b := bx) (off := ox) hxc
              have hln : ((row H k).map (Value.int .i64)).length = (row H k).length * 1 := by simp
              clear hB hemp hvx hxc hrl hrk
              go_wp2_with (at_builtin; refine wpList_append_os _ rfl _ _ _ rfl 2 i0 _ 1 8 Try.underlying24 hi0 hz0 hz1 hz2 rfl (by omega) g og 0 cg _ rfl LO2 ⟨bx, ox, none⟩ (row H k).length cx ((row H k).map (Value.int .i64)) rfl hln hnews (by simp [Value.oneCell']) (by unfold maxLen; omega) (by omega) ?_; intro g6 o6 c6 w6 hO6 hg6 hat6)
              rw [Nat.zero_add] at hO6
              have NO : Hid (OI w6 g6 o6 (row H k).length c6 (row H k)) := hO6
              have NG : Hid (w.heap.size ≤ g6) := by
                rcases hat6 with h | h
                · rw [h]; exact LG.out
                · rw [h]; exact LB.out.size
              have NB : Hid (Below w.heap.size w w6) := below_grown6 LB.out hg6 LG.out LB.out.size
              clear hO6 hg6 hat6 hnews hln LO2
              go_roundw
              case rel => exact ⟨k + 1, g6, o6, c6, by omega, by go_num, by rw [HS'.out], NG.out, by rw [HS'.out]; exact NO.out, NB.out⟩
              case measure => simp [intOf]; omega
            · have HS' : Hid (stF H al (k + 1) = pairB min (stF H al k) (row H k)) := by rw [Hid, HS.out, if_neg (by simp [hfl]), if_neg hemp]
              have hne0 : ¬ ((stF H al k).length = 0) := fun h => hemp (List.eq_nil_of_length_eq_zero h)
              have hne : (((stF H al k).length : Int) == 0) = false := by simp; omega
              have hZ : okB (stF H al k) = true := by
                rcases HIS.out k hk with ⟨e, _⟩ | ⟨_, h, _⟩
                · exact absurd e hemp
                · exact h
              have hz8 := okB_len hZ
              have hZf : Fits (stF H al k) := fun y hy => by
                obtain ⟨j, hj, rfl⟩ := List.mem_iff_getElem.1 hy
                have := okB_el hZ hj
                simp [el, hj] at this
                omega
              have hM := specMeet_any (some ⟨g, og, none⟩) (some ⟨bx, ox, none⟩) (stF H al k).length cg (row H k).length cx (stF H al k) (row H k) wr (LO.out.vec hZf) hvx (by unfold maxLen; omega) (by unfold maxLen; omega)
              rw [← HS'.out] at hM
              clear hB hemp hvx hxc hrl hrk hZ hZf hne0
              generalize hS1 : stF H al (k + 1) = S1 at *
              generalize stF H al k = S0 at *
              go_wp2_with (go_at_call 16; refine hM.mono ?_; rintro e w6 ⟨g6, c6, rfl, hg6, hO6, hb6⟩)
              have NB : Hid (Below w.heap.size w w6) := LB.out.trans (hb6.mono LB.out.size)
              have NG : Hid (w.heap.size ≤ g6) := Nat.le_trans LB.out.size hg6
              have NO : Hid (OI w6 g6 0 S1.length c6 S1) := OI.own hO6
              clear hO6 hg6 hb6 hM
              go_roundw
              case rel => exact ⟨k + 1, g6, 0, c6, by omega, by go_num, by rw [hS1], NG.out, by rw [hS1]; exact NO.out, NB.out⟩
              case measure => simp [intOf]; omega
        · have k1 : ¬ ((k : Int) < (n : Int)) := by omega
          obtain rfl : k = n := by omega
          clear hB
          go_wp2
          go_ret
          rw [HZ.out]
          exact ⟨g, og, cg, rfl, LG.out, LO.out, LB.out⟩
    · have hq' : ((al.length : Int) != (n : Int)) = true := by simp; omega
      have HZ : Hid (stL H al = []) := by rw [Hid, stL, if_neg]; intro h; exact hq (by rw [h.2, HN.out])
      have HB0 : Hid (Below w.heap.size w (w.alloc (.cells #[] 2))) := hb0
      clear hok hq hv hf
      go_enter Try.func65, Try.ntmps65
      go_wp2_with (go_at_call 73; refine hR.mono ?_; rintro e w1 ⟨rfl, q1, hw1⟩; have HB1 : Hid (Below w.heap.size w w1 ∧ OI w1 w.heap.size 0 0 0 []) := (by rw [hw1]; exact ⟨belowN HB0.out, (num_empty w 2).drewN q1⟩); clear hw1)
      go_ret
      rw [HZ.out]
      exact ⟨_, 0, 0, rfl, Nat.le_refl _, HB1.out.2, HB1.out.1⟩
  · have hok' : okFr H = false := by simpa using hok
    rw [hok'] at hR
    have HZ : Hid (stL H al = []) := by rw [Hid, stL, if_neg]; intro h; exact hok h.1
    have HB0 : Hid (Below w.heap.size w (w.alloc (.cells #[] 2))) := hb0
    clear hok hok' hv hf
    go_enter Try.func65, Try.ntmps65
    go_wp2_with (go_at_call 73; refine hR.mono ?_; rintro e w1 ⟨rfl, q1, hw1⟩; have HB1 : Hid (Below w.heap.size w w1 ∧ OI w1 w.heap.size 0 0 0 []) := (by rw [hw1]; exact ⟨belowN HB0.out, (num_empty w 2).drewN q1⟩); clear hw1)
    go_ret
    rw [HZ.out]
    exact ⟨_, 0, 0, rfl, Nat.le_refl _, HB1.out.2, HB1.out.1⟩
set_option maxRecDepth 100000 in
set_option maxHeartbeats 1600000 in
/-- The join of all rows, of right ones. -/
theorem jnaS_any (a : Option Addr) (n cap : Nat) (H : List (List Int)) (w : World) (hv : VV w a n cap H) (hok : okFr H = true) :
    Calls Try.prog 74 #[.slice a n cap] w fun e w' => AnsN w w' e (jnA H (n - 1)) := by
  obtain ⟨i0, hi0, hz0, hz1, hz2⟩ := info_parts2n Try.info2n
  have HN : Hid (H.length = n) := hv.n
  have h8 := (okFr_iff.1 hok).1
  rw [HN.out] at h8
  have HJ : Hid (∀ k, k < n → okB (jnA H k) = true) := fun k hk => (jnA_is hok k (by rw [HN.out]; exact hk)).1
  have HRW : Hid (∀ k, k < n → okB (row H k) = true) := fun k hk => ((okFr_iff.1 hok).2 k (by rw [HN.out]; exact hk)).1
  have n0 : (0 : Int) < (n : Int) := by omega
  obtain ⟨b, off, rfl, hc⟩ := vv_cells hv (by omega)
  have HC : Hid (RwC w b off n H) := hc
  have hb0 : Below w.heap.size w (w.alloc (.cells #[] 2)) := (Below.refl _ _).alloc (Nat.le_refl _) _
  obtain ⟨x0, cx0, hcx0, hvx0, hlx0, hmx0⟩ := (HC.out.below hb0) 0 (by omega)
  rw [Nat.add_zero] at hcx0
  have h08 := okB_len (HRW.out 0 (by omega))
  obtain ⟨bx, ox, rfl, hxc⟩ := hvx0.cells h08.1
  have LO2 : OSl (w.alloc (.cells #[] 2)) 1 w.heap.size 0 0 0 [] := num_empty w 2
  have hnews := num_news (xs := row H 0) (w := w.alloc (.cells #[] 2)) (b := bx) (off := ox) hxc
  have hln : ((row H 0).map (Value.int .i64)).length = (row H 0).length * 1 := by simp
  have HB0 : Hid (Below w.heap.size w (w.alloc (.cells #[] 2))) := hb0
  clear hv hc hok hb0 hvx0 hxc
  go_enter Try.func74, Try.ntmps74
  go_wp2_with (at_builtin; refine wpList_append_os _ rfl _ _ _ rfl 2 i0 _ 1 8 Try.underlying24 hi0 hz0 hz1 hz2 rfl (by omega) w.heap.size 0 0 0 _ rfl LO2 ⟨bx, ox, none⟩ (row H 0).length cx0 ((row H 0).map (Value.int .i64)) rfl hln hnews (by simp [Value.oneCell']) (by unfold maxLen; omega) (by omega) ?_; intro g6 o6 c6 w6 hO6 hg6 hat6)
  rw [Nat.zero_add] at hO6
  have NO : Hid (OI w6 g6 o6 (row H 0).length c6 (row H 0)) := hO6
  have NG : Hid (w.heap.size ≤ g6) := by
    rcases hat6 with h | h
    · rw [h]; exact Nat.le_refl _
    · rw [h]; exact HB0.out.size
  have NB : Hid (Below w.heap.size w w6) := below_grown6 HB0.out hg6 (Nat.le_refl _) HB0.out.size
  clear hO6 hg6 hat6 hnews hln LO2 hcx0
  go_loopw [3, 4] (fun v i wr => ∃ (k g og cg : Nat), k < n ∧ i = .int .i64 ((k : Int) + 1) ∧ v = .slice (some ⟨g, og, none⟩) (jnA H k).length cg ∧ w.heap.size ≤ g ∧ OI wr g og (jnA H k).length cg (jnA H k) ∧ Below w.heap.size w wr) (fun _ i _ => n - (intOf i).toNat)
  case atStart => exact ⟨0, g6, o6, c6, by omega, rfl, rfl, NG.out, NO.out, NB.out⟩
  case round =>
    clear NO NG NB
    obtain ⟨k, g, og, cg, hk, rfl, rfl, hg, hO, hB⟩ := hrel
    have LO : Hid (OI wr g og (jnA H k).length cg (jnA H k)) := hO
    have LB : Hid (Below w.heap.size w wr) := hB
    have LG : Hid (w.heap.size ≤ g) := hg
    clear hO hg
    by_cases hlt : k + 1 < n
    · have k1 : (k : Int) + 1 < (n : Int) := by omega
      have k0 : (0 : Int) ≤ (k : Int) + 1 := by omega
      have kt : ((k : Int) + 1).toNat = k + 1 := by omega
      obtain ⟨x, cx, hcx, hvx, hlx, hmx⟩ := (HC.out.below hB) (k + 1) hlt
      have hZ := HJ.out k hk
      have hz8 := okB_len hZ
      have hr8 := okB_len (HRW.out (k + 1) hlt)
      have hZf : Fits (jnA H k) := fun y hy => by
        obtain ⟨j, hj, rfl⟩ := List.mem_iff_getElem.1 hy
        have := okB_el hZ hj
        simp [el, hj] at this
        omega
      have hM := specJoin_any (some ⟨g, og, none⟩) x (jnA H k).length cg (row H (k + 1)).length cx (jnA H k) (row H (k + 1)) wr (LO.out.vec hZf) hvx (by unfold maxLen; omega) (by unfold maxLen; omega)
      have HS : Hid (jnA H (k + 1) = pairB max (jnA H k) (row H (k + 1))) := rfl
      rw [← HS.out] at hM
      clear hB hvx hZ hZf HS
      generalize hS1 : jnA H (k + 1) = S1 at *
      generalize jnA H k = S0 at *
      generalize (row H (k + 1)).length = RL at *
      go_wp2_with (go_at_call 15; refine hM.mono ?_; rintro e w7 ⟨g7, c7, rfl, hg7, hO7, hb7⟩)
      have NB : Hid (Below w.heap.size w w7) := LB.out.trans (hb7.mono LB.out.size)
      have NG : Hid (w.heap.size ≤ g7) := Nat.le_trans LB.out.size hg7
      have NO : Hid (OI w7 g7 0 S1.length c7 S1) := OI.own hO7
      clear hO7 hg7 hb7 hM
      go_roundw
      case rel => exact ⟨k + 1, g7, 0, c7, hlt, by go_num, by rw [hS1], NG.out, by rw [hS1]; exact NO.out, NB.out⟩
      case measure => simp [intOf]; omega
    · have k1 : ¬ ((k : Int) + 1 < (n : Int)) := by omega
      have HK : Hid (n - 1 = k) := by rw [Hid]; omega
      clear hB
      go_wp2
      go_ret
      rw [HK.out]
      exact ⟨g, og, cg, rfl, LG.out, LO.out, LB.out⟩
end Go.Proofs.Ytggieamhbfdmhaa

/-
  The contract of the specification's Lag; what the program's functions of frontiers must answer.
-/
namespace Go.Proofs.Ytggieamhbfdmhaa
set_option linter.unusedVariables false
set_option linter.unusedSimpArgs false
open Go.RowKit Go.Sort

theorem wrapL {a b : Int} (h : -9223372036854775808 ≤ a - b ∧ a - b ≤ 9223372036854775807) : IntKind.i64.wrap (a - b) = a - b := by rw [IntKind.wrap_i64]; omega
end Go.Proofs.Ytggieamhbfdmhaa
