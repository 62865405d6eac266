/-
  Several texts in one: Edp Eds.
-/
import Derived.Test.YtggieamhbfdmhaaLs
import Derived.Test.YtggieamhbfdmhaaIa
import Derived.Deep.RegionHeld3
/-
  Where it ends, as plain lists: Trim, Covers, Dropped; what FnTrims says of them.
-/
namespace Go.Proofs.Ytggieamhbfdmhaa
set_option linter.unusedVariables false
set_option linter.unusedSimpArgs false
open Go.RowKit Go.Sort

def trimL (H : List (List Int)) (al : List Bool) : List Int := if (stL H al).length = H.length then stL H al else []
def covB (cs : List Int) (n : Int) : Bool := okCt cs && (decide (0 ≤ n) && (decide (n ≤ 800008) && decide (n ≤ readyL cs)))
def drpL (H : List (List Int)) (t : List Int) : Int := if okFr H = true ∧ twoB t (row H 0) = true then sumB (jnA H (H.length - 1)) - sumB (pairB min (jnA H (H.length - 1)) t) else -1
theorem trimL_small (H : List (List Int)) (al : List Bool) : (trimL H al).length ≤ 8 ∧ ∀ x ∈ trimL H al, 0 ≤ x ∧ x ≤ 1000000 := by
  unfold trimL
  split
  · exact stL_small H al
  · exact ⟨by simp, fun x hx => absurd hx List.not_mem_nil⟩
theorem okB_two {xs ys : List Int} (h1 : okB xs = true) (h2 : okB ys = true) (hl : xs.length = ys.length) : twoB xs ys = true := by
  unfold twoB
  rw [h1, h2, decide_eq_true hl]
  rfl
/-- What is known of a trim that is not empty. -/
theorem trim_is {H : List (List Int)} {al : List Bool} (h : trimL H al ≠ []) : okFr H = true ∧ al.length = H.length ∧ trimL H al = stL H al ∧ (trimL H al).length = H.length ∧ okB (trimL H al) = true ∧ (trimL H al).length = (row H 0).length ∧ ∀ i, i < H.length → fl al i = true → underB (trimL H al) (row H i) = true := by
  unfold trimL at h ⊢
  split
  · rename_i hl
    rw [if_pos hl] at h
    obtain ⟨h1, h2⟩ := stL_ne h
    have hi := stL_is h1 h2
    rcases hi with ⟨h3, _⟩ | ⟨h3, h4, h5, _⟩
    · exact absurd h3 h
    · refine ⟨h1, h2, rfl, hl, h4, h3, fun i hi hf => ?_⟩
      obtain ⟨hr1, hr2⟩ := (okFr_iff.1 h1).2 i hi
      have e : (stL H al).length = (row H i).length := by rw [h3, hr2]
      rw [underB, okB_two h4 hr1 e, Bool.true_and]
      exact leB_true (fun j hj => h5 i hi hf j hj)
  · rename_i hl
    rw [if_neg hl] at h
    exact absurd rfl h
theorem foldl_add15 (xs : List Int) : ∀ a : Int, xs.foldl (· + ·) a = a + xs.foldl (· + ·) 0 := by
  induction xs with
  | nil => intro a; simp
  | cons x xs ih =>
    intro a
    rw [List.foldl_cons, List.foldl_cons, ih (a + x), ih (0 + x)]
    omega
theorem sumL_cons15 (y : Int) (ys : List Int) : sumL (y :: ys) = y + sumL ys := by
  unfold sumL
  rw [List.foldl_cons, foldl_add15]
  omega
theorem sumL_nonneg15 {xs : List Int} (h : ∀ x ∈ xs, 0 ≤ x) : 0 ≤ sumL xs := by
  induction xs with
  | nil => exact Int.le_refl _
  | cons y ys ih =>
    have hy := h y (by simp)
    have := ih (fun z hz => h z (by simp [hz]))
    rw [sumL_cons15]
    omega
theorem okB_mem15 {xs : List Int} (h : okB xs = true) : ∀ x ∈ xs, 0 ≤ x ∧ x ≤ 1000000 := by
  intro x hx
  simp only [okB, Bool.and_eq_true, List.all_eq_true, decide_eq_true_eq] at h
  exact inB7.1 (h.2 x hx)
theorem sum_each {xs : List Int} (h : ∀ x ∈ xs, 0 ≤ x) : ∀ x ∈ xs, x ≤ sumL xs := by
  intro x hx
  induction xs with
  | nil => cases hx
  | cons y ys ih =>
    have hy := h y (by simp)
    have hs : sumL (y :: ys) = y + sumL ys := sumL_cons15 y ys
    have h0 : 0 ≤ sumL ys := sumL_nonneg15 (fun z hz => h z (by simp [hz]))
    rcases List.mem_cons.1 hx with rfl | h1
    · omega
    · have := ih (fun z hz => h z (by simp [hz])) h1
      omega
/-- A short trim counts: what is ready is covered, and one more is not. -/
theorem short_ct {t : List Int} (h : okB t = true) (hs : sumB t ≤ 200) : okCt t = true ∧ sumL t ≤ 200 := by
  rw [sumB, if_pos h] at hs
  refine ⟨okCt_of h (fun i hi => ?_), hs⟩
  have h2 := sum_each (xs := t) (fun x hx => (okB_mem15 h x hx).1) (el t i) (el_mem hi)
  omega
theorem cov_ready {t : List Int} (h : okCt t = true) : covB t (readyL t) = true ∧ covB t (readyL t + 1) = false ∧ covB t 0 = true := by
  obtain ⟨h1, h2, _⟩ := readyL_is h
  refine ⟨?_, ?_, ?_⟩
  · simp [covB, h, h1]; omega
  · simp [covB, h]; omega
  · simp [covB, h, h1]
theorem song_len {t Z : List Int} (h : okCt t = true) (hs : sumL t ≤ 200) (hZ : IsWoven t Z) : (Z.length : Int) = sumL t := by
  rcases hZ with ⟨_, _, h3⟩ | ⟨h1 | h1, _⟩
  · obtain ⟨hok, hall⟩ := okCt_all h
    have h18 := okB_len hok
    have hM : ∀ i, i < t.length → el t i ≤ ((100000 : Nat) : Int) := fun i hi => (hall i hi).2
    rw [h3.unique (wovs_is h18.1 hM)]
    exact wovs_count (M := 100000) (fun i hi => ⟨(hall i hi).1, hM i hi⟩)
  · rw [h] at h1; cases h1
  · omega
theorem drp_pos {H : List (List Int)} {t : List Int} (h : okFr H = true) (ht : okB t = true) (hl : t.length = (row H 0).length) : 0 ≤ drpL H t := by
  have h1 := (okFr_iff.1 h).1
  have hr0 := ((okFr_iff.1 h).2 0 (by omega)).1
  obtain ⟨hj, hjl, _⟩ := jnA_is h (H.length - 1) (by omega)
  rw [drpL, if_pos ⟨h, okB_two ht hr0 hl⟩]
  obtain ⟨e1, e2, e3⟩ := pair_ok minOk hj ht (by rw [hjl, hl])
  have hle : sumL (pairB min (jnA H (H.length - 1)) t) ≤ sumL (jnA H (H.length - 1)) := by
    refine sumL_le e2 rfl (fun j hj2 => ?_)
    rw [e1, jn_el _ _ _ hj2]
    omega
  rw [sumB, if_pos hj, sumB, if_pos e3]
  omega
end Go.Proofs.Ytggieamhbfdmhaa

/-
  The specification's Trim, Song, Covers, Dropped.
-/
namespace Go.Proofs.Ytggieamhbfdmhaa
set_option linter.unusedVariables false
set_option linter.unusedSimpArgs false
open Go.RowKit Go.Sort

set_option maxRecDepth 100000 in
set_option maxHeartbeats 1600000 in
theorem trmS_any (a a2 : Option Addr) (n cap c2 : Nat) (H : List (List Int)) (al : List Bool) (w : World) (hv : VV w a n cap H) (hf : FlS w a2 al) (hl2 : al.length ≤ maxLen) :
    Calls Try.prog 27 #[.slice a n cap, .slice a2 al.length c2] w fun e w' => AnsN w w' e (trimL H al) := by
  have hS := stbS_any a a2 n cap c2 H al w hv hf hl2
  have HN : Hid (H.length = n) := hv.n
  have hs8 := (stL_small H al).1
  have hmL : n ≤ maxLen := Nat.le_trans hv.le hv.mx
  unfold maxLen at hmL
  unfold AnsN at hS
  by_cases he : (stL H al).length = n
  · have HZ : Hid (trimL H al = stL H al) := by rw [Hid, trimL, if_pos (by rw [HN.out]; exact he)]
    have e1 : (((stL H al).length : Int) != (n : Int)) = false := by simp; omega
    generalize stL H al = Z at *
    clear hv hf
    go_enter Try.func27, Try.ntmps27
    go_wp2_with (go_at_call 65; refine hS.mono ?_; rintro e w1 ⟨g, og, c, rfl, hg, ho, hb⟩)
    go_ret
    rw [HZ.out]
    refine ⟨g, og, c, ?_, hg, ho, hb⟩
    rw [he]
    rfl
  · have HZ : Hid (trimL H al = []) := by rw [Hid, trimL, if_neg (by rw [HN.out]; exact he)]
    have e1 : (((stL H al).length : Int) != (n : Int)) = true := by simp; omega
    generalize stL H al = Z at *
    clear hv hf
    go_enter Try.func27, Try.ntmps27
    go_wp2_with (go_at_call 65; refine hS.mono ?_; rintro e w1 ⟨g, og, c, rfl, hg, ho, hb⟩)
    go_ret
    rw [HZ.out]
    exact ⟨w1.heap.size, 0, 0, rfl, hb.size, num_empty _ 2, hb.alloc hb.size _⟩
set_option maxRecDepth 100000 in
theorem sngS_any (a : Option Addr) (len cap : Nat) (cs : List Int) (w : World) (hv : Vec w a len cs) (hm : len ≤ maxLen) :
    Calls Try.prog 38 #[.slice a len cap] w fun e w' => ∃ Z, IsWoven cs Z ∧ AnsN w w' e Z := by
  have hS := wovenS_any a len cap cs w hv hm
  go_enter Try.func38, Try.ntmps38
  go_wp2_with (go_at_call 67; refine hS.mono ?_; rintro e w1 ⟨Z, hZ, g, og, c, rfl, hg, ho, hb⟩)
  go_ret
  exact ⟨Z, hZ, g, og, c, rfl, hg, ho, hb⟩
set_option maxRecDepth 100000 in
set_option maxHeartbeats 1600000 in
theorem covS_any (a : Option Addr) (len cap : Nat) (cs : List Int) (n : Int) (w : World) (hv : Vec w a len cs) (hm : len ≤ maxLen) :
    Calls Try.prog 41 #[.slice a len cap, .int .i64 n] w fun e w' => e = .returned (.bool (covB cs n)) ∧ Below w.heap.size w w' := by
  have hC := counts_any a len cap cs w hv hm
  have hR := readyS_any a len cap cs w hv hm
  clear hv
  cases hok : okCt cs with
  | false =>
    have HZ : Hid (covB cs n = false) := by rw [Hid, covB, hok]; rfl
    rw [hok] at hC
    clear hok
    go_enter Try.func41, Try.ntmps41
    go_wp2_with (go_at_call 69; refine hC.mono ?_; rintro e w1 ⟨rfl, hw1⟩; rw [hw1]; clear hw1)
    go_ret
    exact ⟨ret_bool (by rw [HZ.out]), Below.refl _ _⟩
  | true =>
    rw [hok] at hC
    by_cases h0 : n < 0
    · have HZ : Hid (covB cs n = false) := by rw [Hid, covB, hok]; simp; omega
      clear hok
      go_enter Try.func41, Try.ntmps41
      go_wp2_with (go_at_call 69; refine hC.mono ?_; rintro e w1 ⟨rfl, hw1⟩; rw [hw1]; clear hw1)
      go_ret
      exact ⟨ret_bool (by rw [HZ.out]), Below.refl _ _⟩
    by_cases h8 : 800008 < n
    · have HZ : Hid (covB cs n = false) := by rw [Hid, covB, hok]; simp; omega
      clear hok
      go_enter Try.func41, Try.ntmps41
      go_wp2_with (go_at_call 69; refine hC.mono ?_; rintro e w1 ⟨rfl, hw1⟩; rw [hw1]; clear hw1)
      go_ret
      exact ⟨ret_bool (by rw [HZ.out]), Below.refl _ _⟩
    · have HZ : Hid (covB cs n = decide (n ≤ readyL cs)) := by rw [Hid, covB, hok, decide_eq_true (show 0 ≤ n by omega), decide_eq_true (show n ≤ 800008 by omega)]; rfl
      clear hok
      generalize readyL cs = R at *
      go_enter Try.func41, Try.ntmps41
      go_wp2_with (first
        | (go_at_call 69; refine hC.mono ?_; rintro e w1 ⟨rfl, hw1⟩; rw [hw1]; clear hw1)
        | (go_at_call 70; refine hR.mono ?_; rintro e w1 ⟨rfl, hw1⟩; rw [hw1]; clear hw1))
      go_ret
      exact ⟨ret_bool (by rw [HZ.out]), Below.refl _ _⟩
theorem wrapD {a b : Int} (h : 0 ≤ a ∧ a ≤ 8000000) (h2 : 0 ≤ b ∧ b ≤ 8000000) : wrap64 (a - b) = a - b := by unfold wrap64; omega
set_option maxRecDepth 100000 in
set_option maxHeartbeats 1600000 in
theorem drpS_any (a a2 : Option Addr) (n cap c2 : Nat) (H : List (List Int)) (t : List Int) (w : World) (hv : VV w a n cap H) (ht : Vec w a2 t.length t) (hm2 : t.length ≤ maxLen) :
    Calls Try.prog 43 #[.slice a n cap, .slice a2 t.length c2] w fun e w' => e = .returned (.int .i64 (drpL H t)) ∧ Below w.heap.size w w' := by
  have hR := froS_any a n cap H w hv
  have HN : Hid (H.length = n) := hv.n
  by_cases hok : okFr H = true
  · rw [hok] at hR
    have h8 := (okFr_iff.1 hok).1
    rw [HN.out] at h8
    obtain ⟨b, off, rfl, hc⟩ := vv_cells hv (by omega)
    obtain ⟨x, cx, hcx, hvx, hlx, hmx⟩ := hc 0 (by omega)
    rw [Nat.add_zero] at hcx
    have hT := fun X (h : Below w.heap.size w X) => l1Two_any a2 x t.length c2 (row H 0).length cx t (row H 0) X (ht.below h (Nat.le_refl _)) (hvx.below h (Nat.le_refl _)) hm2 (Nat.le_trans hlx hmx)
    have k1 : (0 : Int) < (n : Int) := by omega
    cases htw : twoB t (row H 0) with
    | false =>
      have HZ : Hid (drpL H t = -1) := by rw [Hid, drpL, if_neg (by rw [htw]; simp)]
      rw [htw] at hT
      clear htw hok hv ht hc hvx
      go_enter Try.func43, Try.ntmps43
      go_wp2_with (first
        | (go_at_call 73; refine hR.mono ?_; rintro e w1 ⟨rfl, q1, hw1⟩; have hb1 : Below w.heap.size w w1 := (by rw [hw1]; exact belowN (Below.refl _ _)); have y0 := (hb1.cell (World.block_lt_of_cell? _ _ hcx)).trans hcx; clear hw1)
        | (go_at_call 53; refine (hT _ hb1).mono ?_; rintro e w' ⟨rfl, hw'⟩; rw [hw']; clear hw'))
      go_ret
      exact ⟨ret_int (by rw [HZ.out]), hb1⟩
    | true =>
      have HZ : Hid (drpL H t = sumB (jnA H (n - 1)) - sumB (pairB min (jnA H (n - 1)) t)) := by rw [Hid, drpL, if_pos ⟨hok, htw⟩, HN.out]
      rw [htw] at hT
      obtain ⟨ht0, ht1⟩ : okB t = true ∧ t.length = (row H 0).length := by
        simp only [twoB, Bool.and_eq_true, decide_eq_true_eq] at htw
        exact ⟨htw.1.1, htw.2⟩
      obtain ⟨hjk, hjl, _⟩ := jnA_is hok (n - 1) (by rw [HN.out]; omega)
      obtain ⟨hpe, hml, hmk⟩ := pair_ok minOk hjk ht0 (by rw [hjl, ht1])
      clear hpe
      have hw := wrapD (sumB_bd hjk) (sumB_bd hmk)
      have hj8 := okB_len hjk
      have hm8 := okB_len hmk
      have hjf : Fits (jnA H (n - 1)) := fun y hy => by have := okB_mem15 hjk y hy; omega
      have hmf : Fits (pairB min (jnA H (n - 1)) t) := fun y hy => by have := okB_mem15 hmk y hy; omega
      have hJ : ∀ X, Below w.heap.size w X → Calls Try.prog 74 #[.slice (some ⟨b, off, none⟩) n cap] X fun e w' => ∃ g og c, e = .returned (.slice (some ⟨g, og, none⟩) (jnA H (n - 1)).length c) ∧ OI w' g og (jnA H (n - 1)).length c (jnA H (n - 1)) ∧ Below X.heap.size X w' := fun X h => (jnaS_any (some ⟨b, off, none⟩) n cap H X (hv.below h) hok).mono (fun e w' ⟨g, og, c, h1, _, h2, h3⟩ => ⟨g, og, c, h1, h2, h3⟩)
      have hS1 : ∀ X g og c, OI X g og (jnA H (n - 1)).length c (jnA H (n - 1)) → Calls Try.prog 20 #[.slice (some ⟨g, og, none⟩) (jnA H (n - 1)).length c] X fun e w' => e = .returned (.int .i64 (sumB (jnA H (n - 1)))) ∧ w' = X := fun X g og c h => specSum_any (some ⟨g, og, none⟩) _ c (jnA H (n - 1)) X (h.vec hjf) (by unfold maxLen; omega)
      have hMt : ∀ X g og c, OI X g og (jnA H (n - 1)).length c (jnA H (n - 1)) → Below w.heap.size w X → Calls Try.prog 16 #[.slice (some ⟨g, og, none⟩) (jnA H (n - 1)).length c, .slice a2 t.length c2] X fun e w' => ∃ g2 c3, e = .returned (.slice (some ⟨g2, 0, none⟩) (pairB min (jnA H (n - 1)) t).length c3) ∧ OwnAt w' g2 c3 (pairB min (jnA H (n - 1)) t) ∧ Below X.heap.size X w' := fun X g og c h hb => (specMeet_any (some ⟨g, og, none⟩) a2 (jnA H (n - 1)).length c t.length c2 (jnA H (n - 1)) t X (h.vec hjf) (ht.below hb (Nat.le_refl _)) (by unfold maxLen; omega) hm2).mono (fun e w' ⟨g2, c3, h1, _, h2, h3⟩ => ⟨g2, c3, h1, h2, h3⟩)
      have hS2 : ∀ X g c, OwnAt X g c (pairB min (jnA H (n - 1)) t) → Calls Try.prog 20 #[.slice (some ⟨g, 0, none⟩) (pairB min (jnA H (n - 1)) t).length c] X fun e w' => e = .returned (.int .i64 (sumB (pairB min (jnA H (n - 1)) t))) ∧ w' = X := fun X g c h => specSum_any (some ⟨g, 0, none⟩) _ c _ X (h.vec hmf) (by unfold maxLen; omega)
      clear htw hok hv ht hc hvx hjk hmk hjf hmf ht0 ht1 hjl hml
      generalize sumB (jnA H (n - 1)) = S1 at *
      generalize sumB (pairB min (jnA H (n - 1)) t) = S2 at *
      generalize pairB min (jnA H (n - 1)) t = MM at *
      generalize jnA H (n - 1) = JA at *
      go_enter Try.func43, Try.ntmps43
      go_wp2_with (first
        | (go_at_call 73; refine hR.mono ?_; rintro e w1 ⟨rfl, q1, hw1⟩; have hb1 : Below w.heap.size w w1 := (by rw [hw1]; exact belowN (Below.refl _ _)); have y0 := (hb1.cell (World.block_lt_of_cell? _ _ hcx)).trans hcx; clear hw1)
        | (go_at_call 53; refine (hT _ hb1).mono ?_; rintro e w' ⟨rfl, hw'⟩; rw [hw']; clear hw')
        | (go_at_call 74; refine (hJ _ hb1).mono ?_; rintro e w2 ⟨g2, og2, c3, rfl, ho2, hb2⟩; have b2 : Below w.heap.size w w2 := hb1.trans (hb2.mono hb1.size)))
      refine (hS1 _ _ _ _ ho2).mono ?_
      rintro e w3 ⟨rfl, hw3⟩
      rw [hw3]
      clear hw3
      go_wp2_with fail
      refine (hMt _ _ _ _ ho2 b2).mono ?_
      rintro e w4 ⟨g4, c4, rfl, ho4, hb4⟩
      have b4 : Below w.heap.size w w4 := b2.trans (hb4.mono b2.size)
      go_wp2_with fail
      refine (hS2 _ _ _ ho4).mono ?_
      rintro e w5 ⟨rfl, hw5⟩
      rw [hw5]
      clear hw5
      go_wp2
      go_ret
      exact ⟨ret_int (by rw [HZ.out, hw]), b4⟩
  · have hok' : okFr H = false := by simpa using hok
    rw [hok'] at hR
    have HZ : Hid (drpL H t = -1) := by rw [Hid, drpL, if_neg (fun h => hok h.1)]
    clear hok hok' hv
    go_enter Try.func43, Try.ntmps43
    go_wp2_with (go_at_call 73; refine hR.mono ?_; rintro e w1 ⟨rfl, q1, hw1⟩; have HB1 : Hid (Below w.heap.size w w1) := (by rw [hw1]; exact belowN (Below.refl _ _)); clear hw1)
    go_ret
    exact ⟨ret_int (by rw [HZ.out]), HB1.out⟩
end Go.Proofs.Ytggieamhbfdmhaa
