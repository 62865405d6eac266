/-
  Several texts in one: Ffo Ffi Ffs.
-/
import Derived.Test.YtggieamhbfdmhaaLt
import Derived.BigQuiet
import Derived.Deep.RegionHeld3
/-
  The program's folds over rows, whatever function is handed over; RowsOk.
-/
namespace Go.Proofs.Ytggieamhbfdmhaa
set_option linter.unusedVariables false
set_option linter.unusedSimpArgs false
open Go.RowKit Go.Sort

set_option maxHeartbeats 400000 in
theorem isWf_any (n last : Int) (w : World) : Calls Try.prog 71 #[.int .i64 n, .int .i64 last] w fun e w' => e = .returned (.bool (inB n 0 last)) ∧ w' = w := by
  by_cases h0 : (0 : Int) ≤ n
  · have H : Hid (inB n 0 last = decide (n ≤ last)) := by rw [Hid, inB]; simp [h0]
    go_enter Try.func71, Try.ntmps71
    go_wp2
    go_ret
    exact ⟨ret_bool (by rw [H.out]), rfl⟩
  · have H : Hid (inB n 0 last = false) := by rw [Hid, inB]; simp [h0]
    go_enter Try.func71, Try.ntmps71
    go_wp2
    go_ret
    exact ⟨ret_bool (by rw [H.out]), rfl⟩
/-- A flag as an answer. -/
def TellsB (I : Bool → World → Prop) (e : Ending) (w' : World) : Prop := ∃ s, e = .returned (.bool s) ∧ I s w'
set_option maxRecDepth 100000 in
set_option maxHeartbeats 800000 in
theorem overB_any (F : Nat) (C : Array Value) (a : Option Addr) (n cap : Nat) (H : List (List Int)) (I : Nat → Bool → World → Prop) (s0 : Bool) (w : World) (hn : n ≤ 8)
    (hE : ∀ (args : Array Value) (w : World), (callFunc F args).run Try.prog w = .ok (.enter F args) w) (hV : ∀ k s X, I k s X → VV X a n cap H)
    (hF : ∀ k s X y cy, k < n → I k s X → Vec X y (row H k).length (row H k) → (row H k).length ≤ cy → cy ≤ maxLen → Calls Try.prog F (#[.bool s, .slice y (row H k).length cy] ++ C) X fun e w' => ∃ s', e = .returned (.bool s') ∧ I (k + 1) s' w')
    (h0 : I 0 s0 w) : Calls Try.prog 85 #[.func (.func F) #[] C, .slice a n cap, .bool s0] w fun e w' => TellsB (I n) e w' := by
  have HV : Hid (∀ k s X, I k s X → VV X a n cap H) := hV
  clear hV
  go_enter Try.func85, Try.ntmps85
  go_wp2
  go_loopw [7, 9, 13] (fun v _ i wr => ∃ (k : Nat) (s : Bool), k ≤ n ∧ i = .int .i64 (k : Int) ∧ v = .bool s ∧ I k s wr) (fun _ _ i _ => n - (intOf i).toNat)
  case atStart => exact ⟨0, s0, Nat.zero_le _, rfl, rfl, h0⟩
  case round =>
    obtain ⟨k, s, hk, rfl, rfl, hI⟩ := hrel
    have HI : Hid (I k s wr) := hI
    clear hI h0
    by_cases hlt : k < n
    · have k1 : (k : Int) < (n : Int) := by omega
      have k0 : (0 : Int) ≤ (k : Int) := by omega
      obtain ⟨b, off, rfl, hc⟩ := vv_cells (HV.out _ _ _ HI.out) (by omega)
      obtain ⟨y, cy, hcy, hvy, hl, hm⟩ := hc k hlt
      have hC := hF k s wr y cy hlt HI.out hvy hl hm
      clear hc hvy hF
      generalize (row H k).length = L at *
      go_wp2_with fail
      refine hC.mono ?_
      rintro e w1 ⟨s1, rfl, hI1⟩
      have HI1 : Hid (I (k + 1) s1 w1) := hI1
      clear hI1 hC hcy
      go_wp2
      go_roundw
      case rel => exact ⟨k + 1, s1, by omega, by go_num, rfl, HI1.out⟩
      case measure => simp [intOf]; omega
    · have k1 : ¬ ((k : Int) < (n : Int)) := by omega
      obtain rfl : k = n := by omega
      go_wp2
      go_ret
      exact ⟨s, rfl, HI.out⟩
set_option maxRecDepth 100000 in
set_option maxHeartbeats 800000 in
/-- A fold that tells a list. -/
theorem overI_any (F : Nat) (C : Array Value) (a : Option Addr) (n cap : Nat) (H : List (List Int)) (I : Nat → Option Addr → Nat → Nat → World → Prop) (a0 : Option Addr) (m0 c0 : Nat) (w : World) (hn : n ≤ 8)
    (hE : ∀ (args : Array Value) (w : World), (callFunc F args).run Try.prog w = .ok (.enter F args) w) (hV : ∀ k x m c X, I k x m c X → VV X a n cap H)
    (hF : ∀ k x m c X y cy, k < n → I k x m c X → Vec X y (row H k).length (row H k) → (row H k).length ≤ cy → cy ≤ maxLen → Calls Try.prog F (#[.slice x m c, .slice y (row H k).length cy] ++ C) X fun e w' => ∃ x' m' c', e = .returned (.slice x' m' c') ∧ I (k + 1) x' m' c' w')
    (h0 : I 0 a0 m0 c0 w) : Calls Try.prog 86 #[.func (.func F) #[] C, .slice a n cap, .slice a0 m0 c0] w fun e w' => ∃ x m c, e = .returned (.slice x m c) ∧ I n x m c w' := by
  have HV : Hid (∀ k x m c X, I k x m c X → VV X a n cap H) := hV
  clear hV
  go_enter Try.func86, Try.ntmps86
  go_wp2
  go_loopw [7, 9, 13] (fun v _ i wr => ∃ (k : Nat) (x : Option Addr) (m c : Nat), k ≤ n ∧ i = .int .i64 (k : Int) ∧ v = .slice x m c ∧ I k x m c wr) (fun _ _ i _ => n - (intOf i).toNat)
  case atStart => exact ⟨0, a0, m0, c0, Nat.zero_le _, rfl, rfl, h0⟩
  case round =>
    obtain ⟨k, x, m, c, hk, rfl, rfl, hI⟩ := hrel
    have HI : Hid (I k x m c wr) := hI
    clear hI h0
    by_cases hlt : k < n
    · have k1 : (k : Int) < (n : Int) := by omega
      have k0 : (0 : Int) ≤ (k : Int) := by omega
      obtain ⟨b, off, rfl, hc⟩ := vv_cells (HV.out _ _ _ _ _ HI.out) (by omega)
      obtain ⟨y, cy, hcy, hvy, hl, hm⟩ := hc k hlt
      have hC := hF k x m c wr y cy hlt HI.out hvy hl hm
      clear hc hvy hF
      generalize (row H k).length = L at *
      go_wp2_with fail
      refine hC.mono ?_
      rintro e w1 ⟨x1, m1, c1, rfl, hI1⟩
      have HI1 : Hid (I (k + 1) x1 m1 c1 w1) := hI1
      clear hI1 hC hcy
      go_wp2
      go_roundw
      case rel => exact ⟨k + 1, x1, m1, c1, by omega, by go_num, rfl, HI1.out⟩
      case measure => simp [intOf]; omega
    · have k1 : ¬ ((k : Int) < (n : Int)) := by omega
      obtain rfl : k = n := by omega
      go_wp2
      go_ret
      exact ⟨x, m, c, rfl, HI.out⟩
set_option maxRecDepth 100000 in
set_option maxHeartbeats 800000 in
theorem rowsOk1_any (a : Option Addr) (n cap B L cy : Nat) (y : Option Addr) (H : List (List Int)) (ys : List Int) (s : Bool) (X : World) (hv : VV X a n cap H) (hn : 0 < n) (hB : X.cell? ⟨B, 0, none⟩ = some (.slice a n cap)) (hy : Vec X y L ys) (h1 : L ≤ cy) (h2 : cy ≤ maxLen) :
    Calls Try.prog 84 #[.bool s, .slice y L cy, .pointer (some ⟨B, 0, none⟩)] X fun e w' => e = .returned (.bool (s && twoB (row H 0) ys)) ∧ ∃ q, w' = X.drewN q := by
  obtain ⟨b, off, rfl, hc⟩ := vv_cells hv hn
  obtain ⟨x0, c0, hc0, hv0, hl0, hm0⟩ := hc 0 hn
  rw [Nat.add_zero] at hc0
  have n0 : (0 : Int) < (n : Int) := by omega
  have hF := fits_any x0 y (row H 0).length c0 L cy (row H 0) ys X hv0 hy hl0 h1 hm0 h2
  clear hv hc hv0 hl0 hm0
  generalize twoB (row H 0) ys = K at *
  generalize (row H 0).length = L0 at *
  cases s with
  | false =>
    go_enter Try.func84, Try.ntmps84
    go_wp2
    go_ret
    exact ⟨ret_bool (by simp), 0, rfl⟩
  | true =>
    go_enter Try.func84, Try.ntmps84
    go_wp2_with fail
    refine hF.mono ?_
    rintro e w1 ⟨rfl, q, rfl⟩
    go_wp2
    go_ret
    exact ⟨ret_bool (by simp), q, rfl⟩
theorem okFr_two {H : List (List Int)} (h : 1 ≤ H.length ∧ H.length ≤ 8) : okFr H = decide (∀ j, j < H.length → twoB (row H 0) (row H j) = true) := by
  rw [Bool.eq_iff_iff, decide_eq_true_iff, okFr_iff]
  constructor
  · rintro ⟨_, h2⟩ j hj
    obtain ⟨a1, a2⟩ := h2 j hj
    simp [twoB, (h2 0 (by omega)).1, a1, a2]
  · intro h2
    refine ⟨h, fun i hi => ?_⟩
    obtain ⟨_, a2, a3⟩ := twoB_true (h2 i hi)
    exact ⟨a2, a3.symm⟩
set_option maxRecDepth 100000 in
set_option maxHeartbeats 800000 in
theorem rowsOkI_any (a : Option Addr) (n cap : Nat) (H : List (List Int)) (w : World) (hv : VV w a n cap H) : Calls Try.prog 75 #[.slice a n cap] w fun e w' => e = .returned (.bool (okFr H)) ∧ Grew w w' := by
  have hm : n ≤ maxLen := Nat.le_trans hv.le hv.mx
  unfold maxLen at hm
  have HN : Hid (H.length = n) := hv.n
  have HB : Hid (Grew w (w.alloc (.cells #[.slice a n cap] 33))) := (Grew.refl _).alloc _
  have hmf : ∀ (fn : Fn) (first cap : Array Value) (w : World), (Instr.makeFunc fn first cap).run Try.prog w = .ok (.func fn first cap) w := fun _ _ _ _ => rfl
  have h9 : n < 1 ∨ (¬ n < 1 ∧ 8 < n) ∨ (¬ n < 1 ∧ ¬ 8 < n) := by omega
  rcases h9 with h1 | ⟨h1, h2⟩ | ⟨h1, h2⟩
  · have HZ : Hid (okFr H = false) := by rw [Hid, okFr, HN.out]; simp; omega
    have k1 : (n : Int) < 1 := by omega
    clear hv
    go_enter Try.func75, Try.ntmps75
    go_wp2
    go_ret
    exact ⟨ret_bool (by rw [HZ.out]), HB.out⟩
  · have HZ : Hid (okFr H = false) := by rw [Hid, okFr, HN.out]; simp; omega
    have k1 : ¬ ((n : Int) < 1) := by omega
    have k2 : (8 : Int) < (n : Int) := by omega
    clear hv
    go_enter Try.func75, Try.ntmps75
    go_wp2
    go_ret
    exact ⟨ret_bool (by rw [HZ.out]), HB.out⟩
  · have k1 : ¬ ((n : Int) < 1) := by omega
    have k2 : ¬ ((8 : Int) < (n : Int)) := by omega
    have hcb : (w.alloc (.cells #[.slice a n cap] 33)).cell? ⟨w.heap.size, 0, none⟩ = some (.slice a n cap) := by simp
    have hO := overB_any 84 #[.pointer (some ⟨w.heap.size, 0, none⟩)] a n cap H (fun k s X => (∃ q, X = (w.alloc (.cells #[.slice a n cap] 33)).drewN q) ∧ (s = decide (∀ j, j < k → twoB (row H 0) (row H j) = true))) true (w.alloc (.cells #[.slice a n cap] 33)) (by omega)
      (fun _ _ => enters_of Try.func84 (by kernel_rfl) rfl _ _)
      (fun k s X h => by obtain ⟨⟨q, rfl⟩, _⟩ := h; exact (hv.below HB.out.1).drewN q)
      (fun k s X y cy hk h hy hl hm => by
        obtain ⟨⟨q, rfl⟩, hs⟩ := h
        refine (rowsOk1_any a n cap w.heap.size (row H k).length cy y H (row H k) s _ ((hv.below HB.out.1).drewN q) (by omega) hcb hy hl hm).mono ?_
        rintro e w' ⟨rfl, q2, rfl⟩
        refine ⟨_, rfl, ⟨q + q2, World.drewN_drewN _ _ _⟩, ?_⟩
        rw [hs, Bool.eq_iff_iff]
        simp only [Bool.and_eq_true, decide_eq_true_eq]
        constructor
        · rintro ⟨h1, h2⟩ j hj
          by_cases e : j = k
          · rw [e]; exact h2
          · exact h1 j (by omega)
        · intro h
          exact ⟨fun j hj => h j (by omega), h k (by omega)⟩)
      ⟨⟨0, rfl⟩, by simp⟩
    have HZ : Hid (okFr H = decide (∀ j, j < n → twoB (row H 0) (row H j) = true)) := by rw [Hid, okFr_two (by rw [HN.out]; omega), HN.out]
    clear hv hcb
    go_enter Try.func75, Try.ntmps75
    go_wp2_with fail
    refine hO.mono ?_
    rintro e w1 ⟨s, rfl, ⟨q, rfl⟩, hs⟩
    have HS : Hid (s = decide (∀ j, j < n → twoB (row H 0) (row H j) = true)) := hs
    clear hs hO
    go_wp2
    go_ret
    exact ⟨ret_bool (by rw [HZ.out, HS.out]), HB.out.drewN q⟩
theorem implRowsOk : ImplRowsOk := fun a cap H w hv => (rowsOkI_any a H.length cap H w hv).mono (fun e w' h => ⟨h.1, h.2.1⟩)
end Go.Proofs.Ytggieamhbfdmhaa

/-
  The program's folded and living, Stable, Column and Lag.
-/
namespace Go.Proofs.Ytggieamhbfdmhaa
set_option linter.unusedVariables false
set_option linter.unusedSimpArgs false
open Go.RowKit Go.Sort

/-- What a fold by pairs holds behind k rows. -/
def foF (f : Int → Int → Int) (L : List (List Int)) : Nat → List Int
  | 0 => row L 0
  | k + 1 => pairB f (foF f L k) (row L k)
/-- Rows of one length, each a vector. -/
def EvR (L : List (List Int)) : Prop := ∀ k, k < L.length → okB (row L k) = true ∧ (row L k).length = (row L 0).length
theorem pair_self {f : Int → Int → Int} (hf : ∀ x, f x x = x) {r : List Int} (h : okB r = true) : pairB f r r = r := by
  have ht : twoB r r = true := by simp [twoB, h]
  rw [pairB, if_pos ht]
  refine List.ext_getElem (by rw [jn_length]) (fun i h1 h2 => ?_)
  simp [jn, hf, el, h2]
theorem foF_ok {f : Int → Int → Int} (hf : ∀ x y, (0 ≤ x ∧ x ≤ 1000000) → (0 ≤ y ∧ y ≤ 1000000) → 0 ≤ f x y ∧ f x y ≤ 1000000) {L : List (List Int)} (h : EvR L) (h1 : 1 ≤ L.length) : ∀ k, k ≤ L.length → okB (foF f L k) = true ∧ (foF f L k).length = (row L 0).length
  | 0, _ => h 0 (by omega)
  | k + 1, hk => by
    obtain ⟨i1, i2⟩ := foF_ok hf h h1 k (by omega)
    obtain ⟨a1, a2⟩ := h k (by omega)
    obtain ⟨e1, e2, e3⟩ := pair_ok hf i1 a1 (by rw [i2, a2])
    exact ⟨e3, by rw [foF, e2, i2]⟩
theorem row_app {L : List (List Int)} {x : List Int} {k : Nat} (hk : k < L.length) : row (L ++ [x]) k = row L k := by
  simp [row, List.getD_eq_getElem?_getD, List.getElem?_append_left hk]
theorem row_last {L : List (List Int)} {x : List Int} : row (L ++ [x]) L.length = x := by simp [row]
theorem foF_app {f : Int → Int → Int} {L : List (List Int)} {x : List Int} (h1 : 1 ≤ L.length) : ∀ k, k ≤ L.length → foF f (L ++ [x]) k = foF f L k
  | 0, _ => row_app (by omega)
  | k + 1, hk => by rw [foF, foF, foF_app h1 k (by omega), row_app (by omega)]
/-- Those of the first k rows that are alive. -/
def livL (H : List (List Int)) (al : List Bool) : Nat → List (List Int)
  | 0 => []
  | k + 1 => if fl al k = true then livL H al k ++ [row H k] else livL H al k
theorem livL_len (H : List (List Int)) (al : List Bool) : ∀ k, (livL H al k).length ≤ k
  | 0 => Nat.le_refl _
  | k + 1 => by
    have := livL_len H al k
    unfold livL
    split
    · simp; omega
    · omega
theorem livL_mem {H : List (List Int)} {al : List Bool} : ∀ {k : Nat} {r : List Int}, r ∈ livL H al k → ∃ j, j < k ∧ fl al j = true ∧ r = row H j
  | 0, r, h => by cases h
  | k + 1, r, h => by
    unfold livL at h
    split at h
    · rename_i hf
      rcases List.mem_append.1 h with h | h
      · obtain ⟨j, h1, h2⟩ := livL_mem h; exact ⟨j, by omega, h2⟩
      · exact ⟨k, by omega, hf, by simpa using h⟩
    · obtain ⟨j, h1, h2⟩ := livL_mem h; exact ⟨j, by omega, h2⟩
theorem row_mem {L : List (List Int)} {k : Nat} (hk : k < L.length) : row L k ∈ L := by simp [row, hk]
theorem livL_ev {H : List (List Int)} {al : List Bool} (h : okFr H = true) {k : Nat} (hk : k ≤ H.length) : EvR (livL H al k) := fun i hi => by
  obtain ⟨j, h1, _, h3⟩ := livL_mem (row_mem hi)
  obtain ⟨j0, h4, _, h5⟩ := livL_mem (row_mem (L := livL H al k) (k := 0) (by omega))
  obtain ⟨a1, a2⟩ := (okFr_iff.1 h).2 j (by omega)
  obtain ⟨b1, b2⟩ := (okFr_iff.1 h).2 j0 (by omega)
  rw [h3, h5]
  exact ⟨a1, by rw [a2, b2]⟩
theorem livL_dead {H : List (List Int)} {al : List Bool} : ∀ {k : Nat}, (∀ i, i < k → fl al i = false) → livL H al k = []
  | 0, _ => rfl
  | k + 1, h => by
    unfold livL
    rw [if_neg (by rw [h k (by omega)]; simp)]
    exact livL_dead (fun i hi => h i (by omega))
theorem stF_fo {H : List (List Int)} {al : List Bool} (h : okFr H = true) : ∀ k, k ≤ H.length → stF H al k = if (livL H al k).length = 0 then [] else foF min (livL H al k) (livL H al k).length
  | 0, _ => by simp [stF, livL]
  | k + 1, hk => by
    have ih := stF_fo (al := al) h k (by omega)
    obtain ⟨hr, hrl⟩ := (okFr_iff.1 h).2 k (by omega)
    cases hf : fl al k with
    | false =>
      have e1 : stF H al (k + 1) = stF H al k := by rw [stF, if_pos hf]
      have e2 : livL H al (k + 1) = livL H al k := by rw [livL, if_neg (by rw [hf]; simp)]
      rw [e1, e2, ih]
    | true =>
      have e2 : livL H al (k + 1) = livL H al k ++ [row H k] := by rw [livL, if_pos hf]
      have e1 : stF H al (k + 1) = if stF H al k = [] then row H k else pairB min (stF H al k) (row H k) := by rw [stF, if_neg (by rw [hf]; simp)]
      rw [e1, e2, if_neg (by simp : ¬ ((livL H al k ++ [row H k]).length = 0))]
      by_cases hz : (livL H al k).length = 0
      · rw [if_pos hz] at ih
        rw [if_pos ih, List.eq_nil_of_length_eq_zero hz]
        have e3 : row ([] ++ [row H k]) 0 = row H k := rfl
        simp only [List.nil_append, List.length_cons, List.length_nil, Nat.zero_add, foF]
        exact (pair_self (by intro x; omega) hr).symm
      · rw [if_neg hz] at ih
        have hne : ¬ (stF H al k = []) := fun e => by
          have := (foF_ok minOk (livL_ev (al := al) h (k := k) (by omega)) (by omega) _ (Nat.le_refl _)).1
          rw [← ih, e] at this
          simp [okB] at this
        rw [if_neg hne, ih]
        have e4 : (livL H al k ++ [row H k]).length = (livL H al k).length + 1 := by simp
        rw [e4, foF, foF_app (by omega) _ (Nat.le_refl _), row_last]
theorem jnA_fo {H : List (List Int)} (h : okFr H = true) : ∀ k, k < H.length → jnA H k = foF max H (k + 1)
  | 0, hk => by
    rw [jnA, foF, foF]
    exact (pair_self (by intro x; omega) ((okFr_iff.1 h).2 0 hk).1).symm
  | k + 1, hk => by rw [jnA, jnA_fo h k (by omega)]; rfl
theorem ok_fits {Z : List Int} (h : okB Z = true) : Fits Z := fun y hy => by
  obtain ⟨j, hj, rfl⟩ := List.mem_iff_getElem.1 hy
  have := okB_el h hj
  simp [el, hj] at this
  omega
set_option maxRecDepth 100000 in
set_option maxHeartbeats 800000 in
/-- The program's folded, whichever of Join and Meet is handed over. -/
theorem folded_any (F : Nat) (f : Int → Int → Int) (hf : ∀ x y, (0 ≤ x ∧ x ≤ 1000000) → (0 ≤ y ∧ y ≤ 1000000) → 0 ≤ f x y ∧ f x y ≤ 1000000)
    (hE : ∀ (args : Array Value) (w : World), (callFunc F args).run Try.prog w = .ok (.enter F args) w)
    (hP : ∀ (a a' : Option Addr) (len cap len' cap' : Nat) (xs ys : List Int) (w : World), Vec w a len xs → Vec w a' len' ys → len ≤ cap → len' ≤ cap' → cap ≤ maxLen → cap' ≤ maxLen → Calls Try.prog F #[.slice a len cap, .slice a' len' cap'] w fun e w' => ∃ g c, e = .returned (.slice (some ⟨g, 0, none⟩) (pairB f xs ys).length c) ∧ w.heap.size ≤ g ∧ OwnAt w' g c (pairB f xs ys) ∧ Below w.heap.size w w')
    (a : Option Addr) (n cap : Nat) (L : List (List Int)) (w : World) (hv : VV w a n cap L) (hn : n ≤ 8) (hL : EvR L) :
    Calls Try.prog 76 #[.slice a n cap, .func (.func F) #[] #[]] w fun e w' => AnsN w w' e (if n = 0 then [] else foF f L n) := by
  have HN : Hid (L.length = n) := hv.n
  by_cases h0 : n = 0
  · subst h0
    have HA : Hid (OI (w.alloc (.cells #[] 2)) w.heap.size 0 0 0 [] ∧ Below w.heap.size w (w.alloc (.cells #[] 2))) := ⟨num_empty w 2, (Below.refl _ _).alloc (Nat.le_refl _) _⟩
    clear hv hP hE
    go_enter Try.func76, Try.ntmps76
    go_wp2
    go_ret
    exact ⟨_, 0, 0, rfl, Nat.le_refl _, HA.out.1, HA.out.2⟩
  · rw [if_neg h0]
    have hF := foF_ok hf hL (by rw [HN.out]; omega)
    rw [HN.out] at hF
    obtain ⟨b, off, rfl, hc⟩ := vv_cells hv (by omega)
    obtain ⟨x0, c0, hc0, hv0, hl0, hm0⟩ := hc 0 (by omega)
    rw [Nat.add_zero] at hc0
    have hO := overI_any F #[] (some ⟨b, off, none⟩) n cap L (fun k x m c X => m = (foF f L k).length ∧ Below w.heap.size w X ∧ Vec X x m (foF f L k) ∧ m ≤ c ∧ c ≤ maxLen ∧ (0 < k → ∃ g o, x = some ⟨g, o, none⟩ ∧ w.heap.size ≤ g ∧ OI X g o m c (foF f L k))) x0 (row L 0).length c0 w hn hE
      (fun k x m c X h => hv.below h.2.1)
      (fun k x m c X y cy hk h hy hl hm => by
        obtain ⟨h1, h2, h3, h4, h5, _⟩ := h
        refine (hP x y m c (row L k).length cy (foF f L k) (row L k) X h3 hy h4 hl h5 hm).mono ?_
        rintro e w' ⟨g, c', rfl, hg, hown, hb⟩
        have hoi := OI.own hown
        have hfit := ok_fits (hF (k + 1) (by omega)).1
        refine ⟨_, _, _, rfl, rfl, h2.trans (hb.mono h2.size), hoi.vec hfit, hoi.le, hoi.max, fun _ => ⟨g, 0, rfl, Nat.le_trans h2.size hg, hoi⟩⟩)
      ⟨rfl, Below.refl _ _, hv0, hl0, hm0, fun h => absurd h (by omega)⟩
    have n0 : (0 : Int) < (n : Int) := by omega
    have n1 : ((n : Int) == 0) = false := by simp; omega
    have HS : Hid (0 < n) := by rw [Hid]; omega
    clear hv hc hv0 hP hE hF
    generalize (row L 0).length = L0 at *
    go_enter Try.func76, Try.ntmps76
    go_wp2_with fail
    refine hO.mono ?_
    rintro e w1 ⟨x, m, c, rfl, hm, hb, _, _, _, hg⟩
    obtain ⟨g, o, hx, hgs, hoi⟩ := hg HS.out
    have HH : Hid (m = (foF f L n).length ∧ Below w.heap.size w w1 ∧ x = some ⟨g, o, none⟩ ∧ w.heap.size ≤ g ∧ OI w1 g o m c (foF f L n)) := ⟨hm, hb, hx, hgs, hoi⟩
    clear hm hb hx hgs hoi hg hO hc0
    go_wp2
    go_ret
    obtain ⟨q1, q2, q3, q4, q5⟩ := HH.out
    subst q1
    subst q3
    exact ⟨g, o, c, rfl, q4, q5, q2⟩
/-- Slices that show rows. -/
def SvR (w : World) (L : List (List Int)) (vs : List Value) : Prop := vs.length = L.length ∧ ∀ i, i < L.length → ∃ x c, vs[i]? = some (.slice x (row L i).length c) ∧ Vec w x (row L i).length (row L i) ∧ (row L i).length ≤ c ∧ c ≤ maxLen
theorem SvR.snoc {w : World} {L : List (List Int)} {vs : List Value} (h : SvR w L vs) {r : List Int} {x : Option Addr} {c : Nat} (hv : Vec w x r.length r) (h1 : r.length ≤ c) (h2 : c ≤ maxLen) : SvR w (L ++ [r]) (vs ++ [.slice x r.length c]) := by
  refine ⟨by simp [h.1], fun i hi => ?_⟩
  by_cases e : i = L.length
  · rw [e, row_last]
    exact ⟨x, c, by rw [← h.1]; simp, hv, h1, h2⟩
  · have hi' : i < L.length := by simp at hi; omega
    obtain ⟨y, d, a1, a2, a3, a4⟩ := h.2 i hi'
    rw [row_app hi']
    exact ⟨y, d, by rw [List.getElem?_append_left (by rw [h.1]; exact hi')]; exact a1, a2, a3, a4⟩
theorem SvR.vv {w w' : World} {L : List (List Int)} {vs : List Value} {g o c : Nat} (h : SvR w L vs) (hb : Below w.heap.size w w') (ho : OSl w' 1 g o L.length c vs) : VV w' (some ⟨g, o, none⟩) L.length c L := by
  refine ⟨rfl, ho.le, ho.max, fun i hi => ?_⟩
  obtain ⟨x, d, a1, a2, a3, a4⟩ := h.2 i hi
  exact ⟨g, o, x, d, rfl, by rw [ho.cell i (by omega), a1], a2.below hb (Nat.le_refl _), a3, a4⟩
set_option maxRecDepth 100000 in
set_option maxHeartbeats 1600000 in
theorem living_any (a a2 : Option Addr) (n cap c2 : Nat) (H : List (List Int)) (al : List Bool) (w : World) (hv : VV w a n cap H) (hf : FlS w a2 al) (hn : 1 ≤ n ∧ n ≤ 8) (hl : al.length = n) :
    Calls Try.prog 79 #[.slice a n cap, .slice a2 al.length c2] w fun e w' => ∃ x m c, e = .returned (.slice x m c) ∧ VV w' x m c (livL H al n) ∧ Below w.heap.size w w' := by
  obtain ⟨i1, hi1, hy0, hy1, hy2⟩ := info_parts2n infoSl10
  obtain ⟨b, off, rfl, hc⟩ := vv_cells hv (by omega)
  have HC : Hid (RwC w b off n H) := hc
  obtain hz | ⟨b2, o2, rfl, hfc⟩ := hf
  · omega
  have HF : Hid (∀ i, i < n → w.cell? ⟨b2, o2 + i, none⟩ = some (.bool (fl al i))) := fun i hi => hfc i (by omega)
  rw [hl]
  clear hv hc hfc hl
  have hE0 : OSl (w.alloc (.cells #[] 24)) 1 w.heap.size 0 0 0 [] := ⟨rfl, Nat.le_refl _, Nat.zero_le _, by simp, fun i hi => by omega, fun i hi => by omega, fun i hi => by omega⟩
  have hB0 : Below w.heap.size w (w.alloc (.cells #[] 24)) := (Below.refl _ _).alloc (Nat.le_refl _) _
  go_enter Try.func79, Try.ntmps79
  go_wp2
  go_loopw [5, 6, 7, 11] (fun v _ _ i wr => ∃ (k g og cg : Nat) (vs : List Value), k ≤ n ∧ i = .int .i64 (k : Int) ∧ v = .slice (some ⟨g, og, none⟩) (livL H al k).length cg ∧ w.heap.size ≤ g ∧ OSl wr 1 g og (livL H al k).length cg vs ∧ SvR w (livL H al k) vs ∧ Below w.heap.size w wr) (fun _ _ _ i _ => n - (intOf i).toNat)
  case atStart => exact ⟨0, w.heap.size, 0, 0, [], Nat.zero_le _, rfl, rfl, Nat.le_refl _, hE0, ⟨rfl, fun i hi => by simp [livL] at hi⟩, hB0⟩
  case round =>
    clear hE0 hB0
    obtain ⟨k, g, og, cg, vs, hk, rfl, rfl, hg, hO, hS, hB⟩ := hrel
    have LO : Hid (OSl wr 1 g og (livL H al k).length cg vs) := hO
    have LS : Hid (SvR w (livL H al k) vs) := hS
    have LB : Hid (Below w.heap.size w wr) := hB
    have LG : Hid (w.heap.size ≤ g) := hg
    have LLE : (livL H al k).length ≤ 8 := by have := livL_len H al k; omega
    clear hO hg hS
    by_cases hlt : k < n
    · have k1 : (k : Int) < (n : Int) := by omega
      have k0 : (0 : Int) ≤ (k : Int) := by omega
      have f1 := (hB.cell (World.block_lt_of_cell? _ _ (HF.out k hlt))).trans (HF.out k hlt)
      obtain ⟨x, cx, hcx, hvx, hlx, hmx⟩ := HC.out k hlt
      have hcx' := (hB.cell (World.block_lt_of_cell? _ _ hcx)).trans hcx
      have HVX : Hid (Vec w x (row H k).length (row H k)) := hvx
      clear hcx hvx hB
      cases hfl : fl al k with
      | false =>
        have HS' : Hid (livL H al (k + 1) = livL H al k) := by rw [Hid, livL, if_neg (by rw [hfl]; simp)]
        rw [hfl] at f1
        go_wp2
        go_roundw
        case rel => exact ⟨k + 1, g, og, cg, vs, by omega, by go_num, by rw [HS'.out], LG.out, by rw [HS'.out]; exact LO.out, by rw [HS'.out]; exact LS.out, LB.out⟩
        case measure => simp [intOf]; omega
      | true =>
        have HS' : Hid (livL H al (k + 1) = livL H al k ++ [row H k]) := by rw [Hid, livL, if_pos hfl]
        rw [hfl] at f1
        have HSn : Hid (SvR w (livL H al k ++ [row H k]) (vs ++ [.slice x (row H k).length cx])) := LS.out.snoc HVX.out hlx hmx
        have NL : Hid ((livL H al k ++ [row H k]).length = (livL H al k).length + 1) := by rw [Hid]; simp
        generalize (row H k).length = RL at *
        generalize (livL H al k).length = M0 at *
        have hO2 : OSl (wr.alloc (.cells #[.slice x RL cx] 24)) 1 g og M0 cg vs := OSl.below LO.out ((Below.refl _ _).alloc (Nat.le_refl _) _) LO.out.blk
        go_wp2_with (at_builtin; refine wpList_append_os _ rfl _ _ _ rfl 24 i1 _ 1 24 Try.underlying33 hi1 hy0 hy1 hy2 rfl (by omega) g og M0 cg vs rfl hO2 ⟨wr.heap.size, 0, none⟩ 1 1 [.slice x RL cx] rfl rfl (World.news_of_block (cs := #[.slice x RL cx]) (t := 24) (fr := (0, 0)) (heap_alloc_new _ _)) (by simp [Value.oneCell']) (by unfold maxLen; omega) (by omega) ?_; intro g6 o6 c6 w6 hO6 hg6 hat6)
        have NG : Hid (w.heap.size ≤ g6) := by
          rcases hat6 with h | h
          · rw [h]; exact LG.out
          · rw [h]; exact Nat.le_trans LB.out.size (by simp)
        have NO : Hid (OSl w6 1 g6 o6 (M0 + 1) c6 (vs ++ [.slice x RL cx])) := hO6
        have NB : Hid (Below w.heap.size w w6) := below_grown6 (LB.out.alloc LB.out.size _) hg6 LG.out (Nat.le_trans LB.out.size (by simp))
        clear hO6 hg6 hat6 hO2
        go_roundw
        case rel => exact ⟨k + 1, g6, o6, c6, vs ++ [.slice x RL cx], by omega, by go_num, by rw [HS'.out, NL.out], NG.out, by rw [HS'.out, NL.out]; exact NO.out, by rw [HS'.out]; exact HSn.out, NB.out⟩
        case measure => simp [intOf]; omega
    · have k1 : ¬ ((k : Int) < (n : Int)) := by omega
      obtain rfl : k = n := by omega
      clear hB
      go_wp2
      go_ret
      exact ⟨_, _, cg, rfl, LS.out.vv LB.out LO.out, LB.out⟩
end Go.Proofs.Ytggieamhbfdmhaa

/-
  The program's Stable, Column and Lag.
-/
namespace Go.Proofs.Ytggieamhbfdmhaa
set_option linter.unusedVariables false
set_option linter.unusedSimpArgs false
open Go.RowKit Go.Sort

theorem AnsN.from {w w1 w' : World} {e : Ending} {Z : List Int} (h : AnsN w1 w' e Z) (hb : Below w.heap.size w w1) : AnsN w w' e Z := by
  obtain ⟨g, o, c, h1, h2, h3, h4⟩ := h
  exact ⟨g, o, c, h1, Nat.le_trans hb.size h2, h3, hb.trans (h4.mono hb.size)⟩
theorem ansN_nil (w w1 : World) (hb : Below w.heap.size w w1) : AnsN w (w1.alloc (.cells #[] 2)) (.returned (.slice (some ⟨w1.heap.size, 0, none⟩) 0 0)) [] :=
  AnsN.from (w1 := w1) ⟨w1.heap.size, 0, 0, rfl, Nat.le_refl _, num_empty w1 2, (Below.refl _ _).alloc (Nat.le_refl _) _⟩ hb
set_option maxRecDepth 100000 in
set_option maxHeartbeats 800000 in
theorem stableI_any (a a2 : Option Addr) (n cap c2 : Nat) (H : List (List Int)) (al : List Bool) (w : World) (hv : VV w a n cap H) (hf : FlS w a2 al) (hl2 : al.length ≤ maxLen) :
    Calls Try.prog 66 #[.slice a n cap, .slice a2 al.length c2] w fun e w' => AnsN w w' e (stL H al) := by
  have hR := rowsOkI_any a n cap H w hv
  have HN : Hid (H.length = n) := hv.n
  have hm : n ≤ maxLen := Nat.le_trans hv.le hv.mx
  unfold maxLen at hm hl2
  by_cases hok : okFr H = true
  · rw [hok] at hR
    by_cases hq : al.length = n
    · have hq' : ((al.length : Int) != (n : Int)) = false := by rw [hq]; simp
      have h8 := (okFr_iff.1 hok).1
      rw [HN.out] at h8
      have hL : ∀ X, Below w.heap.size w X → Calls Try.prog 79 #[.slice a n cap, .slice a2 al.length c2] X fun e w' => ∃ x m c, e = .returned (.slice x m c) ∧ VV w' x m c (livL H al n) ∧ Below X.heap.size X w' := fun X hX => living_any a a2 n cap c2 H al X (hv.below hX) (hf.below hX) h8 hq
      have HE : Hid (EvR (livL H al n)) := livL_ev hok (by rw [HN.out]; exact Nat.le_refl _)
      have HL8 : Hid ((livL H al n).length ≤ 8) := by have := livL_len H al n; rw [Hid]; omega
      have HZ : Hid (stL H al = if (livL H al n).length = 0 then [] else foF min (livL H al n) (livL H al n).length) := by
        rw [Hid, stL, if_pos ⟨hok, by rw [hq, HN.out]⟩, HN.out, stF_fo hok n (by rw [HN.out]; exact Nat.le_refl _)]
      clear hok hv hf hq
      generalize stL H al = Z at *
      generalize livL H al n = L at *
      generalize al.length = nl at *
      go_enter Try.func66, Try.ntmps66
      go_wp2_with (go_at_call 75; refine hR.mono ?_; rintro e w1 ⟨rfl, hg1⟩; have HB1 : Hid (Below w.heap.size w w1) := hg1.1; clear hg1)
      refine (hL w1 HB1.out).mono ?_
      rintro e w2 ⟨x, m, c, rfl, hv2, hb2⟩
      have HB2 : Hid (Below w.heap.size w w2) := HB1.out.trans (hb2.mono HB1.out.size)
      have HM : Hid (L.length = m) := hv2.n
      have hD := folded_any 11 min minOk (fun _ _ => enters_of Try.func11 (by kernel_rfl) rfl _ _) (fun a a' len cap len' cap' xs ys w => implMeet_any a a' len cap len' cap' xs ys w) x m c L w2 hv2 (by rw [← HM.out]; exact HL8.out) HE.out
      clear hv2 hb2 hL hR
      go_wp2_with fail
      refine hD.mono ?_
      rintro e w3 hA
      have HA : Hid (AnsN w w3 e Z) := by rw [Hid, HZ.out, HM.out]; exact hA.from HB2.out
      obtain ⟨g, o, cc, rfl, hr⟩ := HA.out
      clear hA hD hr
      go_wp2
      go_ret
      exact HA.out
    · have hq' : ((al.length : Int) != (n : Int)) = true := by simp; omega
      have HZ : Hid (stL H al = []) := by rw [Hid, stL, if_neg]; intro h; exact hq (by rw [h.2, HN.out])
      clear hok hv hf hq
      generalize al.length = nl at *
      go_enter Try.func66, Try.ntmps66
      go_wp2_with (go_at_call 75; refine hR.mono ?_; rintro e w1 ⟨rfl, hg1⟩; have HB1 : Hid (Below w.heap.size w w1) := hg1.1; clear hg1)
      go_ret
      rw [HZ.out]
      exact ansN_nil w w1 HB1.out
  · have hok' : okFr H = false := by simpa using hok
    rw [hok'] at hR
    have HZ : Hid (stL H al = []) := by rw [Hid, stL, if_neg]; intro h; exact hok h.1
    clear hok hok' hv hf
    generalize al.length = nl at *
    go_enter Try.func66, Try.ntmps66
    go_wp2_with (go_at_call 75; refine hR.mono ?_; rintro e w1 ⟨rfl, hg1⟩; have HB1 : Hid (Below w.heap.size w w1) := hg1.1; clear hg1)
    go_ret
    rw [HZ.out]
    exact ansN_nil w w1 HB1.out
theorem implStable : ImplStable := fun a cap H a2 c2 al w hv hf h1 h2 h3 => (stableI_any a a2 H.length cap c2 H al w hv hf (Nat.le_trans h1 h2)).mono (fun e w' h => h.i3)
end Go.Proofs.Ytggieamhbfdmhaa
