/-
  Several texts in one: Ivk Ivj Ivt Iva.
-/
import Derived.Test.YtbmpapmdkmnhhaaMa
import Derived.Test.YtbmpapmdkmnhhaaHy
import Derived.Test.YtbmpapmdkmnhhaaMg
import Derived.Test.YtbmpapmdkmnhhaaJm
/-
  The program's isWithin, risesWithin, slices.Index and slices.Contains; ViewOk, Leader, Rank and Majority of views.
-/
namespace Go.Proofs.Ytbmpapmdkmnhhaa
set_option linter.unusedVariables false
set_option linter.unusedSimpArgs false
open Go.RowKit Go.Sort

set_option maxHeartbeats 400000 in
theorem isW14_any (n last : Int) (w : World) : Calls Try.prog 87 #[.int .i64 n, .int .i64 last] w fun e w' => e = .returned (.bool (inB n 0 last)) ∧ w' = w := by
  by_cases h0 : (0 : Int) ≤ n
  · have H : Hid (inB n 0 last = decide (n ≤ last)) := by rw [Hid, inB]; simp [h0]
    go_enter Try.func87, Try.ntmps87
    go_wp2
    go_ret
    exact ⟨ret_bool (by rw [H.out]), rfl⟩
  · have H : Hid (inB n 0 last = false) := by rw [Hid, inB]; simp [h0]
    go_enter Try.func87, Try.ntmps87
    go_wp2
    go_ret
    exact ⟨ret_bool (by rw [H.out]), rfl⟩
set_option maxHeartbeats 800000 in
theorem rw14_any (a : Option Addr) (len cap : Nat) (B : Int) (xs : List Int) (w : World) (hv : Vec w a len xs) (hm : len ≤ maxLen) :
    Calls Try.prog 78 #[.slice a len cap, .int .i64 (B - 1)] w fun e w' => e = .returned (.bool (decide (okRow B xs))) ∧ w' = w := by
  unfold maxLen at hm
  have HL : Hid (xs.length = len) := hv.1
  have hc := hv.2.2
  clear hv
  go_enter Try.func78, Try.ntmps78
  go_wp2
  go_loop [9] (fun i => ∃ k : Nat, k ≤ len ∧ i = .int .i64 k ∧ (∀ j, j < k → 0 ≤ el xs j ∧ el xs j ≤ B - 1) ∧ ∀ j, j + 1 < k → el xs j < el xs (j + 1)) (fun i => len - (intOf i).toNat)
  case atStart => exact ⟨0, Nat.zero_le _, rfl, fun j hj => by omega, fun j hj => by omega⟩
  case round =>
    obtain ⟨k, hk, rfl, hin, hri⟩ := hrel
    have HI : Hid (∀ j, j < k → 0 ≤ el xs j ∧ el xs j ≤ B - 1) := hin
    have HR : Hid (∀ j, j + 1 < k → el xs j < el xs (j + 1)) := hri
    clear hin hri
    by_cases hlt : k < len
    · rcases hc with h0 | ⟨b, off, rfl, hc⟩
      · omega
      have hck := hc k hlt
      have k0 : (0 : Int) ≤ (k : Int) := by omega
      have k1 : (k : Int) < (len : Int) := by omega
      cases e4 : inB (el xs k) 0 (B - 1) with
      | false =>
        have HF : Hid (decide (okRow B xs) = false) := decide_eq_false (fun h => by
          have := h.1 k (by rw [HL.out]; exact hlt)
          rw [inB7.2 this] at e4
          cases e4)
        go_wp2_with (go_at_call 87; refine (isW14_any _ _ _).mono ?_; rintro e w' ⟨rfl, hw'⟩; rw [hw']; clear hw')
        go_ret
        exact ⟨ret_bool (by rw [HF.out]), rfl⟩
      | true =>
        have HX : Hid (0 ≤ el xs k ∧ el xs k ≤ B - 1) := inB7.1 e4
        by_cases hk0 : 0 < k
        · obtain ⟨q, rfl⟩ : ∃ q, k = q + 1 := ⟨k - 1, by omega⟩
          have hcq := hc q (by omega)
          have hg : decide (((q + 1 : Nat) : Int) > 0) = true := decide_eq_true (by omega)
          have g0 : (0 : Int) < ((q + 1 : Nat) : Int) := by omega
          have hq : wrap64 (((q + 1 : Nat) : Int) - 1) = (q : Int) := by unfold wrap64; omega
          have q0 : (0 : Int) ≤ (q : Int) := by omega
          have q1 : (q : Int) < (len : Int) := by omega
          by_cases hx : el xs q < el xs (q + 1)
          · have hd : decide (el xs (q + 1) ≤ el xs q) = false := by simp; omega
            have HY : Hid (el xs q < el xs (q + 1)) := hx
            clear hx
            go_wp2_with (go_at_call 87; refine (isW14_any _ _ _).mono ?_; rintro e w' ⟨rfl, hw'⟩; rw [hw']; clear hw')
            go_round
            case rel => exact ⟨q + 1 + 1, by omega, by go_num, fun j hj => by
              rcases Nat.lt_succ_iff_lt_or_eq.1 hj with h | h
              · exact HI.out j h
              · rw [h]; exact HX.out, fun j hj => by
              rcases Nat.lt_succ_iff_lt_or_eq.1 hj with h | h
              · exact HR.out j h
              · have : j = q := by omega
                rw [this]; exact HY.out⟩
            case measure => simp [intOf]; omega
          · have hd : decide (el xs (q + 1) ≤ el xs q) = true := by simp; omega
            have HF : Hid (decide (okRow B xs) = false) := decide_eq_false (fun h => hx (h.2 q (by rw [HL.out]; omega)))
            clear hx
            go_wp2_with (go_at_call 87; refine (isW14_any _ _ _).mono ?_; rintro e w' ⟨rfl, hw'⟩; rw [hw']; clear hw')
            go_ret
            exact ⟨ret_bool (by rw [HF.out]), rfl⟩
        · obtain rfl : k = 0 := by omega
          rw [Nat.add_zero] at hck
          go_wp2_with (go_at_call 87; refine (isW14_any _ _ _).mono ?_; rintro e w' ⟨rfl, hw'⟩; rw [hw']; clear hw')
          go_round
          case rel => exact ⟨1, by omega, by go_num, fun j hj => by
            obtain rfl : j = 0 := by omega
            exact HX.out, fun j hj => by omega⟩
          case measure => simp [intOf]; omega
    · have hkl : k = len := by omega
      have HF : Hid (decide (okRow B xs) = true) := decide_eq_true ⟨fun j hj => HI.out j (by rw [HL.out] at hj; omega), fun j hj => HR.out j (by rw [HL.out] at hj; omega)⟩
      subst hkl
      clear hc
      go_wp2
      go_ret
      exact ⟨ret_bool (by rw [HF.out]), rfl⟩


theorem okRow14 {M : List Int} : okRow 100 M ↔ M.Pairwise (· < ·) ∧ ∀ x ∈ M, 0 ≤ x ∧ x ≤ 99 := by
  unfold okRow
  constructor
  · rintro ⟨h1, h2⟩
    refine ⟨rises_pairwise.1 (fun i hi => h2 i (by omega)), fun x hx => ?_⟩
    obtain ⟨i, hi, rfl⟩ := el_of hx
    have := h1 i hi
    omega
  · rintro ⟨h1, h2⟩
    refine ⟨fun i hi => ?_, fun i hi => el_up h1 (by omega) (by omega)⟩
    have := h2 _ (el_in hi)
    omega
theorem okVw_row {F : Int} {M : List Int} (h1 : ¬ (F < 1)) (h2 : ¬ (1000000 < F)) (h3 : ¬ (M.length < 1)) (h4 : ¬ (8 < M.length)) : decide (okRow 100 M) = decide (okVw (F, M)) := by
  have : okRow 100 M ↔ okVw (F, M) := by
    rw [okRow14]
    constructor
    · rintro ⟨a, b⟩
      exact ⟨⟨by dsimp only; omega, by dsimp only; omega⟩, ⟨by dsimp only; omega, by dsimp only; omega⟩, a, b⟩
    · rintro ⟨_, _, a, b⟩
      exact ⟨a, b⟩
  by_cases h : okVw (F, M)
  · rw [decide_eq_true h, decide_eq_true (this.2 h)]
  · rw [decide_eq_false h, decide_eq_false (fun h' => h (this.1 h'))]
set_option maxRecDepth 100000 in
set_option maxHeartbeats 1600000 in
theorem vwkI_any (F : Int) (a : Option Addr) (cap : Nat) (M : List Int) (w : World) (hv : Vec w a M.length M) (hm : M.length ≤ maxLen) :
    Calls Try.prog 34 #[vwV F a M.length cap] w fun e w' => e = .returned (.bool (decide (okVw (F, M)))) ∧ Grew w w' := by
  have hm' := hm
  unfold maxLen at hm
  unfold vwV
  have hG0 : Grew w (w.alloc (.cells #[.int .i64 F, .slice a M.length cap] 34)) := (Grew.refl _).alloc _
  have HG : Hid (Grew w (w.alloc (.cells #[.int .i64 F, .slice a M.length cap] 34))) := hG0
  have hvW := hv.below hG0.1 (Nat.le_refl _)
  have hR := rw14_any a M.length cap 100 M _ hvW hm'
  have c0 : (w.alloc (.cells #[.int .i64 F, .slice a M.length cap] 34)).cell? ⟨w.heap.size, 0, none⟩ = some (.int .i64 F) := by simp
  have c1 : (w.alloc (.cells #[.int .i64 F, .slice a M.length cap] 34)).cell? ⟨w.heap.size, 1, none⟩ = some (.slice a M.length cap) := by simp
  simp only [show (100 : Int) - 1 = 99 from rfl] at hR
  clear hv hvW hG0
  by_cases h1 : F < 1
  · have HZ : Hid (decide (okVw (F, M)) = false) := decide_eq_false (fun h => by have := h.1; dsimp only at this; omega)
    clear hR
    go_enter Try.func34, Try.ntmps34
    go_wp2
    go_ret
    exact ⟨ret_bool (by rw [HZ.out]), HG.out⟩
  · by_cases h2 : 1000000 < F
    · have HZ : Hid (decide (okVw (F, M)) = false) := decide_eq_false (fun h => by have := h.1; dsimp only at this; omega)
      clear hR
      go_enter Try.func34, Try.ntmps34
      go_wp2
      go_ret
      exact ⟨ret_bool (by rw [HZ.out]), HG.out⟩
    · by_cases h3 : M.length < 1
      · have HZ : Hid (decide (okVw (F, M)) = false) := decide_eq_false (fun h => by have := h.2.1; dsimp only at this; omega)
        have k3 : (M.length : Int) < 1 := by omega
        clear hR
        go_enter Try.func34, Try.ntmps34
        go_wp2
        go_ret
        exact ⟨ret_bool (by rw [HZ.out]), HG.out⟩
      · have k3 : ¬ ((M.length : Int) < 1) := by omega
        by_cases h4 : 8 < M.length
        · have HZ : Hid (decide (okVw (F, M)) = false) := decide_eq_false (fun h => by have := h.2.1; dsimp only at this; omega)
          have k4 : (8 : Int) < (M.length : Int) := by omega
          clear hR
          go_enter Try.func34, Try.ntmps34
          go_wp2
          go_ret
          exact ⟨ret_bool (by rw [HZ.out]), HG.out⟩
        · have k4 : ¬ ((8 : Int) < (M.length : Int)) := by omega
          have HZ : Hid (decide (okRow 100 M) = decide (okVw (F, M))) := okVw_row h1 h2 h3 h4
          go_enter Try.func34, Try.ntmps34
          go_wp2_with (go_at_call 78; refine hR.mono ?_; rintro e w' ⟨rfl, hw'⟩; rw [hw']; clear hw')
          go_ret
          exact ⟨ret_bool (by rw [HZ.out]), HG.out⟩
theorem implViewOk : ImplViewOk := by
  intro F a c M w _ hv hm
  refine (vwkI_any F a c M w hv.vec (by unfold maxLen; omega)).mono ?_
  rintro e w' ⟨rfl, hg⟩
  exact ⟨rfl, hg.1⟩
/-- The first place of x among these, or -1. -/
def IsIdx (xs : List Int) (x z : Int) : Prop := (∃ k : Nat, k < xs.length ∧ z = (k : Int) ∧ el xs k = x ∧ ∀ j, j < k → el xs j ≠ x) ∨ (z = -1 ∧ ∀ j, j < xs.length → el xs j ≠ x)
theorem IsIdx.mem {xs : List Int} {x z : Int} (h : IsIdx xs x z) : decide (0 ≤ z) = decide (x ∈ xs) := by
  rcases h with ⟨k, hk, rfl, rfl, _⟩ | ⟨rfl, h⟩
  · rw [decide_eq_true (el_in hk), decide_eq_true (by omega)]
  · rw [decide_eq_false (by omega), decide_eq_false (fun hx => by obtain ⟨i, hi, e⟩ := el_of hx; exact h i hi e)]
set_option maxHeartbeats 800000 in
theorem idx14_any (a : Option Addr) (cap : Nat) (xs : List Int) (x : Int) (w : World) (hv : Vec w a xs.length xs) (hm : xs.length ≤ maxLen) :
    Calls Try.prog 82 #[.slice a xs.length cap, .int .i64 x] w fun e w' => (∃ z : Int, e = .returned (.int .i64 z) ∧ IsIdx xs x z) ∧ w' = w := by
  unfold maxLen at hm
  have hc := hv.2.2
  clear hv
  go_enter Try.func82, Try.ntmps82
  go_wp2
  go_loop [8] (fun i => ∃ k : Nat, k ≤ xs.length ∧ i = .int .i64 k ∧ ∀ j, j < k → el xs j ≠ x) (fun i => xs.length - (intOf i).toNat)
  case atStart => exact ⟨0, Nat.zero_le _, rfl, fun j hj => by omega⟩
  case round =>
    obtain ⟨k, hk, rfl, hall⟩ := hrel
    have HA : Hid (∀ j, j < k → el xs j ≠ x) := hall
    clear hall
    by_cases hlt : k < xs.length
    · rcases hc with h0 | ⟨b, off, rfl, hc⟩
      · omega
      have hck := hc k hlt
      clear hc
      have k0 : (0 : Int) ≤ (k : Int) := by omega
      have k1 : (k : Int) < (xs.length : Int) := by omega
      by_cases hx : el xs k = x
      · have HX : Hid (IsIdx xs x (k : Int)) := .inl ⟨k, hlt, rfl, hx, HA.out⟩
        have hq : (x == el xs k) = true := by simp [hx]
        clear hx
        generalize el xs k = E at *
        go_wp2
        go_ret
        exact ⟨⟨_, rfl, HX.out⟩, rfl⟩
      · have HX : Hid (∀ j, j < k + 1 → el xs j ≠ x) := fun j hj => by
          by_cases e : j = k
          · rw [e]; exact hx
          · exact HA.out j (by omega)
        have hq : (x == el xs k) = false := by simp [Ne.symm hx]
        clear hx
        generalize el xs k = E at *
        go_wp2
        go_round
        case rel => exact ⟨k + 1, by omega, by go_num, HX.out⟩
        case measure => simp [intOf]; omega
    · have k1 : ¬ ((k : Int) < (xs.length : Int)) := by omega
      obtain rfl : k = xs.length := by omega
      clear hc
      go_wp2
      go_ret
      exact ⟨⟨_, rfl, .inr ⟨rfl, HA.out⟩⟩, rfl⟩
set_option maxHeartbeats 400000 in
theorem con14_any (a : Option Addr) (cap : Nat) (xs : List Int) (x : Int) (w : World) (hv : Vec w a xs.length xs) (hm : xs.length ≤ maxLen) :
    Calls Try.prog 72 #[.slice a xs.length cap, .int .i64 x] w fun e w' => e = .returned (.bool (decide (x ∈ xs))) ∧ w' = w := by
  have hI := idx14_any a cap xs x w hv hm
  clear hv
  go_enter Try.func72, Try.ntmps72
  go_wp2_with (go_at_call 82; refine hI.mono ?_; rintro e w' ⟨⟨z, rfl, hz⟩, hw'⟩; rw [hw']; clear hw'; have HZ : Hid (IsIdx xs x z) := hz; clear hz)
  go_ret
  exact ⟨ret_bool (by rw [← HZ.out.mem]), rfl⟩
set_option maxRecDepth 100000 in
set_option maxHeartbeats 1600000 in
theorem ldrI_any (F : Int) (a : Option Addr) (cap : Nat) (M : List Int) (b : Option Addr) (cb : Nat) (s : List Int) (w : World) (hv : Vec w a M.length M) (hm : M.length ≤ maxLen) (hs : Vec w b s.length s) (hsm : s.length ≤ maxLen) :
    Calls Try.prog 41 #[vwV F a M.length cap, .slice b s.length cb] w fun e w' => e = .returned (.int .i64 (ldL (F, M) s)) ∧ Grew w w' := by
  have hG0 : Grew w (w.alloc (.cells #[.int .i64 F, .slice a M.length cap] 34)) := (Grew.refl _).alloc _
  have hX := VX.new (F := F) (c := cap) hv
  have hK := vwkI_any F a cap M _ hX.vec hm
  have hs0 := hs.below hG0.1 (Nat.le_refl _)
  unfold vwV at hK ⊢
  obtain ⟨c0, c1⟩ := hX.c
  have HG : Hid (Grew w (w.alloc (.cells #[.int .i64 F, .slice a M.length cap] 34))) := hG0
  clear hG0 hv hs
  generalize hW0 : w.alloc (.cells #[.int .i64 F, .slice a M.length cap] 34) = W0 at *
  unfold maxLen at hm
  by_cases hok : okVw (F, M)
  · rw [decide_eq_true hok] at hK
    have HL : Hid (ldL (F, M) s = (firstN M s).getD (-1)) := by rw [Hid, ldL, if_pos hok]
    have h8 := hok.2.1
    dsimp only at h8
    clear hok
    go_enter Try.func41, Try.ntmps41
    go_wp2_with (go_at_call 34; refine hK.mono ?_; rintro e w1 ⟨rfl, hg1⟩; have d1 := hg1.cell c1)
    have hX1 := hX.below hg1.1
    have hs1 := hs0.below hg1.1 (Nat.le_refl _)
    have HG1 : Hid (Grew w w1) := HG.out.trans hg1
    obtain ⟨bm, om, rfl, hc⟩ := hX1.vec.cells h8.1
    have HC : Hid (∀ i, i < M.length → w1.cell? ⟨bm, om + i, none⟩ = some (.int .i64 (el M i))) := hc
    clear hX hX1 hs0 hK hg1 c0 c1 hc HG
    go_loop [13] (fun i => ∃ k : Nat, k ≤ M.length ∧ i = .int .i64 (k : Int) ∧ ∀ j, j < k → el M j ∈ s) (fun i => M.length - (intOf i).toNat)
    case atStart => exact ⟨0, Nat.zero_le _, rfl, fun j hj => by omega⟩
    case round =>
      obtain ⟨k, hk, rfl, hall⟩ := hrel
      have HA : Hid (∀ j, j < k → el M j ∈ s) := hall
      clear hall
      by_cases hlt : k < M.length
      · have k1 : (k : Int) < (M.length : Int) := by omega
        have k0 : (0 : Int) ≤ (k : Int) := by omega
        have hck := HC.out k hlt
        have hH := con14_any b cb s (el M k) w1 hs1 hsm
        have HST : Hid ((el M k ∉ s → firstN M s = some (el M k)) ∧ (el M k ∈ s → ∀ j, j < k + 1 → el M j ∈ s)) := ld_step hlt HA.out
        by_cases hin : el M k ∈ s
        · have HN : Hid (∀ j, j < k + 1 → el M j ∈ s) := HST.out.2 hin
          rw [decide_eq_true hin] at hH
          clear hin HST
          generalize el M k = E at *
          go_wp2_with (go_at_call 72; refine hH.mono ?_; rintro e w' ⟨rfl, hw'⟩; rw [hw']; clear hw')
          go_round
          case rel => exact ⟨k + 1, by omega, by go_num, HN.out⟩
          case measure => simp [intOf]; omega
        · have HN : Hid (ldL (F, M) s = el M k) := by rw [Hid, HL.out, HST.out.1 hin]; rfl
          rw [decide_eq_false hin] at hH
          clear hin HST
          generalize el M k = E at *
          go_wp2_with (go_at_call 72; refine hH.mono ?_; rintro e w' ⟨rfl, hw'⟩; rw [hw']; clear hw')
          go_ret
          exact ⟨ret_int (by rw [HN.out]), HG1.out⟩
      · have k1 : ¬ ((k : Int) < (M.length : Int)) := by omega
        obtain rfl : k = M.length := by omega
        have HN : Hid (ldL (F, M) s = -1) := by rw [Hid, HL.out, ld_none HA.out]; rfl
        go_wp2
        go_ret
        exact ⟨ret_int (by rw [HN.out]), HG1.out⟩
  · rw [decide_eq_false hok] at hK
    have HZ : Hid (ldL (F, M) s = -1) := by rw [Hid, ldL, if_neg hok]
    clear hok
    go_enter Try.func41, Try.ntmps41
    go_wp2_with (go_at_call 34; refine hK.mono ?_; rintro e w1 ⟨rfl, hg1⟩)
    have HG1 : Hid (Grew w w1) := HG.out.trans hg1
    clear hg1
    go_ret
    exact ⟨ret_int (by rw [HZ.out]), HG1.out⟩
theorem implLeader : ImplLeader := by
  intro F a c M b d s w _ hv hm hs hsm
  refine (ldrI_any F a c M b d s w hv.vec (by unfold maxLen; omega) hs.vec (by unfold maxLen; omega)).mono ?_
  rintro e w' ⟨rfl, hg⟩
  exact ⟨rfl, hg.1⟩
set_option maxRecDepth 100000 in
set_option maxHeartbeats 1600000 in
theorem implRank : ImplRank := by
  intro F a cap M node w _ hv0 hm _
  have hv := hv0.vec
  have hm' : M.length ≤ maxLen := by unfold maxLen; omega
  have hG0 : Grew w (w.alloc (.cells #[.int .i64 F, .slice a M.length cap] 34)) := (Grew.refl _).alloc _
  have hX := VX.new (F := F) (c := cap) hv
  have hK := vwkI_any F a cap M _ hX.vec hm'
  unfold vwV at hK ⊢
  obtain ⟨c0, c1⟩ := hX.c
  have HG : Hid (Grew w (w.alloc (.cells #[.int .i64 F, .slice a M.length cap] 34))) := hG0
  clear hG0 hv hv0
  generalize hW0 : w.alloc (.cells #[.int .i64 F, .slice a M.length cap] 34) = W0 at *
  by_cases hok : okVw (F, M)
  · rw [decide_eq_true hok] at hK
    have HL : Hid (∀ z, IsIdx M node z → z = rnkL (F, M) node) := fun z hz => by
      rw [rnkL, if_pos hok]
      rcases hz with ⟨k, hk, rfl, rfl, _⟩ | ⟨rfl, h⟩
      · dsimp only
        rw [rkF_at hok.2.2.1 hk (Nat.le_refl _)]
      · dsimp only
        rw [rkF_none h]
    clear hok
    go_enter Try.func44, Try.ntmps44
    go_wp2_with (first
      | (go_at_call 34; refine hK.mono ?_; rintro e w1 ⟨rfl, hg1⟩; have hX1 := hX.below hg1.1; obtain ⟨d0, d1⟩ := hX1.c; have HG1 : Hid (Grew w w1) := (HG.out.trans hg1); have hI := idx14_any a cap M node w1 hX1.vec hm'; clear hg1)
      | (go_at_call 82; refine hI.mono ?_; rintro e w' ⟨⟨z, rfl, hz⟩, hw'⟩; rw [hw']; clear hw'; have HZ : Hid (z = rnkL (F, M) node) := HL.out z hz; clear hz))
    go_ret
    exact ⟨ret_int (by rw [HZ.out]), HG1.out.1⟩
  · rw [decide_eq_false hok] at hK
    have HZ : Hid (rnkL (F, M) node = -1) := by rw [Hid, rnkL, if_neg hok]
    clear hok
    go_enter Try.func44, Try.ntmps44
    go_wp2_with (go_at_call 34; refine hK.mono ?_; rintro e w1 ⟨rfl, hg1⟩)
    have HG1 : Hid (Grew w w1) := HG.out.trans hg1
    clear hg1
    go_ret
    exact ⟨ret_int (by rw [HZ.out]), HG1.out.1⟩
set_option maxRecDepth 100000 in
set_option maxHeartbeats 1600000 in
theorem majI_any (F : Int) (a : Option Addr) (cap : Nat) (M : List Int) (b : Option Addr) (cb : Nat) (s : List Int) (w : World) (hv : Vec w a M.length M) (hm : M.length ≤ 1048576) (hs : Vec w b s.length s) (hsm : s.length ≤ maxLen) :
    Calls Try.prog 30 #[vwV F a M.length cap, .slice b s.length cb] w fun e w' => e = .returned (.bool (decide (mjP (F, M) s))) ∧ Grew w w' := by
  have hG0 : Grew w (w.alloc (.cells #[.int .i64 F, .slice a M.length cap] 34)) := (Grew.refl _).alloc _
  have hX := VX.new (F := F) (c := cap) hv
  have hK := vwkI_any F a cap M _ hX.vec (by unfold maxLen; omega)
  have hs0 := hs.below hG0.1 (Nat.le_refl _)
  unfold vwV at hK ⊢
  obtain ⟨c0, c1⟩ := hX.c
  have HG : Hid (Grew w (w.alloc (.cells #[.int .i64 F, .slice a M.length cap] 34))) := hG0
  clear hG0 hv hs
  generalize hW0 : w.alloc (.cells #[.int .i64 F, .slice a M.length cap] 34) = W0 at *
  by_cases hok : okVw (F, M)
  · rw [decide_eq_true hok] at hK
    have HZ : Hid (decide (mjP (F, M) s) = decide ((M.length : Int) < 2 * (cntL M s : Int))) := by
      rw [Hid]
      refine decide_eq_decide.2 ⟨fun h => by have := h.2; dsimp only at this; omega, fun h => ⟨hok, by dsimp only; omega⟩⟩
    have h8 := hok.2.1
    dsimp only at h8
    clear hok
    go_enter Try.func30, Try.ntmps30
    go_wp2_with (go_at_call 34; refine hK.mono ?_; rintro e w1 ⟨rfl, hg1⟩; have d1 := hg1.cell c1)
    have hX1 := hX.below hg1.1
    have hs1 := hs0.below hg1.1 (Nat.le_refl _)
    have HG1 : Hid (Grew w w1) := HG.out.trans hg1
    obtain ⟨bm, om, rfl, hc⟩ := hX1.vec.cells h8.1
    have HC : Hid (∀ i, i < M.length → w1.cell? ⟨bm, om + i, none⟩ = some (.int .i64 (el M i))) := hc
    clear hX hX1 hs0 hK hg1 c0 c1 hc HG
    go_loop [5, 14] (fun c i => ∃ k : Nat, k ≤ M.length ∧ i = .int .i64 (k : Int) ∧ c = .int .i64 ((cntL (M.take k) s : Nat) : Int)) (fun _ i => M.length - (intOf i).toNat)
    case atStart => exact ⟨0, Nat.zero_le _, rfl, rfl⟩
    case round =>
      obtain ⟨k, hk, rfl, rfl⟩ := hrel
      have hle : cntL (M.take k) s ≤ k := Nat.le_trans (cntL_le _ _) (by simp; omega)
      by_cases hlt : k < M.length
      · have k1 : (k : Int) < (M.length : Int) := by omega
        have k0 : (0 : Int) ≤ (k : Int) := by omega
        have hck := HC.out k hlt
        have hH := con14_any b cb s (el M k) w1 hs1 hsm
        have HST : Hid (cntL (M.take (k + 1)) s = cntL (M.take k) s + (if el M k ∈ s then 1 else 0)) := cnt_step hlt
        by_cases hin : el M k ∈ s
        · have HN : Hid (cntL (M.take (k + 1)) s = cntL (M.take k) s + 1) := by rw [Hid, HST.out, if_pos hin]
          rw [decide_eq_true hin] at hH
          clear hin HST
          generalize el M k = E at *
          generalize hC1 : cntL (M.take (k + 1)) s = C1 at *
          generalize cntL (M.take k) s = C0 at *
          go_wp2_with (go_at_call 72; refine hH.mono ?_; rintro e w' ⟨rfl, hw'⟩; rw [hw']; clear hw')
          go_round
          case rel => exact ⟨k + 1, by omega, by go_num, by rw [hC1, HN.out]; go_num⟩
          case measure => simp [intOf]; omega
        · have HN : Hid (cntL (M.take (k + 1)) s = cntL (M.take k) s) := by rw [Hid, HST.out, if_neg hin]; rfl
          rw [decide_eq_false hin] at hH
          clear hin HST
          generalize el M k = E at *
          generalize hC1 : cntL (M.take (k + 1)) s = C1 at *
          generalize cntL (M.take k) s = C0 at *
          go_wp2_with (go_at_call 72; refine hH.mono ?_; rintro e w' ⟨rfl, hw'⟩; rw [hw']; clear hw')
          go_round
          case rel => exact ⟨k + 1, by omega, by go_num, by rw [hC1, HN.out]⟩
          case measure => simp [intOf]; omega
      · have k1 : ¬ ((k : Int) < (M.length : Int)) := by omega
        have hkl : k = M.length := by omega
        have HT : Hid (M.take k = M) := by rw [Hid, hkl, List.take_length]
        rw [HT.out] at hle ⊢
        clear hkl HT
        generalize cntL M s = C at *
        have hw2 : wrap64 (2 * (C : Int)) = 2 * (C : Int) := by unfold wrap64; omega
        go_wp2
        go_ret
        exact ⟨ret_bool (by rw [HZ.out]), HG1.out⟩
  · rw [decide_eq_false hok] at hK
    have HZ : Hid (decide (mjP (F, M) s) = false) := decide_eq_false (fun h => hok h.1)
    clear hok
    go_enter Try.func30, Try.ntmps30
    go_wp2_with (go_at_call 34; refine hK.mono ?_; rintro e w1 ⟨rfl, hg1⟩)
    have HG1 : Hid (Grew w w1) := HG.out.trans hg1
    clear hg1
    go_ret
    exact ⟨ret_bool (by rw [HZ.out]), HG1.out⟩
theorem implMajority : ImplMajority := by
  intro F a c M b d s w _ hv hm hs hsm
  refine (majI_any F a c M b d s w hv.vec hm hs.vec (by unfold maxLen; omega)).mono ?_
  rintro e w' ⟨rfl, hg⟩
  exact ⟨rfl, hg.1⟩
end Go.Proofs.Ytbmpapmdkmnhhaa

/-
  The program's kindsOf: what each node is to the view that comes next.
-/
namespace Go.Proofs.Ytbmpapmdkmnhhaa
set_option linter.unusedVariables false
set_option linter.unusedSimpArgs false
open Go.RowKit Go.Sort
attribute [local irreducible] vA World.setCells

/-- 2 where it stays, 1 where it comes, 0 else. -/
def knd (M gone come : List Int) (j : Nat) : Int := if (j : Int) ∈ M ∧ (j : Int) ∉ gone then 2 else if (j : Int) ∈ come then 1 else 0
def kndV (M gone come : List Int) : Nat → Value := fun j => .int .i64 (knd M gone come j)
def kZ : Nat → Value := fun _ => .int .i64 0
def inR (L : List Int) : Bool := L.all (fun x => inB x 0 99)
theorem inR_iff {L : List Int} : inR L = true ↔ ∀ x ∈ L, 0 ≤ x ∧ x ≤ 99 := by
  unfold inR
  rw [List.all_eq_true]
  exact ⟨fun h x hx => inB7.1 (h x hx), fun h x hx => inB7.2 (h x hx)⟩
theorem mem_take1 {L : List Int} {k : Nat} (h : k < L.length) (x : Int) : x ∈ L.take (k + 1) ↔ x ∈ L.take k ∨ x = el L k := by
  rw [List.take_succ_eq_append_getElem h, List.mem_append, List.mem_singleton]
  simp [el, List.getD, h]
theorem knd_in {M : List Int} {k q : Nat} (h : k < M.length) (e : el M k = (q : Int)) (j : Nat) : upA (kndV (M.take k) [] []) q (.int .i64 2) j = kndV (M.take (k + 1)) [] [] j := by
  unfold upA kndV knd
  by_cases hj : j = q
  · subst hj
    have : (j : Int) ∈ M.take (k + 1) := (mem_take1 h _).2 (.inr e.symm)
    simp [this]
  · have : (j : Int) ≠ el M k := by omega
    rw [if_neg hj]
    simp only [mem_take1 h, this, or_false]
theorem knd_go {M gone : List Int} {k q : Nat} (h : k < gone.length) (e : el gone k = (q : Int)) (j : Nat) : upA (kndV M (gone.take k) []) q (.int .i64 0) j = kndV M (gone.take (k + 1)) [] j := by
  unfold upA kndV knd
  by_cases hj : j = q
  · subst hj
    have : (j : Int) ∈ gone.take (k + 1) := (mem_take1 h _).2 (.inr e.symm)
    simp [this]
  · have : (j : Int) ≠ el gone k := by omega
    rw [if_neg hj]
    simp only [mem_take1 h, this, or_false]
theorem knd_far {M gone : List Int} {k : Nat} (h : k < gone.length) (e : inB (el gone k) 0 99 = false) {j : Nat} (hj : j < 100) : kndV M (gone.take k) [] j = kndV M (gone.take (k + 1)) [] j := by
  unfold kndV knd
  have : (j : Int) ≠ el gone k := fun he => by
    have h2 : inB (el gone k) 0 99 = true := inB7.2 (by omega)
    rw [e] at h2; cases h2
  simp only [mem_take1 h, this, or_false]
theorem knd_co {M gone come : List Int} {k q : Nat} (h : k < come.length) (e : el come k = (q : Int)) (h0 : knd M gone (come.take k) q = 0) (j : Nat) : upA (kndV M gone (come.take k)) q (.int .i64 1) j = kndV M gone (come.take (k + 1)) j := by
  unfold upA kndV
  by_cases hj : j = q
  · subst hj
    have hm : (j : Int) ∈ come.take (k + 1) := (mem_take1 h _).2 (.inr e.symm)
    have hn : ¬ ((j : Int) ∈ M ∧ (j : Int) ∉ gone) := fun hh => by
      unfold knd at h0
      rw [if_pos hh] at h0
      cases h0
    rw [if_pos rfl]
    unfold knd
    rw [if_neg hn, if_pos hm]
  · have : (j : Int) ≠ el come k := by omega
    rw [if_neg hj]
    unfold knd
    simp only [mem_take1 h, this, or_false]
theorem knd_is {M gone come : List Int} {k q : Nat} (h : k < come.length) (e : el come k = (q : Int)) (h0 : knd M gone (come.take k) q ≠ 0) (j : Nat) : kndV M gone (come.take k) j = kndV M gone (come.take (k + 1)) j := by
  unfold kndV
  by_cases hj : j = q
  · subst hj
    have hm : (j : Int) ∈ come.take (k + 1) := (mem_take1 h _).2 (.inr e.symm)
    unfold knd at h0 ⊢
    by_cases h1 : (j : Int) ∈ M ∧ (j : Int) ∉ gone
    · rw [if_pos h1, if_pos h1]
    · rw [if_neg h1] at h0 ⊢
      rw [if_neg h1, if_pos hm]
      by_cases h2 : (j : Int) ∈ come.take k
      · rw [if_pos h2]
      · rw [if_neg h2] at h0; exact absurd rfl h0
  · have : (j : Int) ≠ el come k := by omega
    unfold knd
    simp only [mem_take1 h, this, or_false]
theorem Try.infoKs : (Try.prog.info? 78).map (fun i => (i.zero, i.size, i.bytes)) = some (some (.agg (vA 100 kZ)), 100, 800) := by kernel_rfl
theorem Try.infoKd : (Try.prog.info? 76).map (fun i => (i.zero, i.size, i.bytes)) = some (some (.int .i64 0), 1, 8) := by kernel_rfl
theorem Try.aggKd : ∀ w, (isAgg 76).run Try.prog w = .ok false w := fun w => by simp [isAgg, run_underlying Try.underlying76]
/-- What kindsOf holds. -/
structure KH (w W : World) (F : Int) (a : Option Addr) (n cap : Nat) (f : Nat → Value) : Prop where
  box : Bx W w.heap.size 34 #[.int .i64 F, .slice a n cap]
  res : VAt W (w.heap.size + 1) 0 100 kZ
  all : VAt W (w.heap.size + 2) 0 100 f
  below : Below w.heap.size w W
theorem KH.start (w : World) (F : Int) (a : Option Addr) (n cap : Nat) : KH w (((w.alloc (.cells #[.int .i64 F, .slice a n cap] 34)).alloc (.cells (vA 100 kZ) 78)).alloc (.cells (vA 100 kZ) 78)) F a n cap kZ := by
  have h1 := va_alloc (w.alloc (.cells #[.int .i64 F, .slice a n cap] 34)) 100 kZ 78
  have h2 := va_alloc ((w.alloc (.cells #[.int .i64 F, .slice a n cap] 34)).alloc (.cells (vA 100 kZ) 78)) 100 kZ 78
  simp only [World.size_alloc] at h1 h2
  refine ⟨((Bx.new _ _ _).alloc _).alloc _, ?_, h2, (((Below.refl _ _).alloc (Nat.le_refl _) _).alloc (by simp) _).alloc (by simp; omega) _⟩
  have hb := (Below.refl ((w.alloc (.cells #[.int .i64 F, .slice a n cap] 34)).alloc (.cells (vA 100 kZ) 78)).heap.size ((w.alloc (.cells #[.int .i64 F, .slice a n cap] 34)).alloc (.cells (vA 100 kZ) 78))).alloc (Nat.le_refl _) (.cells (vA 100 kZ) 78)
  exact h1.below hb h1.blk
theorem KH.set {w W : World} {F : Int} {a : Option Addr} {n cap : Nat} {f : Nat → Value} (h : KH w W F a n cap f) {q : Nat} (hq : q < 100) (v : Value) : KH w (W.setCell ⟨w.heap.size + 2, q, none⟩ v) F a n cap (upA f q v) := by
  refine ⟨h.box.far (by omega) _, h.res.setFar (by omega), ?_, h.below.setCell (p := ⟨w.heap.size + 2, q, none⟩) (by show w.heap.size ≤ w.heap.size + 2; omega) _⟩
  have := h.all.set hq v
  simpa using this
theorem KH.congr {w W : World} {F : Int} {a : Option Addr} {n cap : Nat} {f g : Nat → Value} (h : KH w W F a n cap f) (e : ∀ j, j < 100 → f j = g j) : KH w W F a n cap g := ⟨h.box, h.res, h.all.congr e, h.below⟩
theorem KH.at {w W : World} {F : Int} {a : Option Addr} {n cap : Nat} {f : Nat → Value} (h : KH w W F a n cap f) {q : Nat} (hq : q < 100) : W.cell? ⟨w.heap.size + 2, q, none⟩ = some (f q) ∧ W.frozen? ⟨w.heap.size + 2, q, none⟩ = false := by
  have h1 := h.all.cell q hq
  have h2 := h.all.free q hq
  rw [Nat.zero_add] at h1 h2
  exact ⟨h1, h2⟩
theorem nat_of {x : Int} (h : inB x 0 99 = true) : ∃ q : Nat, x = (q : Int) ∧ q < 100 := by
  have := inB7.1 h
  exact ⟨x.toNat, by omega, by omega⟩
theorem inR_no {L : List Int} {k : Nat} (h : k < L.length) (e : inB (el L k) 0 99 = false) : inR L = false := by
  cases hb : inR L with
  | false => rfl
  | true =>
    have := inB7.2 (inR_iff.1 hb _ (el_in h))
    rw [e] at this; cases this
theorem inR_yes {L : List Int} (h : ∀ j, j < L.length → inB (el L j) 0 99 = true) : inR L = true := inR_iff.2 fun x hx => by
  obtain ⟨i, hi, rfl⟩ := el_of hx
  exact inB7.1 (h i hi)
/-- What kindsOf answers. -/
def kRes (M gone come : List Int) : Nat → Value := if inR come then kndV M gone come else kZ
theorem kRes_yes {M gone come : List Int} (h : inR come = true) : kRes M gone come = kndV M gone come := by unfold kRes; rw [if_pos h]
theorem kRes_no {M gone come : List Int} (h : inR come = false) : kRes M gone come = kZ := by unfold kRes; rw [h]; rfl
set_option maxRecDepth 100000 in
set_option maxHeartbeats 3200000 in
theorem kio_any (F : Int) (a : Option Addr) (cap : Nat) (M : List Int) (b1 : Option Addr) (d1 : Nat) (gone : List Int) (b2 : Option Addr) (d2 : Nat) (come : List Int) (w : World) (hv : Vec w a M.length M) (hm : M.length ≤ 8) (hM : inR M = true) (hg : Vec w b1 gone.length gone) (hgm : gone.length ≤ maxLen) (hc : Vec w b2 come.length come) (hcm : come.length ≤ maxLen) :
    Calls Try.prog 75 #[vwV F a M.length cap, .slice b1 gone.length d1, .slice b2 come.length d2] w fun e w' => e = .returned (.tuple #[.agg (vA 100 (kRes M gone come)), .bool (inR come)]) ∧ Below w.heap.size w w' := by
  have HH0 : Hid (KH w (((w.alloc (.cells #[.int .i64 F, .slice a M.length cap] 34)).alloc (.cells (vA 100 kZ) 78)).alloc (.cells (vA 100 kZ) 78)) F a M.length cap kZ) := KH.start w F a M.length cap
  obtain ⟨q0, q1⟩ := bx2 HH0.out.box
  have HV : Hid (Vec w a M.length M) := hv
  have HG : Hid (Vec w b1 gone.length gone) := hg
  have HC : Hid (Vec w b2 come.length come) := hc
  have HM : Hid (inR M = true) := hM
  unfold maxLen at hgm hcm
  clear hv hg hc hM
  unfold vwV
  go_enter Try.func75, Try.ntmps75
  go_wp2_with (first | (refine wpX_alloc _ rfl 78 100 800 kZ rfl Try.infoKs ?_))
  go_loopw [18] (fun i wr => ∃ k : Nat, k ≤ M.length ∧ i = .int .i64 (k : Int) ∧ KH w wr F a M.length cap (kndV (M.take k) [] [])) (fun i _ => M.length - (intOf i).toNat)
  case atStart => exact ⟨0, Nat.zero_le _, rfl, HH0.out.congr (fun j _ => by simp [kZ, kndV, knd])⟩
  case round =>
    clear HH0 q0 q1
    obtain ⟨k, hk, rfl, hH⟩ := hrel
    have LH : Hid (KH w wr F a M.length cap (kndV (M.take k) [] [])) := hH
    clear hH
    by_cases hlt : k < M.length
    · have k1 : (k : Int) < (M.length : Int) := by omega
      have k0 : (0 : Int) ≤ (k : Int) := by omega
      obtain ⟨bm, om, rfl, hcell⟩ := (HV.out.below LH.out.below (Nat.le_refl _)).cells (by omega)
      have hck := hcell k hlt
      obtain ⟨q, eq, hq⟩ := nat_of (inB7.2 (inR_iff.1 HM.out _ (el_in hlt)))
      have HN : Hid (KH w (wr.setCell ⟨w.heap.size + 2, q, none⟩ (.int .i64 2)) F (some ⟨bm, om, none⟩) M.length cap (kndV (M.take (k + 1)) [] [])) := (LH.out.set hq _).congr (fun j _ => knd_in hlt eq j)
      obtain ⟨c1, c2⟩ := LH.out.at hq
      rw [eq] at hck
      have e0 : (0 : Int) ≤ (q : Int) := by omega
      have e1 : (q : Int) < 100 := by omega
      clear hcell eq
      go_wp2
      go_roundw
      case rel => exact ⟨k + 1, by omega, by go_num, HN.out⟩
      case measure => simp [intOf]; omega
    · have k1 : ¬ ((k : Int) < (M.length : Int)) := by omega
      obtain rfl : k = M.length := by omega
      rw [List.take_length] at LH
      have LH1 : Hid (KH w wr F a M.length cap (kndV M (gone.take 0) [])) := by rw [List.take_zero]; exact LH.out
      clear LH
      go_wp2
      generalize wr = wz at *
      go_loopw [27] (fun i wr => ∃ k : Nat, k ≤ gone.length ∧ i = .int .i64 (k : Int) ∧ KH w wr F a M.length cap (kndV M (gone.take k) [])) (fun i _ => gone.length - (intOf i).toNat)
      case atStart => exact ⟨0, Nat.zero_le _, rfl, LH1.out⟩
      case round =>
        clear LH1 k1 hk
        obtain ⟨k, hk, rfl, hH⟩ := hrel
        have LH : Hid (KH w wr F a M.length cap (kndV M (gone.take k) [])) := hH
        clear hH
        by_cases hlt : k < gone.length
        · have k1 : (k : Int) < (gone.length : Int) := by omega
          have k0 : (0 : Int) ≤ (k : Int) := by omega
          obtain ⟨bm, om, rfl, hcell⟩ := (HG.out.below LH.out.below (Nat.le_refl _)).cells (by omega)
          have hck := hcell k hlt
          have hI := isW14_any (el gone k) 99 wr
          cases hin : inB (el gone k) 0 99 with
          | true =>
            rw [hin] at hI
            obtain ⟨q, eq, hq⟩ := nat_of hin
            have HN : Hid (KH w (wr.setCell ⟨w.heap.size + 2, q, none⟩ (.int .i64 0)) F a M.length cap (kndV M (gone.take (k + 1)) [])) := (LH.out.set hq _).congr (fun j _ => knd_go hlt eq j)
            obtain ⟨c1, c2⟩ := LH.out.at hq
            rw [eq] at hck hI
            have e0 : (0 : Int) ≤ (q : Int) := by omega
            have e1 : (q : Int) < 100 := by omega
            clear hcell eq hin
            go_wp2_with (go_at_call 87; refine hI.mono ?_; rintro e w' ⟨rfl, hw'⟩; rw [hw']; clear hw')
            go_roundw
            case rel => exact ⟨k + 1, by omega, by go_num, HN.out⟩
            case measure => simp [intOf]; omega
          | false =>
            rw [hin] at hI
            have HN : Hid (KH w wr F a M.length cap (kndV M (gone.take (k + 1)) [])) := LH.out.congr (fun j hj => knd_far hlt hin hj)
            clear hcell hin
            generalize el gone k = E at *
            go_wp2_with (go_at_call 87; refine hI.mono ?_; rintro e w' ⟨rfl, hw'⟩; rw [hw']; clear hw')
            go_roundw
            case rel => exact ⟨k + 1, by omega, by go_num, HN.out⟩
            case measure => simp [intOf]; omega
        · have k1 : ¬ ((k : Int) < (gone.length : Int)) := by omega
          obtain rfl : k = gone.length := by omega
          rw [List.take_length] at LH
          have LH1 : Hid (KH w wr F a M.length cap (kndV M gone (come.take 0))) := by rw [List.take_zero]; exact LH.out
          clear LH
          go_wp2
          generalize wr = wy at *
          go_loopw [38] (fun i wr => ∃ k : Nat, k ≤ come.length ∧ i = .int .i64 (k : Int) ∧ (∀ j, j < k → inB (el come j) 0 99 = true) ∧ KH w wr F a M.length cap (kndV M gone (come.take k))) (fun i _ => come.length - (intOf i).toNat)
          case atStart => exact ⟨0, Nat.zero_le _, rfl, fun j hj => by omega, LH1.out⟩
          case round =>
            clear LH1 k1 hk
            obtain ⟨k, hk, rfl, hall, hH⟩ := hrel
            have LH : Hid (KH w wr F a M.length cap (kndV M gone (come.take k))) := hH
            have LA : Hid (∀ j, j < k → inB (el come j) 0 99 = true) := hall
            clear hH hall
            by_cases hlt : k < come.length
            · have k1 : (k : Int) < (come.length : Int) := by omega
              have k0 : (0 : Int) ≤ (k : Int) := by omega
              obtain ⟨bm, om, rfl, hcell⟩ := (HC.out.below LH.out.below (Nat.le_refl _)).cells (by omega)
              have hck := hcell k hlt
              have hI := isW14_any (el come k) 99 wr
              cases hin : inB (el come k) 0 99 with
              | false =>
                rw [hin] at hI
                have HZ : Hid (inR come = false) := inR_no hlt hin
                clear hcell hin
                generalize el come k = E at *
                go_wp2_with (first | (go_at_call 87; refine hI.mono ?_; rintro e w' ⟨rfl, hw'⟩; rw [hw']; clear hw') | (refine wpX_build _ rfl 78 76 100 100 800 8 kZ _ rfl Try.underlying78 Try.infoKs Try.infoKd ?_) | (refine wpX_store _ rfl rfl 78 100 800 kZ _ _ rfl Try.infoKs (w.heap.size + 1) 0 kZ kZ (fun _ _ => rfl) rfl rfl LH.out.res ?_))
                refine bodyPost_ret (resX_cell Try.results75 Try.underlying78 Try.infoKs (by rfl) (by rfl) (LH.out.res.sets kZ)) rfl ?_
                rw [HZ.out, kRes_no HZ.out]
                exact ⟨rfl, below_grown6 LH.out.below (grown_setCells _ _ _ _) (Nat.le_succ _) LH.out.below.size⟩
              | true =>
                rw [hin] at hI
                obtain ⟨q, eq, hq⟩ := nat_of hin
                have HA : Hid (∀ j, j < k + 1 → inB (el come j) 0 99 = true) := fun j hj => by
                  by_cases e : j = k
                  · rw [e]; exact hin
                  · exact LA.out j (by omega)
                obtain ⟨c1, c2⟩ := LH.out.at hq
                rw [eq] at hck hI
                have e0 : (0 : Int) ≤ (q : Int) := by omega
                have e1 : (q : Int) < 100 := by omega
                by_cases hz : knd M gone (come.take k) q = 0
                · have HN : Hid (KH w (wr.setCell ⟨w.heap.size + 2, q, none⟩ (.int .i64 1)) F a M.length cap (kndV M gone (come.take (k + 1)))) := (LH.out.set hq _).congr (fun j _ => knd_co hlt eq hz j)
                  unfold kndV at c1
                  rw [hz] at c1
                  clear hcell eq hin hz
                  go_wp2_with (go_at_call 87; refine hI.mono ?_; rintro e w' ⟨rfl, hw'⟩; rw [hw']; clear hw')
                  go_roundw
                  case rel => exact ⟨k + 1, by omega, by go_num, HA.out, HN.out⟩
                  case measure => simp [intOf]; omega
                · have HN : Hid (KH w wr F a M.length cap (kndV M gone (come.take (k + 1)))) := LH.out.congr (fun j _ => knd_is hlt eq hz j)
                  unfold kndV at c1
                  have hz2 : (knd M gone (come.take k) q == 0) = false := by simp [hz]
                  clear hcell eq hin hz
                  generalize knd M gone (come.take k) q = Z at *
                  go_wp2_with (go_at_call 87; refine hI.mono ?_; rintro e w' ⟨rfl, hw'⟩; rw [hw']; clear hw')
                  go_roundw
                  case rel => exact ⟨k + 1, by omega, by go_num, HA.out, HN.out⟩
                  case measure => simp [intOf]; omega
            · have k1 : ¬ ((k : Int) < (come.length : Int)) := by omega
              obtain rfl : k = come.length := by omega
              have HZ : Hid (inR come = true) := inR_yes LA.out
              rw [List.take_length] at LH
              go_wp2_with (first | (refine wpX_load _ rfl 78 100 800 100 kZ _ rfl 76 Try.underlying78 Try.infoKs (w.heap.size + 2) 0 (kndV M gone come) rfl LH.out.all ?_) | (refine wpX_store _ rfl rfl 78 100 800 kZ _ _ rfl Try.infoKs (w.heap.size + 1) 0 kZ (kndV M gone come) (fun _ _ => rfl) rfl rfl LH.out.res ?_))
              refine bodyPost_ret (resX_cell Try.results75 Try.underlying78 Try.infoKs (by rfl) (by rfl) (LH.out.res.sets (kndV M gone come))) rfl ?_
              rw [HZ.out, kRes_yes HZ.out]
              exact ⟨rfl, below_grown6 LH.out.below (grown_setCells _ _ _ _) (Nat.le_succ _) LH.out.below.size⟩
end Go.Proofs.Ytbmpapmdkmnhhaa

/-
  The program's told: all that are in the next view, and those of them that stay.
-/
namespace Go.Proofs.Ytbmpapmdkmnhhaa
set_option linter.unusedVariables false
set_option linter.unusedSimpArgs false
open Go.RowKit Go.Sort
attribute [local irreducible] vA World.setCells

/-- Those of the first k nodes that are in. -/
def tM (f : Nat → Int) (k : Nat) : List Int := ((List.range k).filter (fun j => decide (f j = 1 ∨ f j = 2))).map (fun j : Nat => (j : Int))
/-- Those of the first k nodes that stay. -/
def tS (f : Nat → Int) (k : Nat) : List Int := ((List.range k).filter (fun j => decide (f j = 2))).map (fun j : Nat => (j : Int))
theorem tM_step (f : Nat → Int) (k : Nat) : tM f (k + 1) = tM f k ++ (if f k = 1 ∨ f k = 2 then [(k : Int)] else []) := by
  unfold tM
  rw [List.range_succ, List.filter_append, List.map_append]
  by_cases h : f k = 1 ∨ f k = 2 <;> simp [h]
theorem tS_step (f : Nat → Int) (k : Nat) : tS f (k + 1) = tS f k ++ (if f k = 2 then [(k : Int)] else []) := by
  unfold tS
  rw [List.range_succ, List.filter_append, List.map_append]
  by_cases h : f k = 2 <;> simp [h]
theorem tM_len (f : Nat → Int) (k : Nat) : (tM f k).length ≤ k := by
  unfold tM
  rw [List.length_map]
  exact Nat.le_trans (List.length_filter_le _ _) (by simp)
theorem tS_len (f : Nat → Int) (k : Nat) : (tS f k).length ≤ k := by
  unfold tS
  rw [List.length_map]
  exact Nat.le_trans (List.length_filter_le _ _) (by simp)
/-- What told holds. -/
structure TH (w W : World) (a1 : Option Addr) (c1 : Nat) (L1 : List Int) (G1 : Option Nat) (a2 : Option Addr) (c2 : Nat) (L2 : List Int) (G2 : Option Nat) : Prop where
  o1 : OSo W 1 a1 L1.length c1 (L1.map (Value.int .i64)) G1
  o2 : OSo W 1 a2 L2.length c2 (L2.map (Value.int .i64)) G2
  l1 : ∀ b, G1 = some b → w.heap.size ≤ b
  l2 : ∀ b, G2 = some b → w.heap.size ≤ b
  ne : ∀ b, G1 = some b → G2 ≠ some b
  below : Below w.heap.size w W
theorem TH.alloc {w W : World} {a1 : Option Addr} {c1 : Nat} {L1 : List Int} {G1 : Option Nat} {a2 : Option Addr} {c2 : Nat} {L2 : List Int} {G2 : Option Nat} (h : TH w W a1 c1 L1 G1 a2 c2 L2 G2) (o : Obj) : TH w (W.alloc o) a1 c1 L1 G1 a2 c2 L2 G2 :=
  ⟨h.o1.wrt (f := fun _ => False) (Wrt.of_below (one14 W o)) (fun _ _ h => h), h.o2.wrt (f := fun _ => False) (Wrt.of_below (one14 W o)) (fun _ _ h => h), h.l1, h.l2, h.ne, h.below.alloc h.below.size o⟩
/-- One more that stays. -/
theorem TH.stay {w W W' : World} {a1 : Option Addr} {c1 : Nat} {L1 : List Int} {G1 : Option Nat} {a2 a2' : Option Addr} {c2 c2' : Nat} {L2 L2' : List Int} {G2 G2' : Option Nat} {x : Int} (h : TH w W a1 c1 L1 G1 a2 c2 L2 G2) (e : L2' = L2 ++ [x]) (ho : OSo W' 1 a2' (L2.length + 1) c2' (L2.map (Value.int .i64) ++ [.int .i64 x]) G2') (hg : W.grownBy W' G2) (hat : G2' = G2 ∨ G2' = some W.heap.size) : TH w W' a1 c1 L1 G1 a2' c2' L2' G2' := by
  subst e
  refine ⟨h.o1.wrt (Wrt.of_grown hg) (fun b hb e => h.ne b hb e), ?_, h.l1, fun b hb => ?_, fun b hb hb2 => ?_, (Wrt.of_grown hg).below h.below h.below.size (fun b hb => h.l2 b hb)⟩
  · rw [List.length_append, List.map_append]; exact ho
  · rcases hat with e | e
    · exact h.l2 b (by rw [← e]; exact hb)
    · rw [e] at hb; cases hb; exact h.below.size
  · rcases hat with e | e
    · exact h.ne b hb (by rw [← e]; exact hb2)
    · rw [e] at hb2; cases hb2; exact absurd (h.o1.lt hb) (Nat.lt_irrefl _)
/-- One more that is in. -/
theorem TH.in_ {w W W' : World} {a1 a1' : Option Addr} {c1 c1' : Nat} {L1 L1' : List Int} {G1 G1' : Option Nat} {a2 : Option Addr} {c2 : Nat} {L2 : List Int} {G2 : Option Nat} {x : Int} (h : TH w W a1 c1 L1 G1 a2 c2 L2 G2) (e : L1' = L1 ++ [x]) (ho : OSo W' 1 a1' (L1.length + 1) c1' (L1.map (Value.int .i64) ++ [.int .i64 x]) G1') (hg : W.grownBy W' G1) (hat : G1' = G1 ∨ G1' = some W.heap.size) : TH w W' a1' c1' L1' G1' a2 c2 L2 G2 := by
  subst e
  refine ⟨?_, h.o2.wrt (Wrt.of_grown hg) (fun b hb e => h.ne b e hb), fun b hb => ?_, h.l2, fun b hb hb2 => ?_, (Wrt.of_grown hg).below h.below h.below.size (fun b hb => h.l1 b hb)⟩
  · rw [List.length_append, List.map_append]; exact ho
  · rcases hat with e | e
    · exact h.l1 b (by rw [← e]; exact hb)
    · rw [e] at hb; cases hb; exact h.below.size
  · rcases hat with e | e
    · exact h.ne b (by rw [← e]; exact hb) hb2
    · rw [e] at hb; cases hb; exact absurd (h.o2.lt hb2) (Nat.lt_irrefl _)
set_option maxRecDepth 100000 in
set_option maxHeartbeats 3200000 in
theorem told_any (f : Nat → Int) (w : World) (hf : ∀ j, j < 100 → f j = 0 ∨ f j = 1 ∨ f j = 2) :
    Calls Try.prog 76 #[.agg (vA 100 (fun j => .int .i64 (f j)))] w fun e w' => ∃ a1 c1 a2 c2 G1 G2, e = .returned (.tuple #[.slice a1 (tM f 100).length c1, .slice a2 (tS f 100).length c2]) ∧ TH w w' a1 c1 (tM f 100) G1 a2 c2 (tS f 100) G2 := by
  obtain ⟨i0, hi0, hz0, hz1, hz2⟩ := info_parts2n Try.info2n
  have HF : Hid (∀ j, j < 100 → f j = 0 ∨ f j = 1 ∨ f j = 2) := hf
  have HA := va_alloc w 100 (fun j => .int .i64 (f j)) 78
  have HB : Hid (Below w.heap.size w (w.alloc (.cells (vA 100 (fun j => .int .i64 (f j))) 78))) := one14 _ _
  clear hf
  go_enter Try.func76, Try.ntmps76
  go_wp2_with (first | (refine wpX_box _ rfl 78 100 _ rfl (fun j => .int .i64 (f j)) rfl ?_) | (refine wpX_load _ rfl 78 100 800 100 kZ _ rfl 76 Try.underlying78 Try.infoKs w.heap.size 0 (fun j => .int .i64 (f j)) rfl HA ?_))
  go_loopw [2, 3, 7] (fun s2 s3 i wr => ∃ (k : Nat) (a1 : Option Addr) (c1 : Nat) (a2 : Option Addr) (c2 : Nat) (G1 G2 : Option Nat), k ≤ 100 ∧ i = .int .i64 (k : Int) ∧ s2 = .slice a1 (tM f k).length c1 ∧ s3 = .slice a2 (tS f k).length c2 ∧ TH w wr a1 c1 (tM f k) G1 a2 c2 (tS f k) G2) (fun _ _ i _ => 100 - (intOf i).toNat)
  case atStart => exact ⟨0, none, 0, none, 0, none, none, Nat.zero_le _, rfl, rfl, rfl, ⟨OSo.nil _ _ plainN, OSo.nil _ _ plainN, fun _ h => (by cases h), fun _ h => (by cases h), fun _ h => (by cases h), HB.out⟩⟩
  case round =>
    clear HB HA
    obtain ⟨k, a1, c1, a2, c2, G1, G2, hk, rfl, rfl, rfl, hT⟩ := hrel
    have LT : Hid (TH w wr a1 c1 (tM f k) G1 a2 c2 (tS f k) G2) := hT
    have n1 := tM_len f k
    have n2 := tS_len f k
    clear hT
    by_cases hlt : k < 100
    · have k1 : (k : Int) < 100 := by omega
      have k0 : (0 : Int) ≤ (k : Int) := by omega
      have S1 : Hid (tM f (k + 1) = tM f k ++ (if f k = 1 ∨ f k = 2 then [(k : Int)] else [])) := tM_step f k
      have S2 : Hid (tS f (k + 1) = tS f k ++ (if f k = 2 then [(k : Int)] else [])) := tS_step f k
      rcases HF.out k hlt with e | e | e
      · have N1 : Hid (tM f (k + 1) = tM f k) := by rw [Hid, S1.out, if_neg (by omega), List.append_nil]
        have N2 : Hid (tS f (k + 1) = tS f k) := by rw [Hid, S2.out, if_neg (by omega), List.append_nil]
        have E : Hid (Value.int .i64 (f k) = .int .i64 0) := by rw [Hid, e]
        clear e S1 S2
        go_wp2_with (first | (refine wpX_index _ rfl 78 76 100 100 8 _ _ _ rfl Try.underlying78 rfl Try.aggKd Try.infoKd (fun j => .int .i64 (f j)) k (.int .i64 0) rfl rfl hlt E.out ?_))
        go_roundw
        case rel => exact ⟨k + 1, a1, c1, a2, c2, G1, G2, by omega, by go_num, by rw [N1.out], by rw [N2.out], by rw [N1.out, N2.out]; exact LT.out⟩
        case measure => simp [intOf]; omega
      · have N1 : Hid (tM f (k + 1) = tM f k ++ [(k : Int)]) := by rw [Hid, S1.out, if_pos (by omega)]
        have N2 : Hid (tS f (k + 1) = tS f k) := by rw [Hid, S2.out, if_neg (by omega), List.append_nil]
        have E : Hid (Value.int .i64 (f k) = .int .i64 1) := by rw [Hid, e]
        clear e S1 S2
        generalize hX1 : tM f (k + 1) = X1 at *
        generalize hX2 : tS f (k + 1) = X2 at *
        generalize tM f k = L1 at *
        generalize tS f k = L2 at *
        have T1 := LT.out.alloc (.cells #[.int .i64 (k : Int)] 2)
        have O1 := T1.o1
        go_wp2_with (first
          | (refine wpX_index _ rfl 78 76 100 100 8 _ _ _ rfl Try.underlying78 rfl Try.aggKd Try.infoKd (fun j => .int .i64 (f j)) k (.int .i64 1) rfl rfl hlt E.out ?_)
          | (at_builtin; refine wpList_append_oo _ rfl _ _ _ rfl 2 i0 _ 1 8 Try.underlying24 hi0 hz0 hz1 hz2 rfl (by omega) a1 L1.length c1 _ G1 rfl O1 (some ⟨wr.heap.size, 0, none⟩) 1 1 [.int .i64 (k : Int)] rfl rfl (.inr ⟨_, rfl, World.news_of_block (cs := #[.int .i64 (k : Int)]) (t := 2) (fr := (0, 0)) (heap_alloc_new _ _)⟩) (by simp [Value.oneCell']) (by unfold maxLen; omega) (by omega) ?_; intro a6 c6 G6 w6 ho6 hg6 hat6))
        have LN : Hid (TH w w6 a6 c6 X1 G6 a2 c2 X2 G2) := by rw [Hid, N2.out]; exact T1.in_ N1.out ho6 hg6 hat6
        have NL1 : Hid (X1.length = L1.length + 1) := by rw [Hid, N1.out]; simp
        clear ho6 hg6 hat6 T1 O1
        go_roundw
        case rel => exact ⟨k + 1, a6, c6, a2, c2, G6, G2, by omega, by go_num, by rw [hX1, NL1.out], by rw [hX2, N2.out], by rw [hX1, hX2]; exact LN.out⟩
        case measure => simp [intOf]; omega
      · have N1 : Hid (tM f (k + 1) = tM f k ++ [(k : Int)]) := by rw [Hid, S1.out, if_pos (by omega)]
        have N2 : Hid (tS f (k + 1) = tS f k ++ [(k : Int)]) := by rw [Hid, S2.out, if_pos (by omega)]
        have E : Hid (Value.int .i64 (f k) = .int .i64 2) := by rw [Hid, e]
        clear e S1 S2
        generalize hX1 : tM f (k + 1) = X1 at *
        generalize hX2 : tS f (k + 1) = X2 at *
        generalize tM f k = L1 at *
        generalize tS f k = L2 at *
        have T2 := LT.out.alloc (.cells #[.int .i64 (k : Int)] 2)
        have O2 := T2.o2
        go_wp2_with (first
          | (refine wpX_index _ rfl 78 76 100 100 8 _ _ _ rfl Try.underlying78 rfl Try.aggKd Try.infoKd (fun j => .int .i64 (f j)) k (.int .i64 2) rfl rfl hlt E.out ?_)
          | (at_builtin; refine wpList_append_oo _ rfl _ _ _ rfl 2 i0 _ 1 8 Try.underlying24 hi0 hz0 hz1 hz2 rfl (by omega) a2 L2.length c2 _ G2 rfl O2 (some ⟨wr.heap.size, 0, none⟩) 1 1 [.int .i64 (k : Int)] rfl rfl (.inr ⟨_, rfl, World.news_of_block (cs := #[.int .i64 (k : Int)]) (t := 2) (fr := (0, 0)) (heap_alloc_new _ _)⟩) (by simp [Value.oneCell']) (by unfold maxLen; omega) (by omega) ?_; intro a6 c6 G6 w6 ho6 hg6 hat6; have T5 := (T2.stay N2.out ho6 hg6 hat6).alloc (.cells #[.int .i64 (k : Int)] 2); have O5 := T5.o1)
          | (at_builtin; refine wpList_append_oo _ rfl _ _ _ rfl 2 i0 _ 1 8 Try.underlying24 hi0 hz0 hz1 hz2 rfl (by omega) a1 L1.length c1 _ G1 rfl O5 (some ⟨w6.heap.size, 0, none⟩) 1 1 [.int .i64 (k : Int)] rfl rfl (.inr ⟨_, rfl, World.news_of_block (cs := #[.int .i64 (k : Int)]) (t := 2) (fr := (0, 0)) (heap_alloc_new _ _)⟩) (by simp [Value.oneCell']) (by unfold maxLen; omega) (by omega) ?_; intro a7 c7 G7 w7 ho7 hg7 hat7))
        have LN : Hid (TH w w7 a7 c7 X1 G7 a6 c6 X2 G6) := T5.in_ N1.out ho7 hg7 hat7
        have NL1 : Hid (X1.length = L1.length + 1) := by rw [Hid, N1.out]; simp
        have NL2 : Hid (X2.length = L2.length + 1) := by rw [Hid, N2.out]; simp
        clear ho6 hg6 hat6 T2 O2 T5 O5 ho7 hg7 hat7
        go_roundw
        case rel => exact ⟨k + 1, a7, c7, a6, c6, G7, G6, by omega, by go_num, by rw [hX1, NL1.out], by rw [hX2, NL2.out], by rw [hX1, hX2]; exact LN.out⟩
        case measure => simp [intOf]; omega
    · have k1 : ¬ ((k : Int) < 100) := by omega
      obtain rfl : k = 100 := by omega
      go_wp2
      refine bodyPost_ret (v := .tuple #[.slice a1 (tM f 100).length c1, .slice a2 (tS f 100).length c2]) (by simp [results, Try.results76, go_sem]) rfl ?_
      exact ⟨a1, c1, a2, c2, rfl, G1, G2, LT.out⟩
end Go.Proofs.Ytbmpapmdkmnhhaa

/-
  The program's After.
-/
namespace Go.Proofs.Ytbmpapmdkmnhhaa
set_option linter.unusedVariables false
set_option linter.unusedSimpArgs false
open Go.RowKit Go.Sort
attribute [local irreducible] vA World.setCells

theorem puts_rises {m : List Int} (h : m.Pairwise (· < ·)) : ∀ come, (putsL m come).Pairwise (· < ·) := by
  intro come
  unfold putsL
  induction come generalizing m with
  | nil => exact h
  | cons c come ih => rw [List.foldl_cons]; exact ih (putL_rises h)
theorem mapI_rises (p : Nat → Bool) (k : Nat) : (((List.range k).filter p).map (fun j : Nat => (j : Int))).Pairwise (· < ·) := by
  rw [List.pairwise_map]
  refine (List.Pairwise.filter p List.pairwise_lt_range).imp ?_
  intro a b h
  omega
theorem mem_tS {f : Nat → Int} {k : Nat} {x : Int} : x ∈ tS f k ↔ ∃ j : Nat, j < k ∧ f j = 2 ∧ (j : Int) = x := by
  unfold tS
  simp [and_assoc]
theorem mem_tM {f : Nat → Int} {k : Nat} {x : Int} : x ∈ tM f k ↔ ∃ j : Nat, j < k ∧ (f j = 1 ∨ f j = 2) ∧ (j : Int) = x := by
  unfold tM
  simp [and_assoc]
theorem knd_two {M gone come : List Int} {j : Nat} : knd M gone come j = 2 ↔ (j : Int) ∈ M ∧ (j : Int) ∉ gone := by
  unfold knd
  by_cases h : (j : Int) ∈ M ∧ (j : Int) ∉ gone
  · simp [h]
  · rw [if_neg h]
    refine ⟨fun e => ?_, fun e => absurd e h⟩
    split at e <;> omega
theorem knd_some {M gone come : List Int} {j : Nat} : (knd M gone come j = 1 ∨ knd M gone come j = 2) ↔ ((j : Int) ∈ M ∧ (j : Int) ∉ gone) ∨ (j : Int) ∈ come := by
  unfold knd
  by_cases h : (j : Int) ∈ M ∧ (j : Int) ∉ gone
  · simp [h]
  · rw [if_neg h]
    by_cases h2 : (j : Int) ∈ come
    · simp [h2]
    · rw [if_neg h2]
      simp only [h, h2, or_self, iff_false]
      omega
theorem knd_012 (M gone come : List Int) (j : Nat) : knd M gone come j = 0 ∨ knd M gone come j = 1 ∨ knd M gone come j = 2 := by
  unfold knd
  split
  · exact .inr (.inr rfl)
  · split
    · exact .inr (.inl rfl)
    · exact .inl rfl
theorem tS_is {M gone come : List Int} (hr : M.Pairwise (· < ·)) (hM : inR M = true) : tS (knd M gone come) 100 = lftL M gone := by
  refine rising_unique (mapI_rises _ _) (lft_rises hr) (fun x => ?_)
  rw [mem_tS, mem_lft]
  constructor
  · rintro ⟨j, _, h, rfl⟩
    exact knd_two.1 h
  · intro h
    have := inR_iff.1 hM x h.1
    refine ⟨x.toNat, by omega, ?_, by omega⟩
    rw [knd_two, show ((x.toNat : Nat) : Int) = x by omega]
    exact h
theorem tM_is {M gone come : List Int} (hr : M.Pairwise (· < ·)) (hM : inR M = true) (hc : inR come = true) : tM (knd M gone come) 100 = putsL (lftL M gone) come := by
  refine rising_unique (mapI_rises _ _) (puts_rises (lft_rises hr) come) (fun x => ?_)
  rw [mem_tM, mem_puts, mem_lft]
  constructor
  · rintro ⟨j, _, h, rfl⟩
    exact knd_some.1 h
  · intro h
    have : 0 ≤ x ∧ x ≤ 99 := by
      rcases h with h | h
      · exact inR_iff.1 hM x h.1
      · exact inR_iff.1 hc x h
    refine ⟨x.toNat, by omega, ?_, by omega⟩
    rw [knd_some, show ((x.toNat : Nat) : Int) = x by omega]
    exact h
theorem aft_far {F : Int} {M gone come : List Int} (h : inR come = false) : aftL (F, M) gone come = ((0, []), false) := by
  rw [aftL, if_neg]
  intro hp
  have h1 := hp.2.2.2.2.2
  have h2 : inR come = true := inR_iff.2 (fun x hx => h1 x (mem_puts.2 (.inr hx)))
  rw [h] at h2; cases h2
theorem pre_kinds (w1 : World) (f : Nat → Value) : ∃ W, (w1.alloc (.cells (vA 100 kZ) 78)).setCells w1.heap.size 0 (vA 100 f).toList = W ∧ VAt W w1.heap.size 0 100 f ∧ Below w1.heap.size w1 W ∧ VAt (w1.alloc (.cells (vA 100 kZ) 78)) w1.heap.size 0 100 kZ := by
  have h := va_alloc w1 100 kZ 78
  have b1 : Below w1.heap.size w1 (w1.alloc (.cells (vA 100 kZ) 78)) := one14 _ _
  exact ⟨_, rfl, h.sets f, below_grown6 b1 (grown_setCells _ _ _ _) (Nat.le_refl _) b1.size, h⟩
theorem oso_vec {w : World} {a : Option Addr} {c : Nat} {xs : List Int} {G : Option Nat} (h : OSo w 1 a xs.length c (xs.map (Value.int .i64)) G) (hf : Fits xs) : Vec w a xs.length xs := by
  obtain ⟨a0, c0, e0, hv, _, _⟩ := vw_icl (Cel.ow_vw (ow_icl.2 ⟨a, c, G, rfl, h, fun b => Iff.rfl⟩ : Cel.ow w (icl xs) (.slice a xs.length c) (fun b => G = some b))) hf
  cases e0
  exact hv
/-- The zero view and false. -/
theorem VH.no {w W : World} {F : Int} {a : Option Addr} {n cap : Nat} (h : VH w W F a n cap) : W.cell? ⟨w.heap.size + 1, 0, none⟩ = some (.int .i64 0) ∧ W.cell? ⟨w.heap.size + 1, 1, none⟩ = some (.slice none 0 0) ∧ W.frozen? ⟨w.heap.size + 1, 0, none⟩ = false ∧ W.frozen? ⟨w.heap.size + 1, 1, none⟩ = false :=
  ⟨(bx2 h.res).1, (bx2 h.res).2, h.res.f 0, h.res.f 1⟩
set_option maxRecDepth 100000 in
set_option maxHeartbeats 6400000 in
theorem implAfter : ImplAfter := by
  intro F a cap M b1 cb1 gone b2 cb2 come w hF64 hv0 hm hg0 hgm hc0 hcm
  have hH := VH.start w F a M.length cap
  have hK := vwkI_any F a cap M _ (hv0.vec.below hH.below (Nat.le_refl _)) (by unfold maxLen; omega)
  have HV : Hid (Vec w a M.length M) := hv0.vec
  have HGO : Hid (Vec w b1 gone.length gone) := hg0.vec
  have HCO : Hid (Vec w b2 come.length come) := hc0.vec
  obtain ⟨q0, q1⟩ := bx2 hH.box
  unfold vwV at hK ⊢
  clear hv0 hg0 hc0 hF64
  have HH : Hid (VH w ((w.alloc (.cells #[.int .i64 F, .slice a M.length cap] 34)).alloc (.cells #[.int .i64 0, .slice none 0 0] 34)) F a M.length cap) := hH
  clear hH
  by_cases hok : okVw (F, M)
  · rw [decide_eq_true hok] at hK
    have h8 := hok.2.1
    have hF := hok.1
    dsimp only at h8 hF
    have HOK : Hid (okVw (F, M)) := hok
    have HMR : Hid (inR M = true) := inR_iff.2 hok.2.2.2
    have HRI : Hid (M.Pairwise (· < ·)) := hok.2.2.1
    have hwF : wrap64 (F + 1) = F + 1 := by unfold wrap64; omega
    clear hok
    go_enter Try.func32, Try.ntmps32
    go_wp2_with fail
    refine hK.mono ?_
    rintro e w1 ⟨rfl, hg1⟩
    have H1 := HH.out.step hg1.1
    obtain ⟨t0, t1⟩ := bx2 H1.box
    have hKi := kio_any F a cap M b1 cb1 gone b2 cb2 come w1 (HV.out.below H1.below (Nat.le_refl _)) h8.2 HMR.out (HGO.out.below H1.below (Nat.le_refl _)) (by unfold maxLen; omega) (HCO.out.below H1.below (Nat.le_refl _)) (by unfold maxLen; omega)
    unfold vwV at hKi
    have HH1 : Hid (VH w w1 F a M.length cap) := H1
    clear hK hg1 q0 q1 H1 HH
    cases hin : inR come with
    | false =>
      have HZ : Hid (aftL (F, M) gone come = ((0, []), false)) := aft_far hin
      rw [kRes_no hin, hin] at hKi
      clear hin
      go_wp2_with fail
      refine hKi.mono ?_
      rintro e w2 ⟨rfl, hb2⟩
      obtain ⟨W3, hW3, hA3, hB3, hA0⟩ := pre_kinds w2 kZ
      have H3 := (HH1.out.step hb2).step hB3
      obtain ⟨r0, r1, f0, f1⟩ := H3.no
      obtain ⟨⟨z0, z1⟩, hN⟩ := H3.zero
      have HN : Hid (NewO w ((W3.setCell ⟨w.heap.size + 1, 0, none⟩ (.int .i64 0)).setCell ⟨w.heap.size + 1, 1, none⟩ (.slice none 0 0)) (icl []) (.slice none 0 0)) := hN
      clear hN H3 hb2 hKi t0 t1 hA3 hB3
      go_wp2_with (first | (refine wpX_alloc _ rfl 78 100 800 kZ rfl Try.infoKs ?_) | (refine wpX_store _ rfl rfl 78 100 800 kZ _ _ rfl Try.infoKs w2.heap.size 0 kZ kZ (fun _ _ => rfl) rfl rfl hA0 ?_))
      refine bodyPost_ret (v := .tuple #[.agg #[.int .i64 0, .slice none 0 0], .bool false]) (by simp [results, Try.results32, go_sem, z0, z1]) rfl ?_
      rw [HZ.out]
      exact ⟨none, 0, rfl, HN.out⟩
    | true =>
      have HTS : Hid (tS (knd M gone come) 100 = lftL M gone) := tS_is HRI.out HMR.out
      have HTM : Hid (tM (knd M gone come) 100 = putsL (lftL M gone) come) := tM_is HRI.out HMR.out hin
      rw [kRes_yes hin, hin] at hKi
      have HIN : Hid (inR come = true) := hin
      clear hin
      go_wp2_with fail
      refine hKi.mono ?_
      rintro e w2 ⟨rfl, hb2⟩
      obtain ⟨W3, hW3, hA3, hB3, hA0⟩ := pre_kinds w2 (kndV M gone come)
      have HH3 : Hid (VH w W3 F a M.length cap) := (HH1.out.step hb2).step hB3
      have hTo := told_any (knd M gone come) W3 (fun j _ => knd_012 M gone come j)
      rw [HTS.out, HTM.out] at hTo
      have KA0 : Hid (VAt (w2.alloc (.cells (vA 100 kZ) 78)) w2.heap.size 0 100 kZ) := hA0
      have KA3 : Hid (VAt W3 w2.heap.size 0 100 (kndV M gone come)) := hA3
      clear hKi t0 t1 hb2 hB3 hA0 hA3 HTS HTM
      go_wp2_with (first | (refine wpX_alloc _ rfl 78 100 800 kZ rfl Try.infoKs ?_) | (refine wpX_store _ rfl rfl 78 100 800 kZ _ _ rfl Try.infoKs w2.heap.size 0 kZ (kndV M gone come) (fun _ _ => rfl) rfl rfl KA0.out ?_; rw [hW3]) | (refine wpX_load _ rfl 78 100 800 100 kZ _ rfl 76 Try.underlying78 Try.infoKs w2.heap.size 0 (kndV M gone come) rfl KA3.out ?_))
      refine hTo.mono ?_
      rintro e w4 ⟨a1, c1, a2, c2, G1, G2, rfl, hT⟩
      have HLL : Hid (Fits (lftL M gone)) := fun x hx => by have := inR_iff.1 HMR.out x (mem_lft.1 hx).1; omega
      have HPF : Hid (Fits (putsL (lftL M gone) come)) := fun x hx => by
        rcases mem_puts.1 hx with h | h
        · exact HLL.out x h
        · have := inR_iff.1 HIN.out x h; omega
      have hLl : (lftL M gone).length ≤ 8 := Nat.le_trans (lft_len _ _) h8.2
      have hPl : (putsL (lftL M gone) come).length ≤ maxLen := Nat.le_trans (puts_len _ _) (by unfold maxLen; omega)
      have HAF : Hid (mjP (F, M) (lftL M gone) → okVw (F + 1, putsL (lftL M gone) come) → aftL (F, M) gone come = ((F + 1, putsL (lftL M gone) come), true)) := fun h1 h2 => by
        rw [aftL, if_pos ⟨HOK.out, h1, h2⟩]
      have HAN : Hid (¬ mjP (F, M) (lftL M gone) ∨ ¬ okVw (F + 1, putsL (lftL M gone) come) → aftL (F, M) gone come = ((0, []), false)) := fun h => by
        rw [aftL, if_neg]
        intro hp
        rcases h with h | h
        · exact h hp.2.1
        · exact h hp.2.2
      generalize hL : lftL M gone = L at *
      generalize hP : putsL L come = P at *
      have T5 := hT.alloc (.cells #[.int .i64 (F + 1), .slice a1 P.length c1] 34)
      have H4 := HH3.out.step hT.below
      have H5 := H4.step (one14 w4 (.cells #[.int .i64 (F + 1), .slice a1 P.length c1] 34))
      have O5 := Bx.new w4 34 #[.int .i64 (F + 1), .slice a1 P.length c1]
      obtain ⟨x0, x1⟩ := bx2 H4.box
      generalize hW5 : w4.alloc (.cells #[.int .i64 (F + 1), .slice a1 P.length c1] 34) = W5 at *
      have hMj := majI_any F a cap M a2 c2 L W5 (HV.out.below H5.below (Nat.le_refl _)) hm (oso_vec T5.o2 HLL.out) (by unfold maxLen; omega)
      unfold vwV at hMj
      obtain ⟨y0, y1⟩ := bx2 H5.box
      have HT5 : Hid (TH W3 W5 a1 c1 P G1 a2 c2 L G2) := T5
      have HH5 : Hid (VH w W5 F a M.length cap) := H5
      have HO5 : Hid (Bx W5 w4.heap.size 34 #[.int .i64 (F + 1), .slice a1 P.length c1]) := O5
      have HS : Hid (w.heap.size + 2 ≤ W3.heap.size) := by have := HH3.out.res.lt; rw [Hid]; omega
      have HS4 : Hid (w.heap.size + 2 ≤ w4.heap.size) := by have := HS.out; have := hT.below.size; rw [Hid]; omega
      clear hT T5 H4 H5 O5 HH1 HH3 KA0 KA3 hTo
      by_cases hmj : mjP (F, M) L
      · rw [decide_eq_true hmj] at hMj
        have HMJ : Hid (mjP (F, M) L) := hmj
        clear hmj
        go_wp2_with fail
        try rw [hW5]
        refine hMj.mono ?_
        rintro e w6 ⟨rfl, hg6⟩
        have H6 := HH5.out.step hg6.1
        have O6 := HO5.out.below hg6.1
        obtain ⟨d0, d1⟩ := bx2 O6
        have U6 := HT5.out.o1.wrt (f := fun _ => False) (Wrt.of_below hg6.1) (fun _ _ h => h)
        have hK2 := vwkI_any (F + 1) a1 c1 P w6 (oso_vec U6 HPF.out) hPl
        unfold vwV at hK2
        by_cases hok2 : okVw (F + 1, P)
        · have HZ : Hid (aftL (F, M) gone come = ((F + 1, P), true)) := HAF.out HMJ.out hok2
          rw [decide_eq_true hok2] at hK2
          clear hok2 HAF HAN
          go_wp2_with fail
          refine hK2.mono ?_
          rintro e w7 ⟨rfl, hg7⟩
          have H7 := H6.step hg7.1
          have O7 := O6.below hg7.1
          have U7 := U6.wrt (f := fun _ => False) (Wrt.of_below hg7.1) (fun _ _ h => h)
          obtain ⟨e0, e1⟩ := bx2 O7
          obtain ⟨r0, r1, f0, f1⟩ := H7.no
          have hw7 := setw2 w7 (w.heap.size + 1) (x := .int .i64 (F + 1)) (y := .slice a1 P.length c1)
          obtain ⟨z0, z1⟩ := bx2 (T := 34) (x := .int .i64 (F + 1)) (y := .slice a1 P.length c1) (by simpa using (H7.res.setC 0 (.int .i64 (F + 1))).setC 1 (.slice a1 P.length c1))
          have HN : Hid (NewO w ((w7.setCell ⟨w.heap.size + 1, 0, none⟩ (.int .i64 (F + 1))).setCell ⟨w.heap.size + 1, 1, none⟩ (.slice a1 P.length c1)) (icl P) (.slice a1 P.length c1)) :=
            ⟨fun b => G1 = some b, Cel.ow_wrt (ow_icl.2 ⟨a1, c1, G1, rfl, U7, fun b => Iff.rfl⟩) hw7 (fun b hb e => by have := HT5.out.l1 b hb; have := HS.out; omega), fun b hb => by have := HT5.out.l1 b hb; have := HS.out; omega, setb2 H7.below (Nat.le_succ _)⟩
          clear H6 O6 U6 H7 O7 U7 hK2 hg7 hg6 hMj d0 d1 hw7
          go_wp2
          refine bodyPost_ret (v := .tuple #[.agg #[.int .i64 (F + 1), .slice a1 P.length c1], .bool true]) (by simp [results, Try.results32, go_sem, z0, z1]) rfl ?_
          rw [HZ.out]
          exact ⟨a1, c1, rfl, HN.out⟩
        · have HZ : Hid (aftL (F, M) gone come = ((0, []), false)) := HAN.out (.inr hok2)
          rw [decide_eq_false hok2] at hK2
          clear hok2 HAF HAN
          go_wp2_with fail
          refine hK2.mono ?_
          rintro e w7 ⟨rfl, hg7⟩
          have H7 := H6.step hg7.1
          obtain ⟨r0, r1, f0, f1⟩ := H7.no
          obtain ⟨⟨z0, z1⟩, hN⟩ := H7.zero
          have HN : Hid (NewO w ((w7.setCell ⟨w.heap.size + 1, 0, none⟩ (.int .i64 0)).setCell ⟨w.heap.size + 1, 1, none⟩ (.slice none 0 0)) (icl []) (.slice none 0 0)) := hN
          clear hN H6 O6 U6 H7 hK2 hg7 hg6 hMj d0 d1
          go_wp2
          refine bodyPost_ret (v := .tuple #[.agg #[.int .i64 0, .slice none 0 0], .bool false]) (by simp [results, Try.results32, go_sem, z0, z1]) rfl ?_
          rw [HZ.out]
          exact ⟨none, 0, rfl, HN.out⟩
      · rw [decide_eq_false hmj] at hMj
        have HZ : Hid (aftL (F, M) gone come = ((0, []), false)) := HAN.out (.inl hmj)
        clear hmj HAF HAN
        go_wp2_with fail
        try rw [hW5]
        refine hMj.mono ?_
        rintro e w6 ⟨rfl, hg6⟩
        have H7 := HH5.out.step hg6.1
        obtain ⟨r0, r1, f0, f1⟩ := H7.no
        obtain ⟨⟨z0, z1⟩, hN⟩ := H7.zero
        have HN : Hid (NewO w ((w6.setCell ⟨w.heap.size + 1, 0, none⟩ (.int .i64 0)).setCell ⟨w.heap.size + 1, 1, none⟩ (.slice none 0 0)) (icl []) (.slice none 0 0)) := hN
        clear hN H7 hg6 hMj
        go_wp2
        refine bodyPost_ret (v := .tuple #[.agg #[.int .i64 0, .slice none 0 0], .bool false]) (by simp [results, Try.results32, go_sem, z0, z1]) rfl ?_
        rw [HZ.out]
        exact ⟨none, 0, rfl, HN.out⟩
  · rw [decide_eq_false hok] at hK
    have HZ : Hid (aftL (F, M) gone come = ((0, []), false)) := by
      rw [Hid, aftL, if_neg]
      intro h
      exact hok h.1
    clear hok
    go_enter Try.func32, Try.ntmps32
    go_wp2_with fail
    refine hK.mono ?_
    rintro e w1 ⟨rfl, hg1⟩
    have H2 := HH.out.step hg1.1
    obtain ⟨r0, r1, f0, f1⟩ := H2.no
    obtain ⟨⟨z0, z1⟩, hN⟩ := H2.zero
    have HN : Hid (NewO w ((w1.setCell ⟨w.heap.size + 1, 0, none⟩ (.int .i64 0)).setCell ⟨w.heap.size + 1, 1, none⟩ (.slice none 0 0)) (icl []) (.slice none 0 0)) := hN
    clear hN H2 hg1 hK HH q0 q1
    go_wp2
    refine bodyPost_ret (v := .tuple #[.agg #[.int .i64 0, .slice none 0 0], .bool false]) (by simp [results, Try.results32, go_sem, z0, z1]) rfl ?_
    rw [HZ.out]
    exact ⟨none, 0, rfl, HN.out⟩
end Go.Proofs.Ytbmpapmdkmnhhaa
