/-
  Several texts in one: Rlr Rlo.
-/
import Derived.Test.YtdniajogojlmdaaJe
import Derived.Test.YtdniajogojlmdaaHy
import Derived.Test.YtdniajogojlmdaaHh
/-
  Lists of lists in memory; the specification's l1Has, l1Rises and RelayOk.
-/
namespace Go.Proofs.Ytdniajogojlmdaa
set_option linter.unusedVariables false
set_option linter.unusedSimpArgs false
open Go.RowKit Go.Sort

/-- A slice of slices of numbers, to be read. -/
structure VV (w : World) (a : Option Addr) (len cap : Nat) (H : List (List Int)) : Prop where
  n : H.length = len
  le : len ≤ cap
  mx : cap ≤ maxLen
  row : ∀ i, i < len → ∃ b off x c, a = some ⟨b, off, none⟩ ∧ w.cell? ⟨b, off + i, none⟩ = some (.slice x (row H i).length c) ∧ Vec w x (row H i).length (row H i) ∧ (row H i).length ≤ c ∧ c ≤ maxLen
theorem VV.drewN {w : World} {a : Option Addr} {len cap : Nat} {H : List (List Int)} (h : VV w a len cap H) (n : Nat) : VV (w.drewN n) a len cap H := ⟨h.n, h.le, h.mx, h.row⟩
theorem el_mem10 {xs : List Int} {x : Int} : x ∈ xs ↔ ∃ j, j < xs.length ∧ el xs j = x := by
  constructor
  · intro h
    obtain ⟨i, hi, rfl⟩ := List.getElem_of_mem h
    exact ⟨i, hi, by rw [el_eq hi]⟩
  · rintro ⟨j, hj, rfl⟩
    exact el_mem hj
def risB (xs : List Int) : Bool := decide (∀ i, i < xs.length - 1 → el xs i < el xs (i + 1))

set_option maxHeartbeats 400000 in
theorem l1Has_any (a : Option Addr) (len cap : Nat) (x : Int) (xs : List Int) (w : World) (hv : Vec w a len xs) (hm : len ≤ maxLen) :
    Calls Try.prog 82 #[.slice a len cap, .int .i64 x] w fun e w' => e = .returned (.bool (decide (x ∈ xs))) ∧ w' = w := by
  unfold maxLen at hm
  have HL : Hid (xs.length = len) := hv.1
  have hc := hv.2.2
  clear hv
  go_enter Try.func82, Try.ntmps82
  go_wp2
  go_loop [5] (fun i => ∃ k : Nat, k ≤ len ∧ i = .int .i64 k ∧ ∀ j, j < k → el xs j ≠ x) (fun i => len - (intOf i).toNat)
  case atStart => exact ⟨0, Nat.zero_le _, rfl, fun j hj => by omega⟩
  case round =>
    obtain ⟨k, hk, rfl, hno⟩ := hrel
    have HN : Hid (∀ j, j < k → el xs j ≠ x) := hno
    clear hno
    by_cases hlt : k < len
    · rcases hc with h0 | ⟨b, off, rfl, hc⟩
      · omega
      have hck := hc k hlt
      by_cases he : el xs k = x
      · have hb : (el xs k == x) = true := by simpa using he
        have HF : Hid (decide (x ∈ xs) = true) := by rw [Hid, decide_eq_true_eq]; exact el_mem10.2 ⟨k, by rw [HL.out]; exact hlt, he⟩
        clear he
        go_wp2
        go_ret
        exact ⟨ret_bool (by rw [HF.out]), rfl⟩
      · have hb : (el xs k == x) = false := by simpa using he
        have HE : Hid (el xs k ≠ x) := he
        clear he
        go_wp2
        go_round
        case rel => exact ⟨k + 1, by omega, by go_num, fun j hj => by
          rcases Nat.lt_succ_iff_lt_or_eq.1 hj with h | h
          · exact HN.out j h
          · rw [h]; exact HE.out⟩
        case measure => simp [intOf]; omega
    · have HF : Hid (decide (x ∈ xs) = false) := by
        rw [Hid, decide_eq_false_iff_not, el_mem10]
        rintro ⟨j, hj, e⟩
        exact HN.out j (by rw [HL.out] at hj; omega) e
      clear hc
      go_wp2
      go_ret
      exact ⟨ret_bool (by rw [HF.out]), rfl⟩

set_option maxHeartbeats 800000 in
theorem l1Rises_any (a : Option Addr) (len cap : Nat) (xs : List Int) (w : World) (hv : Vec w a len xs) (hm : len ≤ maxLen) :
    Calls Try.prog 87 #[.slice a len cap] w fun e w' => e = .returned (.bool (risB xs)) ∧ ∃ n, w' = w.drewN n := by
  unfold maxLen at hm
  have HL : Hid (xs.length = len) := hv.1
  have hc := hv.2.2
  clear hv
  go_enter Try.func87, Try.ntmps87
  go_wp2
  go_loopw [3] (fun i wr => ∃ k n : Nat, k ≤ len ∧ i = .int .i64 ((k : Int) + 1) ∧ wr = w.drewN n ∧ ∀ j, j < k → el xs j < el xs (j + 1)) (fun i _ => (len + 1) - (intOf i).toNat)
  case atStart => exact ⟨0, 0, Nat.zero_le _, rfl, rfl, fun j hj => by omega⟩
  case round =>
    obtain ⟨k, n, hk, rfl, rfl, hr⟩ := hrel
    have HR : Hid (∀ j, j < k → el xs j < el xs (j + 1)) := hr
    clear hr
    by_cases hlt : k + 1 < len
    · rcases hc with h0 | ⟨b, off, rfl, hc⟩
      · omega
      have c1 := hc (k + 1) hlt
      have c0 := hc k (by omega)
      have h1 : (k : Int) + 1 < (len : Int) := by omega
      have h2 : (k : Int) < (len : Int) := by omega
      have h0 : (0 : Int) ≤ (k : Int) + 1 := by omega
      have h3 : (0 : Int) ≤ (k : Int) := by omega
      have e1 : ((k : Int) + 1).toNat = k + 1 := by omega
      by_cases hx : el xs k < el xs (k + 1)
      · have hd : decide (el xs (k + 1) ≤ el xs k) = false := by simp; omega
        have HX : Hid (el xs k < el xs (k + 1)) := hx
        clear hx
        go_wp2_with fail
        go_quiet (fail)
        go_wp2
        go_roundw
        case rel => exact ⟨k + 1, _, by omega, by go_num, rfl, fun j hj => by
          rcases Nat.lt_succ_iff_lt_or_eq.1 hj with h | h
          · exact HR.out j h
          · rw [h]; exact HX.out⟩
        case measure => simp [intOf]; omega
      · have hd : decide (el xs (k + 1) ≤ el xs k) = true := by simp; omega
        have HF : Hid (risB xs = false) := by
          rw [Hid, risB, decide_eq_false_iff_not]
          intro h
          exact hx (h k (by rw [HL.out]; omega))
        clear hx
        go_wp2_with fail
        go_quiet (fail)
        go_wp2
        go_ret
        exact ⟨ret_bool (by rw [HF.out]), n + nq, by simp⟩
    · have hd : decide ((k : Int) + 1 < (len : Int)) = false := by simp; omega
      have HF : Hid (risB xs = true) := by
        rw [Hid, risB, decide_eq_true_eq]
        intro j hj
        exact HR.out j (by rw [HL.out] at hj; omega)
      clear hc
      go_wp2
      go_ret
      exact ⟨ret_bool (by rw [HF.out]), _, rfl⟩
end Go.Proofs.Ytdniajogojlmdaa

/-
  The specification's RelayOk.
-/
namespace Go.Proofs.Ytdniajogojlmdaa
set_option linter.unusedVariables false
set_option linter.unusedSimpArgs false
open Go.RowKit Go.Sort

/-- A relay as a value. -/
def rlV (N B : Int) (a : Option Addr) (len cap : Nat) : Value := .agg #[.int .i64 N, .int .i64 B, .slice a len cap]
theorem mixedR : Try.prog.follows .mixedOrders = true := by kernel_rfl
theorem VV.grew {w w' : World} {a : Option Addr} {len cap : Nat} {H : List (List Int)} (h : VV w a len cap H) (hg : Grew w w') : VV w' a len cap H :=
  ⟨h.n, h.le, h.mx, fun i hi => by
    obtain ⟨b, off, x, c, e, h1, h2, h3, h4⟩ := h.row i hi
    exact ⟨b, off, x, c, e, hg.cell h1, h2.below hg.1 (Nat.le_refl _), h3, h4⟩⟩

set_option maxRecDepth 100000 in
set_option maxHeartbeats 3200000 in
theorem rokS_any (N B : Int) (a : Option Addr) (len cap : Nat) (H : List (List Int)) (w : World) (hv : VV w a len cap H) :
    Calls Try.prog 42 #[rlV N B a len cap] w fun e w' => e = .returned (.bool (decide (okRel N B H))) ∧ Grew w w' := by
  unfold rlV
  have hG0 : Grew w (w.alloc (.cells #[.int .i64 N, .int .i64 B, .slice a len cap] 35)) := (Grew.refl _).alloc _
  have hvW := hv.grew hG0
  have hmx : len ≤ maxLen := Nat.le_trans hv.le hv.mx
  unfold maxLen at hmx
  have hHl := hv.n
  have c0 : (w.alloc (.cells #[.int .i64 N, .int .i64 B, .slice a len cap] 35)).cell? ⟨w.heap.size, 0, none⟩ = some (.int .i64 N) := by simp
  have c1 : (w.alloc (.cells #[.int .i64 N, .int .i64 B, .slice a len cap] 35)).cell? ⟨w.heap.size, 1, none⟩ = some (.int .i64 B) := by simp
  have c2 : (w.alloc (.cells #[.int .i64 N, .int .i64 B, .slice a len cap] 35)).cell? ⟨w.heap.size, 2, none⟩ = some (.slice a len cap) := by simp
  have HF : Hid (∀ (P : Prop), (okRel N B H → P) → ¬ P → decide (okRel N B H) = false) := fun P h hn => decide_eq_false (fun k => hn (h k))
  have HG : Hid (Grew w (w.alloc (.cells #[.int .i64 N, .int .i64 B, .slice a len cap] 35))) := hG0
  clear hv hG0
  generalize hW0 : w.alloc (.cells #[.int .i64 N, .int .i64 B, .slice a len cap] 35) = W0 at *
  cases e0 : inB N 1 12 with
  | false =>
    have HZ : Hid (decide (okRel N B H) = false) := HF.out _ (fun k => inB7.2 k.1) (by rw [e0]; simp)
    clear hvW HF
    go_enter Try.func42, Try.ntmps42
    go_wp2_with fail
    go_quiet ((go_at_call 73; exact (l1In_any _ _ _ _).mono (fun e w' h => ⟨h.1, _, h.2⟩)))
    go_wp2
    go_ret
    exact ⟨ret_bool (by rw [HZ.out]), HG.out.drewN _⟩
  | true =>
    cases e1 : inB B 1 12 with
    | false =>
      have HZ : Hid (decide (okRel N B H) = false) := HF.out _ (fun k => inB7.2 k.2.1) (by rw [e1]; simp)
      clear hvW HF
      go_enter Try.func42, Try.ntmps42
      go_wp2_with fail
      go_quiet ((go_at_call 73; exact (l1In_any _ _ _ _).mono (fun e w' h => ⟨h.1, _, h.2⟩)))
      go_wp2
      go_ret
      exact ⟨ret_bool (by rw [HZ.out]), HG.out.drewN _⟩
    | true =>
      have b0 := inB7.1 e0
      have b1 := inB7.1 e1
      by_cases e2 : (len : Int) = N
      · have hrow0 := hvW.row
        obtain ⟨b, off, x0, q0, rfl, d0, v0, l0, m0⟩ := hvW.row 0 (by omega)
        have e2' : ((len : Int) != N) = false := by simpa using e2
        have hl1 : (0 : Int) < (len : Int) := by omega
        have hl1n : 0 < len := by omega
        rw [Nat.add_zero] at d0
        by_cases e3 : ((row H 0).length : Int) = B
        · have e3' : (((row H 0).length : Int) != B) = false := by simpa using e3
          have hrow : Hid (∀ i, i < len → ∃ x c, W0.cell? ⟨b, off + i, none⟩ = some (.slice x (row H i).length c) ∧ Vec W0 x (row H i).length (row H i) ∧ (row H i).length ≤ maxLen) := fun i hi => by
            obtain ⟨b', off', x, c, e, h1, h2, h3, h4⟩ := hrow0 i hi
            cases e
            exact ⟨x, c, h1, h2, Nat.le_trans h3 h4⟩
          have HT : Hid ((∀ i, i < len → okRow B (row H i)) → decide (okRel N B H) = true) := fun h => decide_eq_true ⟨b0, b1, by rw [hHl]; exact e2, e3, fun i hi => h i (by omega)⟩
          have HN : Hid (∀ i, i < len → ¬ okRow B (row H i) → decide (okRel N B H) = false) := fun i hi h => HF.out _ (fun k => k.2.2.2.2 i (by omega)) h
          have hl12 : len ≤ 12 := by omega
          generalize row H 0 = h0 at *
          clear hvW HF hrow0 v0
          go_enter Try.func42, Try.ntmps42
          go_wp2_with fail
          go_quiet ((go_at_call 73; exact (l1In_any _ _ _ _).mono (fun e w' h => ⟨h.1, _, h.2⟩)))
          go_wp2_with fail
          clear e0 e1
          go_loopw [3] (fun i wr => ∃ k n : Nat, k ≤ len ∧ i = .int .i64 k ∧ wr = W0.drewN n ∧ ∀ j, j < k → okRow B (row H j)) (fun i _ => len - (intOf i).toNat)
          case atStart => exact ⟨0, _, Nat.zero_le _, rfl, rfl, fun j hj => by omega⟩
          case round =>
            obtain ⟨k, n, hk, rfl, rfl, hall⟩ := hrel
            have HA : Hid (∀ j, j < k → okRow B (row H j)) := hall
            clear hall
            by_cases hlt : k < len
            · obtain ⟨x, c, hcx, hvx, hmx2⟩ := hrow.out k hlt
              have hNk : Hid (¬ okRow B (row H k) → decide (okRel N B H) = false) := HN.out k hlt
              have HR : Hid (∀ j, j < (row H k).length → (0 ≤ el (row H k) j ∧ el (row H k) j ≤ B - 1) ∨ decide (okRel N B H) = false) := fun j hj => by
                by_cases h : 0 ≤ el (row H k) j ∧ el (row H k) j ≤ B - 1
                · exact .inl h
                · exact .inr (hNk.out (fun hk => h (hk.1 j hj)))
              have HOk : Hid (∀ h, h = row H k → okRow B h → ∀ j, j < k + 1 → okRow B (row H j)) := fun h he ho j hj => by
                rcases Nat.lt_succ_iff_lt_or_eq.1 hj with h1 | h1
                · exact HA.out j h1
                · rw [h1, ← he]; exact ho
              have hRs := fun m => l1Rises_any x _ c _ (W0.drewN m) (hvx.drewN m) hmx2
              have k1 : (k : Int) < (len : Int) := by omega
              have k0 : (0 : Int) ≤ (k : Int) := by omega
              generalize hh : row H k = h at *
              have HH : Hid (h = row H k) := hh.symm
              clear hh
              have hhl : h.length ≤ 9223372036854775807 := by unfold maxLen at hmx2; omega
              go_wp2_with fail
              go_loopw [4] (fun i wr => ∃ j n : Nat, j ≤ h.length ∧ i = .int .i64 j ∧ wr = W0.drewN n ∧ ∀ t, t < j → 0 ≤ el h t ∧ el h t ≤ B - 1) (fun i _ => h.length - (intOf i).toNat)
              case atStart => exact ⟨0, _, Nat.zero_le _, rfl, rfl, fun t ht => by omega⟩
              case round =>
                obtain ⟨j, n2, hj, rfl, rfl, hb⟩ := hrel
                have HB : Hid (∀ t, t < j → 0 ≤ el h t ∧ el h t ≤ B - 1) := hb
                clear hb
                by_cases hjl : j < h.length
                · rcases hvx.2.2 with hz | ⟨bx, ox, rfl, hcs⟩
                  · omega
                  have hcj := hcs j hjl
                  have j1 : (j : Int) < (h.length : Int) := by omega
                  have j0 : (0 : Int) ≤ (j : Int) := by omega
                  cases e4 : inB (el h j) 0 (B - 1) with
                  | false =>
                    have HZ : Hid (decide (okRel N B H) = false) := by
                      rcases HR.out j hjl with r | r
                      · rw [inB7.2 r] at e4; cases e4
                      · exact r
                    go_wp2_with fail
                    go_quiet ((go_at_call 73; exact (l1In_any _ _ _ _).mono (fun e w' h => ⟨h.1, _, h.2⟩)))
                    go_wp2
                    go_ret
                    exact ⟨ret_bool (by rw [HZ.out]), (HG.out.drewN _).drewN _⟩
                  | true =>
                    have HX : Hid (0 ≤ el h j ∧ el h j ≤ B - 1) := inB7.1 e4
                    go_wp2_with fail
                    go_quiet ((go_at_call 73; exact (l1In_any _ _ _ _).mono (fun e w' h => ⟨h.1, _, h.2⟩)))
                    go_wp2
                    go_roundw
                    case rel => exact ⟨j + 1, _, by omega, by go_num, rfl, fun t ht => by
                      rcases Nat.lt_succ_iff_lt_or_eq.1 ht with h1 | h1
                      · exact HB.out t h1
                      · rw [h1]; exact HX.out⟩
                    case measure => simp [intOf]; omega
                · have hRn := hRs n2
                  cases e5 : risB h with
                  | false =>
                    rw [e5] at hRn
                    have HZ : Hid (decide (okRel N B H) = false) := hNk.out (fun ho => by
                      rw [risB, decide_eq_false_iff_not] at e5
                      exact e5 ho.2)
                    go_wp2_with (go_at_call 87; refine hRn.mono ?_; rintro e w' ⟨rfl, m3, rfl⟩)
                    go_ret
                    exact ⟨ret_bool (by rw [HZ.out]), by first | exact HG.out.drewN _ | exact (HG.out.drewN _).drewN _⟩
                  | true =>
                    rw [e5] at hRn
                    have HO : Hid (∀ j, j < k + 1 → okRow B (row H j)) := HOk.out h rfl ⟨fun t ht => HB.out t (by omega), by rw [risB, decide_eq_true_eq] at e5; exact e5⟩
                    go_wp2_with (go_at_call 87; refine hRn.mono ?_; rintro e w' ⟨rfl, m3, rfl⟩)
                    go_roundw
                    case rel => exact ⟨k + 1, _, by omega, by go_num, rfl, HO.out⟩
                    case measure => simp [intOf]; omega
            · have HZ : Hid (decide (okRel N B H) = true) := HT.out (fun i hi => HA.out i (by omega))
              have hkl : k = len := by omega
              subst hkl
              go_wp2
              go_ret
              exact ⟨ret_bool (by rw [HZ.out]), HG.out.drewN _⟩
        · have e3' : (((row H 0).length : Int) != B) = true := by simpa using e3
          have HZ : Hid (decide (okRel N B H) = false) := HF.out _ (fun k => k.2.2.2.1) e3
          clear hvW HF
          go_enter Try.func42, Try.ntmps42
          go_wp2_with fail
          go_quiet ((go_at_call 73; exact (l1In_any _ _ _ _).mono (fun e w' h => ⟨h.1, _, h.2⟩)))
          go_wp2
          go_ret
          exact ⟨ret_bool (by rw [HZ.out]), HG.out.drewN _⟩
      · have e2' : ((len : Int) != N) = true := by simpa using e2
        have HZ : Hid (decide (okRel N B H) = false) := HF.out _ (fun k => k.2.2.1) (by rw [hHl]; exact e2)
        clear hvW HF
        go_enter Try.func42, Try.ntmps42
        go_wp2_with fail
        go_quiet ((go_at_call 73; exact (l1In_any _ _ _ _).mono (fun e w' h => ⟨h.1, _, h.2⟩)))
        go_wp2
        go_ret
        exact ⟨ret_bool (by rw [HZ.out]), HG.out.drewN _⟩
end Go.Proofs.Ytdniajogojlmdaa
