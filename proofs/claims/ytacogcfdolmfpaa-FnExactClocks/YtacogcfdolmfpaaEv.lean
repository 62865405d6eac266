/-
  The contracts of the specification's l2Send, l2Last and TraceOk.
-/
import Derived.Test.YtacogcfdolmfpaaOwn
import Derived.Test.YtacogcfdolmfpaaTr
namespace Go.Proofs.Ytacogcfdolmfpaa
open Go.RowKit Go.Sort

/-- From ⟨b, off⟩ on lie the first len of the events es. -/
def EvsAt (w : World) (b off len : Nat) (es : List Ev) : Prop :=
  ∀ i, i < len → w.cell? ⟨b, off + i * 3, none⟩ = some (.int .i64 (evAt es i).n) ∧ w.cell? ⟨b, off + i * 3 + 1, none⟩ = some (.int .i64 (evAt es i).k) ∧ w.cell? ⟨b, off + i * 3 + 2, none⟩ = some (.int .i64 (evAt es i).m)
theorem EvsAt.grew {w w' : World} {b off len : Nat} {es : List Ev} (h : EvsAt w b off len es) (hg : Grew w w') : EvsAt w' b off len es :=
  fun i hi => ⟨hg.cell (h i hi).1, hg.cell (h i hi).2.1, hg.cell (h i hi).2.2⟩
theorem EvsAt.mono {w : World} {b off len len' : Nat} {es : List Ev} (h : EvsAt w b off len es) (hl : len' ≤ len) : EvsAt w b off len' es := fun i hi => h i (by omega)
theorem EvsAt.drewN {w : World} {b off len : Nat} {es : List Ev} (h : EvsAt w b off len es) (n : Nat) : EvsAt (w.drewN n) b off len es := h

set_option maxHeartbeats 400000 in
theorem l2Send_any (b off len cap : Nat) (m : Int) (es : List Ev) (w : World) (hc : EvsAt w b off len es) (hm : len ≤ maxLen) :
    Calls Try.prog 98 #[.slice (some ⟨b, off, none⟩) len cap, .int .i64 m] w fun e w' => e = .returned (.int .i64 (ixI (firstS es m len))) ∧ w' = w := by
  unfold maxLen at hm
  go_enter Try.func98, Try.ntmps98
  go_wp2
  go_loop [5] (fun i => ∃ k : Nat, k ≤ len ∧ i = .int .i64 k ∧ firstS es m k = none) (fun i => len - (intOf i).toNat)
  case atStart => exact ⟨0, Nat.zero_le _, rfl, rfl⟩
  case round =>
    obtain ⟨k, hk, rfl, hno⟩ := hrel
    have HN : Hid (firstS es m k = none) := hno
    clear hno
    by_cases hlt : k < len
    · obtain ⟨c0, c1, c2⟩ := hc k hlt
      by_cases h2 : (evAt es k).k = 2
      · by_cases hm2 : (evAt es k).m = m
        · have HF : Hid (firstS es m len = some k) := firstS_hit HN.out ⟨h2, hm2⟩ hlt
          have hb : ((evAt es k).m == m) = true := by simpa using hm2
          clear hm2
          go_wp2
          go_ret
          exact ⟨ret_int (by rw [HF.out]; rfl), rfl⟩
        · have HF : Hid (firstS es m (k + 1) = none) := firstS_miss HN.out (fun h => hm2 h.2)
          have hb : ((evAt es k).m == m) = false := by simpa using hm2
          clear hm2
          go_wp2
          go_round
          case rel => exact ⟨k + 1, by omega, by go_num, HF.out⟩
          case measure => simp [intOf]; omega
      · have HF : Hid (firstS es m (k + 1) = none) := firstS_miss HN.out (fun h => h2 h.1)
        have hb : ((evAt es k).k == 2) = false := by simpa using h2
        clear h2
        go_wp2
        go_round
        case rel => exact ⟨k + 1, by omega, by go_num, HF.out⟩
        case measure => simp [intOf]; omega
    · have hkl : k = len := by omega
      subst hkl
      go_wp2
      go_ret
      exact ⟨ret_int (by rw [HN.out]; rfl), rfl⟩

set_option maxHeartbeats 400000 in
theorem l2Last_any (b off len cap k : Nat) (es : List Ev) (w : World) (hc : EvsAt w b off len es) (hm : len ≤ maxLen) (hk : k < len) :
    Calls Try.prog 116 #[.slice (some ⟨b, off, none⟩) len cap, .int .i64 (k : Int)] w fun e w' => e = .returned (.int .i64 (ixI (lastB es (evAt es k).n k))) ∧ ∃ n, w' = w.drewN n := by
  unfold maxLen at hm
  obtain ⟨d0, _, _⟩ := hc k hk
  have hk1 : (k : Int) < (len : Int) := by omega
  have hk0 : (0 : Int) ≤ (k : Int) := by omega
  go_enter Try.func116, Try.ntmps116
  go_wp2
  go_loopw [5] (fun i wr => ∃ j : Nat, j ≤ k ∧ i = .int .i64 ((j : Int) - 1) ∧ lastB es (evAt es k).n k = lastB es (evAt es k).n j ∧ ∃ n, wr = w.drewN n) (fun i _ => (intOf i + 1).toNat)
  case atStart => exact ⟨k, Nat.le_refl _, by go_num, rfl, 0, rfl⟩
  case round =>
    obtain ⟨j, hj, rfl, he, n, rfl⟩ := hrel
    have HE : Hid (lastB es (evAt es k).n k = lastB es (evAt es k).n j) := he
    clear he
    cases j with
    | zero =>
      go_wp2
      go_ret
      exact ⟨ret_int (by rw [HE.out]; rfl), _, rfl⟩
    | succ j =>
      obtain ⟨c0, _, _⟩ := hc j (by omega)
      have ej : (((j + 1 : Nat) : Int) - 1) = (j : Int) := by omega
      rw [ej]
      have hj1 : (j : Int) < (len : Int) := by omega
      have hj0 : (0 : Int) ≤ (j : Int) := by omega
      by_cases hn : (evAt es j).n = (evAt es k).n
      · have HF : Hid (lastB es (evAt es k).n k = some j) := by
          rw [Hid, HE.out]; simp only [lastB]; rw [if_pos hn]
        have hb : ((evAt es j).n == (evAt es k).n) = true := by simpa using hn
        clear hn
        go_wp2_with fail
        go_quiet (fail)
        go_wp2
        go_ret
        exact ⟨ret_int (by rw [HF.out]; rfl), _, World.drewN_drewN _ _ _⟩
      · have HF : Hid (lastB es (evAt es k).n k = lastB es (evAt es k).n j) := by
          rw [Hid, HE.out]; simp only [lastB]; rw [if_neg hn]
        have hb : ((evAt es j).n == (evAt es k).n) = false := by simpa using hn
        clear hn
        go_wp2_with fail
        go_quiet (fail)
        go_wp2
        go_roundw
        case rel => exact ⟨j, by omega, by go_num, HF.out, _, rfl⟩
        case measure => simp [intOf]
end Go.Proofs.Ytacogcfdolmfpaa
