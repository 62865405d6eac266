/-
  Several texts in one: Lgs.
-/
import Derived.Test.YtbnpliobigjapaaDoorKv
import Derived.Test.YtbnpliobigjapaaDoorKw
import Derived.Test.YtbnpliobigjapaaDoorHy
import Derived.BigQuiet
/-
  Logs in memory; the specification's LogOk, l12Copy, TextAt.
-/
namespace Go.Proofs.YtbnpliobigjapaaDoor
set_option linter.unusedVariables false
set_option linter.unusedSimpArgs false
open Go.RowKit Go.Sort

/-- A log as a value. -/
def lgV (F : Int) (a : Option Addr) (n c : Nat) : Value := .agg #[.int .i64 F, .slice a n c]
theorem Bx.r2 {w : World} {B : Nat} {T : TypeId} {x y : Value} (h : Bx w B T #[x, y]) : w.cell? ⟨B, 0, none⟩ = some x ∧ w.cell? ⟨B, 1, none⟩ = some y := ⟨h.at 0 rfl, h.at 1 rfl⟩
theorem below2 {B g : Nat} {w w' : World} (h : Below B w w') (hg : B ≤ g) {x y : Value} : Below B w ((w'.setCell ⟨g, 0, none⟩ x).setCell ⟨g, 1, none⟩ y) :=
  (h.setCell (p := ⟨g, 0, none⟩) hg x).setCell (p := ⟨g, 1, none⟩) hg y
theorem wrt2 (w : World) (g : Nat) {x y : Value} : Wrt (fun b => b = g) w ((w.setCell ⟨g, 0, none⟩ x).setCell ⟨g, 1, none⟩ y) :=
  (Wrt.set w g 0 x).trans (Wrt.set _ g 1 y) (fun _ _ h => h)
theorem oneA (w : World) (o : Obj) : Below w.heap.size w (w.alloc o) := (Below.refl _ _).alloc (Nat.le_refl _) _
/-- A log as an answer, in memory of its own. -/
def AnsLg (w w' : World) (e : Ending) (l : Lg) : Prop := ∃ a c, e = .returned (lgV l.1 a l.2.length c) ∧ NewO w w' (scl l.2) (.slice a l.2.length c)
def AnsLb (w w' : World) (e : Ending) (l : Lg × Bool) : Prop := ∃ a c, e = .returned (.tuple #[lgV l.1.1 a l.1.2.length c, .bool l.2]) ∧ NewO w w' (scl l.1.2) (.slice a l.1.2.length c)
theorem newO_nil {w w' : World} (hb : Below w.heap.size w w') : NewO w w' (scl []) (.slice none 0 0) := ⟨fun _ => False, ow_scl.2 ⟨none, 0, none, rfl, OSo.nil _ _ plainN, fun b => by simp⟩, fun _ h => absurd h id, hb⟩
/-- A list of texts is copied behind a list without an element. -/
theorem txs_copied {P : Program} {w : World} (t ty e : TypeId) (i : TypeInfo) (ht : P.underlying t = some (.slice e)) (hi : P.info? e = some i) (hz : i.zero = some (.string ⟨#[]⟩)) (hsize : i.size = 1) (hby : i.bytes = 16)
    {a : Option Addr} (ha : PlainA a) {x : Option Addr} {c : Nat} {T : List (List UInt8)} (hv : TxS w x T) (hm : T.length ≤ 1048576) :
    ∃ a' c' w' fp', (Builtin.append_ #[t, t] ty #[.slice a 0 0, .slice x T.length c]).run P w = .ok (.slice a' T.length c') w' ∧ Cel.ow w' (scl T) (.slice a' T.length c') fp' ∧ Wrt (fun _ => False) w w' ∧ ∀ b, fp' b → b = w.heap.size := by
  obtain ⟨a', c', G', w', hr, ho', hg, hat⟩ := run_append_oo (P := P) w t ty e i _ 1 16 ht hi hz hsize hby rfl (by omega) a 0 0 [] none (OSo.nil _ _ ha) x T.length c (svs T) (by rw [svs_len]; omega) hv.news (svs_one T) (by unfold maxLen; omega) (by omega)
  simp only [Nat.zero_add, List.nil_append] at hr ho'
  refine ⟨a', c', w', fun b => G' = some b, hr, ow_scl.2 ⟨a', c', G', rfl, ho', fun b => Iff.rfl⟩, (Wrt.of_grown hg).mono (fun b _ hb => by cases hb), fun b hb => ?_⟩
  rcases hat with h | h
  · rw [h] at hb; cases hb
  · rw [h] at hb; cases hb; rfl

attribute [local irreducible] sv
set_option maxRecDepth 100000 in
set_option maxHeartbeats 1600000 in
theorem lgkS_any (F : Int) (a : Option Addr) (cap : Nat) (T : List (List UInt8)) (w : World) (hv : TxS w a T) (hm : T.length ≤ maxLen) :
    Calls Tryd.prog 18 #[lgV F a T.length cap] w fun e w' => e = .returned (.bool (decide (okLg (F, T)))) ∧ Grew w w' := by
  unfold maxLen at hm
  unfold lgV
  have HG : Hid (Grew w (w.alloc (.cells #[.int .i64 F, .slice a T.length cap] 26))) := (Grew.refl _).alloc _
  have HV : Hid (TxS (w.alloc (.cells #[.int .i64 F, .slice a T.length cap] 26)) a T) := hv.grew HG.out
  have c0 : (w.alloc (.cells #[.int .i64 F, .slice a T.length cap] 26)).cell? ⟨w.heap.size, 0, none⟩ = some (.int .i64 F) := by simp
  have c1 : (w.alloc (.cells #[.int .i64 F, .slice a T.length cap] 26)).cell? ⟨w.heap.size, 1, none⟩ = some (.slice a T.length cap) := by simp
  clear hv
  generalize hW0 : w.alloc (.cells #[.int .i64 F, .slice a T.length cap] 26) = W0 at *
  cases e0 : inB F 1 1000000 with
  | false =>
    have HZ : Hid (decide (okLg (F, T)) = false) := decide_eq_false (fun h => by rw [inB7.2 h.1] at e0; cases e0)
    go_enter Tryd.func18, Tryd.ntmps18
    go_wp2_with (go_at_call 47; refine (l1In_any _ _ _ _).mono ?_; rintro e w' ⟨rfl, hw'⟩; rw [hw']; clear hw')
    go_ret
    exact ⟨ret_bool (by rw [HZ.out]), HG.out⟩
  | true =>
    have HF : Hid (1 ≤ F ∧ F ≤ 1000000) := inB7.1 e0
    by_cases h40 : T.length ≤ 40
    · have g40 : ¬ ((40 : Int) < (T.length : Int)) := by omega
      go_enter Tryd.func18, Tryd.ntmps18
      go_wp2_with (go_at_call 47; refine (l1In_any _ _ _ _).mono ?_; rintro e w' ⟨rfl, hw'⟩; rw [hw']; clear hw')
      clear e0
      go_loop [3] (fun i => ∃ k : Nat, k ≤ T.length ∧ i = .int .i64 k ∧ ∀ j, j < k → (T.getD j []).length ≤ 100) (fun i => T.length - (intOf i).toNat)
      case atStart => exact ⟨0, Nat.zero_le _, rfl, fun j hj => by omega⟩
      case round =>
        obtain ⟨k, hk, rfl, hall⟩ := hrel
        have HA : Hid (∀ j, j < k → (T.getD j []).length ≤ 100) := hall
        clear hall
        by_cases hlt : k < T.length
        · rcases HV.out with h0 | ⟨b, off, rfl, hc⟩
          · omega
          have hck := hc k hlt
          have k1 : (k : Int) < (T.length : Int) := by omega
          have k0 : (0 : Int) ≤ (k : Int) := by omega
          clear hc
          have HX : Hid (∀ t, T.getD k [] = t → (t.length ≤ 100 → ∀ j, j < k + 1 → (T.getD j []).length ≤ 100) ∧ (¬ t.length ≤ 100 → decide (okLg (F, T)) = false)) := fun t e => by
            subst e
            exact ⟨fun h j hj => by
              rcases Nat.lt_succ_iff_lt_or_eq.1 hj with h1 | h1
              · exact HA.out j h1
              · rw [h1]; exact h, fun h => decide_eq_false (fun o => h (o.2.2 k hlt))⟩
          generalize ht : T.getD k [] = t at *
          have hsz := sv_size t
          by_cases h100 : t.length ≤ 100
          · have hd : ¬ ((100 : Int) < (t.length : Int)) := by omega
            have HN := (HX.out t rfl).1 h100
            have HN2 : Hid (∀ j, j < k + 1 → (T.getD j []).length ≤ 100) := HN
            clear HN
            go_wp2
            go_round
            case rel => exact ⟨k + 1, by omega, by go_num, HN2.out⟩
            case measure => simp [intOf]; omega
          · have hd : (100 : Int) < (t.length : Int) := by omega
            have HZ : Hid (decide (okLg (F, T)) = false) := (HX.out t rfl).2 h100
            go_wp2
            go_ret
            exact ⟨ret_bool (by rw [HZ.out]), HG.out⟩
        · have hkl : k = T.length := by omega
          have HZ : Hid (decide (okLg (F, T)) = true) := decide_eq_true ⟨HF.out, h40, fun j hj => HA.out j (by rw [hkl]; exact hj)⟩
          subst hkl
          go_wp2
          go_ret
          exact ⟨ret_bool (by rw [HZ.out]), HG.out⟩
    · have g40 : (40 : Int) < (T.length : Int) := by omega
      have HZ : Hid (decide (okLg (F, T)) = false) := decide_eq_false (fun h => h40 h.2.1)
      go_enter Tryd.func18, Tryd.ntmps18
      go_wp2_with (go_at_call 47; refine (l1In_any _ _ _ _).mono ?_; rintro e w' ⟨rfl, hw'⟩; rw [hw']; clear hw')
      go_ret
      exact ⟨ret_bool (by rw [HZ.out]), HG.out⟩

set_option maxRecDepth 100000 in
set_option maxHeartbeats 1600000 in
theorem lgcS_any (F : Int) (a : Option Addr) (cap : Nat) (T : List (List UInt8)) (w : World) (hv : TxS w a T) (hm : T.length ≤ 1048576) :
    Calls Tryd.prog 44 #[lgV F a T.length cap] w fun e w' => AnsLg w w' e (F, T) := by
  unfold lgV
  obtain ⟨i0, hi0, hz0, hz1, hz2⟩ := info_parts9 Tryd.info9
  have hB0 : Below w.heap.size w ((w.alloc (.cells #[.int .i64 F, .slice a T.length cap] 26)).alloc (.cells #[.int .i64 0, .slice none 0 0] 26)) := ((Below.refl _ _).alloc (Nat.le_refl _) _).alloc (by simp) _
  have hx0 : Bx ((w.alloc (.cells #[.int .i64 F, .slice a T.length cap] 26)).alloc (.cells #[.int .i64 0, .slice none 0 0] 26)) w.heap.size 26 #[.int .i64 F, .slice a T.length cap] := (Bx.new _ _ _).alloc _
  have hx1 : Bx ((w.alloc (.cells #[.int .i64 F, .slice a T.length cap] 26)).alloc (.cells #[.int .i64 0, .slice none 0 0] 26)) (w.heap.size + 1) 26 #[.int .i64 0, .slice none 0 0] := by
    have := Bx.new (w.alloc (.cells #[.int .i64 F, .slice a T.length cap] 26)) 26 #[.int .i64 0, .slice none 0 0]
    simpa using this
  have hvW := hv.below hB0
  have hsz : ((w.alloc (.cells #[.int .i64 F, .slice a T.length cap] 26)).alloc (.cells #[.int .i64 0, .slice none 0 0] 26)).heap.size = w.heap.size + 1 + 1 := by simp
  clear hv
  generalize hW : (w.alloc (.cells #[.int .i64 F, .slice a T.length cap] 26)).alloc (.cells #[.int .i64 0, .slice none 0 0] 26) = W at *
  have hA : ∀ X, Same X (W.alloc (.cells #[] 9)) → ∃ v' w4, (Builtin.append_ #[24, 24] 24 #[.slice (some ⟨w.heap.size + 1 + 1, 0, none⟩) 0 0, .slice a T.length cap]).run Tryd.prog X = .ok v' w4 ∧
      ∃ a' c', v' = .slice a' T.length c' ∧ w4.cell? ⟨w.heap.size, 0, none⟩ = some (.int .i64 F) ∧ w4.cell? ⟨w.heap.size + 1, 0, none⟩ = some (.int .i64 0) ∧ w4.cell? ⟨w.heap.size + 1, 1, none⟩ = some (.slice none 0 0) ∧ w4.frozen? ⟨w.heap.size + 1, 0, none⟩ = false ∧ w4.frozen? ⟨w.heap.size + 1, 1, none⟩ = false ∧
        NewO w ((w4.setCell ⟨w.heap.size + 1, 0, none⟩ (.int .i64 F)).setCell ⟨w.heap.size + 1, 1, none⟩ (.slice a' T.length c')) (scl T) (.slice a' T.length c') := by
    intro X hX
    have hbX : Below W.heap.size W X := (oneA W _).trans (hX.below.mono (oneA W _).size)
    obtain ⟨a', c', w4, fp, hr, ho, hw, hf⟩ := txs_copied (P := Tryd.prog) (w := X) 24 24 9 i0 Tryd.underlying24 hi0 hz0 hz1 hz2 (plainS (w.heap.size + 1 + 1) 0) (x := a) (c := cap) (hvW.below hbX) hm
    have hb4 : Below W.heap.size W w4 := hw.below hbX hbX.size (fun _ h => absurd h id)
    have k0 := hx0.below hb4
    have k1 := hx1.below hb4
    have hXs := hbX.size
    refine ⟨_, w4, hr, a', c', rfl, k0.at 0 rfl, k1.at 0 rfl, k1.at 1 rfl, k1.f 0, k1.f 1, fp, Cel.ow_wrt ho (wrt2 w4 (w.heap.size + 1)) (fun b hb e => by have := hf b hb; omega), fun b hb => by have := hf b hb; omega, below2 (hB0.trans (hb4.mono hB0.size)) (by omega)⟩
  obtain ⟨x0, x1⟩ := hx0.r2
  obtain ⟨y0, y1⟩ := (hx0.alloc (.cells #[] 9)).r2
  clear hx0 hx1 hvW hB0
  go_enter Tryd.func44, Tryd.ntmps44
  go_wp2_with fail
  go_region_law
    (first
      | (refine step_append_of (by rfl) _ _ _ _ (by rfl) (.slice (some ⟨w.heap.size + 1 + 1, 0, none⟩) 0 0) _ (by rfl) (by rfl) hA ⟨rfl, rfl, rfl, rfl⟩ ?_; rintro v' w4 ⟨a', c', rfl, z0, z1, z2, z3, z4, hn⟩))
  all_goals
    go_wp2
    refine bodyPost_ret (v := .agg #[.int .i64 F, .slice a' T.length c']) (by simp [results, Tryd.results44, go_sem, *]) rfl ?_
    exact ⟨a', c', rfl, hn⟩

end Go.Proofs.YtbnpliobigjapaaDoor
