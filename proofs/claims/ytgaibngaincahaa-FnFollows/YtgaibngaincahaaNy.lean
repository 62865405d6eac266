/-
  Several texts in one: Rzi Rzj.
-/
import Derived.Test.YtgaibngaincahaaMp
import Derived.Test.YtgaibngaincahaaMh
import Derived.BigQuiet
import Derived.Stop.Asserts
/-
  The program's parts of a right row: isRowLength, areRowTexts, areRowCounts, risesWithin; slices.Equal of texts, beginWith, areAmong.
-/
namespace Go.Proofs.Ytgaibngaincahaa
set_option linter.unusedVariables false
set_option linter.unusedSimpArgs false
open Go.RowKit Go.Sort

set_option maxHeartbeats 400000 in
theorem isRl_any (n : Int) (w : World) : Calls Try.prog 73 #[.int .i64 n] w fun e w' => e = .returned (.bool (inB n 1 5)) ∧ w' = w := by
  by_cases h0 : (1 : Int) ≤ n
  · have H : Hid (inB n 1 5 = decide (n ≤ 5)) := by rw [Hid, inB]; simp [h0]
    go_enter Try.func73, Try.ntmps73
    go_wp2
    go_ret
    exact ⟨ret_bool (by rw [H.out]), rfl⟩
  · have H : Hid (inB n 1 5 = false) := by rw [Hid, inB]; simp [h0]
    go_enter Try.func73, Try.ntmps73
    go_wp2
    go_ret
    exact ⟨ret_bool (by rw [H.out]), rfl⟩
/-- Texts of a row: not too many, none too long. -/
def txB (T : List (List UInt8)) : Bool := decide (T.length ≤ 12) && T.all (fun t => decide (t.length ≤ 20))
theorem txB_long {T : List (List UInt8)} {k : Nat} (hk : k < T.length) (h : ¬ (T.getD k []).length ≤ 20) : txB T = false := by
  have : T.all (fun t => decide (t.length ≤ 20)) = false := by
    rw [List.all_eq_false]
    refine ⟨T[k], List.getElem_mem hk, ?_⟩
    rw [List.getD_eq_getElem?_getD, List.getElem?_eq_getElem hk] at h
    simpa using h
  rw [txB, this]
  simp
theorem txB_all {T : List (List UInt8)} (h0 : T.length ≤ 12) (h : ∀ k, k < T.length → (T.getD k []).length ≤ 20) : txB T = true := by
  have : T.all (fun t => decide (t.length ≤ 20)) = true := by
    rw [List.all_eq_true]
    intro t ht
    obtain ⟨j, hj, rfl⟩ := List.mem_iff_getElem.1 ht
    have := h j hj
    rw [List.getD_eq_getElem?_getD, List.getElem?_eq_getElem hj] at this
    simpa using this
  rw [txB, decide_eq_true h0, this]
  rfl
attribute [local irreducible] sv
set_option maxHeartbeats 800000 in
theorem areTx_any (a : Option Addr) (cap : Nat) (T : List (List UInt8)) (w : World) (hv : TxS w a T) (hm : T.length ≤ maxLen) :
    Calls Try.prog 89 #[.slice a T.length cap] w fun e w' => e = .returned (.bool (txB T)) ∧ w' = w := by
  unfold maxLen at hm
  by_cases h12 : T.length ≤ 12
  · have g12 : ¬ ((12 : Int) < (T.length : Int)) := by omega
    have H12 : Hid (T.length ≤ 12) := h12
    have HV : Hid (TxS w a T) := hv
    clear hv h12
    go_enter Try.func89, Try.ntmps89
    go_wp2
    go_loop [10] (fun i => ∃ k : Nat, k ≤ T.length ∧ i = .int .i64 k ∧ ∀ j, j < k → (T.getD j []).length ≤ 20) (fun i => T.length - (intOf i).toNat)
    case atStart => exact ⟨0, Nat.zero_le _, rfl, fun j hj => by omega⟩
    case round =>
      obtain ⟨k, hk, rfl, hall⟩ := hrel
      have HA : Hid (∀ j, j < k → (T.getD j []).length ≤ 20) := hall
      clear hall
      by_cases hlt : k < T.length
      · rcases HV.out with h0 | ⟨b, off, rfl, hc⟩
        · omega
        have hck := hc k hlt
        have k1 : (k : Int) < (T.length : Int) := by omega
        have k0 : (0 : Int) ≤ (k : Int) := by omega
        clear hc
        by_cases h20 : (T.getD k []).length ≤ 20
        · have g20 : ¬ ((20 : Int) < ((T.getD k []).length : Int)) := by omega
          have HN : Hid (∀ j, j < k + 1 → (T.getD j []).length ≤ 20) := fun j hj => by
            rcases Nat.lt_succ_iff_lt_or_eq.1 hj with h1 | h1
            · exact HA.out j h1
            · rw [h1]; exact h20
          generalize T.getD k [] = t at *
          have hz : (sv t).size = t.length := sv_size t
          clear h20
          go_wp2
          go_round
          case rel => exact ⟨k + 1, by omega, by go_num, HN.out⟩
          case measure => simp [intOf]; omega
        · have g20 : (20 : Int) < ((T.getD k []).length : Int) := by omega
          have HZ : Hid (txB T = false) := txB_long (k := k) hlt h20
          generalize T.getD k [] = t at *
          have hz : (sv t).size = t.length := sv_size t
          clear h20
          go_wp2
          go_ret
          exact ⟨ret_bool (by rw [HZ.out]), rfl⟩
      · have k1 : ¬ ((k : Int) < (T.length : Int)) := by omega
        have HZ : Hid (txB T = true) := txB_all H12.out (fun j hj => HA.out j (by omega))
        go_wp2
        go_ret
        exact ⟨ret_bool (by rw [HZ.out]), rfl⟩
  · have g12 : (12 : Int) < (T.length : Int) := by omega
    have HZ : Hid (txB T = false) := by rw [Hid, txB, decide_eq_false h12]; rfl
    clear hv h12
    go_enter Try.func89, Try.ntmps89
    go_wp2
    go_ret
    exact ⟨ret_bool (by rw [HZ.out]), rfl⟩
theorem hi16 {x m : Int} : ∀ {xs : List Int}, hiL x xs ≤ m ↔ x ≤ m ∧ ∀ y ∈ xs, y ≤ m := by
  intro xs
  induction xs generalizing x with
  | nil => simp [hiL]
  | cons y ys ih =>
    show hiL (max x y) ys ≤ m ↔ _
    rw [ih]
    simp only [List.mem_cons]
    constructor
    · rintro ⟨h1, h2⟩
      exact ⟨by omega, fun z hz => by rcases hz with rfl | hz; omega; exact h2 z hz⟩
    · rintro ⟨h1, h2⟩
      exact ⟨by have := h2 y (.inl rfl); omega, fun z hz => h2 z (.inr hz)⟩
theorem sm_gr {v : List Int} {n : Int} (h1 : (v.length : Int) = n) (h2 : okB v = true) : smB v n = decide (hiL (el v 0) v.tail ≤ 12) := by
  have hl := (okB_len h2).1
  rw [smB, h2, decide_eq_true h1, Bool.true_and, Bool.true_and, Bool.eq_iff_iff, decide_eq_true_eq, hi16, List.all_eq_true]
  cases v with
  | nil => simp at hl
  | cons x xs =>
    simp only [decide_eq_true_eq, List.mem_cons, List.tail_cons]
    constructor
    · intro h
      exact ⟨h _ (.inl rfl), fun y hy => h y (.inr hy)⟩
    · rintro ⟨h, h'⟩ y hy
      rcases hy with rfl | hy
      · exact h
      · exact h' y hy
set_option maxRecDepth 100000 in
set_option maxHeartbeats 800000 in
theorem areCt_any (a : Option Addr) (cap : Nat) (v : List Int) (n : Int) (w : World) (hv : Vec w a v.length v) (hcap : v.length ≤ cap) (hm : cap ≤ maxLen) :
    Calls Try.prog 90 #[.slice a v.length cap, .int .i64 n] w fun e w' => e = .returned (.bool (smB v n)) ∧ ∃ m, w' = w.drewN m := by
  have hV := vok_any a v.length cap v w hv hcap hm
  have hml : v.length ≤ maxLen := Nat.le_trans hcap hm
  unfold maxLen at hml
  by_cases hl : (v.length : Int) = n
  · have e1 : ((v.length : Int) == n) = true := by simpa using hl
    cases hb : okB v with
    | false =>
      rw [hb] at hV
      have HZ : Hid (smB v n = false) := by rw [Hid, smB, hb]; rfl
      clear hb hl hv
      go_enter Try.func90, Try.ntmps90
      go_wp2_with (go_at_call 61; refine hV.mono ?_; rintro e w' ⟨rfl, n1, rfl⟩)
      go_ret
      exact ⟨ret_bool (by rw [HZ.out]), _, rfl⟩
    | true =>
      rw [hb] at hV
      have HZ : Hid (smB v n = decide (hiL (el v 0) v.tail ≤ 12)) := sm_gr hl hb
      have h18 := okB_len hb
      clear hb hl
      obtain ⟨_, hf, hcs⟩ := hv
      have hG : Hid (∀ n, Calls Try.prog 85 #[.slice a v.length cap] (w.drewN n) fun e w' => e = .returned (.int .i64 (hiL (el v 0) v.tail)) ∧ ∃ m, w' = (w.drewN n).drewN m) := by
        intro n
        rcases hcs with h0 | ⟨b, off, rfl, hc⟩
        · omega
        · exact vgreatest_any b off v.length cap v _ rfl hf (fun k hk => by rw [World.cell?_drewN]; exact hc k hk) (by omega) hcap hm
      clear hcs hf h18
      generalize hiL (el v 0) v.tail = G at *
      go_enter Try.func90, Try.ntmps90
      go_wp2_with (first | (go_at_call 61; refine hV.mono ?_; rintro e w' ⟨rfl, n1, rfl⟩) | (go_at_call 85; refine (hG.out _).mono ?_; rintro e w' ⟨rfl, n2, rfl⟩))
      go_ret
      exact ⟨ret_bool (by rw [HZ.out]), _, rfl⟩
  · have e1 : ((v.length : Int) == n) = false := by simpa using hl
    have HZ : Hid (smB v n = false) := by rw [Hid, smB, decide_eq_false hl]; simp
    clear hl hv hV
    go_enter Try.func90, Try.ntmps90
    go_wp2
    go_ret
    exact ⟨ret_bool (by rw [HZ.out]), 0, rfl⟩
theorem sus_row (n : Int) (l : List Int) : decide (okRow n l) = susB l n := by
  rw [Bool.eq_iff_iff, decide_eq_true_eq, susB, Bool.and_eq_true, List.all_eq_true, okRow, risB, decide_eq_true_eq]
  constructor
  · rintro ⟨h1, h2⟩
    refine ⟨fun x hx => ?_, h2⟩
    obtain ⟨j, hj, rfl⟩ := List.mem_iff_getElem.1 hx
    have := h1 j hj
    rw [el_eq hj] at this
    exact inB7.2 this
  · rintro ⟨h1, h2⟩
    exact ⟨fun i hi => inB7.1 (h1 _ (el_mem hi)), h2⟩
set_option maxHeartbeats 800000 in
theorem eqTx_any (a a' : Option Addr) (cap cap' : Nat) (S T : List (List UInt8)) (w : World) (hv : TxS w a S) (hv' : TxS w a' T) (hm : S.length ≤ maxLen) (hl : S.length = T.length) :
    Calls Try.prog 117 #[.slice a S.length cap, .slice a' T.length cap'] w fun e w' => e = .returned (.bool (decide (S = T))) ∧ ∃ n, w' = w.drewN n := by
  unfold maxLen at hm
  have hne : ((S.length : Int) != (T.length : Int)) = false := by simp [hl]
  have HL : Hid (S.length = T.length) := hl
  have HV : Hid (TxS w a S) := hv
  have HV' : Hid (TxS w a' T) := hv'
  clear hl hv hv'
  go_enter Try.func117, Try.ntmps117
  go_wp2
  go_loopw [13] (fun i wr => ∃ k : Nat, k ≤ S.length ∧ i = .int .i64 k ∧ (∀ j, j < k → S.getD j [] = T.getD j []) ∧ ∃ n, wr = w.drewN n) (fun i _ => S.length - (intOf i).toNat)
  case atStart => exact ⟨0, Nat.zero_le _, rfl, fun j hj => by omega, 0, rfl⟩
  case round =>
    obtain ⟨k, hk, rfl, hall, n, rfl⟩ := hrel
    have HA : Hid (∀ j, j < k → S.getD j [] = T.getD j []) := hall
    clear hall
    by_cases hlt : k < S.length
    · have hlq : k < T.length := by rw [← HL.out]; exact hlt
      rcases HV.out with h0 | ⟨b, off, rfl, hc⟩
      · omega
      rcases HV'.out with h0 | ⟨b2, off2, rfl, hc2⟩
      · omega
      have hck := hc k hlt
      have hck2 := hc2 k hlq
      have k1 : (k : Int) < (S.length : Int) := by omega
      have k2 : (k : Int) < (T.length : Int) := by omega
      have k0 : (0 : Int) ≤ (k : Int) := by omega
      clear hc hc2
      by_cases he : S.getD k [] = T.getD k []
      · have HN : Hid (∀ j, j < k + 1 → S.getD j [] = T.getD j []) := fun j hj => by
          rcases Nat.lt_succ_iff_lt_or_eq.1 hj with h1 | h1
          · exact HA.out j h1
          · rw [h1]; exact he
        rw [← he] at hck2
        generalize S.getD k [] = t at *
        have ns : ((sv t).toList == (sv t).toList) = true := by simp
        clear he
        go_wp2_with fail
        go_quiet (fail)
        go_wp2
        go_roundw
        case rel => exact ⟨k + 1, by omega, by go_num, HN.out, _, rfl⟩
        case measure => simp [intOf]; omega
      · have HZ : Hid (decide (S = T) = false) := decide_eq_false (fun h => he (by rw [h]))
        have ns : ((sv (S.getD k [])).toList == (sv (T.getD k [])).toList) = false := by rw [sv_list, sv_list]; simpa using he
        generalize S.getD k [] = t at *
        generalize T.getD k [] = t2 at *
        clear he
        go_wp2_with fail
        go_quiet (fail)
        go_wp2
        go_ret
        exact ⟨ret_bool (by rw [HZ.out]), _, World.drewN_drewN _ _ _⟩
    · have k1 : ¬ ((k : Int) < (S.length : Int)) := by omega
      have HZ : Hid (decide (S = T) = true) := decide_eq_true (List.ext_getElem HL.out (fun i h1 h2 => by
        have := HA.out i (by omega)
        rwa [List.getD_eq_getElem?_getD, List.getElem?_eq_getElem h1, List.getD_eq_getElem?_getD, List.getElem?_eq_getElem h2] at this))
      go_wp2
      go_ret
      exact ⟨ret_bool (by rw [HZ.out]), _, rfl⟩
/-- A first stretch of a list of texts. -/
theorem take_tx {w : World} {a : Option Addr} {cap : Nat} {T : List (List UInt8)} (hv : TxP w a cap T) {j : Nat} (hj : j ≤ T.length) :
    ∃ a' c', (∀ X, (Instr.slice 33 (.slice a T.length cap) none (some (.int .i64 (j : Int))) none).run Try.prog X = .ok (.slice a' j c') X) ∧ TxS w a' (T.take j) := by
  obtain ⟨i0, hi0, hz0, hz1, hz2⟩ := info_parts9 Try.info9
  have hcap : T.length ≤ cap := by
    rcases hv with ⟨rfl, rfl, _⟩ | ⟨b, off, _, h, _⟩
    · exact Nat.le_refl _
    · exact h
  have hs : ∀ X, (Instr.slice 33 (.slice a T.length cap) none (some (.int .i64 (j : Int))) none).run Try.prog X = .ok (sliced a 0 j cap 1) X := fun X => by
    rw [run_slice_h X 33 a T.length cap (by kernel_rfl) .i64 (j : Int) (by omega) (by omega)]
    rw [show Try.prog.elem 33 = 9 by kernel_rfl]
    rw [run_sizeOf X hi0, show Try.prog.cellsOf 9 = 1 by kernel_rfl]
    simp [Result.andThen]
  have hs2 : ∀ X, (Instr.slice 33 (.slice a T.length cap) none (some (.int .i64 (j : Int))) none).run Try.prog X = .ok (.slice a j cap) X := fun X => by
    rw [hs X]
    have e : (if cap = 0 then a else a.map (·.add (0 * 1))) = a := by
      split
      · rfl
      · rcases hv with ⟨rfl, rfl, _⟩ | ⟨b, off, rfl, _⟩
        · omega
        · simp [Addr.add]
    simp only [sliced, e, Nat.sub_zero]
  refine ⟨_, _, hs2, hv.txs.take j⟩
/-- These texts begin with those. -/
def begB (T S : List (List UInt8)) : Bool := decide (S.length ≤ T.length) && decide (T.take S.length = S)
set_option maxHeartbeats 800000 in
theorem begW_any (a b : Option Addr) (cap c : Nat) (T S : List (List UInt8)) (w : World) (hv : TxP w a cap T) (hu : TxS w b S) (hm : T.length ≤ maxLen) (hm2 : S.length ≤ maxLen) :
    Calls Try.prog 115 #[.slice a T.length cap, .slice b S.length c] w fun e w' => e = .returned (.bool (begB T S)) ∧ ∃ n, w' = w.drewN n := by
  by_cases hl : S.length ≤ T.length
  · have k1 : (S.length : Int) ≤ (T.length : Int) := by omega
    obtain ⟨a', c', hs, ht⟩ := take_tx hv hl
    have hE : Calls Try.prog 117 #[.slice b S.length c, .slice a' S.length c'] w fun e w' => e = .returned (.bool (decide (S = T.take S.length))) ∧ ∃ n, w' = w.drewN n := by
      have := eqTx_any b a' c c' S (T.take S.length) w hu ht hm2 (by rw [List.length_take]; omega)
      rw [List.length_take, Nat.min_eq_left hl] at this
      exact this
    have HZ : Hid (begB T S = decide (S = T.take S.length)) := by
      rw [Hid, begB, decide_eq_true hl, Bool.true_and]
      exact decide_eq_decide.2 eq_comm
    generalize decide (S = T.take S.length) = Q at *
    unfold maxLen at hm hm2
    clear hv hu ht hl
    go_enter Try.func115, Try.ntmps115
    go_wp2_with (go_at_call 117; refine hE.mono ?_; rintro e w' ⟨rfl, n1, rfl⟩)
    go_ret
    exact ⟨ret_bool (by rw [HZ.out]), _, rfl⟩
  · have k1 : ¬ ((S.length : Int) ≤ (T.length : Int)) := by omega
    have HZ : Hid (begB T S = false) := by rw [Hid, begB, decide_eq_false hl, Bool.false_and]
    unfold maxLen at hm hm2
    clear hv hu hl
    go_enter Try.func115, Try.ntmps115
    go_wp2
    go_ret
    exact ⟨ret_bool (by rw [HZ.out]), 0, rfl⟩
set_option maxHeartbeats 800000 in
theorem ammI_any (a b : Option Addr) (c d : Nat) (l o : List Int) (w : World) (hv : Vec w a l.length l) (hu : Vec w b o.length o) (hm : l.length ≤ maxLen) (hm2 : o.length ≤ maxLen) :
    Calls Try.prog 116 #[.slice b o.length d, .slice a l.length c] w fun e w' => e = .returned (.bool (o.all (fun x => decide (x ∈ l)))) ∧ w' = w := by
  have hH := fun x => con14_any a c l x w hv hm
  have HU : Hid (Vec w b o.length o) := hu
  unfold maxLen at hm hm2
  clear hu hv
  go_enter Try.func116, Try.ntmps116
  go_wp2
  go_loop [9] (fun i => ∃ k : Nat, k ≤ o.length ∧ i = .int .i64 k ∧ ∀ j, j < k → el o j ∈ l) (fun i => o.length - (intOf i).toNat)
  case atStart => exact ⟨0, Nat.zero_le _, rfl, fun j hj => by omega⟩
  case round =>
    obtain ⟨k, hk, rfl, hall⟩ := hrel
    have HA : Hid (∀ j, j < k → el o j ∈ l) := hall
    clear hall
    by_cases hlt : k < o.length
    · rcases HU.out.2.2 with h0 | ⟨b', off, rfl, hc⟩
      · omega
      have hck := hc k hlt
      have k1 : (k : Int) < (o.length : Int) := by omega
      have k0 : (0 : Int) ≤ (k : Int) := by omega
      have hI := hH (el o k)
      clear hc hH
      by_cases hb : el o k ∈ l
      · rw [decide_eq_true hb] at hI
        have HN : Hid (∀ j, j < k + 1 → el o j ∈ l) := fun j hj => by
          rcases Nat.lt_succ_iff_lt_or_eq.1 hj with h1 | h1
          · exact HA.out j h1
          · rw [h1]; exact hb
        generalize el o k = x at *
        clear hb
        go_wp2_with (go_at_call 118; refine hI.mono ?_; rintro e w' ⟨rfl, hw'⟩; rw [hw']; clear hw')
        go_round
        case rel => exact ⟨k + 1, by omega, by go_num, HN.out⟩
        case measure => simp [intOf]; omega
      · rw [decide_eq_false hb] at hI
        have HZ : Hid (o.all (fun x => decide (x ∈ l)) = false) := all_miss16 hlt hb
        generalize el o k = x at *
        clear hb
        go_wp2_with (go_at_call 118; refine hI.mono ?_; rintro e w' ⟨rfl, hw'⟩; rw [hw']; clear hw')
        go_ret
        exact ⟨ret_bool (by rw [HZ.out]), rfl⟩
    · have k1 : ¬ ((k : Int) < (o.length : Int)) := by omega
      have HZ : Hid (o.all (fun x => decide (x ∈ l)) = true) := all_hit16 (fun j hj => HA.out j (by omega))
      go_wp2
      go_ret
      exact ⟨ret_bool (by rw [HZ.out]), rfl⟩
end Go.Proofs.Ytgaibngaincahaa

/-
  The program's standings of a row: flagged, endsRight, standingOf, RowOk; what each may become: grewTo, mayBecome, Follows; Later and NewRow.
-/
namespace Go.Proofs.Ytgaibngaincahaa
set_option linter.unusedVariables false
set_option linter.unusedSimpArgs false
open Go.RowKit Go.Sort

/-- How far a row has come, as a value. -/
def stV (A : Ra) (r : Rw) : Value := if r.rdy then .iface 97 (rwV A r) else if r.wed then .iface 98 (rwV A r) else .iface 99 (rwV A r)
/-- What of the flags, By and Trim goes together. -/
def flB (r : Rw) : Bool := if r.rdy then r.wed else decide (r.by_ = 0) && decide (r.trm = [])
/-- What is asked where it has a trim. -/
def lsB (r : Rw) (n : Int) : Bool := !r.rdy || (inB r.by_ 0 (n - 1) && smB r.trm n)
theorem endB_fl (r : Rw) (n : Int) : endB r n = (flB r && lsB r n) := by
  unfold endB flB lsB
  cases r.rdy <;> simp
set_option maxRecDepth 100000 in
set_option maxHeartbeats 1600000 in
theorem flag_any (A : Ra) (r : Rw) (w : World) (hm : r.trm.length ≤ maxLen) :
    Calls Try.prog 92 #[rwV A r] w fun e w' => ∃ s, e = .returned (.tuple #[s, .bool (flB r)]) ∧ (flB r = true → s = stV A r) ∧ Below w.heap.size w w' := by
  have hB0 := oneA16 w (.cells (rwC A r) 35)
  have hx := Bx.new w 35 (rwC A r)
  generalize hW : w.alloc (.cells (rwC A r) 35) = W at *
  obtain ⟨ver, txt, got, sus, wed, rdy, by_, trm⟩ := r
  obtain ⟨ta, tc, ga, gc, sa, sc, ma, mc⟩ := A
  have hw0 : w.alloc (.cells #[.int .i64 ver, .slice ta txt.length tc, .slice ga got.length gc, .slice sa sus.length sc, .bool wed, .bool rdy, .int .i64 by_, .slice ma trm.length mc] 35) = W := hW
  obtain ⟨⟨c0, c1, c2, c3⟩, c4, c5, c6, c7⟩ := Bx.r8 hx
  simp only at c0 c1 c2 c3 c4 c5 c6 c7 hm
  have HB0 : Hid (Below w.heap.size w W) := hB0
  unfold maxLen at hm
  unfold rwV rwC
  clear hx hW hB0
  simp only
  cases rdy with
  | true =>
    have HZ : Hid (flB ⟨ver, txt, got, sus, wed, true, by_, trm⟩ = wed) := by rw [Hid, flB]; rfl
    go_enter Try.func92, Try.ntmps92
    go_wp2_with fail
    go_quiet (fail)
    go_wp2
    refine bodyPost_ret (v := .tuple #[.iface 97 (.agg #[.int .i64 ver, .slice ta txt.length tc, .slice ga got.length gc, .slice sa sus.length sc, .bool wed, .bool true, .int .i64 by_, .slice ma trm.length mc]), .bool wed]) (by simp [results, Try.results92, go_sem, *]) rfl ?_
    exact ⟨stV ⟨ta, tc, ga, gc, sa, sc, ma, mc⟩ ⟨ver, txt, got, sus, wed, true, by_, trm⟩, by rw [HZ.out]; rfl, fun _ => rfl, belowN HB0.out⟩
  | false =>
    by_cases hy : by_ = 0
    · have e1 : (by_ != 0) = false := by simpa using hy
      by_cases ht : trm = []
      · have g1 : ¬ ((0 : Int) < (trm.length : Int)) := by rw [ht]; simp
        have HZ : Hid (flB ⟨ver, txt, got, sus, wed, false, by_, trm⟩ = true) := by rw [Hid, flB]; simp [hy, ht]
        clear hy ht
        cases wed with
        | true =>
          go_enter Try.func92, Try.ntmps92
          go_wp2
          refine bodyPost_ret (v := .tuple #[.iface 98 (.agg #[.int .i64 ver, .slice ta txt.length tc, .slice ga got.length gc, .slice sa sus.length sc, .bool true, .bool false, .int .i64 by_, .slice ma trm.length mc]), .bool true]) (by simp [results, Try.results92, go_sem, *]) rfl ?_
          exact ⟨stV ⟨ta, tc, ga, gc, sa, sc, ma, mc⟩ ⟨ver, txt, got, sus, true, false, by_, trm⟩, by rw [HZ.out]; rfl, fun _ => rfl, HB0.out⟩
        | false =>
          go_enter Try.func92, Try.ntmps92
          go_wp2
          refine bodyPost_ret (v := .tuple #[.iface 99 (.agg #[.int .i64 ver, .slice ta txt.length tc, .slice ga got.length gc, .slice sa sus.length sc, .bool false, .bool false, .int .i64 by_, .slice ma trm.length mc]), .bool true]) (by simp [results, Try.results92, go_sem, *]) rfl ?_
          exact ⟨stV ⟨ta, tc, ga, gc, sa, sc, ma, mc⟩ ⟨ver, txt, got, sus, false, false, by_, trm⟩, by rw [HZ.out]; rfl, fun _ => rfl, HB0.out⟩
      · have g1 : (0 : Int) < (trm.length : Int) := by
          cases trm with
          | nil => exact absurd rfl ht
          | cons x xs => simp only [List.length_cons]; omega
        have HZ : Hid (flB ⟨ver, txt, got, sus, wed, false, by_, trm⟩ = false) := by rw [Hid, flB]; simp [ht]
        clear hy ht
        go_enter Try.func92, Try.ntmps92
        go_wp2
        refine bodyPost_ret (v := .tuple #[.nilIface, .bool false]) (by simp [results, Try.results92, go_sem, *]) rfl ?_
        exact ⟨.nilIface, by rw [HZ.out], fun h => (by rw [HZ.out] at h; cases h), HB0.out⟩
    · have e1 : (by_ != 0) = true := by simpa using hy
      have HZ : Hid (flB ⟨ver, txt, got, sus, wed, false, by_, trm⟩ = false) := by rw [Hid, flB]; simp [hy]
      clear hy
      go_enter Try.func92, Try.ntmps92
      go_wp2
      refine bodyPost_ret (v := .tuple #[.nilIface, .bool false]) (by simp [results, Try.results92, go_sem, *]) rfl ?_
      exact ⟨.nilIface, by rw [HZ.out], fun h => (by rw [HZ.out] at h; cases h), HB0.out⟩
theorem asE_any (v : Value) (w : World) : (Instr.typeAssert (.iface 97 v) 75 101 true).run Try.prog w = .ok (.tuple #[.iface 97 v, .bool true]) w := by kernel_rfl
theorem asW_any (v : Value) (w : World) : (Instr.typeAssert (.iface 98 v) 75 101 true).run Try.prog w = .ok (.tuple #[.nilIface, .bool false]) w := run_typeAssert_lacksB Try.underlying101 (by kernel_rfl) (by kernel_rfl) v 75 w
theorem asS_any (v : Value) (w : World) : (Instr.typeAssert (.iface 99 v) 75 101 true).run Try.prog w = .ok (.tuple #[.nilIface, .bool false]) w := run_typeAssert_lacksB Try.underlying101 (by kernel_rfl) (by kernel_rfl) v 75 w
theorem mtE_any (v : Value) (w : World) : (Go.method 223 97 v "loop.example/g00266/impl.end").run Try.prog w = .ok (112, v) w := by kernel_rfl
theorem mbE_any (v : Value) (w : World) : (Go.method 223 97 v "loop.example/g00266/impl.mayBecome").run Try.prog w = .ok (113, v) w := by kernel_rfl
theorem mbW_any (v : Value) (w : World) : (Go.method 223 98 v "loop.example/g00266/impl.mayBecome").run Try.prog w = .ok (120, v) w := by kernel_rfl
theorem mbS_any (v : Value) (w : World) : (Go.method 223 99 v "loop.example/g00266/impl.mayBecome").run Try.prog w = .ok (121, v) w := by kernel_rfl
set_option maxRecDepth 100000 in
set_option maxHeartbeats 800000 in
theorem endI_any (A : Ra) (r : Rw) (w : World) :
    Calls Try.prog 112 #[rwV A r] w fun e w' => e = .returned (.tuple #[.int .i64 r.by_, .slice A.ma r.trm.length A.mc]) ∧ Below w.heap.size w w' := by
  have hB0 := oneA16 w (.cells (rwC A r) 97)
  have hx := Bx.new w 97 (rwC A r)
  generalize hW : w.alloc (.cells (rwC A r) 97) = W at *
  obtain ⟨ver, txt, got, sus, wed, rdy, by_, trm⟩ := r
  obtain ⟨ta, tc, ga, gc, sa, sc, ma, mc⟩ := A
  have hw0 : w.alloc (.cells #[.int .i64 ver, .slice ta txt.length tc, .slice ga got.length gc, .slice sa sus.length sc, .bool wed, .bool rdy, .int .i64 by_, .slice ma trm.length mc] 97) = W := hW
  obtain ⟨⟨c0, c1, c2, c3⟩, c4, c5, c6, c7⟩ := Bx.r8 hx
  simp only at c0 c1 c2 c3 c4 c5 c6 c7
  have HB0 : Hid (Below w.heap.size w W) := hB0
  unfold rwV rwC
  clear hx hW hB0
  simp only
  go_enter Try.func112, Try.ntmps112
  go_wp2_with fail
  go_quiet (fail)
  go_wp2
  refine bodyPost_ret (v := .tuple #[.int .i64 by_, .slice ma trm.length mc]) (by simp [results, Try.results112, go_sem, *]) rfl ?_
  exact ⟨rfl, belowN HB0.out⟩
set_option maxRecDepth 100000 in
set_option maxHeartbeats 1600000 in
theorem endR_any (A : Ra) (r : Rw) (n : Int) (w : World) (hv : RwP w A r) (hn : 1 ≤ n ∧ n ≤ 5) :
    Calls Try.prog 93 #[stV A r, .int .i64 n] w fun e w' => e = .returned (.bool (lsB r n)) ∧ Below w.heap.size w w' := by
  have hwn : wrap64 (n - 1) = n - 1 := by unfold wrap64; omega
  clear hn
  cases e1 : r.rdy with
  | false =>
    have HZ : Hid (lsB r n = true) := by rw [Hid, lsB, e1]; rfl
    unfold stV
    rw [e1]
    clear e1 hv
    cases e2 : r.wed with
    | false =>
      clear e2
      generalize rwV A r = v
      have ha := asS_any v
      simp only [Bool.false_eq_true, if_false]
      go_enter Try.func93, Try.ntmps93
      go_wp2
      go_ret
      exact ⟨ret_bool (by rw [HZ.out]), Below.refl _ _⟩
    | true =>
      clear e2
      generalize rwV A r = v
      have ha := asW_any v
      simp only [Bool.false_eq_true, if_false, if_true]
      go_enter Try.func93, Try.ntmps93
      go_wp2
      go_ret
      exact ⟨ret_bool (by rw [HZ.out]), Below.refl _ _⟩
  | true =>
    have hE := fun X => endI_any A r X
    have HC : Hid (∀ X, Below w.heap.size w X → Calls Try.prog 90 #[.slice A.ma r.trm.length A.mc, .int .i64 n] X fun e w' => e = .returned (.bool (smB r.trm n)) ∧ ∃ m, w' = X.drewN m) := fun X h => areCt_any A.ma A.mc r.trm n X (hv.below h).trm.vec hv.trm.le hv.trm.mx
    have HZ : Hid (lsB r n = (inB r.by_ 0 (n - 1) && smB r.trm n)) := by rw [Hid, lsB, e1]; rfl
    unfold stV
    rw [e1]
    clear e1 hv
    generalize rwV A r = v at *
    generalize r.by_ = Y at *
    generalize r.trm.length = L at *
    generalize smB r.trm n = Q at *
    obtain ⟨ta, tc, ga, gc, sa, sc, ma, mc⟩ := A
    simp only at hE HC
    have ha := asE_any v
    have hm := mtE_any v
    simp only [if_true]
    cases e2 : inB Y 0 (n - 1) with
    | false =>
      rw [e2] at HZ
      go_enter Try.func93, Try.ntmps93
      go_wp2_with (first | (go_at_call 112; refine (hE _).mono ?_; rintro e w1 ⟨rfl, hb1⟩) | (go_at_call 88; refine (isW14_any _ _ _).mono ?_; rintro e w' ⟨rfl, hw'⟩; rw [hw', e2]; clear hw'))
      go_ret
      exact ⟨ret_bool (by rw [HZ.out]; rfl), hb1⟩
    | true =>
      rw [e2] at HZ
      go_enter Try.func93, Try.ntmps93
      go_wp2_with (first | (go_at_call 112; refine (hE _).mono ?_; rintro e w1 ⟨rfl, hb1⟩) | (go_at_call 88; refine (isW14_any _ _ _).mono ?_; rintro e w' ⟨rfl, hw'⟩; rw [hw', e2]; clear hw') | (go_at_call 90; refine (HC.out _ hb1).mono ?_; rintro e w' ⟨rfl, m1, rfl⟩))
      go_ret
      exact ⟨ret_bool (by rw [HZ.out]; rfl), belowN hb1⟩
end Go.Proofs.Ytgaibngaincahaa
