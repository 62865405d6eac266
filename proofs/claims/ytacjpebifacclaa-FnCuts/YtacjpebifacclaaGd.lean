/-
  Several texts in one: Ev Tim Tok Ecp LawTok Src Opn.
-/
import Derived.Test.YtacjpebifacclaaGb
import Derived.Test.YtacjpebifacclaaGc
import Derived.Deep.Slices
import Derived.Deep.Strs
/-
  The contracts of the specification's l2Send, l2Last and TraceOk.
-/
namespace Go.Proofs.Ytacjpebifacclaa
open Go.RowKit Go.Sort

/-- From ⟨b, off⟩ on lie the first len of the events es. -/
def EvsAt (w : World) (b off len : Nat) (es : List Ev) : Prop :=
  ∀ i, i < len → w.cell? ⟨b, off + i * 3, none⟩ = some (.int .i64 (evAt es i).n) ∧ w.cell? ⟨b, off + i * 3 + 1, none⟩ = some (.int .i64 (evAt es i).k) ∧ w.cell? ⟨b, off + i * 3 + 2, none⟩ = some (.int .i64 (evAt es i).m)
theorem EvsAt.grew {w w' : World} {b off len : Nat} {es : List Ev} (h : EvsAt w b off len es) (hg : Grew w w') : EvsAt w' b off len es :=
  fun i hi => ⟨hg.cell (h i hi).1, hg.cell (h i hi).2.1, hg.cell (h i hi).2.2⟩
theorem EvsAt.mono {w : World} {b off len len' : Nat} {es : List Ev} (h : EvsAt w b off len es) (hl : len' ≤ len) : EvsAt w b off len' es := fun i hi => h i (by omega)
theorem EvsAt.drewN {w : World} {b off len : Nat} {es : List Ev} (h : EvsAt w b off len es) (n : Nat) : EvsAt (w.drewN n) b off len es := h

set_option maxHeartbeats 400000 in
theorem l2Send_any (b off len cap : Nat) (m : Int) (es : List Ev) (w : World) (hc : EvsAt w b off len es) (hm : len ≤ maxLen) :
    Calls Try.prog 100 #[.slice (some ⟨b, off, none⟩) len cap, .int .i64 m] w fun e w' => e = .returned (.int .i64 (ixI (firstS es m len))) ∧ w' = w := by
  unfold maxLen at hm
  go_enter Try.func100, Try.ntmps100
  go_wp2
  go_loop [5] (fun i => ∃ k : Nat, k ≤ len ∧ i = .int .i64 k ∧ firstS es m k = none) (fun i => len - (intOf i).toNat)
  case atStart => exact ⟨0, Nat.zero_le _, rfl, rfl⟩
  case round =>
    obtain ⟨k, hk, rfl, hno⟩ := hrel
    have HN : Hid (firstS es m k = none) := hno
    clear hno
    by_cases hlt : k < len
    · obtain ⟨c0, c1, c2⟩ := hc k hlt
      by_cases h2 : (evAt es k).k = 2
      · by_cases hm2 : (evAt es k).m = m
        · have HF : Hid (firstS es m len = some k) := firstS_hit HN.out ⟨h2, hm2⟩ hlt
          have hb : ((evAt es k).m == m) = true := by simpa using hm2
          clear hm2
          go_wp2
          go_ret
          exact ⟨ret_int (by rw [HF.out]; rfl), rfl⟩
        · have HF : Hid (firstS es m (k + 1) = none) := firstS_miss HN.out (fun h => hm2 h.2)
          have hb : ((evAt es k).m == m) = false := by simpa using hm2
          clear hm2
          go_wp2
          go_round
          case rel => exact ⟨k + 1, by omega, by go_num, HF.out⟩
          case measure => simp [intOf]; omega
      · have HF : Hid (firstS es m (k + 1) = none) := firstS_miss HN.out (fun h => h2 h.1)
        have hb : ((evAt es k).k == 2) = false := by simpa using h2
        clear h2
        go_wp2
        go_round
        case rel => exact ⟨k + 1, by omega, by go_num, HF.out⟩
        case measure => simp [intOf]; omega
    · have hkl : k = len := by omega
      subst hkl
      go_wp2
      go_ret
      exact ⟨ret_int (by rw [HN.out]; rfl), rfl⟩

set_option maxHeartbeats 400000 in
theorem l2Last_any (b off len cap k : Nat) (es : List Ev) (w : World) (hc : EvsAt w b off len es) (hm : len ≤ maxLen) (hk : k < len) :
    Calls Try.prog 127 #[.slice (some ⟨b, off, none⟩) len cap, .int .i64 (k : Int)] w fun e w' => e = .returned (.int .i64 (ixI (lastB es (evAt es k).n k))) ∧ ∃ n, w' = w.drewN n := by
  unfold maxLen at hm
  obtain ⟨d0, _, _⟩ := hc k hk
  have hk1 : (k : Int) < (len : Int) := by omega
  have hk0 : (0 : Int) ≤ (k : Int) := by omega
  go_enter Try.func127, Try.ntmps127
  go_wp2
  go_loopw [5] (fun i wr => ∃ j : Nat, j ≤ k ∧ i = .int .i64 ((j : Int) - 1) ∧ lastB es (evAt es k).n k = lastB es (evAt es k).n j ∧ ∃ n, wr = w.drewN n) (fun i _ => (intOf i + 1).toNat)
  case atStart => exact ⟨k, Nat.le_refl _, by go_num, rfl, 0, rfl⟩
  case round =>
    obtain ⟨j, hj, rfl, he, n, rfl⟩ := hrel
    have HE : Hid (lastB es (evAt es k).n k = lastB es (evAt es k).n j) := he
    clear he
    cases j with
    | zero =>
      go_wp2
      go_ret
      exact ⟨ret_int (by rw [HE.out]; rfl), _, rfl⟩
    | succ j =>
      obtain ⟨c0, _, _⟩ := hc j (by omega)
      have ej : (((j + 1 : Nat) : Int) - 1) = (j : Int) := by omega
      rw [ej]
      have hj1 : (j : Int) < (len : Int) := by omega
      have hj0 : (0 : Int) ≤ (j : Int) := by omega
      by_cases hn : (evAt es j).n = (evAt es k).n
      · have HF : Hid (lastB es (evAt es k).n k = some j) := by
          rw [Hid, HE.out]; simp only [lastB]; rw [if_pos hn]
        have hb : ((evAt es j).n == (evAt es k).n) = true := by simpa using hn
        clear hn
        go_wp2_with fail
        go_quiet (fail)
        go_wp2
        go_ret
        exact ⟨ret_int (by rw [HF.out]; rfl), _, World.drewN_drewN _ _ _⟩
      · have HF : Hid (lastB es (evAt es k).n k = lastB es (evAt es k).n j) := by
          rw [Hid, HE.out]; simp only [lastB]; rw [if_neg hn]
        have hb : ((evAt es j).n == (evAt es k).n) = false := by simpa using hn
        clear hn
        go_wp2_with fail
        go_quiet (fail)
        go_wp2
        go_roundw
        case rel => exact ⟨j, by omega, by go_num, HF.out, _, rfl⟩
        case measure => simp [intOf]
end Go.Proofs.Ytacjpebifacclaa

/-
  The contracts of the program's sendOf, slices.Contains, mayFollow and TraceOk.
-/
namespace Go.Proofs.Ytacjpebifacclaa
open Go.RowKit Go.Sort

theorem mixed : Try.prog.follows .mixedOrders = true := by kernel_rfl

/-- An event as a value. -/
def evV (e : Ev) : Value := .agg #[.int .i64 e.n, .int .i64 e.k, .int .i64 e.m]

set_option maxHeartbeats 400000 in
theorem sendC_any (e : Ev) (p : Nat) (m : Int) (w : World) (hp : w.cell? ⟨p, 0, none⟩ = some (.int .i64 m)) :
    Calls Try.prog 137 #[evV e, .pointer (some ⟨p, 0, none⟩)] w fun r w' => r = .returned (.bool (decide (e.k = 2) && decide (e.m = m))) ∧ Grew w w' := by
  have hlt := World.block_lt_of_cell? _ _ hp
  simp only at hlt
  have hne : p ≠ w.heap.size := by omega
  unfold evV
  by_cases h2 : e.k = 2
  · have HB : Hid ((decide (e.k = 2) && decide (e.m = m)) = (e.m == m)) := by
      rw [Hid, h2]; simp [BEq.beq]
    go_enter Try.func137, Try.ntmps137
    go_wp2
    go_ret
    exact ⟨ret_bool (by first | rw [HB.out] | (trace_state; simp [BEq.beq])), (Grew.refl _).alloc _⟩
  · have hb : (e.k == 2) = false := by simpa using h2
    have HB : Hid ((decide (e.k = 2) && decide (e.m = m)) = false) := by
      rw [Hid]; simp [h2]
    clear h2
    go_enter Try.func137, Try.ntmps137
    go_wp2
    go_ret
    exact ⟨ret_bool (by rw [HB.out]), (Grew.refl _).alloc _⟩

set_option maxHeartbeats 400000 in
theorem indexFunc_any (b off len cap p : Nat) (m : Int) (es : List Ev) (w : World) (hc : EvsAt w b off len es) (hm : len ≤ maxLen) (hp : w.cell? ⟨p, 0, none⟩ = some (.int .i64 m)) :
    Calls Try.prog 136 #[.slice (some ⟨b, off, none⟩) len cap, .func (.func 137) #[] #[.pointer (some ⟨p, 0, none⟩)]] w fun e w' => e = .returned (.int .i64 (ixI (firstS es m len))) ∧ Grew w w' := by
  unfold maxLen at hm
  go_enter Try.func136, Try.ntmps136
  go_wp2
  go_loopw [8] (fun i wr => ∃ k : Nat, k ≤ len ∧ i = .int .i64 k ∧ firstS es m k = none ∧ Grew w wr) (fun i _ => len - (intOf i).toNat)
  case atStart => exact ⟨0, Nat.zero_le _, rfl, rfl, Grew.refl _⟩
  case round =>
    obtain ⟨k, hk, rfl, hno, hgr⟩ := hrel
    have HN : Hid (firstS es m k = none) := hno
    have HG : Hid (Grew w wr) := hgr
    have hpr := hgr.cell hp
    clear hno
    by_cases hlt : k < len
    · obtain ⟨c0, c1, c2⟩ := hc.grew hgr k hlt
      have hC := sendC_any (evAt es k) p m wr hpr
      unfold evV at hC
      clear hgr
      by_cases hh : (evAt es k).k = 2 ∧ (evAt es k).m = m
      · have HF : Hid (firstS es m len = some k) := firstS_hit HN.out hh hlt
        have hbt : (decide ((evAt es k).k = 2) && decide ((evAt es k).m = m)) = true := by simp [hh]
        rw [hbt] at hC
        clear hbt hh
        go_wp2_with fail
        refine hC.mono ?_
        rintro e w' ⟨rfl, hg⟩
        have HG2 : Hid (Grew w w') := HG.out.trans hg
        clear hg
        go_wp2
        go_ret
        exact ⟨ret_int (by rw [HF.out]; rfl), HG2.out⟩
      · have HF : Hid (firstS es m (k + 1) = none) := firstS_miss HN.out hh
        have hbt : (decide ((evAt es k).k = 2) && decide ((evAt es k).m = m)) = false := by simpa using hh
        rw [hbt] at hC
        clear hbt hh
        go_wp2_with fail
        refine hC.mono ?_
        rintro e w' ⟨rfl, hg⟩
        have HG2 : Hid (Grew w w') := HG.out.trans hg
        clear hg
        go_wp2
        go_roundw
        case rel => exact ⟨k + 1, by omega, by go_num, HF.out, HG2.out⟩
        case measure => simp [intOf]; omega
    · have hkl : k = len := by omega
      subst hkl
      go_wp2
      go_ret
      exact ⟨ret_int (by rw [HN.out]; rfl), HG.out⟩

set_option maxHeartbeats 400000 in
theorem sendOf_any (b off len cap : Nat) (m : Int) (es : List Ev) (w : World) (hc : EvsAt w b off len es) (hm : len ≤ maxLen) :
    Calls Try.prog 122 #[.slice (some ⟨b, off, none⟩) len cap, .int .i64 m] w fun e w' => e = .returned (.int .i64 (ixI (firstS es m len))) ∧ Grew w w' := by
  have hg0 : Grew w (w.alloc (.cells #[.int .i64 m] 2)) := (Grew.refl _).alloc _
  have hC := indexFunc_any b off len cap w.heap.size m es _ (hc.grew hg0) hm (by simp)
  go_enter Try.func122, Try.ntmps122
  go_wp2_with fail
  refine hC.mono ?_
  rintro e w' ⟨rfl, hg⟩
  have HG : Hid (Grew w w') := hg0.trans hg
  clear hg
  go_wp2
  go_ret
  exact ⟨rfl, HG.out⟩

set_option maxHeartbeats 400000 in
theorem index_any (b off len cap : Nat) (x : Ev) (es : List Ev) (w : World) (hc : EvsAt w b off len es) (hm : len ≤ maxLen) :
    Calls Try.prog 148 #[.slice (some ⟨b, off, none⟩) len cap, evV x] w fun e w' => ∃ z : Int, e = .returned (.int .i64 z) ∧ (hasE es x len = decide (0 ≤ z)) ∧ Grew w w' := by
  unfold maxLen at hm
  unfold evV
  go_enter Try.func148, Try.ntmps148
  go_wp2
  go_loopw [8] (fun i wr => ∃ k n : Nat, k ≤ len ∧ i = .int .i64 k ∧ hasE es x k = false ∧ wr = (w.alloc (Obj.cells #[.int .i64 x.n, .int .i64 x.k, .int .i64 x.m] 47)).drewN n) (fun i _ => len - (intOf i).toNat)
  case atStart => exact ⟨0, 0, Nat.zero_le _, rfl, rfl, rfl⟩
  case round =>
    obtain ⟨k, n, hk, rfl, hno, rfl⟩ := hrel
    have HN : Hid (hasE es x k = false) := hno
    clear hno
    by_cases hlt : k < len
    · obtain ⟨e0, e1, e2⟩ := hc k hlt
      have hlb := World.block_lt_of_cell? _ _ e0
      simp only at hlb
      have hne : b ≠ w.heap.size := by omega
      have hj1 : (k : Int) < (len : Int) := by omega
      have hj0 : (0 : Int) ≤ (k : Int) := by omega
      by_cases hje : evAt es k = x
      · have HF2 : Hid (hasE es x len = true) := hasE_iff.2 ⟨k, hlt, hje⟩
        rw [hje] at e0 e1 e2
        clear hje
        go_wp2_with fail
        go_quiet (fail)
        go_wp2
        go_ret
        exact ⟨(k : Int), rfl, by rw [HF2.out, decide_eq_true hj0], (((Grew.refl _).alloc _).drewN _).drewN _⟩
      · have HN2 : Hid (hasE es x (k + 1) = false) := by
          rw [Hid, hasE, HN.out, decide_eq_false hje]; rfl
        by_cases hp : (evAt es k).n = x.n
        · by_cases hq : (evAt es k).k = x.k
          · have hr : (evAt es k).m ≠ x.m := fun h => hje (by
              cases hx : evAt es k; cases x
              simp only [hx] at hp hq h
              rw [hp, hq, h])
            have hrb : (x.m == (evAt es k).m) = false := by
              have : x.m ≠ (evAt es k).m := fun h => hr h.symm
              simpa using this
            rw [hp] at e0
            rw [hq] at e1
            clear hje hp hq hr
            go_wp2_with fail
            go_quiet (fail)
            go_wp2
            go_roundw
            case rel => exact ⟨k + 1, _, by omega, by go_num, HN2.out, rfl⟩
            case measure => simp [intOf]; omega
          · have hqb : (x.k == (evAt es k).k) = false := by
              have : x.k ≠ (evAt es k).k := fun h => hq h.symm
              simpa using this
            rw [hp] at e0
            clear hje hp hq
            go_wp2_with fail
            go_quiet (fail)
            go_wp2
            go_roundw
            case rel => exact ⟨k + 1, _, by omega, by go_num, HN2.out, rfl⟩
            case measure => simp [intOf]; omega
        · have hpb : (x.n == (evAt es k).n) = false := by
            have : x.n ≠ (evAt es k).n := fun h => hp h.symm
            simpa using this
          clear hje hp
          go_wp2_with fail
          go_quiet (fail)
          go_wp2
          go_roundw
          case rel => exact ⟨k + 1, _, by omega, by go_num, HN2.out, rfl⟩
          case measure => simp [intOf]; omega
    · have hkl : k = len := by omega
      subst hkl
      go_wp2
      go_ret
      exact ⟨-1, rfl, by rw [HN.out]; rfl, ((Grew.refl _).alloc _).drewN _⟩

set_option maxHeartbeats 400000 in
theorem contains_any (b off len cap : Nat) (x : Ev) (es : List Ev) (w : World) (hc : EvsAt w b off len es) (hm : len ≤ maxLen) :
    Calls Try.prog 129 #[.slice (some ⟨b, off, none⟩) len cap, evV x] w fun e w' => e = .returned (.bool (hasE es x len)) ∧ Grew w w' := by
  have hg0 : Grew w (w.alloc (.cells #[.int .i64 x.n, .int .i64 x.k, .int .i64 x.m] 47)) := (Grew.refl _).alloc _
  have hC := index_any b off len cap x es _ (hc.grew hg0) hm
  unfold evV at hC ⊢
  go_enter Try.func129, Try.ntmps129
  go_wp2_with fail
  refine hC.mono ?_
  rintro e w' ⟨z, rfl, hz, hg⟩
  have HZ : Hid (hasE es x len = decide (0 ≤ z)) := hz
  have HG : Hid (Grew w w') := hg0.trans hg
  clear hg hz
  go_wp2
  go_ret
  exact ⟨ret_bool (by rw [HZ.out]), HG.out⟩

theorem mayB_node {es : List Ev} {k : Nat} (h : (evAt es k).n < 0 ∨ 7 < (evAt es k).n) : mayB es k = false := by unfold mayB; rw [if_pos h]
theorem mayB_local {es : List Ev} {k : Nat} (h : ¬ ((evAt es k).n < 0 ∨ 7 < (evAt es k).n)) (hk : (evAt es k).k = 1) : mayB es k = decide ((evAt es k).m = 0) := by unfold mayB; rw [if_neg h, if_pos hk]
theorem mayB_mail {es : List Ev} {k : Nat} (h : ¬ ((evAt es k).n < 0 ∨ 7 < (evAt es k).n)) (hk : (evAt es k).k ≠ 1) (hm : (evAt es k).m < 1 ∨ 1000 < (evAt es k).m) : mayB es k = false := by unfold mayB; rw [if_neg h, if_neg hk, if_pos hm]
theorem mayB_send {es : List Ev} {k : Nat} (h : ¬ ((evAt es k).n < 0 ∨ 7 < (evAt es k).n)) (hm : ¬ ((evAt es k).m < 1 ∨ 1000 < (evAt es k).m)) (hk : (evAt es k).k = 2) : mayB es k = (firstS es (evAt es k).m k).isNone := by
  unfold mayB; rw [if_neg h, if_neg (by omega), if_neg hm, if_pos hk]
theorem mayB_hear {es : List Ev} {k : Nat} (h : ¬ ((evAt es k).n < 0 ∨ 7 < (evAt es k).n)) (hm : ¬ ((evAt es k).m < 1 ∨ 1000 < (evAt es k).m)) (hk : (evAt es k).k = 3) : mayB es k = (match firstS es (evAt es k).m k with
     | none => false
     | some s => decide ((evAt es s).n ≠ (evAt es k).n) && !hasE es (evAt es k) k) := by
  unfold mayB; rw [if_neg h, if_neg (by omega), if_neg hm, if_neg (by omega), if_pos hk]
  rfl
theorem mayB_other {es : List Ev} {k : Nat} (h1 : (evAt es k).k ≠ 1) (h2 : (evAt es k).k ≠ 2) (h3 : (evAt es k).k ≠ 3) : mayB es k = false := by
  unfold mayB; simp [h1, h2, h3]

set_option maxRecDepth 100000 in
set_option maxHeartbeats 1600000 in
theorem mayFollow_any (b off cap k : Nat) (es : List Ev) (w : World) (hc : EvsAt w b off k es) (hm : k ≤ maxLen) :
    Calls Try.prog 99 #[.slice (some ⟨b, off, none⟩) k cap, evV (evAt es k)] w fun e w' => e = .returned (.bool (mayB es k)) ∧ Grew w w' := by
  have hg0 : Grew w (w.alloc (.cells #[.int .i64 (evAt es k).n, .int .i64 (evAt es k).k, .int .i64 (evAt es k).m] 47)) := (Grew.refl _).alloc _
  have HC : Hid (EvsAt w b off k es) := hc
  unfold evV
  clear hc
  by_cases hn0 : (evAt es k).n < 0
  · have HM : Hid (mayB es k = false) := mayB_node (.inl hn0)
    go_enter Try.func99, Try.ntmps99
    go_wp2
    go_ret
    exact ⟨ret_bool (by rw [HM.out]), hg0⟩
  have hn0b : decide ((evAt es k).n < 0) = false := by simpa using hn0
  by_cases hn7 : 7 < (evAt es k).n
  · have HM : Hid (mayB es k = false) := mayB_node (.inr hn7)
    go_enter Try.func99, Try.ntmps99
    go_wp2
    go_ret
    exact ⟨ret_bool (by rw [HM.out]), hg0⟩
  have hn7b : decide (7 < (evAt es k).n) = false := by simpa using hn7
  have hn : ¬ ((evAt es k).n < 0 ∨ 7 < (evAt es k).n) := by omega
  have HNN : Hid (¬ ((evAt es k).n < 0 ∨ 7 < (evAt es k).n)) := hn
  clear hn hn0 hn7
  by_cases hk1 : (evAt es k).k = 1
  · have HM : Hid (mayB es k = decide ((evAt es k).m = 0)) := mayB_local HNN.out hk1
    go_enter Try.func99, Try.ntmps99
    go_wp2
    go_ret
    refine ⟨ret_bool (by rw [HM.out]; rfl), ?_⟩
    rw [hk1] at hg0
    exact hg0
  have hk1b : ((evAt es k).k == 1) = false := by simpa using hk1
  by_cases hm0 : (evAt es k).m < 1
  · have HM : Hid (mayB es k = false) := mayB_mail HNN.out hk1 (.inl hm0)
    clear hk1
    go_enter Try.func99, Try.ntmps99
    go_wp2
    go_ret
    exact ⟨ret_bool (by rw [HM.out]), hg0⟩
  have hm0b : decide ((evAt es k).m < 1) = false := by simpa using hm0
  by_cases hm7 : 1000 < (evAt es k).m
  · have HM : Hid (mayB es k = false) := mayB_mail HNN.out hk1 (.inr hm7)
    clear hk1
    go_enter Try.func99, Try.ntmps99
    go_wp2
    go_ret
    exact ⟨ret_bool (by rw [HM.out]), hg0⟩
  have hm7b : decide (1000 < (evAt es k).m) = false := by simpa using hm7
  have HMM : Hid (¬ ((evAt es k).m < 1 ∨ 1000 < (evAt es k).m)) := by rw [Hid]; omega
  clear hm0 hm7
  have hS := sendOf_any b off k cap (evAt es k).m es _ (HC.out.grew hg0) hm
  by_cases hk2 : (evAt es k).k = 2
  · have HM : Hid (mayB es k = (firstS es (evAt es k).m k).isNone) := mayB_send HNN.out HMM.out hk2
    clear hk1
    rw [hk2] at hS hg0
    go_enter Try.func99, Try.ntmps99
    go_wp2_with fail
    refine hS.mono ?_
    rintro e w1 ⟨rfl, hg1⟩
    have hp := hg1.cell (x := ⟨w.heap.size, 1, none⟩) (v := .int .i64 2) (by simp)
    have HG1 : Hid (Grew w w1) := hg0.trans hg1
    clear hg1
    cases hf : firstS es (evAt es k).m k with
    | none =>
      simp only [ixI]
      go_wp2
      go_ret
      exact ⟨ret_bool (by rw [HM.out, hf]; rfl), HG1.out⟩
    | some s =>
      simp only [ixI]
      have hs0 : (0 : Int) ≤ (s : Int) := by omega
      have hs0b : decide ((s : Int) < 0) = false := by simp
      go_wp2
      go_ret
      exact ⟨ret_bool (by rw [HM.out, hf]; rfl), HG1.out⟩
  have hk2b : ((evAt es k).k == 2) = false := by simpa using hk2
  by_cases hk3 : (evAt es k).k = 3
  · have HM : Hid (mayB es k = (match firstS es (evAt es k).m k with
     | none => false
     | some s => decide ((evAt es s).n ≠ (evAt es k).n) && !hasE es (evAt es k) k)) := mayB_hear HNN.out HMM.out hk3
    clear hk1 hk2
    have hX := fun (X : World) (hx : Grew w X) => contains_any b off k cap (evAt es k) es X (HC.out.grew hx) hm
    unfold evV at hX
    rw [hk3] at hS hg0 hX
    go_enter Try.func99, Try.ntmps99
    go_wp2_with fail
    refine hS.mono ?_
    rintro e w1 ⟨rfl, hg1⟩
    have p0 := hg1.cell (x := ⟨w.heap.size, 0, none⟩) (v := .int .i64 (evAt es k).n) (by simp)
    have p1 := hg1.cell (x := ⟨w.heap.size, 1, none⟩) (v := .int .i64 3) (by simp)
    have p2 := hg1.cell (x := ⟨w.heap.size, 2, none⟩) (v := .int .i64 (evAt es k).m) (by simp)
    have HG1 : Hid (Grew w w1) := hg0.trans hg1
    clear hg1
    cases hf : firstS es (evAt es k).m k with
    | none =>
      simp only [ixI]
      go_wp2_with fail
      go_quiet (fail)
      go_wp2
      go_ret
      exact ⟨ret_bool (by rw [HM.out, hf]), HG1.out.drewN _⟩
    | some s =>
      simp only [ixI]
      have hsl := (firstS_some hf).1
      obtain ⟨s0, _, _⟩ := HC.out.grew HG1.out s (by omega)
      have hs1 : (s : Int) < (k : Int) := by omega
      have hs0 : (0 : Int) ≤ (s : Int) := by omega
      by_cases hns : (evAt es s).n = (evAt es k).n
      · have HM2 : Hid (mayB es k = false) := by rw [Hid, HM.out, hf]; simp [hns]
        have hnb : ((evAt es s).n != (evAt es k).n) = false := by simpa using hns
        clear hns hf
        go_wp2_with fail
        go_quiet (fail)
        go_wp2
        go_ret
        exact ⟨ret_bool (by rw [HM2.out]), HG1.out.drewN _⟩
      · have HM2 : Hid (mayB es k = !hasE es (evAt es k) k) := by rw [Hid, HM.out, hf]; simp [hns]
        have hnb : ((evAt es s).n != (evAt es k).n) = true := by simpa using hns
        have q0 := cell_grown (World.block_lt_of_cell? _ _ p0) p0
        have q1 := cell_grown (World.block_lt_of_cell? _ _ p1) p1
        have q2 := cell_grown (World.block_lt_of_cell? _ _ p2) p2
        have q3 := cell_grown (World.block_lt_of_cell? _ _ s0) s0
        clear hns hf
        go_wp2_with fail
        clear p0 p1 p2 s0
        have hmix := mixed
        go_quiet_grown (first | (go_at_call 129; exact grown_at (hX _ (HG1.out.trans (Grew.of_grow _ _ _)))))
        go_wp2
        go_ret
        exact ⟨ret_bool (by rw [HM2.out]), HG1.out.trans (Grew.of_grow _ _ _)⟩
  · have hk3b : ((evAt es k).k == 3) = false := by simpa using hk3
    have HM : Hid (mayB es k = false) := mayB_other hk1 hk2 hk3
    clear hk1 hk2 hk3
    go_enter Try.func99, Try.ntmps99
    go_wp2_with fail
    refine hS.mono ?_
    rintro e w1 ⟨rfl, hg1⟩
    have hp := hg1.cell (x := ⟨w.heap.size, 1, none⟩) (v := .int .i64 (evAt es k).k) (by simp)
    have HG1 : Hid (Grew w w1) := hg0.trans hg1
    clear hg1
    go_wp2
    go_ret
    exact ⟨ret_bool (by rw [HM.out]), HG1.out⟩

set_option maxRecDepth 100000 in
set_option maxHeartbeats 1600000 in
theorem implTok_any (b off len cap : Nat) (es : List Ev) (w : World) (hc : EvsAt w b off len es) (hm : len ≤ maxLen) (hcap : len ≤ cap) :
    Calls Try.prog 39 #[.slice (some ⟨b, off, none⟩) len cap] w fun e w' => e = .returned (.bool (okT es len)) ∧ Grew w w' := by
  unfold maxLen at hm
  by_cases h40 : (40 : Int) < (len : Int)
  · go_enter Try.func39, Try.ntmps39
    go_wp2
    go_ret
    exact ⟨ret_bool (by unfold okT; rw [decide_eq_false (by omega)]; rfl), Grew.refl _⟩
  · have h40' : decide ((40 : Int) < (len : Int)) = false := by simpa using h40
    have hcap' : (len : Int) ≤ (cap : Int) := by omega
    go_enter Try.func39, Try.ntmps39
    go_wp2
    go_loopw [10] (fun i wr => ∃ k : Nat, k ≤ len ∧ i = .int .i64 k ∧ allE es k = true ∧ Grew w wr) (fun i _ => len - (intOf i).toNat)
    case atStart => exact ⟨0, Nat.zero_le _, rfl, rfl, Grew.refl _⟩
    case round =>
      obtain ⟨k, hk, rfl, hall, hgr⟩ := hrel
      have HA : Hid (allE es k = true) := hall
      have HG : Hid (Grew w wr) := hgr
      have HC : Hid (EvsAt wr b off len es) := hc.grew hgr
      clear hgr
      by_cases hlt : k < len
      · obtain ⟨c0, c1, c2⟩ := HC.out k hlt
        have hlb := World.block_lt_of_cell? _ _ c0
        simp only at hlb
        have hne : b ≠ wr.heap.size := by omega
        have hkc : (k : Int) ≤ (cap : Int) := by omega
        have hk0 : (0 : Int) ≤ (k : Int) := by omega
        have hM := fun (X : World) (hx : Grew wr X) => mayFollow_any b off cap k es X ((HC.out.grew hx).mono hk) (by unfold maxLen; omega)
        rw [mayB_eq hall] at hM
        unfold evV at hM
        have q0 := cell_grown (w := wr.alloc (Obj.cells #[.int .i64 (evAt es k).n, .int .i64 (evAt es k).k, .int .i64 (evAt es k).m] 47)) (a := ⟨wr.heap.size, 0, none⟩) (v := .int .i64 (evAt es k).n) (by simp) (by simp)
        have q1 := cell_grown (w := wr.alloc (Obj.cells #[.int .i64 (evAt es k).n, .int .i64 (evAt es k).k, .int .i64 (evAt es k).m] 47)) (a := ⟨wr.heap.size, 1, none⟩) (v := .int .i64 (evAt es k).k) (by simp) (by simp)
        have q2 := cell_grown (w := wr.alloc (Obj.cells #[.int .i64 (evAt es k).n, .int .i64 (evAt es k).k, .int .i64 (evAt es k).m] 47)) (a := ⟨wr.heap.size, 2, none⟩) (v := .int .i64 (evAt es k).m) (by simp) (by simp)
        clear hall
        cases ho : okE es k
        · have HO : Hid (okT es len = false) := by rw [Hid, okT, allE_false ho hlt, Bool.and_false]
          rw [ho] at hM
          clear ho
          go_wp2_with fail
          have hmix := mixed
          go_quiet_grown (first | (go_at_call 99; exact grown_at (hM _ (((Grew.refl _).alloc _).trans (Grew.of_grow _ _ _)))))
          go_wp2
          go_ret
          exact ⟨ret_bool (by rw [HO.out]), (HG.out.alloc _).trans (Grew.of_grow _ _ _)⟩
        · have HA2 : Hid (allE es (k + 1) = true) := by rw [Hid, allE, HA.out, ho]; rfl
          rw [ho] at hM
          clear ho
          go_wp2_with fail
          have hmix := mixed
          go_quiet_grown (first | (go_at_call 99; exact grown_at (hM _ (((Grew.refl _).alloc _).trans (Grew.of_grow _ _ _)))))
          go_wp2
          go_roundw
          case rel => exact ⟨k + 1, by omega, by go_num, HA2.out, (HG.out.alloc _).trans (Grew.of_grow _ _ _)⟩
          case measure => simp [intOf]; omega
      · have hkl : k = len := by omega
        subst hkl
        go_wp2
        go_ret
        exact ⟨ret_bool (by unfold okT; rw [HA.out, decide_eq_true (by omega)]; rfl), HG.out⟩
end Go.Proofs.Ytacjpebifacclaa

/-
  The contract of the specification's TraceOk.
-/
namespace Go.Proofs.Ytacjpebifacclaa
open Go.RowKit Go.Sort

theorem okE_node {es : List Ev} {k : Nat} (h : inB (evAt es k).n 0 7 = false) : okE es k = false := by
  unfold okE; rw [show rangeB (evAt es k).n 0 7 = inB (evAt es k).n 0 7 from rfl, h]; rfl
theorem okE_local {es : List Ev} {k : Nat} (h : inB (evAt es k).n 0 7 = true) (hk : (evAt es k).k = 1) : okE es k = decide ((evAt es k).m = 0) := by
  unfold okE; rw [show rangeB (evAt es k).n 0 7 = inB (evAt es k).n 0 7 from rfl, h, if_pos hk]; rfl
theorem okE_send {es : List Ev} {k : Nat} (h : inB (evAt es k).n 0 7 = true) (hk : (evAt es k).k = 2) : okE es k = (inB (evAt es k).m 1 1000 && (firstS es (evAt es k).m k).isNone) := by
  unfold okE; rw [show rangeB (evAt es k).n 0 7 = inB (evAt es k).n 0 7 from rfl, h, if_neg (by omega), if_pos hk]; rfl
theorem okE_hear {es : List Ev} {k : Nat} (h : inB (evAt es k).n 0 7 = true) (hk : (evAt es k).k = 3) : okE es k = (match firstS es (evAt es k).m k with
        | none => false
        | some s => decide ((evAt es s).n ≠ (evAt es k).n) && !hasE es (evAt es k) k) := by
  unfold okE; rw [show rangeB (evAt es k).n 0 7 = inB (evAt es k).n 0 7 from rfl, h, if_neg (by omega), if_neg (by omega), if_pos hk]; rfl
theorem okE_other {es : List Ev} {k : Nat} (h1 : (evAt es k).k ≠ 1) (h2 : (evAt es k).k ≠ 2) (h3 : (evAt es k).k ≠ 3) : okE es k = false := by
  unfold okE; rw [if_neg h1, if_neg h2, if_neg h3, Bool.and_false]
theorem okT_bad {es : List Ev} {k len : Nat} (h : okE es k = false) (hk : k < len) : okT es len = false := by
  unfold okT; rw [allE_false h hk, Bool.and_false]
theorem allE_next {es : List Ev} {k : Nat} (h : allE es k = true) (hk : okE es k = true) : allE es (k + 1) = true := by
  simp only [allE, h, hk]; rfl
theorem ev_beq {a b : Ev} (h : a ≠ b) : (a.n == b.n && (a.k == b.k && a.m == b.m)) = false := by
  cases a; cases b
  simp at h ⊢
  exact h

set_option maxRecDepth 100000 in
set_option maxHeartbeats 1600000 in
theorem specTok_any (b off len cap : Nat) (es : List Ev) (w : World) (hc : EvsAt w b off len es) (hm : len ≤ maxLen) (hcap : len ≤ cap) :
    Calls Try.prog 40 #[.slice (some ⟨b, off, none⟩) len cap] w fun e w' => e = .returned (.bool (okT es len)) ∧ Grew w w' := by
  unfold maxLen at hm
  by_cases h40 : (40 : Int) < (len : Int)
  · go_enter Try.func40, Try.ntmps40
    go_wp2
    go_ret
    exact ⟨ret_bool (by unfold okT; rw [decide_eq_false (by omega)]; rfl), Grew.refl _⟩
  · have h40' : decide ((40 : Int) < (len : Int)) = false := by simpa using h40
    have hcap' : (len : Int) ≤ (cap : Int) := by omega
    go_enter Try.func40, Try.ntmps40
    go_wp2
    go_loopw [3] (fun i wr => ∃ k : Nat, k ≤ len ∧ i = .int .i64 k ∧ allE es k = true ∧ Grew w wr) (fun i _ => len - (intOf i).toNat)
    case atStart => exact ⟨0, Nat.zero_le _, rfl, rfl, Grew.refl _⟩
    case round =>
      obtain ⟨k, hk, rfl, hall, hgr⟩ := hrel
      have HA : Hid (allE es k = true) := hall
      have HG : Hid (Grew w wr) := hgr
      have HC : Hid (EvsAt wr b off len es) := hc.grew hgr
      clear hall hgr
      by_cases hlt : k < len
      · obtain ⟨c0, c1, c2⟩ := HC.out k hlt
        have hlb := World.block_lt_of_cell? _ _ c0
        simp only at hlb
        have hne : b ≠ wr.heap.size := by omega
        have hkc : (k : Int) ≤ (cap : Int) := by omega
        have hk0 : (0 : Int) ≤ (k : Int) := by omega
        cases hn : inB (evAt es k).n 0 7
        · have HO : Hid (okT es len = false) := okT_bad (okE_node hn) hlt
          go_wp2_with (go_at_call 85; refine (l1In_any _ _ _ _).mono ?_; rintro e w' ⟨rfl, rfl⟩)
          go_ret
          exact ⟨ret_bool (by rw [HO.out]), (HG.out.alloc _)⟩
        · by_cases hk1 : (evAt es k).k = 1
          · have HO : Hid (okE es k = decide ((evAt es k).m = 0)) := okE_local hn hk1
            by_cases hm0 : (evAt es k).m = 0
            · go_wp2_with (go_at_call 85; refine (l1In_any _ _ _ _).mono ?_; rintro e w' ⟨rfl, rfl⟩)
              go_roundw
              case rel => exact ⟨k + 1, by omega, by go_num, allE_next HA.out (by rw [HO.out]; simpa using hm0), HG.out.alloc _⟩
              case measure => simp [intOf]; omega
            · have hmb : ((evAt es k).m != 0) = true := by simpa using hm0
              go_wp2_with (go_at_call 85; refine (l1In_any _ _ _ _).mono ?_; rintro e w' ⟨rfl, rfl⟩)
              go_ret
              exact ⟨ret_bool (by rw [okT_bad (by rw [HO.out]; simpa using hm0) hlt]), HG.out.alloc _⟩
          · have hk1b : ((evAt es k).k == 1) = false := by simpa using hk1
            by_cases hk2 : (evAt es k).k = 2
            · have HO : Hid (okE es k = (inB (evAt es k).m 1 1000 && (firstS es (evAt es k).m k).isNone)) := okE_send hn hk2
              cases hin : inB (evAt es k).m 1 1000
              · clear hk1
                go_wp2_with (go_at_call 85; refine (l1In_any _ _ _ _).mono ?_; rintro e w' ⟨rfl, rfl⟩)
                go_quiet (first | (go_at_call 85; exact (l1In_any _ _ _ _).mono (fun e w' h => ⟨h.1, _, h.2⟩)))
                go_wp2
                go_ret
                exact ⟨ret_bool (by rw [okT_bad (by rw [HO.out, hin]; rfl) hlt]), (HG.out.alloc _).drewN _⟩
              · cases hf : firstS es (evAt es k).m k with
                | none =>
                  have hS : ∀ (X : World), Grew wr X → Calls Try.prog 100 #[.slice (some ⟨b, off, none⟩) k cap, .int .i64 (evAt es k).m] X fun e w' => e = .returned (.int .i64 (-1)) ∧ w' = X := fun X hX =>
                    (l2Send_any b off k cap _ es _ ((HC.out.grew hX).mono (by omega)) (by unfold maxLen; omega)).mono (fun e w' h => by rw [hf] at h; exact h)
                  have HF : Hid (okE es k = true) := by rw [Hid, HO.out, hin, hf]; rfl
                  clear hk1 hf
                  go_wp2_with (go_at_call 85; refine (l1In_any _ _ _ _).mono ?_; rintro e w' ⟨rfl, rfl⟩)
                  go_quiet (first | (go_at_call 85; exact (l1In_any _ _ _ _).mono (fun e w' h => ⟨h.1, _, h.2⟩)) | (go_at_call 100; exact (hS _ (((Grew.refl _).alloc _).drewN _)).mono (fun e w' h => ⟨h.1, _, h.2⟩)))
                  go_wp2
                  go_roundw
                  case rel => exact ⟨k + 1, by omega, by go_num, allE_next HA.out HF.out, (HG.out.alloc _).drewN _⟩
                  case measure => simp [intOf]; omega
                | some s =>
                  have hS : ∀ (X : World), Grew wr X → Calls Try.prog 100 #[.slice (some ⟨b, off, none⟩) k cap, .int .i64 (evAt es k).m] X fun e w' => e = .returned (.int .i64 (s : Int)) ∧ w' = X := fun X hX =>
                    (l2Send_any b off k cap _ es _ ((HC.out.grew hX).mono (by omega)) (by unfold maxLen; omega)).mono (fun e w' h => by rw [hf] at h; exact h)
                  have HF : Hid (okE es k = false) := by rw [Hid, HO.out, hin, hf]; rfl
                  clear hk1 hf
                  go_wp2_with (go_at_call 85; refine (l1In_any _ _ _ _).mono ?_; rintro e w' ⟨rfl, rfl⟩)
                  go_quiet (first | (go_at_call 85; exact (l1In_any _ _ _ _).mono (fun e w' h => ⟨h.1, _, h.2⟩)) | (go_at_call 100; exact (hS _ (((Grew.refl _).alloc _).drewN _)).mono (fun e w' h => ⟨h.1, _, h.2⟩)))
                  go_wp2
                  go_ret
                  exact ⟨ret_bool (by rw [okT_bad HF.out hlt]), (HG.out.alloc _).drewN _⟩
            · have hk2b : ((evAt es k).k == 2) = false := by simpa using hk2
              by_cases hk3 : (evAt es k).k = 3
              · have HO : Hid (okE es k = (match firstS es (evAt es k).m k with
                  | none => false
                  | some s => decide ((evAt es s).n ≠ (evAt es k).n) && !hasE es (evAt es k) k)) := okE_hear hn hk3
                cases hf : firstS es (evAt es k).m k with
                | none =>
                  have hS : ∀ (X : World), Grew wr X → Calls Try.prog 100 #[.slice (some ⟨b, off, none⟩) k cap, .int .i64 (evAt es k).m] X fun e w' => e = .returned (.int .i64 (-1)) ∧ w' = X := fun X hX =>
                    (l2Send_any b off k cap _ es _ ((HC.out.grew hX).mono (by omega)) (by unfold maxLen; omega)).mono (fun e w' h => by rw [hf] at h; exact h)
                  have HF : Hid (okE es k = false) := by rw [Hid, HO.out, hf]
                  clear hk1 hk2 hf
                  go_wp2_with (go_at_call 85; refine (l1In_any _ _ _ _).mono ?_; rintro e w' ⟨rfl, rfl⟩)
                  go_quiet (first | (go_at_call 100; exact (hS _ (((Grew.refl _).alloc _).drewN _)).mono (fun e w' h => ⟨h.1, _, h.2⟩)))
                  go_wp2_with fail
                  go_quiet (fail)
                  go_wp2
                  go_ret
                  exact ⟨ret_bool (by rw [okT_bad HF.out hlt]), ((HG.out.alloc _).drewN _).drewN _⟩
                | some s =>
                  have hS : ∀ (X : World), Grew wr X → Calls Try.prog 100 #[.slice (some ⟨b, off, none⟩) k cap, .int .i64 (evAt es k).m] X fun e w' => e = .returned (.int .i64 (s : Int)) ∧ w' = X := fun X hX =>
                    (l2Send_any b off k cap _ es _ ((HC.out.grew hX).mono (by omega)) (by unfold maxLen; omega)).mono (fun e w' h => by rw [hf] at h; exact h)
                  have hsl := (firstS_some hf).1
                  obtain ⟨s0, _, _⟩ := HC.out s (by omega)
                  have hs1 : (s : Int) < (len : Int) := by omega
                  have hs0 : (0 : Int) ≤ (s : Int) := by omega
                  by_cases hns : (evAt es s).n = (evAt es k).n
                  · have HF : Hid (okE es k = false) := by rw [Hid, HO.out, hf]; simp [hns]
                    have hnb : ((evAt es s).n == (evAt es k).n) = true := by simpa using hns
                    clear hk1 hk2 hf hns
                    go_wp2_with (go_at_call 85; refine (l1In_any _ _ _ _).mono ?_; rintro e w' ⟨rfl, rfl⟩)
                    go_quiet (first | (go_at_call 100; exact (hS _ (((Grew.refl _).alloc _).drewN _)).mono (fun e w' h => ⟨h.1, _, h.2⟩)))
                    go_wp2_with fail
                    go_quiet (fail)
                    go_wp2
                    go_ret
                    exact ⟨ret_bool (by rw [okT_bad HF.out hlt]), ((HG.out.alloc _).drewN _).drewN _⟩
                  · have HF : Hid (okE es k = !hasE es (evAt es k) k) := by rw [Hid, HO.out, hf]; simp [hns]
                    have hnb : ((evAt es s).n == (evAt es k).n) = false := by simpa using hns
                    clear hk1 hk2 hf hns
                    go_wp2_with (go_at_call 85; refine (l1In_any _ _ _ _).mono ?_; rintro e w' ⟨rfl, rfl⟩)
                    go_quiet (first | (go_at_call 100; exact (hS _ (((Grew.refl _).alloc _).drewN _)).mono (fun e w' h => ⟨h.1, _, h.2⟩)))
                    go_wp2_with fail
                    go_quiet (fail)
                    go_wp2
                    go_loopw [6] (fun i wx => ∃ j n : Nat, j ≤ k ∧ i = .int .i64 j ∧ hasE es (evAt es k) j = false ∧ wx = (wr.alloc (Obj.cells #[Value.int IntKind.i64 (evAt es k).n, Value.int IntKind.i64 3, Value.int IntKind.i64 (evAt es k).m] 47)).drewN n) (fun i _ => k - (intOf i).toNat)
                    case atStart => exact ⟨0, _, Nat.zero_le _, rfl, rfl, World.drewN_drewN _ _ _⟩
                    case round =>
                      obtain ⟨j, n, hj, rfl, hno, rfl⟩ := hrel
                      have HN : Hid (hasE es (evAt es k) j = false) := hno
                      clear hno
                      by_cases hjk : j < k
                      · obtain ⟨e0, e1, e2⟩ := HC.out j (by omega)
                        have hj1 : (j : Int) < (len : Int) := by omega
                        have hj0 : (0 : Int) ≤ (j : Int) := by omega
                        by_cases hje : evAt es j = evAt es k
                        · have HF2 : Hid (okE es k = false) := by
                            rw [Hid, HF.out, hasE_iff.2 ⟨j, hjk, hje⟩]; rfl
                          rw [hje, hk3] at e1
                          rw [hje] at e0 e2
                          clear hje
                          go_wp2_with fail
                          go_quiet (fail)
                          go_wp2
                          go_ret
                          exact ⟨ret_bool (by rw [okT_bad HF2.out hlt]), ((HG.out.alloc _).drewN _).drewN _⟩
                        · have HN2 : Hid (hasE es (evAt es k) (j + 1) = false) := by
                            rw [Hid, hasE, HN.out, decide_eq_false hje]; rfl
                          by_cases hp : (evAt es j).n = (evAt es k).n
                          · by_cases hq : (evAt es j).k = 3
                            · have hr : (evAt es j).m ≠ (evAt es k).m := fun h => hje (by
                                cases hx : evAt es j; cases hy : evAt es k
                                simp only [hx, hy] at hp hq hk3 h
                                rw [hp, hq, hk3, h])
                              have hrb : ((evAt es j).m == (evAt es k).m) = false := by simpa using hr
                              rw [hp] at e0
                              rw [hq] at e1
                              clear hje hp hq hr
                              go_wp2_with fail
                              go_quiet (fail)
                              go_wp2
                              go_roundw
                              case rel => exact ⟨j + 1, _, by omega, by go_num, HN2.out, rfl⟩
                              case measure => simp [intOf]; omega
                            · have hqb : ((evAt es j).k == 3) = false := by simpa using hq
                              rw [hp] at e0
                              clear hje hp hq
                              go_wp2_with fail
                              go_quiet (fail)
                              go_wp2
                              go_roundw
                              case rel => exact ⟨j + 1, _, by omega, by go_num, HN2.out, rfl⟩
                              case measure => simp [intOf]; omega
                          · have hpb : ((evAt es j).n == (evAt es k).n) = false := by simpa using hp
                            clear hje hp
                            go_wp2_with fail
                            go_quiet (fail)
                            go_wp2
                            go_roundw
                            case rel => exact ⟨j + 1, _, by omega, by go_num, HN2.out, rfl⟩
                            case measure => simp [intOf]; omega
                      · have hjl : j = k := by omega
                        subst hjl
                        have HF2 : Hid (okE es j = true) := by rw [Hid, HF.out, HN.out]; rfl
                        go_wp2
                        go_roundw
                        case rel => exact ⟨j + 1, by omega, by go_num, allE_next HA.out HF2.out, (HG.out.alloc _).drewN _⟩
                        case measure => simp [intOf]; omega
              · have hk3b : ((evAt es k).k == 3) = false := by simpa using hk3
                have HF : Hid (okE es k = false) := okE_other hk1 hk2 hk3
                clear hk1 hk2 hk3
                go_wp2_with (go_at_call 85; refine (l1In_any _ _ _ _).mono ?_; rintro e w' ⟨rfl, rfl⟩)
                go_ret
                exact ⟨ret_bool (by rw [okT_bad HF.out hlt]), (HG.out.alloc _)⟩
      · have hkl : k = len := by omega
        subst hkl
        go_wp2
        go_ret
        exact ⟨ret_bool (by unfold okT; rw [HA.out, decide_eq_true (by omega)]; rfl), HG.out⟩
end Go.Proofs.Ytacjpebifacclaa

/-
  The contracts of the laws' own helpers on events: toEventS, eqEventS, markEventS.
-/
namespace Go.Proofs.Ytacjpebifacclaa
open Go.RowKit Go.Sort

/-- Cell j of a row of events. -/
def evF (es : List Ev) (j : Nat) : Value :=
  if j % 3 = 0 then .int .i64 (evAt es (j / 3)).n else if j % 3 = 1 then .int .i64 (evAt es (j / 3)).k else .int .i64 (evAt es (j / 3)).m
theorem evF0 (es : List Ev) (k : Nat) : evF es (k * 3) = .int .i64 (evAt es k).n := by
  unfold evF; rw [if_pos (by omega), show k * 3 / 3 = k by omega]
theorem evF1 (es : List Ev) (k : Nat) : evF es (k * 3 + 1) = .int .i64 (evAt es k).k := by
  unfold evF; rw [if_neg (by omega), if_pos (by omega), show (k * 3 + 1) / 3 = k by omega]
theorem evF2 (es : List Ev) (k : Nat) : evF es (k * 3 + 2) = .int .i64 (evAt es k).m := by
  unfold evF; rw [if_neg (by omega), if_neg (by omega), show (k * 3 + 2) / 3 = k by omega]
/-- A row of events of its own. -/
def EvRow (w : World) (b n : Nat) (es : List Ev) : Prop := w.rowIs b 47 (n * 3) (evF es)
theorem EvRow.at {w : World} {b n : Nat} {es : List Ev} (h : EvRow w b n es) : EvsAt w b 0 n es := fun i hi => by
  refine ⟨?_, ?_, ?_⟩
  · rw [Nat.zero_add, World.rowIs.cell h (by omega), evF0]
  · rw [Nat.zero_add, World.rowIs.cell h (by omega), evF1]
  · rw [Nat.zero_add, World.rowIs.cell h (by omega), evF2]
theorem EvRow.grew {w w' : World} {b n : Nat} {es : List Ev} (h : EvRow w b n es) (hg : Grew w w') : EvRow w' b n es := World.rowIs.of_block h (hg.1.block b (World.rowIs.lt h))
theorem EvRow.lt {w : World} {b n : Nat} {es : List Ev} (h : EvRow w b n es) : b < w.heap.size := World.rowIs.lt h
/-- A slice of events that came in. -/
def EvS (w : World) (a : Option Addr) (len : Nat) (es : List Ev) : Prop := len = 0 ∨ ∃ b off, a = some ⟨b, off, none⟩ ∧ EvsAt w b off len es
theorem EvS.grew {w w' : World} {a : Option Addr} {len : Nat} {es : List Ev} (h : EvS w a len es) (hg : Grew w w') : EvS w' a len es := by
  rcases h with h | ⟨b, off, rfl, h⟩
  · exact .inl h
  · exact .inr ⟨b, off, rfl, h.grew hg⟩
theorem EvS.below {w w' : World} {a : Option Addr} {len B : Nat} {es : List Ev} (h : EvS w a len es) (hb : Below B w w') (hB : w.heap.size ≤ B) : EvS w' a len es := by
  rcases h with h | ⟨b, off, rfl, h⟩
  · exact .inl h
  · refine .inr ⟨b, off, rfl, fun i hi => ?_⟩
    obtain ⟨h0, h1, h2⟩ := h i hi
    exact ⟨(hb.cell (Nat.lt_of_lt_of_le (World.block_lt_of_cell? _ _ h0) hB)).trans h0, (hb.cell (Nat.lt_of_lt_of_le (World.block_lt_of_cell? _ _ h1) hB)).trans h1, (hb.cell (Nat.lt_of_lt_of_le (World.block_lt_of_cell? _ _ h2) hB)).trans h2⟩

set_option maxHeartbeats 400000 in
theorem toEvent_any (e : Ev) (w : World) : Calls Try.prog 117 #[evV e] w fun r w' => r = .returned (evV e) ∧ Grew w w' := by
  unfold evV
  go_enter Try.func117, Try.ntmps117
  go_wp2
  refine bodyPost_ret (v := .agg #[.int .i64 e.n, .int .i64 e.k, .int .i64 e.m]) (by simp [results, Try.results117, go_sem]) rfl ⟨rfl, ?_⟩
  exact (((Grew.refl _).alloc _).alloc _).alloc _

set_option maxHeartbeats 400000 in
theorem eqEvent_any (x y : Ev) (w : World) : Calls Try.prog 118 #[evV x, evV y] w fun r w' => r = .returned (.bool (decide (x = y))) ∧ Grew w w' := by
  unfold evV
  by_cases h0 : x.n = y.n
  · by_cases h1 : x.k = y.k
    · by_cases h2 : x.m = y.m
      · have HE : Hid (decide (x = y) = true) := by
          rw [Hid, decide_eq_true_eq]; cases x; cases y; simp_all
        have b0 : (x.n != y.n) = false := by simpa using h0
        have b1 : (x.k != y.k) = false := by simpa using h1
        have b2 : (x.m != y.m) = false := by simpa using h2
        clear h0 h1 h2
        go_enter Try.func118, Try.ntmps118
        go_wp2
        go_ret
        exact ⟨ret_bool (by rw [HE.out]), ((Grew.refl _).alloc _).alloc _⟩
      · have HE : Hid (decide (x = y) = false) := by
          rw [Hid, decide_eq_false_iff_not]; intro h; exact h2 (by rw [h])
        have b0 : (x.n != y.n) = false := by simpa using h0
        have b1 : (x.k != y.k) = false := by simpa using h1
        have b2 : (x.m != y.m) = true := by simpa using h2
        clear h0 h1 h2
        go_enter Try.func118, Try.ntmps118
        go_wp2
        go_ret
        exact ⟨ret_bool (by rw [HE.out]), ((Grew.refl _).alloc _).alloc _⟩
    · have HE : Hid (decide (x = y) = false) := by
        rw [Hid, decide_eq_false_iff_not]; intro h; exact h1 (by rw [h])
      have b0 : (x.n != y.n) = false := by simpa using h0
      have b1 : (x.k != y.k) = true := by simpa using h1
      clear h0 h1
      go_enter Try.func118, Try.ntmps118
      go_wp2
      go_ret
      exact ⟨ret_bool (by rw [HE.out]), ((Grew.refl _).alloc _).alloc _⟩
  · have HE : Hid (decide (x = y) = false) := by
      rw [Hid, decide_eq_false_iff_not]; intro h; exact h0 (by rw [h])
    have b0 : (x.n != y.n) = true := by simpa using h0
    clear h0
    go_enter Try.func118, Try.ntmps118
    go_wp2
    go_ret
    exact ⟨ret_bool (by rw [HE.out]), ((Grew.refl _).alloc _).alloc _⟩

theorem Try.info74 : (Try.prog.info? 47).map (fun i => (i.zero, i.size, i.bytes)) = some (some (.agg #[.int .i64 0, .int .i64 0, .int .i64 0]), 3, 24) := by kernel_rfl

theorem make_ev (n : Nat) (hn : n ≤ 1048576) (w : World) :
    (Instr.makeSlice 33 (.int .i64 (n : Int)) (.int .i64 (n : Int))).run Try.prog w = .ok (.slice (some ⟨w.heap.size, 0, none⟩) n n) (w.alloc (.cells (madeCells #[.int .i64 0, .int .i64 0, .int .i64 0] (n * 3)) 47)) := by
  obtain ⟨i, hi, hz, hs, hb⟩ := info_parts Try.info74
  have hr := run_make (P := Try.prog) w 33 47 i _ Try.underlying33 hi hz .i64 .i64 n n (by omega) (Int.le_refl _) (by rw [hb]; omega) (by omega)
  simp only [Int.toNat_natCast, hs] at hr
  exact hr
def part3 (es : List Ev) (k : Nat) : Nat → Value := fun j => if j < k * 3 then evF es j else .int .i64 0
theorem part3_start {w : World} {n : Nat} {es : List Ev} : (w.alloc (.cells (madeCells #[.int .i64 0, .int .i64 0, .int .i64 0] (n * 3)) 47)).rowIs w.heap.size 47 (n * 3) (part3 es 0) := by
  refine ⟨_, heap_alloc_new w _, size_madeCells _ _, fun i hi => ?_⟩
  have h3 : i % 3 = 0 ∨ i % 3 = 1 ∨ i % 3 = 2 := by omega
  simp only [madeCells, part3]
  rcases h3 with h | h | h <;> simp [hi, h]
theorem part3_step {w : World} {b n k : Nat} {es : List Ev} (h : w.rowIs b 47 (n * 3) (part3 es k)) :
    (((w.setCell ⟨b, k * 3, none⟩ (.int .i64 (evAt es k).n)).setCell ⟨b, k * 3 + 1, none⟩ (.int .i64 (evAt es k).k)).setCell ⟨b, k * 3 + 2, none⟩ (.int .i64 (evAt es k).m)).rowIs b 47 (n * 3) (part3 es (k + 1)) := by
  refine (((h.set (k * 3) _).set (k * 3 + 1) _).set (k * 3 + 2) _).congr (fun j hj => ?_)
  simp only [part3]
  by_cases e2 : j = k * 3 + 2
  · subst e2; rw [if_pos rfl, if_pos (by omega), evF2]
  · rw [if_neg e2]
    by_cases e1 : j = k * 3 + 1
    · subst e1; rw [if_pos rfl, if_pos (by omega), evF1]
    · rw [if_neg e1]
      by_cases e0 : j = k * 3
      · subst e0; rw [if_pos rfl, if_pos (by omega), evF0]
      · rw [if_neg e0]
        by_cases hlt : j < k * 3
        · rw [if_pos hlt, if_pos (by omega)]
        · rw [if_neg hlt, if_neg (by omega)]

set_option maxRecDepth 100000 in
set_option maxHeartbeats 1600000 in
theorem copyE_any (a : Option Addr) (len cap : Nat) (es : List Ev) (w : World) (hv : EvS w a len es) (hm : len ≤ 1048576) :
    Calls Try.prog 61 #[.slice a len cap] w fun e w' => ∃ b, e = .returned (.slice (some ⟨b, 0, none⟩) len len) ∧ w.heap.size ≤ b ∧ EvRow w' b len es ∧ Grew w w' := by
  have hmk := make_ev len hm
  rcases hv with h0 | ⟨b, off, rfl, hc⟩
  · have H0 : Hid (len = 0) := h0
    clear h0
    go_enter Try.func61, Try.ntmps61
    go_wp2
    go_loopw [4] (fun i wr => ∃ k : Nat, k ≤ len ∧ i = .int .i64 k ∧ wr.rowIs w.heap.size 47 (len * 3) (part3 es k) ∧ Grew w wr) (fun i _ => len - (intOf i).toNat)
    case atStart => exact ⟨0, Nat.zero_le _, rfl, part3_start, (Grew.refl _).alloc _⟩
    case round =>
      obtain ⟨k, hk, rfl, hrow, hgr⟩ := hrel
      have HR : Hid (wr.rowIs w.heap.size 47 (len * 3) (part3 es k)) := hrow
      have HG : Hid (Grew w wr) := hgr
      have hlt : ¬ k < len := by have := H0.out; omega
      have hkl : k = len := by omega
      subst hkl
      clear hrow hgr
      go_wp2
      go_ret
      exact ⟨_, rfl, Nat.le_refl _, World.rowIs.congr HR.out (fun j hj => by simp only [part3]; rw [if_pos hj]), HG.out⟩
  · go_enter Try.func61, Try.ntmps61
    go_wp2
    go_loopw [4] (fun i wr => ∃ k : Nat, k ≤ len ∧ i = .int .i64 k ∧ wr.rowIs w.heap.size 47 (len * 3) (part3 es k) ∧ Grew w wr) (fun i _ => len - (intOf i).toNat)
    case atStart => exact ⟨0, Nat.zero_le _, rfl, part3_start, (Grew.refl _).alloc _⟩
    case round =>
      obtain ⟨k, hk, rfl, hrow, hgr⟩ := hrel
      have HR : Hid (wr.rowIs w.heap.size 47 (len * 3) (part3 es k)) := hrow
      have HG : Hid (Grew w wr) := hgr
      by_cases hlt : k < len
      · obtain ⟨c0, c1, c2⟩ := hc.grew hgr k hlt
        have hT := toEvent_any (evAt es k) wr
        unfold evV at hT
        clear hrow hgr
        go_wp2_with fail
        refine hT.mono ?_
        rintro e w1 ⟨rfl, hg1⟩
        have HR1 : Hid (w1.rowIs w.heap.size 47 (len * 3) (part3 es k)) := World.rowIs.of_block HR.out (hg1.1.block _ (World.rowIs.lt HR.out))
        have HG1 : Hid (Grew w w1) := HG.out.trans hg1
        have f0 := HR1.out.frozen (k * 3)
        have f1 := HR1.out.frozen (k * 3 + 1)
        have f2 := HR1.out.frozen (k * 3 + 2)
        have l0 := HR1.out.cell (i := k * 3) (by omega)
        have l1 := HR1.out.cell (i := k * 3 + 1) (by omega)
        have l2 := HR1.out.cell (i := k * 3 + 2) (by omega)
        clear hg1
        go_wp2
        go_roundw
        case rel => exact ⟨k + 1, by omega, by go_num, part3_step HR1.out, ((HG1.out.set (Nat.le_refl _) _ _).set (Nat.le_refl _) _ _).set (Nat.le_refl _) _ _⟩
        case measure => simp [intOf]; omega
      · have hkl : k = len := by omega
        subst hkl
        clear hrow hgr
        go_wp2
        go_ret
        exact ⟨_, rfl, Nat.le_refl _, World.rowIs.congr HR.out (fun j hj => by simp only [part3]; rw [if_pos hj]), HG.out⟩

theorem ev_eq_of_all {es fs : List Ev} {n : Nat} (h1 : es.length = n) (h2 : fs.length = n) (h : ∀ j, j < n → evAt es j = evAt fs j) : es = fs := by
  refine List.ext_getElem (by omega) (fun i a b => ?_)
  have := h i (by omega)
  simpa [evAt, a, b] using this

set_option maxRecDepth 100000 in
set_option maxHeartbeats 1600000 in
theorem eqE_any (b b' off off' len cap cap' : Nat) (es : List Ev) (w : World) (hc : EvsAt w b off len es) (hc' : EvsAt w b' off' len es) (hm : len ≤ maxLen) :
    Calls Try.prog 63 #[.slice (some ⟨b, off, none⟩) len cap, .slice (some ⟨b', off', none⟩) len cap'] w fun e w' => e = .returned (.bool true) ∧ Grew w w' := by
  unfold maxLen at hm
  have hbb : ((len : Int) != (len : Int)) = false := by simp
  go_enter Try.func63, Try.ntmps63
  go_wp2
  go_loopw [5] (fun i wr => ∃ k : Nat, k ≤ len ∧ i = .int .i64 k ∧ Grew w wr) (fun i _ => len - (intOf i).toNat)
  case atStart => exact ⟨0, Nat.zero_le _, rfl, Grew.refl _⟩
  case round =>
    obtain ⟨k, hk, rfl, hgr⟩ := hrel
    have HG : Hid (Grew w wr) := hgr
    by_cases hlt : k < len
    · obtain ⟨c0, c1, c2⟩ := hc.grew hgr k hlt
      obtain ⟨d0, d1, d2⟩ := hc'.grew hgr k hlt
      have p0 := cell_grown (World.block_lt_of_cell? _ _ c0) c0
      have p1 := cell_grown (World.block_lt_of_cell? _ _ c1) c1
      have p2 := cell_grown (World.block_lt_of_cell? _ _ c2) c2
      have q0 := cell_grown (World.block_lt_of_cell? _ _ d0) d0
      have q1 := cell_grown (World.block_lt_of_cell? _ _ d1) d1
      have q2 := cell_grown (World.block_lt_of_cell? _ _ d2) d2
      have hE := fun X => eqEvent_any (evAt es k) (evAt es k) X
      simp only [decide_true] at hE
      unfold evV at hE
      have hi1 : (k : Int) < (len : Int) := by omega
      have hi0 : (0 : Int) ≤ (k : Int) := by omega
      clear hgr c0 c1 c2 d0 d1 d2
      go_wp2_with fail
      have hmix := mixed
      go_quiet_grown (first | (go_at_call 118; exact grown_at (hE _)))
      go_wp2
      go_roundw
      case rel => exact ⟨k + 1, by omega, by go_num, HG.out.trans (Grew.of_grow _ _ _)⟩
      case measure => simp [intOf]; omega
    · go_wp2
      go_ret
      exact ⟨rfl, HG.out⟩

set_option maxRecDepth 100000 in
set_option maxHeartbeats 1600000 in
theorem markE_any (b n k0 : Nat) (es : List Ev) (w : World) (hr : EvRow w b n es) (hk : k0 ≤ 10000000) (hn : n ≤ 10000000) :
    Calls Try.prog 65 #[.slice (some ⟨b, 0, none⟩) n n, .int .i64 (k0 : Int)] w fun e w' => e = .returned (.int .i64 ((k0 + n * 3 : Nat) : Int)) ∧ Touch b w w' := by
  go_enter Try.func65, Try.ntmps65
  go_wp2
  go_loopw [1, 5] (fun q i wr => ∃ (j : Nat) (f : Nat → Value), j ≤ n ∧ i = .int .i64 j ∧ q = .int .i64 ((k0 + j * 3 : Nat) : Int) ∧ wr.rowIs b 47 (n * 3) f ∧ Touch b w wr) (fun _ i _ => n - (intOf i).toNat)
  case atStart => exact ⟨0, _, Nat.zero_le _, rfl, by simp, hr, Touch.refl _ _⟩
  case round =>
    obtain ⟨j, f, hj, rfl, rfl, hrow, ht⟩ := hrel
    have HR : Hid (wr.rowIs b 47 (n * 3) f) := hrow
    have HT : Hid (Touch b w wr) := ht
    clear ht hr
    by_cases hlt : j < n
    · have f0 := hrow.frozen (j * 3)
      have f1 := hrow.frozen (j * 3 + 1)
      have f2 := hrow.frozen (j * 3 + 2)
      have l0 := hrow.cell (i := j * 3) (by omega)
      have l1 := hrow.cell (i := j * 3 + 1) (by omega)
      have l2 := hrow.cell (i := j * 3 + 2) (by omega)
      have hi1 : (j : Int) < (n : Int) := by omega
      clear hrow
      go_wp2
      go_roundw
      case rel => exact ⟨j + 1, _, by omega, by go_num, by go_num, ((HR.out.set _ _).set _ _).set _ _, ((HT.out.set _ _).set _ _).set _ _⟩
      case measure => simp [intOf]; omega
    · have hjl : j = n := by omega
      subst hjl
      clear hrow
      go_wp2
      go_ret
      exact ⟨rfl, HT.out⟩
end Go.Proofs.Ytacjpebifacclaa

/-
  The walk of the law FnExactTraceOk.
-/
namespace Go.Proofs.Ytacjpebifacclaa
open Go.RowKit Go.Sort

set_option maxHeartbeats 400000 in
theorem sz_big (a : Option Addr) (len cap : Nat) (w : World) (hb : (1048576 : Int) < (len : Int)) (hm : len ≤ maxLen) :
    Calls Try.prog 60 #[.slice a len cap, .int .i64 1048576] w fun e w' => e = .returned (.int .i64 (-1)) ∧ w' = w := by
  unfold maxLen at hm
  have h0 : (1048576 : Int) - (len : Int) < 0 := by omega
  go_enter Try.func60, Try.ntmps60
  go_wp2
  go_ret
  exact ⟨rfl, rfl⟩
set_option maxHeartbeats 400000 in
theorem sz_small (a : Option Addr) (len cap : Nat) (w : World) (hb : ¬ (1048576 : Int) < (len : Int)) :
    Calls Try.prog 60 #[.slice a len cap, .int .i64 1048576] w fun e w' => e = .returned (.int .i64 (1048576 - (len : Int))) ∧ w' = w := by
  have h0 : decide ((1048576 : Int) - (len : Int) < 0) = false := by simp; omega
  go_enter Try.func60, Try.ntmps60
  go_wp2
  go_ret
  exact ⟨rfl, rfl⟩

end Go.Proofs.Ytacjpebifacclaa

/-
  Marks in a slice that lies anywhere; the contracts of the program's lastOf, isNumberOf and sources.
-/
namespace Go.Proofs.Ytacjpebifacclaa
set_option linter.unusedSimpArgs false
set_option linter.unusedVariables false
open Go.RowKit Go.Sort

theorem OI.set {w : World} {g off n cap : Nat} {zs : List Int} (h : OI w g off n cap zs) {i : Nat} (hi : i < n) (y : Int) : OI (w.setCell ⟨g, off + i, none⟩ (.int .i64 y)) g off n cap (zs.set i y) := by
  have hl := h.length
  have hc := h.cellAt hi
  refine ⟨by simp [hl], h.le, h.max, by simp [World.setCell]; exact h.blk, fun j hj => ?_, fun j hj => ?_, fun j hj => by rw [World.frozen?_setCell]; exact h.free j hj⟩
  · by_cases e : i = j
    · subst e
      rw [World.cell?_setCell_same _ _ _ hc]
      simp [show i < zs.length by omega]
    · rw [World.cell?_setCell_other _ _ _ _ (by simp [e]), h.cell j hj]
      simp [e]
  · by_cases e : i = j
    · subst e
      rw [World.cell?_setCell_same _ _ _ hc]; rfl
    · rw [World.cell?_setCell_other _ _ _ _ (by simp [e])]; exact h.some j hj
theorem OI.touch {w w' : World} {g g' off n cap : Nat} {zs : List Int} (h : OI w g off n cap zs) (ht : Touch g' w w') (hne : g ≠ g') : OI w' g off n cap zs :=
  OSl.of_block h (ht.block g hne) (by rw [ht.size]; exact h.blk)

set_option maxHeartbeats 400000 in
theorem markO_any (g off cap k0 n : Nat) (q : Int) (zs : List Int) (w : World) (ho : OI w g off n cap zs) (hq : q = (k0 : Int)) (hk : k0 ≤ 10000000) (hn : n ≤ 10000000) :
    Calls Try.prog 66 #[.slice (some ⟨g, off, none⟩) n cap, .int .i64 q] w fun e w' => e = .returned (.int .i64 (q + (n : Int))) ∧ OI w' g off n cap (marks n k0) ∧ Touch g w w' := by
  subst hq
  have hzl := ho.length
  subst hzl
  go_enter Try.func66, Try.ntmps66
  go_wp2
  go_loopw [1, 5] (fun q i wr => ∃ j : Nat, j ≤ zs.length ∧ i = .int .i64 j ∧ q = .int .i64 ((k0 + j : Nat) : Int) ∧ OI wr g off zs.length cap (mk zs k0 j) ∧ Touch g w wr) (fun _ i _ => zs.length - (intOf i).toNat)
  case atStart => exact ⟨0, Nat.zero_le _, rfl, rfl, by rw [mk_zero]; exact ho, Touch.refl _ _⟩
  case round =>
    obtain ⟨j, hj, rfl, rfl, hown, ht⟩ := hrel
    have HO : Hid (OI wr g off zs.length cap (mk zs k0 j)) := hown
    have HT : Hid (Touch g w wr) := ht
    clear hown ht ho
    by_cases hlt : j < zs.length
    · have hc := HO.out.cellAt hlt
      have hf := HO.out.free j (by have := HO.out.le; omega)
      have hi1 : (j : Int) < (zs.length : Int) := by omega
      go_wp2
      go_roundw
      case rel => exact ⟨j + 1, by omega, by go_num, by go_num, by rw [← mk_step]; exact HO.out.set hlt _, HT.out.set _ _⟩
      case measure => simp [intOf]; omega
    · have hjl : j = zs.length := by omega
      subst hjl
      go_wp2
      go_ret
      exact ⟨ret_int (by omega), by rw [← mk_done]; exact HO.out, HT.out⟩

set_option maxHeartbeats 400000 in
theorem heldO_any (g off cap k0 n : Nat) (q : Int) (w : World) (ho : OI w g off n cap (marks n k0)) (hq : q = (k0 : Int)) (hk : k0 ≤ 10000000) (hn : n ≤ 10000000) :
    Calls Try.prog 67 #[.slice (some ⟨g, off, none⟩) n cap, .int .i64 q] w fun e w' => e = .returned (.int .i64 (q + (n : Int))) ∧ w' = w := by
  subst hq
  go_enter Try.func67, Try.ntmps67
  go_wp2
  go_loop [1, 5] (fun q i => ∃ j : Nat, j ≤ n ∧ i = .int .i64 j ∧ q = .int .i64 ((k0 + j : Nat) : Int)) (fun _ i => n - (intOf i).toNat)
  case atStart => exact ⟨0, Nat.zero_le _, rfl, rfl⟩
  case round =>
    obtain ⟨j, hj, rfl, rfl⟩ := hrel
    by_cases hlt : j < n
    · have hc := ho.cellAt hlt
      rw [marks_el hlt] at hc
      have hi1 : (j : Int) < (n : Int) := by omega
      go_wp2
      go_round
      case rel => exact ⟨j + 1, by omega, by go_num, by go_num⟩
      case measure => simp [intOf]; omega
    · have hjl : j = n := by omega
      subst hjl
      go_wp2
      go_ret
      exact ⟨ret_int (by omega), rfl⟩

set_option maxHeartbeats 400000 in
theorem lastOf_any (b off len cap : Nat) (n : Int) (es : List Ev) (w : World) (hc : EvsAt w b off len es) (hm : len ≤ maxLen) :
    Calls Try.prog 121 #[.slice (some ⟨b, off, none⟩) len cap, .int .i64 n] w fun e w' => e = .returned (.int .i64 (ixI (lastB es n len))) ∧ w' = w := by
  unfold maxLen at hm
  go_enter Try.func121, Try.ntmps121
  go_wp2
  go_loop [5] (fun i => ∃ j : Nat, j ≤ len ∧ i = .int .i64 ((j : Int) - 1) ∧ lastB es n len = lastB es n j) (fun i => (intOf i + 1).toNat)
  case atStart => exact ⟨len, Nat.le_refl _, by go_num, rfl⟩
  case round =>
    obtain ⟨j, hj, rfl, he⟩ := hrel
    have HE : Hid (lastB es n len = lastB es n j) := he
    clear he
    cases j with
    | zero =>
      go_wp2
      go_ret
      exact ⟨ret_int (by rw [HE.out]; rfl), rfl⟩
    | succ j =>
      obtain ⟨c0, _, _⟩ := hc j (by omega)
      have ej : (((j + 1 : Nat) : Int) - 1) = (j : Int) := by omega
      rw [ej]
      have hj1 : (j : Int) < (len : Int) := by omega
      have hj0 : (0 : Int) ≤ (j : Int) := by omega
      by_cases hn : (evAt es j).n = n
      · have HF : Hid (lastB es n len = some j) := by
          rw [Hid, HE.out]; simp only [lastB]; rw [if_pos hn]
        have hb : ((evAt es j).n == n) = true := by simpa using hn
        clear hn
        go_wp2
        go_ret
        exact ⟨ret_int (by rw [HF.out]; rfl), rfl⟩
      · have HF : Hid (lastB es n len = lastB es n j) := by
          rw [Hid, HE.out]; simp only [lastB]; rw [if_neg hn]
        have hb : ((evAt es j).n == n) = false := by simpa using hn
        clear hn
        go_wp2
        go_round
        case rel => exact ⟨j, by omega, by go_num, HF.out⟩
        case measure => simp [intOf]

set_option maxHeartbeats 400000 in
theorem isNumber_any (a : Option Addr) (len cap : Nat) (k : Int) (w : World) (hm : len ≤ maxLen) :
    Calls Try.prog 95 #[.slice a len cap, .int .i64 k] w fun e w' => e = .returned (.bool (decide (0 ≤ k) && decide (k < (len : Int)))) ∧ w' = w := by
  unfold maxLen at hm
  by_cases h0 : 0 ≤ k
  · go_enter Try.func95, Try.ntmps95
    go_wp2
    go_ret
    exact ⟨ret_bool (by simp [h0]), rfl⟩
  · have hb : decide (0 ≤ k) = false := by simpa using h0
    go_enter Try.func95, Try.ntmps95
    go_wp2
    go_ret
    exact ⟨ret_bool (by simp [hb]), rfl⟩

theorem grown_cell {w w' : World} {g : Nat} (hg : w.grownBy w' (some g)) {x : Addr} {v : Value} (hc : w.cell? x = some v) (hne : x.block ≠ g) : w'.cell? x = some v :=
  (World.cell?_of_block (w := w) (hg.block x.block (World.block_lt_of_cell? _ _ hc) (by simpa using hne))).trans hc
theorem below_grown {B g : Nat} {w w1 w2 : World} (h : Below B w w1) (hg : w1.grownBy w2 (some g)) (hB : B ≤ g) (hs : B ≤ w1.heap.size) : Below B w w2 :=
  ⟨hg.os.trans h.os, hg.tape.trans h.tape, hg.output.trans h.output, Nat.le_trans h.size hg.size, fun k hk => (hg.block k (by omega) (by simp; omega)).trans (h.block k hk)⟩
theorem evs_grown {w w' : World} {g b off len : Nat} {es : List Ev} (h : EvsAt w b off len es) (hg : w.grownBy w' (some g)) (hne : b ≠ g) : EvsAt w' b off len es :=
  fun i hi => ⟨grown_cell hg (h i hi).1 hne, grown_cell hg (h i hi).2.1 hne, grown_cell hg (h i hi).2.2 hne⟩
/-- The sources of event k as int numbers. -/
def srcI (es : List Ev) (k : Nat) : List Int := (src es k).map (fun (i : Nat) => (i : Int))

/-- What an answer that is a slice of numbers comes to. -/
def Ans (w w' : World) (e : Ending) (Z : List Int) : Prop := ∃ g off c, e = .returned (.slice (some ⟨g, off, none⟩) Z.length c) ∧ w.heap.size ≤ g ∧ OI w' g off Z.length c Z ∧ Below w.heap.size w w'

theorem Try.info3 : (Try.prog.info? 3).map (fun i => (i.zero, i.size, i.bytes)) = some (some (.int .i64 0), 1, 8) := by kernel_rfl
theorem oi_empty (w : World) (T : TypeId) : OI (w.alloc (.cells #[] T)) w.heap.size 0 0 0 [] :=
  ⟨rfl, Nat.le_refl _, Nat.zero_le _, by simp, fun i hi => by omega, fun i hi => by omega, fun i hi => by omega⟩

set_option maxRecDepth 100000 in
set_option maxHeartbeats 1600000 in
theorem sources_any (b off len cap k : Nat) (es : List Ev) (w : World) (hc : EvsAt w b off len es) (hm : len ≤ maxLen) (hcap : len ≤ cap) (hk : k < len) (hok : (evAt es k).k = 3 → firstS es (evAt es k).m k ≠ none) :
    Calls Try.prog 87 #[.slice (some ⟨b, off, none⟩) len cap, .int .i64 (k : Int)] w fun e w' => Ans w w' e (srcI es k) := by
  obtain ⟨i0, hi0, hz0, hz1, hz2⟩ := info_parts Try.info3
  obtain ⟨c0, c1, c2⟩ := hc k hk
  have hb0 : Grew w (w.alloc (.cells #[] 3)) := (Grew.refl _).alloc _
  have hlb := World.block_lt_of_cell? _ _ c0
  simp only at hlb
  have hne : b ≠ w.heap.size := by omega
  have hk1 : (k : Int) < (len : Int) := by omega
  have hkc : (k : Int) ≤ (cap : Int) := by omega
  have hk0 : (0 : Int) ≤ (k : Int) := by omega
  have hkm : k ≤ maxLen := by omega
  have hL := fun (X : World) (hX : Grew w X) => lastOf_any b off k cap (evAt es k).n es X ((hc.grew hX).mono (by omega)) hkm
  have hnew : ∀ (q : Nat) (v : Value), (((w.alloc (.cells #[] 3)).drewN q).alloc (.cells #[v] 3)).heap[w.heap.size + 1]? = some (.cells #[v] 3 (0, 0)) := fun q v => by
    have := heap_alloc_new ((w.alloc (.cells #[] 3)).drewN q) (.cells #[v] 3)
    have e : ((w.alloc (.cells #[] 3)).drewN q).heap.size = w.heap.size + 1 := by show (w.alloc (.cells #[] 3)).heap.size = _; simp
    rwa [e] at this
  have HW : Hid (∀ (q : Nat) (v : Value), (((w.alloc (.cells #[] 3)).drewN q).alloc (.cells #[v] 3)).heap[w.heap.size + 1]? = some (.cells #[v] 3 (0, 0))) := hnew
  clear hnew
  cases hl : lastB es (evAt es k).n k with
  | none =>
    rw [hl] at hL
    simp only [ixI] at hL
    go_enter Try.func87, Try.ntmps87
    go_wp2_with fail
    go_quiet (first | (go_at_call 121; exact (hL _ (hb0.drewN _)).mono (fun e w' h => ⟨h.1, _, h.2⟩)))
    by_cases hk3 : (evAt es k).k = 3
    · skip
      have hS := fun (X : World) (hX : EvsAt X b off len es) => sendOf_any b off k cap (evAt es k).m es X (hX.mono (by omega)) hkm
      cases hf : firstS es (evAt es k).m k with
      | none => exact absurd hf (hok hk3)
      | some s =>
        rw [hf] at hS
        simp only [ixI] at hS
        have HS : Hid (srcI es k = ([] : List Int) ++ [(s : Int)]) := by rw [Hid, srcI, src, hl, if_pos hk3, hf]; rfl
        have d2 := hb0.cell c2
        have hOwn : ∀ (q : Nat) (X : World), Grew ((w.alloc (.cells #[] 3)).drewN q) X → ∀ o, OSl (X.alloc o) 1 w.heap.size 0 0 0 [] := fun q X hX o => OSl.below (OSl.drewN (oi_empty w 3) q) (hX.1.alloc hX.1.size o) (by show w.heap.size < (w.alloc (.cells #[] 3)).heap.size; simp)
        go_wp2_with fail
        go_region_held3 (fun w' => w'.cell? ⟨b, off + k * 3 + 2, none⟩ = some (.int .i64 (evAt es k).m))
          (first
            | go_keep
            | exact hg3.cell (by assumption)
            | exact grown_cell hg4 (by assumption) hne)
          (first
            | (go_at_call 122; refine (hS _ ((hc.grew (hb0.drewN _)))).mono ?_; rintro e w3 ⟨rfl, hg3⟩)
            | (refine step_append_os _ (by rfl) _ _ _ (by rfl) 3 i0 _ 1 8 Try.underlying75 hi0 hz0 hz1 hz2 rfl (by omega) w.heap.size 0 0 0 (([] : List Int).map (Value.int .i64)) (by rfl) (hOwn _ _ hg3 _) ⟨w3.heap.size, 0, none⟩ 1 1 [.int .i64 (s : Int)] (by rfl) (by rfl) (World.news_of_block (cs := #[.int .i64 (s : Int)]) (t := 3) (fr := (0, 0)) (heap_alloc_new w3 _)) (by simp [Value.oneCell']) (by unfold maxLen; omega) (by omega) ?_; intro g4 off4 cap4 w4 ho4 hg4 hat4))
        have B4 : Hid (Below w.heap.size w w4) := below_grown (((hb0.drewN (nq + 1)).trans hg3).alloc _).1 hg4 (Nat.le_refl _) (by have := (((hb0.drewN (nq + 1)).trans hg3).alloc (.cells #[] 3)).1.size; simp at this ⊢; omega)
        have A4 : Hid (w.heap.size ≤ g4) := by
          have := (((hb0.drewN (nq + 1)).trans hg3)).1.size
          rcases hat4 with h | h <;> simp [Hid, h] <;> omega
        have O4 : Hid (OSl w4 1 g4 off4 1 cap4 [.int .i64 (s : Int)]) := ho4
        clear ho4 hg4 hat4 hg3
        go_wp2
        go_ret
        rw [HS.out]
        exact ⟨g4, off4, cap4, rfl, A4.out, O4.out, B4.out⟩
    · have hk3b : ((evAt es k).k == 3) = false := by simpa using hk3
      have HS : Hid (srcI es k = []) := by rw [Hid, srcI, src, hl, if_neg hk3]; rfl
      go_wp2
      go_ret
      rw [HS.out]
      exact ⟨w.heap.size, 0, 0, rfl, Nat.le_refl _, (oi_empty w 3).drewN _, ((hb0.drewN _)).1⟩
  | some l =>
    rw [hl] at hL
    simp only [ixI] at hL
    have hl0 : (0 : Int) ≤ (l : Int) := by omega
    by_cases hk3 : (evAt es k).k = 3
    · go_enter Try.func87, Try.ntmps87
      go_wp2_with fail
      go_quiet (first | (go_at_call 121; exact (hL _ (hb0.drewN _)).mono (fun e w' h => ⟨h.1, _, h.2⟩)))
      go_wp2_with (at_builtin; refine wpList_append_os _ rfl _ _ _ rfl 3 i0 _ 1 8 Try.underlying75 hi0 hz0 hz1 hz2 rfl (by omega) w.heap.size 0 0 0 [] rfl (((oi_empty w 3).drewN nq).below ((Below.refl _ _).alloc (Nat.le_refl _) _) (by simp)) ⟨w.heap.size + 1, 0, none⟩ 1 1 [.int .i64 (l : Int)] rfl rfl (World.news_of_block (cs := #[.int .i64 (l : Int)]) (t := 3) (fr := (0, 0)) (HW.out _ _)) (by simp [Value.oneCell']) (by unfold maxLen; omega) (by omega) ?_; intro g2 off2 cap2 w2 ho2 hg2 hat2; have HE2 : Hid (EvsAt w2 b off len es) := evs_grown (hc.grew ((hb0.drewN _).alloc _)) hg2 hne; have d1 := (HE2.out k hk).2.1; have d2 := (HE2.out k hk).2.2; clear c1 c2; rw [hk3] at d1)
      have hS := fun (X : World) (hX : EvsAt X b off len es) => sendOf_any b off k cap (evAt es k).m es X (hX.mono (by omega)) hkm
      cases hf : firstS es (evAt es k).m k with
      | none => exact absurd hf (hok hk3)
      | some s =>
        rw [hf] at hS
        simp only [ixI] at hS
        have HS : Hid (srcI es k = [(l : Int)] ++ [(s : Int)]) := by rw [Hid, srcI, src, hl, if_pos hk3, hf]; rfl
        have S1 := (((hb0.drewN nq).alloc (.cells #[.int .i64 (l : Int)] 3))).1.size
        have A2 : w.heap.size ≤ g2 := by
          rcases hat2 with h | h
          · rw [h]; exact Nat.le_refl _
          · rw [h]; exact S1
        have hbg : b ≠ g2 := by omega
        have hOwn : ∀ (q : Nat) (X : World), Grew (w2.drewN q) X → ∀ o, OSl (X.alloc o) 1 g2 off2 1 cap2 [.int .i64 (l : Int)] := fun q X hX o => OSl.below (OSl.drewN ho2 q) (hX.1.alloc hX.1.size o) ho2.blk
        go_wp2_with fail
        go_region_held3 (fun w' => w'.cell? ⟨b, off + k * 3 + 2, none⟩ = some (.int .i64 (evAt es k).m))
          (first
            | go_keep
            | exact hg3.cell (by assumption)
            | exact grown_cell hg4 (by assumption) hbg)
          (first
            | (go_at_call 122; refine (hS _ (HE2.out.drewN _)).mono ?_; rintro e w3 ⟨rfl, hg3⟩)
            | (refine step_append_os _ (by rfl) _ _ _ (by rfl) 3 i0 _ 1 8 Try.underlying75 hi0 hz0 hz1 hz2 rfl (by omega) g2 off2 1 cap2 ([(l : Int)].map (Value.int .i64)) (by rfl) (hOwn _ _ hg3 _) ⟨w3.heap.size, 0, none⟩ 1 1 [.int .i64 (s : Int)] (by rfl) (by rfl) (World.news_of_block (cs := #[.int .i64 (s : Int)]) (t := 3) (fr := (0, 0)) (heap_alloc_new w3 _)) (by simp [Value.oneCell']) (by unfold maxLen; omega) (by omega) ?_; intro g4 off4 cap4 w4 ho4 hg4 hat4))
        have S2 : w.heap.size ≤ w2.heap.size := Nat.le_trans S1 hg2.size
        have S3 : w.heap.size ≤ w3.heap.size := Nat.le_trans S2 hg3.1.size
        have B2 : Below w.heap.size w w2 := below_grown (((hb0.drewN _).alloc _)).1 hg2 (Nat.le_refl _) S1
        have B3 : Below w.heap.size w w3 := (belowN (n := 1) B2).trans (hg3.1.mono S2)
        have B4 : Hid (Below w.heap.size w w4) := below_grown (B3.alloc S3 _) hg4 A2 (by simp; omega)
        have A4 : Hid (w.heap.size ≤ g4) := by
          rcases hat4 with h | h
          · rw [Hid, h]; exact A2
          · rw [Hid, h]; simp; omega
        have O4 : Hid (OSl w4 1 g4 off4 2 cap4 [.int .i64 (l : Int), .int .i64 (s : Int)]) := ho4
        clear ho4 hg4 hat4 hg3
        go_wp2
        go_ret
        rw [HS.out]
        exact ⟨g4, off4, cap4, rfl, A4.out, O4.out, B4.out⟩
    · have hk3b : ((evAt es k).k == 3) = false := by simpa using hk3
      have HS : Hid (srcI es k = [(l : Int)]) := by rw [Hid, srcI, src, hl, if_neg hk3]; rfl
      go_enter Try.func87, Try.ntmps87
      go_wp2_with fail
      go_quiet (first | (go_at_call 121; exact (hL _ (hb0.drewN _)).mono (fun e w' h => ⟨h.1, _, h.2⟩)))
      go_wp2_with (at_builtin; refine wpList_append_os _ rfl _ _ _ rfl 3 i0 _ 1 8 Try.underlying75 hi0 hz0 hz1 hz2 rfl (by omega) w.heap.size 0 0 0 [] rfl (((oi_empty w 3).drewN nq).below ((Below.refl _ _).alloc (Nat.le_refl _) _) (by simp)) ⟨w.heap.size + 1, 0, none⟩ 1 1 [.int .i64 (l : Int)] rfl rfl (World.news_of_block (cs := #[.int .i64 (l : Int)]) (t := 3) (fr := (0, 0)) (HW.out _ _)) (by simp [Value.oneCell']) (by unfold maxLen; omega) (by omega) ?_; intro g2 off2 cap2 w2 ho2 hg2 hat2; have HE2 : Hid (EvsAt w2 b off len es) := evs_grown (hc.grew ((hb0.drewN _).alloc _)) hg2 hne; have d1 := (HE2.out k hk).2.1; clear c1)
      go_ret
      rw [HS.out]
      exact ⟨g2, off2, cap2, rfl, by rcases hat2 with h | h <;> simp [h] <;> omega, ho2, below_grown (((hb0.drewN _).alloc _)).1 hg2 (Nat.le_refl _) (by simp; omega)⟩
end Go.Proofs.Ytacjpebifacclaa

/-
  What the reading of a slice of events that came in comes to.
-/
namespace Go.Proofs.Ytacjpebifacclaa
open Go.RowKit Go.Deep

def IsEvs (w : World) (a : Option Addr) (len cap : Nat) (es : List Ev) : Prop := EvS w a len es ∧ len ≤ cap ∧ cap ≤ maxLen

set_option maxRecDepth 100000 in
theorem open_evs {H : Type} {enc : TypeId × Value → H} {w : World} {base : Nat} {spare : Nat → Bool} {held : Bool} {fuel len cap : Nat} {a : Option Addr} {x : DataW H × List MemPlace}
    (h : DataW.trod enc Try.prog w base spare held fuel 53 [.slice a len cap] = some x) : ∃ es, IsEvs w a len cap es := by
  rcases open_slice Try.underlying53 h with ⟨h0, _⟩ | ⟨ad, l, c, m, n, D, Pl, hcs, _, hl, hm, hmm, _, hx⟩
  · simp at h0
    obtain ⟨rfl, rfl, rfl⟩ := h0
    exact ⟨[], .inl rfl, Nat.le_refl _, Nat.zero_le _⟩
  · simp at hcs
    obtain ⟨rfl, rfl, rfl⟩ := hcs
    have hlm : len ≤ m := by rw [hmm]; split <;> omega
    have ce : Try.prog.cellsOf 115 = 3 := by kernel_rfl
    have each : ∀ i, i < m → ∃ q : Ev, w.cell? (ad.add (i * 3)) = some (.int .i64 q.n) ∧ w.cell? (ad.add (i * 3 + 1)) = some (.int .i64 q.k) ∧ w.cell? (ad.add (i * 3 + 2)) = some (.int .i64 q.m) := by
      intro i hi
      obtain ⟨cs', h1, h2⟩ := hx i hi
      rw [ce] at h1
      obtain ⟨_, hlen, hcell⟩ := World.cells?_some h1
      obtain ⟨y0, y1, y2, k, _, _, g0, g1, g2⟩ := trod_struct3 Try.underlying115 h2
      match cs', hlen with
      | [v0, v1, v2], _ =>
        have e2 : Try.prog.cellsOf 2 = 1 := by kernel_rfl
        simp [e2] at g0 g1 g2
        obtain ⟨i0, r0, _, _⟩ := DataW.trod_int Try.underlying2 g0
        obtain ⟨i1, r1, _, _⟩ := DataW.trod_int Try.underlying2 g1
        obtain ⟨i2, r2, _, _⟩ := DataW.trod_int Try.underlying2 g2
        simp at r0 r1 r2
        subst r0 r1 r2
        have c0 := hcell 0 (by omega)
        have c1 := hcell 1 (by omega)
        have c2 := hcell 2 (by omega)
        rw [add_add] at c0 c1 c2
        exact ⟨⟨i0, i1, i2⟩, by simpa using c0, by simpa using c1, by simpa using c2⟩
    obtain ⟨q, hq⟩ := choose_lt each
    by_cases h0 : len = 0
    · exact ⟨[], .inl h0, hl, hm⟩
    · obtain ⟨b, off, spot⟩ := ad
      have hspot : spot = none := by
        have := (hq 0 (by omega)).1
        simpa [Addr.add] using World.cell?_spot this
      subst hspot
      refine ⟨(List.range len).map q, .inr ⟨b, off, rfl, fun i hi => ?_⟩, hl, hm⟩
      have e : evAt ((List.range len).map q) i = q i := by simp [evAt, hi]
      obtain ⟨c0, c1, c2⟩ := hq i (by omega)
      rw [add_lit0] at c0 c1 c2
      rw [e]
      exact ⟨c0, by rw [Nat.add_assoc]; exact c1, by rw [Nat.add_assoc]; exact c2⟩
end Go.Proofs.Ytacjpebifacclaa
