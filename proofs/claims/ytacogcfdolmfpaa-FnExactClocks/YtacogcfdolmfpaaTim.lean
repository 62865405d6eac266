/-
  The contracts of the program's sendOf, slices.Contains, mayFollow and TraceOk.
-/
import Derived.Test.YtacogcfdolmfpaaEv
namespace Go.Proofs.Ytacogcfdolmfpaa
open Go.RowKit Go.Sort

theorem mixed : Try.prog.follows .mixedOrders = true := by kernel_rfl

/-- An event as a value. -/
def evV (e : Ev) : Value := .agg #[.int .i64 e.n, .int .i64 e.k, .int .i64 e.m]

set_option maxHeartbeats 400000 in
theorem sendC_any (e : Ev) (p : Nat) (m : Int) (w : World) (hp : w.cell? ⟨p, 0, none⟩ = some (.int .i64 m)) :
    Calls Try.prog 124 #[evV e, .pointer (some ⟨p, 0, none⟩)] w fun r w' => r = .returned (.bool (decide (e.k = 2) && decide (e.m = m))) ∧ Grew w w' := by
  have hlt := World.block_lt_of_cell? _ _ hp
  simp only at hlt
  have hne : p ≠ w.heap.size := by omega
  unfold evV
  by_cases h2 : e.k = 2
  · have HB : Hid ((decide (e.k = 2) && decide (e.m = m)) = (e.m == m)) := by
      rw [Hid, h2]; simp [BEq.beq]
    go_enter Try.func124, Try.ntmps124
    go_wp2
    go_ret
    exact ⟨ret_bool (by first | rw [HB.out] | (trace_state; simp [BEq.beq])), (Grew.refl _).alloc _⟩
  · have hb : (e.k == 2) = false := by simpa using h2
    have HB : Hid ((decide (e.k = 2) && decide (e.m = m)) = false) := by
      rw [Hid]; simp [h2]
    clear h2
    go_enter Try.func124, Try.ntmps124
    go_wp2
    go_ret
    exact ⟨ret_bool (by rw [HB.out]), (Grew.refl _).alloc _⟩

set_option maxHeartbeats 400000 in
theorem indexFunc_any (b off len cap p : Nat) (m : Int) (es : List Ev) (w : World) (hc : EvsAt w b off len es) (hm : len ≤ maxLen) (hp : w.cell? ⟨p, 0, none⟩ = some (.int .i64 m)) :
    Calls Try.prog 123 #[.slice (some ⟨b, off, none⟩) len cap, .func (.func 124) #[] #[.pointer (some ⟨p, 0, none⟩)]] w fun e w' => e = .returned (.int .i64 (ixI (firstS es m len))) ∧ Grew w w' := by
  unfold maxLen at hm
  go_enter Try.func123, Try.ntmps123
  go_wp2
  go_loopw [8] (fun i wr => ∃ k : Nat, k ≤ len ∧ i = .int .i64 k ∧ firstS es m k = none ∧ Grew w wr) (fun i _ => len - (intOf i).toNat)
  case atStart => exact ⟨0, Nat.zero_le _, rfl, rfl, Grew.refl _⟩
  case round =>
    obtain ⟨k, hk, rfl, hno, hgr⟩ := hrel
    have HN : Hid (firstS es m k = none) := hno
    have HG : Hid (Grew w wr) := hgr
    have hpr := hgr.cell hp
    clear hno
    by_cases hlt : k < len
    · obtain ⟨c0, c1, c2⟩ := hc.grew hgr k hlt
      have hC := sendC_any (evAt es k) p m wr hpr
      unfold evV at hC
      clear hgr
      by_cases hh : (evAt es k).k = 2 ∧ (evAt es k).m = m
      · have HF : Hid (firstS es m len = some k) := firstS_hit HN.out hh hlt
        have hbt : (decide ((evAt es k).k = 2) && decide ((evAt es k).m = m)) = true := by simp [hh]
        rw [hbt] at hC
        clear hbt hh
        go_wp2_with fail
        refine hC.mono ?_
        rintro e w' ⟨rfl, hg⟩
        have HG2 : Hid (Grew w w') := HG.out.trans hg
        clear hg
        go_wp2
        go_ret
        exact ⟨ret_int (by rw [HF.out]; rfl), HG2.out⟩
      · have HF : Hid (firstS es m (k + 1) = none) := firstS_miss HN.out hh
        have hbt : (decide ((evAt es k).k = 2) && decide ((evAt es k).m = m)) = false := by simpa using hh
        rw [hbt] at hC
        clear hbt hh
        go_wp2_with fail
        refine hC.mono ?_
        rintro e w' ⟨rfl, hg⟩
        have HG2 : Hid (Grew w w') := HG.out.trans hg
        clear hg
        go_wp2
        go_roundw
        case rel => exact ⟨k + 1, by omega, by go_num, HF.out, HG2.out⟩
        case measure => simp [intOf]; omega
    · have hkl : k = len := by omega
      subst hkl
      go_wp2
      go_ret
      exact ⟨ret_int (by rw [HN.out]; rfl), HG.out⟩

set_option maxHeartbeats 400000 in
theorem sendOf_any (b off len cap : Nat) (m : Int) (es : List Ev) (w : World) (hc : EvsAt w b off len es) (hm : len ≤ maxLen) :
    Calls Try.prog 111 #[.slice (some ⟨b, off, none⟩) len cap, .int .i64 m] w fun e w' => e = .returned (.int .i64 (ixI (firstS es m len))) ∧ Grew w w' := by
  have hg0 : Grew w (w.alloc (.cells #[.int .i64 m] 2)) := (Grew.refl _).alloc _
  have hC := indexFunc_any b off len cap w.heap.size m es _ (hc.grew hg0) hm (by simp)
  go_enter Try.func111, Try.ntmps111
  go_wp2_with fail
  refine hC.mono ?_
  rintro e w' ⟨rfl, hg⟩
  have HG : Hid (Grew w w') := hg0.trans hg
  clear hg
  go_wp2
  go_ret
  exact ⟨rfl, HG.out⟩

set_option maxHeartbeats 400000 in
theorem index_any (b off len cap : Nat) (x : Ev) (es : List Ev) (w : World) (hc : EvsAt w b off len es) (hm : len ≤ maxLen) :
    Calls Try.prog 135 #[.slice (some ⟨b, off, none⟩) len cap, evV x] w fun e w' => ∃ z : Int, e = .returned (.int .i64 z) ∧ (hasE es x len = decide (0 ≤ z)) ∧ Grew w w' := by
  unfold maxLen at hm
  unfold evV
  go_enter Try.func135, Try.ntmps135
  go_wp2
  go_loopw [8] (fun i wr => ∃ k n : Nat, k ≤ len ∧ i = .int .i64 k ∧ hasE es x k = false ∧ wr = (w.alloc (Obj.cells #[.int .i64 x.n, .int .i64 x.k, .int .i64 x.m] 48)).drewN n) (fun i _ => len - (intOf i).toNat)
  case atStart => exact ⟨0, 0, Nat.zero_le _, rfl, rfl, rfl⟩
  case round =>
    obtain ⟨k, n, hk, rfl, hno, rfl⟩ := hrel
    have HN : Hid (hasE es x k = false) := hno
    clear hno
    by_cases hlt : k < len
    · obtain ⟨e0, e1, e2⟩ := hc k hlt
      have hlb := World.block_lt_of_cell? _ _ e0
      simp only at hlb
      have hne : b ≠ w.heap.size := by omega
      have hj1 : (k : Int) < (len : Int) := by omega
      have hj0 : (0 : Int) ≤ (k : Int) := by omega
      by_cases hje : evAt es k = x
      · have HF2 : Hid (hasE es x len = true) := hasE_iff.2 ⟨k, hlt, hje⟩
        rw [hje] at e0 e1 e2
        clear hje
        go_wp2_with fail
        go_quiet (fail)
        go_wp2
        go_ret
        exact ⟨(k : Int), rfl, by rw [HF2.out, decide_eq_true hj0], (((Grew.refl _).alloc _).drewN _).drewN _⟩
      · have HN2 : Hid (hasE es x (k + 1) = false) := by
          rw [Hid, hasE, HN.out, decide_eq_false hje]; rfl
        by_cases hp : (evAt es k).n = x.n
        · by_cases hq : (evAt es k).k = x.k
          · have hr : (evAt es k).m ≠ x.m := fun h => hje (by
              cases hx : evAt es k; cases x
              simp only [hx] at hp hq h
              rw [hp, hq, h])
            have hrb : (x.m == (evAt es k).m) = false := by
              have : x.m ≠ (evAt es k).m := fun h => hr h.symm
              simpa using this
            rw [hp] at e0
            rw [hq] at e1
            clear hje hp hq hr
            go_wp2_with fail
            go_quiet (fail)
            go_wp2
            go_roundw
            case rel => exact ⟨k + 1, _, by omega, by go_num, HN2.out, rfl⟩
            case measure => simp [intOf]; omega
          · have hqb : (x.k == (evAt es k).k) = false := by
              have : x.k ≠ (evAt es k).k := fun h => hq h.symm
              simpa using this
            rw [hp] at e0
            clear hje hp hq
            go_wp2_with fail
            go_quiet (fail)
            go_wp2
            go_roundw
            case rel => exact ⟨k + 1, _, by omega, by go_num, HN2.out, rfl⟩
            case measure => simp [intOf]; omega
        · have hpb : (x.n == (evAt es k).n) = false := by
            have : x.n ≠ (evAt es k).n := fun h => hp h.symm
            simpa using this
          clear hje hp
          go_wp2_with fail
          go_quiet (fail)
          go_wp2
          go_roundw
          case rel => exact ⟨k + 1, _, by omega, by go_num, HN2.out, rfl⟩
          case measure => simp [intOf]; omega
    · have hkl : k = len := by omega
      subst hkl
      go_wp2
      go_ret
      exact ⟨-1, rfl, by rw [HN.out]; rfl, ((Grew.refl _).alloc _).drewN _⟩

set_option maxHeartbeats 400000 in
theorem contains_any (b off len cap : Nat) (x : Ev) (es : List Ev) (w : World) (hc : EvsAt w b off len es) (hm : len ≤ maxLen) :
    Calls Try.prog 118 #[.slice (some ⟨b, off, none⟩) len cap, evV x] w fun e w' => e = .returned (.bool (hasE es x len)) ∧ Grew w w' := by
  have hg0 : Grew w (w.alloc (.cells #[.int .i64 x.n, .int .i64 x.k, .int .i64 x.m] 48)) := (Grew.refl _).alloc _
  have hC := index_any b off len cap x es _ (hc.grew hg0) hm
  unfold evV at hC ⊢
  go_enter Try.func118, Try.ntmps118
  go_wp2_with fail
  refine hC.mono ?_
  rintro e w' ⟨z, rfl, hz, hg⟩
  have HZ : Hid (hasE es x len = decide (0 ≤ z)) := hz
  have HG : Hid (Grew w w') := hg0.trans hg
  clear hg hz
  go_wp2
  go_ret
  exact ⟨ret_bool (by rw [HZ.out]), HG.out⟩

theorem mayB_node {es : List Ev} {k : Nat} (h : (evAt es k).n < 0 ∨ 7 < (evAt es k).n) : mayB es k = false := by unfold mayB; rw [if_pos h]
theorem mayB_local {es : List Ev} {k : Nat} (h : ¬ ((evAt es k).n < 0 ∨ 7 < (evAt es k).n)) (hk : (evAt es k).k = 1) : mayB es k = decide ((evAt es k).m = 0) := by unfold mayB; rw [if_neg h, if_pos hk]
theorem mayB_mail {es : List Ev} {k : Nat} (h : ¬ ((evAt es k).n < 0 ∨ 7 < (evAt es k).n)) (hk : (evAt es k).k ≠ 1) (hm : (evAt es k).m < 1 ∨ 1000 < (evAt es k).m) : mayB es k = false := by unfold mayB; rw [if_neg h, if_neg hk, if_pos hm]
theorem mayB_send {es : List Ev} {k : Nat} (h : ¬ ((evAt es k).n < 0 ∨ 7 < (evAt es k).n)) (hm : ¬ ((evAt es k).m < 1 ∨ 1000 < (evAt es k).m)) (hk : (evAt es k).k = 2) : mayB es k = (firstS es (evAt es k).m k).isNone := by
  unfold mayB; rw [if_neg h, if_neg (by omega), if_neg hm, if_pos hk]
theorem mayB_hear {es : List Ev} {k : Nat} (h : ¬ ((evAt es k).n < 0 ∨ 7 < (evAt es k).n)) (hm : ¬ ((evAt es k).m < 1 ∨ 1000 < (evAt es k).m)) (hk : (evAt es k).k = 3) : mayB es k = (match firstS es (evAt es k).m k with
     | none => false
     | some s => decide ((evAt es s).n ≠ (evAt es k).n) && !hasE es (evAt es k) k) := by
  unfold mayB; rw [if_neg h, if_neg (by omega), if_neg hm, if_neg (by omega), if_pos hk]
  rfl
theorem mayB_other {es : List Ev} {k : Nat} (h1 : (evAt es k).k ≠ 1) (h2 : (evAt es k).k ≠ 2) (h3 : (evAt es k).k ≠ 3) : mayB es k = false := by
  unfold mayB; simp [h1, h2, h3]

set_option maxRecDepth 100000 in
set_option maxHeartbeats 1600000 in
theorem mayFollow_any (b off cap k : Nat) (es : List Ev) (w : World) (hc : EvsAt w b off k es) (hm : k ≤ maxLen) :
    Calls Try.prog 97 #[.slice (some ⟨b, off, none⟩) k cap, evV (evAt es k)] w fun e w' => e = .returned (.bool (mayB es k)) ∧ Grew w w' := by
  have hg0 : Grew w (w.alloc (.cells #[.int .i64 (evAt es k).n, .int .i64 (evAt es k).k, .int .i64 (evAt es k).m] 48)) := (Grew.refl _).alloc _
  have HC : Hid (EvsAt w b off k es) := hc
  unfold evV
  clear hc
  by_cases hn0 : (evAt es k).n < 0
  · have HM : Hid (mayB es k = false) := mayB_node (.inl hn0)
    go_enter Try.func97, Try.ntmps97
    go_wp2
    go_ret
    exact ⟨ret_bool (by rw [HM.out]), hg0⟩
  have hn0b : decide ((evAt es k).n < 0) = false := by simpa using hn0
  by_cases hn7 : 7 < (evAt es k).n
  · have HM : Hid (mayB es k = false) := mayB_node (.inr hn7)
    go_enter Try.func97, Try.ntmps97
    go_wp2
    go_ret
    exact ⟨ret_bool (by rw [HM.out]), hg0⟩
  have hn7b : decide (7 < (evAt es k).n) = false := by simpa using hn7
  have hn : ¬ ((evAt es k).n < 0 ∨ 7 < (evAt es k).n) := by omega
  have HNN : Hid (¬ ((evAt es k).n < 0 ∨ 7 < (evAt es k).n)) := hn
  clear hn hn0 hn7
  by_cases hk1 : (evAt es k).k = 1
  · have HM : Hid (mayB es k = decide ((evAt es k).m = 0)) := mayB_local HNN.out hk1
    go_enter Try.func97, Try.ntmps97
    go_wp2
    go_ret
    refine ⟨ret_bool (by rw [HM.out]; rfl), ?_⟩
    rw [hk1] at hg0
    exact hg0
  have hk1b : ((evAt es k).k == 1) = false := by simpa using hk1
  by_cases hm0 : (evAt es k).m < 1
  · have HM : Hid (mayB es k = false) := mayB_mail HNN.out hk1 (.inl hm0)
    clear hk1
    go_enter Try.func97, Try.ntmps97
    go_wp2
    go_ret
    exact ⟨ret_bool (by rw [HM.out]), hg0⟩
  have hm0b : decide ((evAt es k).m < 1) = false := by simpa using hm0
  by_cases hm7 : 1000 < (evAt es k).m
  · have HM : Hid (mayB es k = false) := mayB_mail HNN.out hk1 (.inr hm7)
    clear hk1
    go_enter Try.func97, Try.ntmps97
    go_wp2
    go_ret
    exact ⟨ret_bool (by rw [HM.out]), hg0⟩
  have hm7b : decide (1000 < (evAt es k).m) = false := by simpa using hm7
  have HMM : Hid (¬ ((evAt es k).m < 1 ∨ 1000 < (evAt es k).m)) := by rw [Hid]; omega
  clear hm0 hm7
  have hS := sendOf_any b off k cap (evAt es k).m es _ (HC.out.grew hg0) hm
  by_cases hk2 : (evAt es k).k = 2
  · have HM : Hid (mayB es k = (firstS es (evAt es k).m k).isNone) := mayB_send HNN.out HMM.out hk2
    clear hk1
    rw [hk2] at hS hg0
    go_enter Try.func97, Try.ntmps97
    go_wp2_with fail
    refine hS.mono ?_
    rintro e w1 ⟨rfl, hg1⟩
    have hp := hg1.cell (x := ⟨w.heap.size, 1, none⟩) (v := .int .i64 2) (by simp)
    have HG1 : Hid (Grew w w1) := hg0.trans hg1
    clear hg1
    cases hf : firstS es (evAt es k).m k with
    | none =>
      simp only [ixI]
      go_wp2
      go_ret
      exact ⟨ret_bool (by rw [HM.out, hf]; rfl), HG1.out⟩
    | some s =>
      simp only [ixI]
      have hs0 : (0 : Int) ≤ (s : Int) := by omega
      have hs0b : decide ((s : Int) < 0) = false := by simp
      go_wp2
      go_ret
      exact ⟨ret_bool (by rw [HM.out, hf]; rfl), HG1.out⟩
  have hk2b : ((evAt es k).k == 2) = false := by simpa using hk2
  by_cases hk3 : (evAt es k).k = 3
  · have HM : Hid (mayB es k = (match firstS es (evAt es k).m k with
     | none => false
     | some s => decide ((evAt es s).n ≠ (evAt es k).n) && !hasE es (evAt es k) k)) := mayB_hear HNN.out HMM.out hk3
    clear hk1 hk2
    have hX := fun (X : World) (hx : Grew w X) => contains_any b off k cap (evAt es k) es X (HC.out.grew hx) hm
    unfold evV at hX
    rw [hk3] at hS hg0 hX
    go_enter Try.func97, Try.ntmps97
    go_wp2_with fail
    refine hS.mono ?_
    rintro e w1 ⟨rfl, hg1⟩
    have p0 := hg1.cell (x := ⟨w.heap.size, 0, none⟩) (v := .int .i64 (evAt es k).n) (by simp)
    have p1 := hg1.cell (x := ⟨w.heap.size, 1, none⟩) (v := .int .i64 3) (by simp)
    have p2 := hg1.cell (x := ⟨w.heap.size, 2, none⟩) (v := .int .i64 (evAt es k).m) (by simp)
    have HG1 : Hid (Grew w w1) := hg0.trans hg1
    clear hg1
    cases hf : firstS es (evAt es k).m k with
    | none =>
      simp only [ixI]
      go_wp2_with fail
      go_quiet (fail)
      go_wp2
      go_ret
      exact ⟨ret_bool (by rw [HM.out, hf]), HG1.out.drewN _⟩
    | some s =>
      simp only [ixI]
      have hsl := (firstS_some hf).1
      obtain ⟨s0, _, _⟩ := HC.out.grew HG1.out s (by omega)
      have hs1 : (s : Int) < (k : Int) := by omega
      have hs0 : (0 : Int) ≤ (s : Int) := by omega
      by_cases hns : (evAt es s).n = (evAt es k).n
      · have HM2 : Hid (mayB es k = false) := by rw [Hid, HM.out, hf]; simp [hns]
        have hnb : ((evAt es s).n != (evAt es k).n) = false := by simpa using hns
        clear hns hf
        go_wp2_with fail
        go_quiet (fail)
        go_wp2
        go_ret
        exact ⟨ret_bool (by rw [HM2.out]), HG1.out.drewN _⟩
      · have HM2 : Hid (mayB es k = !hasE es (evAt es k) k) := by rw [Hid, HM.out, hf]; simp [hns]
        have hnb : ((evAt es s).n != (evAt es k).n) = true := by simpa using hns
        have q0 := cell_grown (World.block_lt_of_cell? _ _ p0) p0
        have q1 := cell_grown (World.block_lt_of_cell? _ _ p1) p1
        have q2 := cell_grown (World.block_lt_of_cell? _ _ p2) p2
        have q3 := cell_grown (World.block_lt_of_cell? _ _ s0) s0
        clear hns hf
        go_wp2_with fail
        clear p0 p1 p2 s0
        have hmix := mixed
        go_quiet_grown (first | (go_at_call 118; exact grown_at (hX _ (HG1.out.trans (Grew.of_grow _ _ _)))))
        go_wp2
        go_ret
        exact ⟨ret_bool (by rw [HM2.out]), HG1.out.trans (Grew.of_grow _ _ _)⟩
  · have hk3b : ((evAt es k).k == 3) = false := by simpa using hk3
    have HM : Hid (mayB es k = false) := mayB_other hk1 hk2 hk3
    clear hk1 hk2 hk3
    go_enter Try.func97, Try.ntmps97
    go_wp2_with fail
    refine hS.mono ?_
    rintro e w1 ⟨rfl, hg1⟩
    have hp := hg1.cell (x := ⟨w.heap.size, 1, none⟩) (v := .int .i64 (evAt es k).k) (by simp)
    have HG1 : Hid (Grew w w1) := hg0.trans hg1
    clear hg1
    go_wp2
    go_ret
    exact ⟨ret_bool (by rw [HM.out]), HG1.out⟩

set_option maxRecDepth 100000 in
set_option maxHeartbeats 1600000 in
theorem implTok_any (b off len cap : Nat) (es : List Ev) (w : World) (hc : EvsAt w b off len es) (hm : len ≤ maxLen) (hcap : len ≤ cap) :
    Calls Try.prog 37 #[.slice (some ⟨b, off, none⟩) len cap] w fun e w' => e = .returned (.bool (okT es len)) ∧ Grew w w' := by
  unfold maxLen at hm
  by_cases h40 : (40 : Int) < (len : Int)
  · go_enter Try.func37, Try.ntmps37
    go_wp2
    go_ret
    exact ⟨ret_bool (by unfold okT; rw [decide_eq_false (by omega)]; rfl), Grew.refl _⟩
  · have h40' : decide ((40 : Int) < (len : Int)) = false := by simpa using h40
    have hcap' : (len : Int) ≤ (cap : Int) := by omega
    go_enter Try.func37, Try.ntmps37
    go_wp2
    go_loopw [10] (fun i wr => ∃ k : Nat, k ≤ len ∧ i = .int .i64 k ∧ allE es k = true ∧ Grew w wr) (fun i _ => len - (intOf i).toNat)
    case atStart => exact ⟨0, Nat.zero_le _, rfl, rfl, Grew.refl _⟩
    case round =>
      obtain ⟨k, hk, rfl, hall, hgr⟩ := hrel
      have HA : Hid (allE es k = true) := hall
      have HG : Hid (Grew w wr) := hgr
      have HC : Hid (EvsAt wr b off len es) := hc.grew hgr
      clear hgr
      by_cases hlt : k < len
      · obtain ⟨c0, c1, c2⟩ := HC.out k hlt
        have hlb := World.block_lt_of_cell? _ _ c0
        simp only at hlb
        have hne : b ≠ wr.heap.size := by omega
        have hkc : (k : Int) ≤ (cap : Int) := by omega
        have hk0 : (0 : Int) ≤ (k : Int) := by omega
        have hM := fun (X : World) (hx : Grew wr X) => mayFollow_any b off cap k es X ((HC.out.grew hx).mono hk) (by unfold maxLen; omega)
        rw [mayB_eq hall] at hM
        unfold evV at hM
        have q0 := cell_grown (w := wr.alloc (Obj.cells #[.int .i64 (evAt es k).n, .int .i64 (evAt es k).k, .int .i64 (evAt es k).m] 48)) (a := ⟨wr.heap.size, 0, none⟩) (v := .int .i64 (evAt es k).n) (by simp) (by simp)
        have q1 := cell_grown (w := wr.alloc (Obj.cells #[.int .i64 (evAt es k).n, .int .i64 (evAt es k).k, .int .i64 (evAt es k).m] 48)) (a := ⟨wr.heap.size, 1, none⟩) (v := .int .i64 (evAt es k).k) (by simp) (by simp)
        have q2 := cell_grown (w := wr.alloc (Obj.cells #[.int .i64 (evAt es k).n, .int .i64 (evAt es k).k, .int .i64 (evAt es k).m] 48)) (a := ⟨wr.heap.size, 2, none⟩) (v := .int .i64 (evAt es k).m) (by simp) (by simp)
        clear hall
        cases ho : okE es k
        · have HO : Hid (okT es len = false) := by rw [Hid, okT, allE_false ho hlt, Bool.and_false]
          rw [ho] at hM
          clear ho
          go_wp2_with fail
          have hmix := mixed
          go_quiet_grown (first | (go_at_call 97; exact grown_at (hM _ (((Grew.refl _).alloc _).trans (Grew.of_grow _ _ _)))))
          go_wp2
          go_ret
          exact ⟨ret_bool (by rw [HO.out]), (HG.out.alloc _).trans (Grew.of_grow _ _ _)⟩
        · have HA2 : Hid (allE es (k + 1) = true) := by rw [Hid, allE, HA.out, ho]; rfl
          rw [ho] at hM
          clear ho
          go_wp2_with fail
          have hmix := mixed
          go_quiet_grown (first | (go_at_call 97; exact grown_at (hM _ (((Grew.refl _).alloc _).trans (Grew.of_grow _ _ _)))))
          go_wp2
          go_roundw
          case rel => exact ⟨k + 1, by omega, by go_num, HA2.out, (HG.out.alloc _).trans (Grew.of_grow _ _ _)⟩
          case measure => simp [intOf]; omega
      · have hkl : k = len := by omega
        subst hkl
        go_wp2
        go_ret
        exact ⟨ret_bool (by unfold okT; rw [HA.out, decide_eq_true (by omega)]; rfl), HG.out⟩
end Go.Proofs.Ytacogcfdolmfpaa
