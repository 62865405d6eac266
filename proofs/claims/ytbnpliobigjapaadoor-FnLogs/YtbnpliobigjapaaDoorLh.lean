/-
  Several texts in one: Lgk.
-/
import Derived.Test.YtbnpliobigjapaaDoorLg
import Derived.Test.YtbnpliobigjapaaDoorJo
/-
  The draw l12Draw.
-/
namespace Go.Proofs.YtbnpliobigjapaaDoor
set_option linter.unusedVariables false
set_option linter.unusedSimpArgs false
open Go.RowKit Go.Sort

theorem make_byG (n : Nat) (hn : n ≤ 1048576) (w : World) :
    (Instr.makeSlice 22 (.int .i64 (n : Int)) (.int .i64 (n : Int))).run Tryd.prog w = .ok (.slice (some ⟨w.heap.size, 0, none⟩) n n) (w.alloc (.cells (madeCells #[.int .u8 0] n) 5)) := by
  obtain ⟨i, hi, hz, hs, hb⟩ := info_parts9 Tryd.info5
  have hr := run_make (P := Tryd.prog) w 22 5 i _ Tryd.underlying22 hi hz .i64 .i64 n n (by omega) (Int.le_refl _) (by rw [hb]; omega) (by omega)
  simp only [Int.toNat_natCast, hs, Nat.mul_one] at hr
  exact hr
theorem conv_byG (w : World) (n : Nat) (hn : n ≤ 1048576) : (convert 22 9 (.slice (some ⟨w.heap.size, 0, none⟩) n n)).run Tryd.prog (w.alloc (.cells (madeCells #[.int .u8 0] n) 5)) = .ok (.string (sv (List.replicate n 0))) (w.alloc (.cells (madeCells #[.int .u8 0] n) 5)) := by
  have h := osl_made w #[.int .u8 0] 1 n 5 rfl (by omega) (by unfold maxLen; omega)
  have e : bys (List.replicate n 0) = (List.replicate n (#[Value.int .u8 0] : Array Value).toList).flatten := by
    simp only [bys, List.map_replicate]
    clear h hn
    induction n with
    | zero => rfl
    | succ n ih => rw [List.replicate_succ, List.replicate_succ, List.flatten_cons, ← ih]; rfl
  rw [← e, Nat.mul_one] at h
  have h2 : OBy (w.alloc (.cells (madeCells #[.int .u8 0] n) 5)) w.heap.size 0 (List.replicate n (0 : UInt8)).length n (List.replicate n 0) := by rw [List.length_replicate]; exact h
  have h3 := h2.str
  rw [List.length_replicate] at h3
  exact h3
attribute [local irreducible] sv
set_option maxRecDepth 100000 in
set_option maxHeartbeats 6400000 in
theorem drawLg_any {w X : World} {p : Nat} {a : Option Addr} {len cap : Nat} {bs : Nat → Int} (h : Cc w X p a len cap bs) :
    Calls Tryd.prog 28 #[.pointer (some ⟨p, 0, none⟩)] X fun e X' => ∃ (l : Lg) (ta : Option Addr) (tc : Nat) (fp : Fp), e = .returned (lgV l.1 ta l.2.length tc) ∧ SmL l ∧ Cel.ow X' (scl l.2) (.slice ta l.2.length tc) fp ∧ (∀ b, fp b → X.heap.size ≤ b) ∧ Cc w X' p a len cap bs ∧ X.grownBy X' (some p) := by
  have hmix : Tryd.prog.follows .mixedOrders = true := by kernel_rfl
  obtain ⟨i0, hi0, hz0, hz1, hz2⟩ := info_parts9 Tryd.info9
  have c1 := h.step (oneA X (.cells #[.int .i64 0, .slice none 0 0] 26))
  have hB1 := belowC 5 5 rfl c1 (by omega) (by omega)
  have hpl := h.lt
  have HR : Hid (Bx (X.alloc (.cells #[.int .i64 0, .slice none 0 0] 26)) X.heap.size 26 #[.int .i64 0, .slice none 0 0]) := Bx.new _ _ _
  have HGX : Hid (X.grownBy (X.alloc (.cells #[.int .i64 0, .slice none 0 0] 26)) (some p)) := World.grownBy_alloc X _ _
  go_enter Tryd.func28, Tryd.ntmps28
  go_wp2_with fail
  refine hB1.mono ?_
  rintro e Y1 ⟨v, rfl, hv, c2, g1⟩
  have L0 : LD w X (Y1.alloc (.cells #[.int .i64 (1 + (v : Int)), .slice none 0 0] 26)) p a len cap bs Y1.heap.size (1 + (v : Int)) [] none 0 (fun _ => False) := by
    have hs1 := g1.size
    rw [World.size_alloc] at hs1
    have hr := HR.out.grown g1 (by simp; omega)
    exact ⟨c2.step (oneA _ _), hr.alloc _, Bx.new _ _ _, ow_scl.2 ⟨none, 0, none, rfl, OSo.nil _ _ plainN, fun b => by simp⟩, fun b hb => absurd hb id, hpl, by omega, grown_trans (grown_trans HGX.out g1) (World.grownBy_alloc _ _ _)⟩
  have hw1 : wrap64 (1 + (v : Int)) = 1 + (v : Int) := by unfold wrap64; omega
  have hB2 := belowC 6 6 rfl L0.cc (by omega) (by omega)
  have HV : Hid (-1 ≤ 1 + (v : Int) ∧ 1 + (v : Int) ≤ 1000001) := by rw [Hid]; omega
  have HL0 : Hid (LD w X (Y1.alloc (.cells #[.int .i64 (1 + (v : Int)), .slice none 0 0] 26)) p a len cap bs Y1.heap.size (1 + (v : Int)) [] none 0 (fun _ => False)) := L0
  clear hB1 c1 c2 g1 L0
  go_wp2_with fail
  refine hB2.mono ?_
  rintro e Y2 ⟨m, rfl, hm, c3, g2⟩
  have HL1 : Hid (LD w X Y2 p a len cap bs Y1.heap.size (1 + (v : Int)) [] none 0 (fun _ => False)) := HL0.out.drawn g2 c3
  clear hB2 c3 g2 HL0
  generalize Y1.heap.size = o at *
  generalize 1 + (v : Int) = F at *
  go_wp2_with fail
  clear hw1
  go_loopw [4] (fun i wr => ∃ (k : Nat) (T : List (List UInt8)) (ta : Option Addr) (tc : Nat) (fp : Fp), k ≤ m ∧ i = .int .i64 k ∧ LD w X wr p a len cap bs o F T ta tc fp ∧ T.length + k ≤ 5 ∧ ∀ i, i < T.length → (T.getD i []).length ≤ 101) (fun i _ => (intOf i).toNat)
  case atStart => exact ⟨m, [], none, 0, _, Nat.le_refl _, rfl, HL1.out, by simp; omega, fun i hi => by simp at hi⟩
  case round =>
    obtain ⟨k, T, ta, tc, fp, hk, rfl, hL, hTk, hTl⟩ := hrel
    have HTl : Hid (∀ i, i < T.length → (T.getD i []).length ≤ 101) := hTl
    clear hTl
    by_cases hlt : 0 < k
    · have k0 : (0 : Int) < (k : Int) := by omega
      have hL1 := hL.step (Same.drewN wr 1).below
      have hT := textG 4 4 rfl (by omega) hL1.cc
      have x1 := hL.own.r2.2
      have hlen : T.length ≤ 1000 := by omega
      have HL : Hid (LD w X (wr.drewN 1) p a len cap bs o F T ta tc fp) := hL1
      clear hL hL1
      go_wp2_with fail
      refine gt_begin (S := fun X : World => X.cell? ⟨o, 1, none⟩ = some (.slice ta T.length tc)) 7 hmix (by kernel_rfl) ?_
      have hHeld : (fun X : World => X.cell? ⟨o, 1, none⟩ = some (.slice ta T.length tc)) wr.drew := x1
      refine gt_take (i := 0) (v := ?_) rfl (by kernel_rfl) (by kernel_rfl) (by kernel_rfl) (by kernel_rfl) (fun _ _ _ h => h) (Or.inl ⟨by rfl, ?_⟩) hHeld ?_
      rotate_left
      · (intro X hSX; (try dsimp only at hSX); have g0 := hSX; go_simp; try with_reducible rfl)
      try simp only [Act.put, List.setIfInBounds_toArray, List.set_cons_zero, List.set_cons_succ]
      refine gt_take (i := 1) (v := ?_) rfl (by kernel_rfl) (by kernel_rfl) (by kernel_rfl) (by kernel_rfl) (fun _ _ _ h => h) (Or.inl ⟨by rfl, ?_⟩) hHeld ?_
      rotate_left
      · (intro X hSX; (try dsimp only at hSX); have g0 := hSX; go_simp; try with_reducible rfl)
      try simp only [Act.put, List.setIfInBounds_toArray, List.set_cons_zero, List.set_cons_succ]
      refine gt_pure (i := 2) (v := ?_) rfl (by kernel_rfl) (by kernel_rfl) (by kernel_rfl) (fun _ _ _ h => h) (Or.inl ⟨by rfl, ?_⟩) ?_
      rotate_left
      · (intro X; go_simp; try with_reducible rfl)
      try simp only [Act.put, List.setIfInBounds_toArray, List.set_cons_zero, List.set_cons_succ]
      refine gt_one (i := 3) rfl (by kernel_rfl) (by kernel_rfl) (fun K hK => ?_)
      go_simp
      go_at_call 32
      refine hT.mono ?_
      rintro e Y3 ⟨s, rfl, hs, c4, g4⟩
      have L3 := HL.out.drawn g4 c4
      refine hK.out _ _ L3.own.r2.2 (fun hHeld2 => ?_)
      clear hK hHeld
      have hHeld := hHeld2
      try simp only [Act.put, List.setIfInBounds_toArray, List.set_cons_zero, List.set_cons_succ]
      refine gt_one (i := 4) rfl (by kernel_rfl) (by kernel_rfl) (fun K hK => ?_)
      go_simp
      refine hK.out _ _ (L3.own.alloc (.cells #[.string (sv s)] 9)).r2.2 (fun hHeld3 => ?_)
      clear hK hHeld
      have hHeld := hHeld3
      try simp only [Act.put, List.setIfInBounds_toArray, List.set_cons_zero, List.set_cons_succ]
      refine gt_one (i := 5) rfl (by kernel_rfl) (by kernel_rfl) (fun K hK => ?_)
      refine step_append_of (by rfl) _ _ _ _ (by rfl) (.slice ta T.length tc) _ (by rfl) (by rfl) (LD.app i0 hi0 hz0 hz1 hz2 L3 s hlen) ⟨rfl, rfl, rfl, rfl⟩ ?_
      rintro v' w4 ⟨a', c', rfl, q1, q2, fp', hLn⟩
      refine hK.out _ _ q1 (fun hHeld4 => ?_)
      clear hK hHeld
      have hHeld := hHeld4
      try simp only [Act.put, List.setIfInBounds_toArray, List.set_cons_zero, List.set_cons_succ]
      refine gt_take (i := 6) (v := ?_) rfl (by kernel_rfl) (by kernel_rfl) (by kernel_rfl) (by kernel_rfl) (fun _ _ _ h => h) (Or.inl ⟨by rfl, ?_⟩) hHeld ?_
      rotate_left
      · (intro X hSX; (try dsimp only at hSX); have g0 := hSX; go_simp; try with_reducible rfl)
      try simp only [Act.put, List.setIfInBounds_toArray, List.set_cons_zero, List.set_cons_succ]
      have HLn : Hid (LD w X (w4.setCell ⟨o, 1, none⟩ (.slice a' (T.length + 1) c')) p a len cap bs o F (T ++ [s]) a' c' fp') := hLn
      clear L3 hLn c4 g4 hT
      refine gt_last rfl (by kernel_rfl) (by kernel_rfl) (fun K hK => ?_)
      go_simp
      refine hK.out _ _ ?_
      go_wp2
      go_roundw
      case rel => exact ⟨k - 1, T ++ [s], a', c', fp', by omega, by go_num, HLn.out, by simp; omega, SmL.snoc (F := F) HTl.out (by omega)⟩
      case measure => simp [intOf]; omega
    · obtain rfl : k = 0 := by omega
      have hO := onceC 12 hL.cc (by omega)
      have HL : Hid (LD w X wr p a len cap bs o F T ta tc fp) := hL
      clear hL
      go_wp2_with fail
      refine hO.mono ?_
      rintro e Y4 ⟨t, rfl, c5, g5⟩
      have L4 := HL.out.drawn g5 c5
      clear hO c5 g5 HL
      cases t with
      | false =>
        have HSM : Hid (SmL (F, T)) := ⟨HV.out, by simp only; omega, HTl.out⟩
        obtain ⟨e0, e1⟩ := L4.own.r2
        obtain ⟨e2, e3⟩ := L4.res.r2
        have e4 := L4.res.f 0
        have e5 := L4.res.f 1
        have HA := L4.ans
        clear L4
        go_wp2
        refine bodyPost_ret (v := .agg #[.int .i64 F, .slice ta T.length tc]) (by simp [results, Tryd.results28, go_sem, *]) rfl ?_
        exact ⟨(F, T), ta, tc, fp, rfl, HSM.out, HA⟩
      | true =>
        have hB3 := belowC 3 3 rfl L4.cc (by omega) (by omega)
        have HL4 : Hid (LD w X Y4 p a len cap bs o F T ta tc fp) := L4
        clear L4
        go_wp2_with fail
        refine hB3.mono ?_
        rintro e Y5 ⟨y, rfl, hy, c6, g6⟩
        have L5 := HL4.out.drawn g6 c6
        clear hB3 c6 g6 HL4
        obtain rfl | rfl | rfl : y = 0 ∨ y = 1 ∨ y = 2 := by omega
        · have L6 := L5.step (oneA Y5 (.cells #[.int .i64 0, .int .i64 1000000, .int .i64 1000001, .int .i64 (-1)] 2))
          have hB4 := belowC 4 4 rfl L6.cc (by omega) (by omega)
          have hq := Bx.new Y5 2 #[.int .i64 0, .int .i64 1000000, .int .i64 1000001, .int .i64 (-1)]
          have hpY : p < Y5.heap.size := L5.cc.lt
          have HL6 : Hid (LD w X (Y5.alloc (.cells #[.int .i64 0, .int .i64 1000000, .int .i64 1000001, .int .i64 (-1)] 2)) p a len cap bs o F T ta tc fp) := L6
          clear L5 L6
          go_wp2_with fail
          refine hB4.mono ?_
          rintro e Y6 ⟨z, rfl, hz, c7, g7⟩
          have L7 := HL6.out.drawn g7 c7
          have hq7 := hq.grown g7 (by simp; omega)
          obtain ⟨d0, d1⟩ := L7.own.r2
          have d2 := L7.own.f 0
          clear hB4 c7 g7 HL6 hq
          obtain rfl | rfl | rfl | rfl : z = 0 ∨ z = 1 ∨ z = 2 ∨ z = 3 := by omega
          · have L8 := L7.setF 0
            have hqc : Y6.cell? ⟨Y5.heap.size, 0, none⟩ = some (.int .i64 0) := hq7.at 0 rfl
            have HSM : Hid (SmL (0, T)) := ⟨by simp only; omega, by simp only; omega, HTl.out⟩
            clear L7
            obtain ⟨e0, e1⟩ := L8.own.r2
            obtain ⟨e2, e3⟩ := L8.res.r2
            have e4 := L8.res.f 0
            have e5 := L8.res.f 1
            have HA := L8.ans
            clear L8
            go_wp2
            refine bodyPost_ret (v := .agg #[.int .i64 0, .slice ta T.length tc]) (by simp [results, Tryd.results28, go_sem, *]) rfl ?_
            exact ⟨(0, T), ta, tc, fp, rfl, HSM.out, HA⟩
          · have L8 := L7.setF 1000000
            have hqc : Y6.cell? ⟨Y5.heap.size, 1, none⟩ = some (.int .i64 1000000) := hq7.at 1 rfl
            have HSM : Hid (SmL (1000000, T)) := ⟨by simp only; omega, by simp only; omega, HTl.out⟩
            clear L7
            obtain ⟨e0, e1⟩ := L8.own.r2
            obtain ⟨e2, e3⟩ := L8.res.r2
            have e4 := L8.res.f 0
            have e5 := L8.res.f 1
            have HA := L8.ans
            clear L8
            go_wp2
            refine bodyPost_ret (v := .agg #[.int .i64 1000000, .slice ta T.length tc]) (by simp [results, Tryd.results28, go_sem, *]) rfl ?_
            exact ⟨(1000000, T), ta, tc, fp, rfl, HSM.out, HA⟩
          · have L8 := L7.setF 1000001
            have hqc : Y6.cell? ⟨Y5.heap.size, 2, none⟩ = some (.int .i64 1000001) := hq7.at 2 rfl
            have HSM : Hid (SmL (1000001, T)) := ⟨by simp only; omega, by simp only; omega, HTl.out⟩
            clear L7
            obtain ⟨e0, e1⟩ := L8.own.r2
            obtain ⟨e2, e3⟩ := L8.res.r2
            have e4 := L8.res.f 0
            have e5 := L8.res.f 1
            have HA := L8.ans
            clear L8
            go_wp2
            refine bodyPost_ret (v := .agg #[.int .i64 1000001, .slice ta T.length tc]) (by simp [results, Tryd.results28, go_sem, *]) rfl ?_
            exact ⟨(1000001, T), ta, tc, fp, rfl, HSM.out, HA⟩
          · have L8 := L7.setF (-1)
            have hqc : Y6.cell? ⟨Y5.heap.size, 3, none⟩ = some (.int .i64 (-1)) := hq7.at 3 rfl
            have HSM : Hid (SmL ((-1), T)) := ⟨by simp only; omega, by simp only; omega, HTl.out⟩
            clear L7
            obtain ⟨e0, e1⟩ := L8.own.r2
            obtain ⟨e2, e3⟩ := L8.res.r2
            have e4 := L8.res.f 0
            have e5 := L8.res.f 1
            have HA := L8.ans
            clear L8
            go_wp2
            refine bodyPost_ret (v := .agg #[.int .i64 (-1), .slice ta T.length tc]) (by simp [results, Tryd.results28, go_sem, *]) rfl ?_
            exact ⟨((-1), T), ta, tc, fp, rfl, HSM.out, HA⟩
        · have hB5 := belowC 2 2 rfl L5.cc (by omega) (by omega)
          have HL5 : Hid (LD w X Y5 p a len cap bs o F T ta tc fp) := L5
          clear L5
          go_wp2_with fail
          refine hB5.mono ?_
          rintro e Y6 ⟨z, rfl, hz, c7, g7⟩
          have L7 := HL5.out.drawn g7 c7
          have hoY : o < Y6.heap.size := L7.own.lt
          obtain ⟨M, hM⟩ : ∃ M : Nat, 40 + z = M := ⟨_, rfl⟩
          obtain ⟨T', hT'l, hOS, hsm⟩ : ∃ T' : List (List UInt8), T'.length = M ∧ OS (Y6.alloc (.cells (madeCells #[.string ⟨#[]⟩] M) 9)) Y6.heap.size 0 M M T' ∧ ∀ i, i < T'.length → (T'.getD i []).length ≤ 101 := ⟨List.replicate M [], by simp, made_os Y6 M (by unfold maxLen; omega), fun i hi => by simp [List.getD_eq_getElem?_getD, List.getElem?_replicate]; split <;> simp⟩
          subst hT'l
          have hmk := run_make_row' (P := Tryd.prog) 24 9 (.string ⟨#[]⟩) 16 Tryd.underlying24 Tryd.info9 rfl .i64 .i64 T'.length (by omega) (by omega)
          have hMi : (40 : Int) + (z : Int) = (T'.length : Int) := by omega
          have hwm : wrap64 (T'.length : Int) = (T'.length : Int) := by unfold wrap64; omega
          have HM1 : Hid ((40 : Int) + (z : Int) = (T'.length : Int)) := hMi
          have HM2 : Hid (wrap64 (T'.length : Int) = (T'.length : Int)) := hwm
          clear hMi hwm
          have HSM : Hid (SmL (F, T')) := ⟨HV.out, by simp only; omega, hsm⟩
          have L8 := (L7.step (oneA Y6 (.cells (madeCells #[.string ⟨#[]⟩] T'.length) 9))).setT (T' := T') (ta' := some ⟨Y6.heap.size, 0, none⟩) (tc' := T'.length) (fp' := fun b => b = Y6.heap.size) (ow_scl.2 ⟨_, _, some Y6.heap.size, rfl, OSo.of hOS, fun b => by simp [eq_comm]⟩) (fun b hb => by omega)
          obtain ⟨d0, d1⟩ := (L7.own.alloc (.cells (madeCells #[.string ⟨#[]⟩] T'.length) 9)).r2
          have d2 := (L7.own.alloc (.cells (madeCells #[.string ⟨#[]⟩] T'.length) 9)).f 1
          clear hB5 c7 g7 HL5 L7 hOS hsm hM hz hTk hpl HTl
          generalize hV : Y6.alloc (.cells (madeCells #[.string ⟨#[]⟩] T'.length) 9) = V at *
          have hMi := HM1.out
          have hwm := HM2.out
          obtain ⟨e0, e1⟩ := L8.own.r2
          obtain ⟨e2, e3⟩ := L8.res.r2
          have e4 := L8.res.f 0
          have e5 := L8.res.f 1
          have HA := L8.ans
          clear L8
          go_wp2
          refine bodyPost_ret (v := .agg #[.int .i64 F, .slice (some ⟨Y6.heap.size, 0, none⟩) T'.length T'.length]) (by simp [results, Tryd.results28, go_sem, *]) rfl ?_
          exact ⟨(F, T'), (some ⟨Y6.heap.size, 0, none⟩), T'.length, _, rfl, HSM.out, HA⟩
        · have L6 := L5.step (Same.drewN Y5 1).below
          have hB5 := belowC 2 2 rfl L6.cc (by omega) (by omega)
          have x1 := L5.own.r2.2
          have hlen : T.length ≤ 1000 := by omega
          have HL5 : Hid (LD w X (Y5.drewN 1) p a len cap bs o F T ta tc fp) := L6
          clear L5 L6
          go_wp2_with fail
          refine gt_begin (S := fun X : World => X.cell? ⟨o, 1, none⟩ = some (.slice ta T.length tc)) 10 hmix (by kernel_rfl) ?_
          have hHeld : (fun X : World => X.cell? ⟨o, 1, none⟩ = some (.slice ta T.length tc)) Y5.drew := x1
          refine gt_take (i := 0) (v := ?_) rfl (by kernel_rfl) (by kernel_rfl) (by kernel_rfl) (by kernel_rfl) (fun _ _ _ h => h) (Or.inl ⟨by rfl, ?_⟩) hHeld ?_
          rotate_left
          · (intro X hSX; (try dsimp only at hSX); have g0 := hSX; go_simp; try with_reducible rfl)
          try simp only [Act.put, List.setIfInBounds_toArray, List.set_cons_zero, List.set_cons_succ]
          refine gt_take (i := 1) (v := ?_) rfl (by kernel_rfl) (by kernel_rfl) (by kernel_rfl) (by kernel_rfl) (fun _ _ _ h => h) (Or.inl ⟨by rfl, ?_⟩) hHeld ?_
          rotate_left
          · (intro X hSX; (try dsimp only at hSX); have g0 := hSX; go_simp; try with_reducible rfl)
          try simp only [Act.put, List.setIfInBounds_toArray, List.set_cons_zero, List.set_cons_succ]
          refine gt_pure (i := 2) (v := ?_) rfl (by kernel_rfl) (by kernel_rfl) (by kernel_rfl) (fun _ _ _ h => h) (Or.inl ⟨by rfl, ?_⟩) ?_
          rotate_left
          · (intro X; go_simp; try with_reducible rfl)
          try simp only [Act.put, List.setIfInBounds_toArray, List.set_cons_zero, List.set_cons_succ]
          refine gt_one (i := 3) rfl (by kernel_rfl) (by kernel_rfl) (fun K hK => ?_)
          go_simp
          go_at_call 31
          refine hB5.mono ?_
          rintro e Y6 ⟨z, rfl, hz, c7, g7⟩
          have L7 := HL5.out.drawn g7 c7
          refine hK.out _ _ L7.own.r2.2 (fun hHeld2 => ?_)
          clear hK hHeld
          have hHeld := hHeld2
          try simp only [Act.put, List.setIfInBounds_toArray, List.set_cons_zero, List.set_cons_succ]
          obtain ⟨M, hM⟩ : ∃ M : Nat, 100 + z = M := ⟨_, rfl⟩
          have hMi : IntKind.i64.wrap ((100 : Int) + (z : Int)) = (M : Int) := by rw [IntKind.wrap_i64]; omega
          have hmk := make_byG M (by omega)
          have hst := conv_byG Y6 M (by omega)
          have hml : (List.replicate M (0 : UInt8)).length ≤ 101 := by rw [List.length_replicate]; omega
          generalize List.replicate M (0 : UInt8) = s at *
          refine gt_pure (i := 4) (v := ?_) rfl (by kernel_rfl) (by kernel_rfl) (by kernel_rfl) (fun _ _ _ h => h) (Or.inl ⟨by rfl, ?_⟩) ?_
          rotate_left
          · (intro X; go_simp; try with_reducible rfl)
          try simp only [Act.put, List.setIfInBounds_toArray, List.set_cons_zero, List.set_cons_succ]
          refine gt_one (i := 5) rfl (by kernel_rfl) (by kernel_rfl) (fun K hK => ?_)
          go_simp
          have L8 := L7.step (oneA Y6 (.cells (madeCells #[.int .u8 0] M) 5))
          refine hK.out _ _ L8.own.r2.2 (fun hHeld3 => ?_)
          clear hK hHeld
          have hHeld := hHeld3
          try simp only [Act.put, List.setIfInBounds_toArray, List.set_cons_zero, List.set_cons_succ]
          refine gt_one (i := 6) rfl (by kernel_rfl) (by kernel_rfl) (fun K hK => ?_)
          go_simp
          refine hK.out _ _ L8.own.r2.2 (fun hHeld4 => ?_)
          clear hK hHeld
          have hHeld := hHeld4
          try simp only [Act.put, List.setIfInBounds_toArray, List.set_cons_zero, List.set_cons_succ]
          refine gt_one (i := 7) rfl (by kernel_rfl) (by kernel_rfl) (fun K hK => ?_)
          go_simp
          refine hK.out _ _ (L8.own.alloc (.cells #[.string (sv s)] 9)).r2.2 (fun hHeld5 => ?_)
          clear hK hHeld
          have hHeld := hHeld5
          try simp only [Act.put, List.setIfInBounds_toArray, List.set_cons_zero, List.set_cons_succ]
          have hA := LD.app i0 hi0 hz0 hz1 hz2 L8 s hlen
          rw [World.size_alloc] at hA
          refine gt_one (i := 8) rfl (by kernel_rfl) (by kernel_rfl) (fun K hK => ?_)
          refine step_append_of (by rfl) _ _ _ _ (by rfl) (.slice ta T.length tc) _ (by rfl) (by rfl) hA ⟨rfl, rfl, rfl, rfl⟩ ?_
          rintro v' w4 ⟨a', c', rfl, q1, q2, fp', hLn⟩
          refine hK.out _ _ q1 (fun hHeld6 => ?_)
          clear hK hHeld
          have hHeld := hHeld6
          try simp only [Act.put, List.setIfInBounds_toArray, List.set_cons_zero, List.set_cons_succ]
          refine gt_take (i := 9) (v := ?_) rfl (by kernel_rfl) (by kernel_rfl) (by kernel_rfl) (by kernel_rfl) (fun _ _ _ h => h) (Or.inl ⟨by rfl, ?_⟩) hHeld ?_
          rotate_left
          · (intro X hSX; (try dsimp only at hSX); have g0 := hSX; go_simp; try with_reducible rfl)
          try simp only [Act.put, List.setIfInBounds_toArray, List.set_cons_zero, List.set_cons_succ]
          have HSM : Hid (SmL (F, T ++ [s])) := ⟨HV.out, by simp; omega, SmL.snoc (F := F) HTl.out hml⟩
          have HL9 : (T ++ [s]).length = T.length + 1 := by simp
          clear L7 L8 c7 g7 hB5 hst hmk hMi hA
          refine gt_last rfl (by kernel_rfl) (by kernel_rfl) (fun K hK => ?_)
          go_simp
          refine hK.out _ _ ?_
          obtain ⟨e0, e1⟩ := hLn.own.r2
          obtain ⟨e2, e3⟩ := hLn.res.r2
          have e4 := hLn.res.f 0
          have e5 := hLn.res.f 1
          have HA := hLn.ans
          rw [HL9] at e1 HA
          clear hLn HL9
          go_wp2
          refine bodyPost_ret (v := .agg #[.int .i64 F, .slice a' (T.length + 1) c']) (by simp [results, Tryd.results28, go_sem, *]) rfl ?_
          exact ⟨(F, T ++ [s]), a', c', fp', by simp [lgV], HSM.out, by simpa using HA⟩
end Go.Proofs.YtbnpliobigjapaaDoor
