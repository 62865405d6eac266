/-
  Several texts in one: Vwn Vwo.
-/
import Derived.Test.YtbmpapmdkmnhhaaMc
/-
  The draw l14Draw.
-/
namespace Go.Proofs.Ytbmpapmdkmnhhaa
set_option linter.unusedVariables false
set_option linter.unusedSimpArgs false
open Go.RowKit Go.Sort

def lit9 : List Int := [1, 2, 3, 4, 5, 6, 7, 8, 9]
def lit4v : List Int := [99, 100, -1, 3]
theorem lit9_oi (w : World) : OI (w.alloc (.cells #[.int .i64 1, .int .i64 2, .int .i64 3, .int .i64 4, .int .i64 5, .int .i64 6, .int .i64 7, .int .i64 8, .int .i64 9] 2)) w.heap.size 0 9 9 lit9 := by
  refine OI.own (RowOf.own (xs := lit9) ⟨_, heap_alloc_new w _, rfl, fun i hi => ?_⟩ (by unfold maxLen lit9; simp))
  have hi' : i < 9 := hi
  obtain rfl | rfl | rfl | rfl | rfl | rfl | rfl | rfl | rfl : i = 0 ∨ i = 1 ∨ i = 2 ∨ i = 3 ∨ i = 4 ∨ i = 5 ∨ i = 6 ∨ i = 7 ∨ i = 8 := by omega
  all_goals rfl
set_option maxRecDepth 100000 in
set_option maxHeartbeats 6400000 in
theorem drawVw_any {w X : World} {p : Nat} {a : Option Addr} {len cap : Nat} {bs : Nat → Int} (h : Cc w X p a len cap bs) :
    Calls Try.prog 73 #[.pointer (some ⟨p, 0, none⟩)] X fun e X' => ∃ (v : Vw) (ta : Option Addr) (tc : Nat) (fp : Fp), e = .returned (vwV v.1 ta v.2.length tc) ∧ SmV v ∧ Cel.ow X' (icl v.2) (.slice ta v.2.length tc) fp ∧ (∀ b, fp b → X.heap.size ≤ b) ∧ Cc w X' p a len cap bs ∧ X.grownBy X' (some p) := by
  have hmix : Try.prog.follows .mixedOrders = true := by kernel_rfl
  obtain ⟨i0, hi0, hz0, hz1, hz2⟩ := info_parts2n Try.info2n
  have c1 := h.step (one14 X (.cells #[.int .i64 0, .slice none 0 0] 34))
  have hB1 := belowC 4 4 rfl c1 (by omega) (by omega)
  have hpl := h.lt
  have HR : Hid (Bx (X.alloc (.cells #[.int .i64 0, .slice none 0 0] 34)) X.heap.size 34 #[.int .i64 0, .slice none 0 0]) := Bx.new _ _ _
  have HGX : Hid (X.grownBy (X.alloc (.cells #[.int .i64 0, .slice none 0 0] 34)) (some p)) := World.grownBy_alloc X _ _
  go_enter Try.func73, Try.ntmps73
  go_wp2_with fail
  refine hB1.mono ?_
  rintro e Y1 ⟨v, rfl, hv, c2, g1⟩
  have L0 : VD w X (Y1.alloc (.cells #[.int .i64 (1 + (v : Int)), .slice none 0 0] 34)) p a len cap bs Y1.heap.size (1 + (v : Int)) [] none 0 (fun _ => False) := by
    have hs1 := g1.size
    rw [World.size_alloc] at hs1
    have hr := HR.out.grown g1 (by simp; omega)
    exact ⟨c2.step (one14 _ _), hr.alloc _, Bx.new _ _ _, ow_icl.2 ⟨none, 0, none, rfl, OSo.nil _ _ plainN, fun b => by simp⟩, fun b hb => absurd hb id, hpl, by omega, grown_trans (grown_trans HGX.out g1) (World.grownBy_alloc _ _ _)⟩
  have hw1 : wrap64 (1 + (v : Int)) = 1 + (v : Int) := by unfold wrap64; omega
  have HV : Hid (0 ≤ 1 + (v : Int) ∧ 1 + (v : Int) ≤ 1000001) := by rw [Hid]; omega
  have HL1 : Hid (VD w X (Y1.alloc (.cells #[.int .i64 (1 + (v : Int)), .slice none 0 0] 34)) p a len cap bs Y1.heap.size (1 + (v : Int)) [] none 0 (fun _ => False)) := L0
  clear hB1 c1 c2 g1 L0
  go_wp2_with fail
  clear hw1
  generalize 1 + (v : Int) = F at *
  obtain ⟨Y2, hY2⟩ : ∃ Y2, Y1.alloc (.cells #[.int .i64 F, .slice none 0 0] 34) = Y2 := ⟨_, rfl⟩
  (try rw [hY2]); rw [hY2] at HL1
  generalize Y1.heap.size = o at *
  go_loopw [4] (fun i wr => ∃ (k : Nat) (T : List Int) (ta : Option Addr) (tc : Nat) (fp : Fp), k ≤ 7 ∧ i = .int .i64 (k : Int) ∧ VD w X wr p a len cap bs o F T ta tc fp ∧ T.length ≤ k ∧ ∀ x ∈ T, -1 ≤ x ∧ x ≤ 100) (fun i _ => 7 - (intOf i).toNat)
  case atStart => exact ⟨0, [], none, 0, _, by omega, rfl, HL1.out, by simp, fun x hx => absurd hx List.not_mem_nil⟩
  case round =>
    clear HL1
    obtain ⟨k, T, ta, tc, fp, hk, rfl, hL, hTk, hTl⟩ := hrel
    have HTl : Hid (∀ x ∈ T, -1 ≤ x ∧ x ≤ 100) := hTl
    clear hTl
    by_cases hlt : k < 7
    · have k0 : (k : Int) < 7 := by omega
      have hO := onceC 2 hL.cc (by omega)
      have HL : Hid (VD w X wr p a len cap bs o F T ta tc fp) := hL
      clear hL
      go_wp2_with fail
      refine hO.mono ?_
      rintro e Y4 ⟨t, rfl, c5, g5⟩
      have L4 := HL.out.drawn g5 c5
      clear hO c5 g5 HL
      cases t with
      | false =>
        have HL4 : Hid (VD w X Y4 p a len cap bs o F T ta tc fp) := L4
        clear L4
        go_wp2
        go_roundw
        case rel => exact ⟨k + 1, T, ta, tc, fp, by omega, by go_num, HL4.out, by omega, HTl.out⟩
        case measure => simp [intOf]; omega
      | true =>
        have hA := VD.app i0 hi0 hz0 hz1 hz2 L4 (k : Int) (by omega)
        have x0 := L4.own.at 1 rfl
        have x1 := L4.own.f 1
        have HTs : Hid (∀ x ∈ T ++ [(k : Int)], -1 ≤ x ∧ x ≤ 100) := fun x hx => by
          rcases List.mem_append.1 hx with h | h
          · exact HTl.out x h
          · rw [List.mem_singleton.1 h]; omega
        clear L4
        go_wp2_with (at_builtin; refine wpList_append_of rfl _ _ _ _ rfl _ _ rfl rfl hA ⟨rfl, rfl, rfl, rfl⟩ ?_; rintro v' w4 ⟨a4, c4, rfl, q1, q2, fp4, hLn⟩)
        have HLn : Hid (VD w X (w4.setCell ⟨o, 1, none⟩ (.slice a4 (T.length + 1) c4)) p a len cap bs o F (T ++ [(k : Int)]) a4 c4 fp4) := hLn
        clear hLn hA x0 x1 q1 q2
        go_roundw
        case rel => exact ⟨k + 1, T ++ [(k : Int)], a4, c4, fp4, by omega, by go_num, HLn.out, by rw [List.length_append, List.length_singleton]; omega, HTs.out⟩
        case measure => simp [intOf]; omega
    · have k0 : ¬ ((k : Int) < 7) := by omega
      have hT7 : T.length ≤ 7 := by omega
      have hO := onceC 14 hL.cc (by omega)
      have HL : Hid (VD w X wr p a len cap bs o F T ta tc fp) := hL
      clear hL
      go_wp2_with fail
      refine hO.mono ?_
      rintro e Y4 ⟨t, rfl, c5, g5⟩
      have L4 := HL.out.drawn g5 c5
      clear hO c5 g5 HL
      cases t with
      | false =>
        have HSM : Hid (SmV (F, T)) := ⟨HV.out, by simp only; omega, HTl.out⟩
        obtain ⟨e0, e1⟩ := bx2 L4.own
        obtain ⟨e2, e3⟩ := bx2 L4.res
        have e4 := L4.res.f 0
        have e5 := L4.res.f 1
        have HA := L4.ans
        clear L4
        go_wp2
        refine bodyPost_ret (v := .agg #[.int .i64 F, .slice ta T.length tc]) (by simp [results, Try.results73, go_sem, *]) rfl ?_
        exact ⟨(F, T), ta, tc, _, rfl, HSM.out, HA⟩
      | true =>
        have hB3 := belowC 3 3 rfl L4.cc (by omega) (by omega)
        have HL4 : Hid (VD w X Y4 p a len cap bs o F T ta tc fp) := L4
        clear L4
        go_wp2_with fail
        refine hB3.mono ?_
        rintro e Y5 ⟨y, rfl, hy, c6, g6⟩
        have L5 := HL4.out.drawn g6 c6
        clear hB3 c6 g6 HL4
        obtain rfl | rfl | rfl : y = 0 ∨ y = 1 ∨ y = 2 := by omega
        · have L6 := L5.step (one14 Y5 (.cells #[.int .i64 0, .int .i64 1000000, .int .i64 1000001] 2))
          have hB4 := belowC 3 3 rfl L6.cc (by omega) (by omega)
          have hq := Bx.new Y5 2 #[.int .i64 0, .int .i64 1000000, .int .i64 1000001]
          have hpY : p < Y5.heap.size := L5.cc.lt
          have HL6 : Hid (VD w X (Y5.alloc (.cells #[.int .i64 0, .int .i64 1000000, .int .i64 1000001] 2)) p a len cap bs o F T ta tc fp) := L6
          clear L5 L6
          go_wp2_with fail
          refine hB4.mono ?_
          rintro e Y6 ⟨z, rfl, hz, c7, g7⟩
          have L7 := HL6.out.drawn g7 c7
          have hq7 := hq.grown g7 (by simp; omega)
          obtain ⟨d0, d1⟩ := bx2 L7.own
          have d2 := L7.own.f 0
          clear hB4 c7 g7 HL6 hq
          obtain rfl | rfl | rfl : z = 0 ∨ z = 1 ∨ z = 2 := by omega
          · have L8 := L7.setF 0
            have hqc : Y6.cell? ⟨Y5.heap.size, 0, none⟩ = some (.int .i64 0) := hq7.at 0 rfl
            have HSM : Hid (SmV (0, T)) := ⟨by simp only; omega, by simp only; omega, HTl.out⟩
            clear L7
            obtain ⟨e0, e1⟩ := bx2 L8.own
            obtain ⟨e2, e3⟩ := bx2 L8.res
            have e4 := L8.res.f 0
            have e5 := L8.res.f 1
            have HA := L8.ans
            clear L8
            go_wp2
            refine bodyPost_ret (v := .agg #[.int .i64 0, .slice ta T.length tc]) (by simp [results, Try.results73, go_sem, *]) rfl ?_
            exact ⟨(0, T), ta, tc, _, rfl, HSM.out, HA⟩
          · have L8 := L7.setF 1000000
            have hqc : Y6.cell? ⟨Y5.heap.size, 1, none⟩ = some (.int .i64 1000000) := hq7.at 1 rfl
            have HSM : Hid (SmV (1000000, T)) := ⟨by simp only; omega, by simp only; omega, HTl.out⟩
            clear L7
            obtain ⟨e0, e1⟩ := bx2 L8.own
            obtain ⟨e2, e3⟩ := bx2 L8.res
            have e4 := L8.res.f 0
            have e5 := L8.res.f 1
            have HA := L8.ans
            clear L8
            go_wp2
            refine bodyPost_ret (v := .agg #[.int .i64 1000000, .slice ta T.length tc]) (by simp [results, Try.results73, go_sem, *]) rfl ?_
            exact ⟨(1000000, T), ta, tc, _, rfl, HSM.out, HA⟩
          · have L8 := L7.setF 1000001
            have hqc : Y6.cell? ⟨Y5.heap.size, 2, none⟩ = some (.int .i64 1000001) := hq7.at 2 rfl
            have HSM : Hid (SmV (1000001, T)) := ⟨by simp only; omega, by simp only; omega, HTl.out⟩
            clear L7
            obtain ⟨e0, e1⟩ := bx2 L8.own
            obtain ⟨e2, e3⟩ := bx2 L8.res
            have e4 := L8.res.f 0
            have e5 := L8.res.f 1
            have HA := L8.ans
            clear L8
            go_wp2
            refine bodyPost_ret (v := .agg #[.int .i64 1000001, .slice ta T.length tc]) (by simp [results, Try.results73, go_sem, *]) rfl ?_
            exact ⟨(1000001, T), ta, tc, _, rfl, HSM.out, HA⟩
        · have L6 := L5.step (Same.drewN Y5 1).below
          have x1 := L5.own.at 1 rfl
          have hlen : T.length ≤ 1000 := by omega
          have hpY : p < Y5.heap.size := L5.cc.lt
          have HL5 : Hid (VD w X (Y5.drewN 1) p a len cap bs o F T ta tc fp) := L6
          have HB : Hid (∀ V, VD w X V p a len cap bs o F T ta tc fp → Calls Try.prog 55 #[.pointer (some ⟨p, 0, none⟩), .int .i64 4] V fun e w' => ∃ y : Nat, e = .returned (.int .i64 (y : Int)) ∧ y < 4 ∧ Cc w w' p a len cap bs ∧ V.grownBy w' (some p)) := fun V h => belowC 4 4 rfl h.cc (by omega) (by omega)
          clear L5 L6
          go_wp2_with fail
          refine gt_begin (S := fun X : World => X.cell? ⟨o, 1, none⟩ = some (.slice ta T.length tc)) 10 hmix (by kernel_rfl) ?_
          have hHeld : (fun X : World => X.cell? ⟨o, 1, none⟩ = some (.slice ta T.length tc)) Y5.drew := x1
          refine gt_take (i := 0) (v := ?_) rfl (by kernel_rfl) (by kernel_rfl) (by kernel_rfl) (by kernel_rfl) (fun _ _ _ h => h) (Or.inl ⟨by rfl, ?_⟩) hHeld ?_
          rotate_left
          · (intro X hSX; (try dsimp only at hSX); have g0 := hSX; go_simp; try with_reducible rfl)
          try simp only [Act.put, List.setIfInBounds_toArray, List.set_cons_zero, List.set_cons_succ]
          refine gt_take (i := 1) (v := ?_) rfl (by kernel_rfl) (by kernel_rfl) (by kernel_rfl) (by kernel_rfl) (fun _ _ _ h => h) (Or.inl ⟨by rfl, ?_⟩) hHeld ?_
          rotate_left
          · (intro X hSX; (try dsimp only at hSX); have g0 := hSX; go_simp; try with_reducible rfl)
          try simp only [Act.put, List.setIfInBounds_toArray, List.set_cons_zero, List.set_cons_succ]
          refine gt_pure (i := 3) (v := ?_) rfl (by kernel_rfl) (by kernel_rfl) (by kernel_rfl) (fun _ _ _ h => h) (Or.inl ⟨by rfl, ?_⟩) ?_
          rotate_left
          · (intro X; go_simp; try with_reducible rfl)
          try simp only [Act.put, List.setIfInBounds_toArray, List.set_cons_zero, List.set_cons_succ]
          refine gt_two (i := 2) (j := 4) rfl rfl (by kernel_rfl) (by kernel_rfl) (fun K hK => ?_) (fun K hK => ?_)
          · go_simp
            have L6 := HL5.out.step (one14 (Y5.drewN 1) (.cells #[.int .i64 99, .int .i64 100, .int .i64 (-1), .int .i64 3] 2))
            have hq : Bx _ Y5.heap.size 2 (arC lit4v) := Bx.new (Y5.drewN 1) 2 #[.int .i64 99, .int .i64 100, .int .i64 (-1), .int .i64 3]
            refine hK.out _ _ (L6.own.at 1 rfl) (fun hHeld2 => ?_)
            clear hK hHeld
            have hHeld := hHeld2
            clear hHeld2
            try simp only [Act.put, List.setIfInBounds_toArray, List.set_cons_zero, List.set_cons_succ]
            refine gt_one (i := 4) rfl (by kernel_rfl) (by kernel_rfl) (fun K hK => ?_)
            go_simp
            go_at_call 55
            refine (HB.out _ L6).mono ?_
            rintro e V7 ⟨y, rfl, hy, c7, g7⟩
            have L7 := L6.drawn g7 c7
            have hcell := cell_arC (hq.grown g7 (by simp; omega)) (i := y) hy
            clear L6 hq c7 g7
            refine hK.out _ _ (L7.own.at 1 rfl) (fun hHeld2 => ?_)
            clear hK hHeld
            have hHeld := hHeld2
            clear hHeld2
            try simp only [Act.put, List.setIfInBounds_toArray, List.set_cons_zero, List.set_cons_succ]
            have j1 : (y : Int) < 4 := by omega
            have j0 : (0 : Int) ≤ (y : Int) := by omega
            have hzb : -1 ≤ el lit4v y ∧ el lit4v y ≤ 100 := by
              obtain rfl | rfl | rfl | rfl : y = 0 ∨ y = 1 ∨ y = 2 ∨ y = 3 := by omega
              all_goals decide
            generalize el lit4v y = s at *
            refine gt_pure (i := 5) (v := ?_) rfl (by kernel_rfl) (by kernel_rfl) (by kernel_rfl) (fun _ _ _ h => h) (Or.inl ⟨by rfl, ?_⟩) ?_
            rotate_left
            · (intro X; go_simp; try with_reducible rfl)
            try simp only [Act.put, List.setIfInBounds_toArray, List.set_cons_zero, List.set_cons_succ]
            refine gt_one (i := 6) rfl (by kernel_rfl) (by kernel_rfl) (fun K hK => ?_)
            go_simp
            refine hK.out _ _ (L7.own.at 1 rfl) (fun hHeld2 => ?_)
            clear hK hHeld
            have hHeld := hHeld2
            clear hHeld2
            try simp only [Act.put, List.setIfInBounds_toArray, List.set_cons_zero, List.set_cons_succ]
            refine gt_one (i := 7) rfl (by kernel_rfl) (by kernel_rfl) (fun K hK => ?_)
            go_simp
            refine hK.out _ _ ((L7.own.alloc (.cells #[.int .i64 s] 2)).at 1 rfl) (fun hHeld2 => ?_)
            clear hK hHeld
            have hHeld := hHeld2
            clear hHeld2
            try simp only [Act.put, List.setIfInBounds_toArray, List.set_cons_zero, List.set_cons_succ]
            have hA := VD.app i0 hi0 hz0 hz1 hz2 L7 s hlen
            refine gt_one (i := 8) rfl (by kernel_rfl) (by kernel_rfl) (fun K hK => ?_)
            refine step_append_of (by rfl) _ _ _ _ (by rfl) (.slice ta T.length tc) _ (by rfl) (by rfl) hA ⟨rfl, rfl, rfl, rfl⟩ ?_
            rintro v' w4 ⟨a', c', rfl, q1, q2, fp', hLn⟩
            refine hK.out _ _ q1 (fun hHeld2 => ?_)
            clear hK hHeld
            have hHeld := hHeld2
            clear hHeld2
            try simp only [Act.put, List.setIfInBounds_toArray, List.set_cons_zero, List.set_cons_succ]
            refine gt_take (i := 9) (v := ?_) rfl (by kernel_rfl) (by kernel_rfl) (by kernel_rfl) (by kernel_rfl) (fun _ _ _ h => h) (Or.inl ⟨by rfl, ?_⟩) hHeld ?_
            rotate_left
            · (intro X hSX; (try dsimp only at hSX); have g0 := hSX; go_simp; try with_reducible rfl)
            try simp only [Act.put, List.setIfInBounds_toArray, List.set_cons_zero, List.set_cons_succ]
            have HSM : Hid (SmV (F, T ++ [s])) := ⟨HV.out, by simp; omega, fun x hx => by
              rcases List.mem_append.1 hx with h | h
              · exact HTl.out x h
              · rw [List.mem_singleton.1 h]; exact ⟨hzb.1, hzb.2⟩⟩
            have HL9 : (T ++ [s]).length = T.length + 1 := by simp
            clear L7 hA hcell
            refine gt_last rfl (by kernel_rfl) (by kernel_rfl) (fun K hK => ?_)
            go_simp
            refine hK.out _ _ ?_
            obtain ⟨e0, e1⟩ := bx2 hLn.own
            obtain ⟨e2, e3⟩ := bx2 hLn.res
            have e4 := hLn.res.f 0
            have e5 := hLn.res.f 1
            have HA := hLn.ans
            rw [HL9] at e1 HA
            clear hLn HL9
            go_wp2
            refine bodyPost_ret (v := .agg #[.int .i64 F, .slice a' (T.length + 1) c']) (by simp [results, Try.results73, go_sem, *]) rfl ?_
            exact ⟨(F, T ++ [s]), a', c', fp', by simp [vwV], HSM.out, by simpa using HA⟩
          · go_simp
            go_at_call 55
            refine (HB.out _ HL5.out).mono ?_
            rintro e V6 ⟨y, rfl, hy, c7, g7⟩
            have L6 := HL5.out.drawn g7 c7
            have L7 := L6.step (one14 V6 (.cells #[.int .i64 99, .int .i64 100, .int .i64 (-1), .int .i64 3] 2))
            have hq : Bx _ _ 2 (arC lit4v) := Bx.new V6 2 #[.int .i64 99, .int .i64 100, .int .i64 (-1), .int .i64 3]
            have hcell := cell_arC hq (i := y) hy
            refine hK.out _ _ (L6.own.at 1 rfl) (fun hHeld2 => ?_)
            clear hK hHeld
            have hHeld := hHeld2
            clear hHeld2
            try simp only [Act.put, List.setIfInBounds_toArray, List.set_cons_zero, List.set_cons_succ]
            refine gt_one (i := 2) rfl (by kernel_rfl) (by kernel_rfl) (fun K hK => ?_)
            go_simp
            refine hK.out _ _ (L7.own.at 1 rfl) (fun hHeld2 => ?_)
            clear hK hHeld
            have hHeld := hHeld2
            clear hHeld2
            try simp only [Act.put, List.setIfInBounds_toArray, List.set_cons_zero, List.set_cons_succ]
            clear L6 hq c7 g7
            generalize hV7 : V6.alloc (.cells #[.int .i64 99, .int .i64 100, .int .i64 (-1), .int .i64 3] 2) = V7 at *
            have j1 : (y : Int) < 4 := by omega
            have j0 : (0 : Int) ≤ (y : Int) := by omega
            have hzb : -1 ≤ el lit4v y ∧ el lit4v y ≤ 100 := by
              obtain rfl | rfl | rfl | rfl : y = 0 ∨ y = 1 ∨ y = 2 ∨ y = 3 := by omega
              all_goals decide
            generalize el lit4v y = s at *
            refine gt_pure (i := 5) (v := ?_) rfl (by kernel_rfl) (by kernel_rfl) (by kernel_rfl) (fun _ _ _ h => h) (Or.inl ⟨by rfl, ?_⟩) ?_
            rotate_left
            · (intro X; go_simp; try with_reducible rfl)
            try simp only [Act.put, List.setIfInBounds_toArray, List.set_cons_zero, List.set_cons_succ]
            refine gt_one (i := 6) rfl (by kernel_rfl) (by kernel_rfl) (fun K hK => ?_)
            go_simp
            refine hK.out _ _ (L7.own.at 1 rfl) (fun hHeld2 => ?_)
            clear hK hHeld
            have hHeld := hHeld2
            clear hHeld2
            try simp only [Act.put, List.setIfInBounds_toArray, List.set_cons_zero, List.set_cons_succ]
            refine gt_one (i := 7) rfl (by kernel_rfl) (by kernel_rfl) (fun K hK => ?_)
            go_simp
            refine hK.out _ _ ((L7.own.alloc (.cells #[.int .i64 s] 2)).at 1 rfl) (fun hHeld2 => ?_)
            clear hK hHeld
            have hHeld := hHeld2
            clear hHeld2
            try simp only [Act.put, List.setIfInBounds_toArray, List.set_cons_zero, List.set_cons_succ]
            have hA := VD.app i0 hi0 hz0 hz1 hz2 L7 s hlen
            refine gt_one (i := 8) rfl (by kernel_rfl) (by kernel_rfl) (fun K hK => ?_)
            refine step_append_of (by rfl) _ _ _ _ (by rfl) (.slice ta T.length tc) _ (by rfl) (by rfl) hA ⟨rfl, rfl, rfl, rfl⟩ ?_
            rintro v' w4 ⟨a', c', rfl, q1, q2, fp', hLn⟩
            refine hK.out _ _ q1 (fun hHeld2 => ?_)
            clear hK hHeld
            have hHeld := hHeld2
            clear hHeld2
            try simp only [Act.put, List.setIfInBounds_toArray, List.set_cons_zero, List.set_cons_succ]
            refine gt_take (i := 9) (v := ?_) rfl (by kernel_rfl) (by kernel_rfl) (by kernel_rfl) (by kernel_rfl) (fun _ _ _ h => h) (Or.inl ⟨by rfl, ?_⟩) hHeld ?_
            rotate_left
            · (intro X hSX; (try dsimp only at hSX); have g0 := hSX; go_simp; try with_reducible rfl)
            try simp only [Act.put, List.setIfInBounds_toArray, List.set_cons_zero, List.set_cons_succ]
            have HSM : Hid (SmV (F, T ++ [s])) := ⟨HV.out, by simp; omega, fun x hx => by
              rcases List.mem_append.1 hx with h | h
              · exact HTl.out x h
              · rw [List.mem_singleton.1 h]; exact ⟨hzb.1, hzb.2⟩⟩
            have HL9 : (T ++ [s]).length = T.length + 1 := by simp
            clear L7 hA hcell
            refine gt_last rfl (by kernel_rfl) (by kernel_rfl) (fun K hK => ?_)
            go_simp
            refine hK.out _ _ ?_
            obtain ⟨e0, e1⟩ := bx2 hLn.own
            obtain ⟨e2, e3⟩ := bx2 hLn.res
            have e4 := hLn.res.f 0
            have e5 := hLn.res.f 1
            have HA := hLn.ans
            rw [HL9] at e1 HA
            clear hLn HL9
            go_wp2
            refine bodyPost_ret (v := .agg #[.int .i64 F, .slice a' (T.length + 1) c']) (by simp [results, Try.results73, go_sem, *]) rfl ?_
            exact ⟨(F, T ++ [s]), a', c', fp', by simp [vwV], HSM.out, by simpa using HA⟩
        · have L6 := L5.step (one14 Y5 (.cells #[.int .i64 1, .int .i64 2, .int .i64 3, .int .i64 4, .int .i64 5, .int .i64 6, .int .i64 7, .int .i64 8, .int .i64 9] 2))
          have hB4 := belowC 2 2 rfl L6.cc (by omega) (by omega)
          have hq := lit9_oi Y5
          have hpY : p < Y5.heap.size := L5.cc.lt
          have hoY : o < Y5.heap.size := L5.own.lt
          have HL6 : Hid (VD w X (Y5.alloc (.cells #[.int .i64 1, .int .i64 2, .int .i64 3, .int .i64 4, .int .i64 5, .int .i64 6, .int .i64 7, .int .i64 8, .int .i64 9] 2)) p a len cap bs o F T ta tc fp) := L6
          clear L5 L6
          go_wp2_with fail
          refine hB4.mono ?_
          rintro e Y6 ⟨z, rfl, hz, c7, g7⟩
          have L7 := HL6.out.drawn g7 c7
          have hq7 : OI Y6 Y5.heap.size 0 9 9 lit9 := OSl.grown hq g7 (by simp; omega)
          obtain ⟨d0, d1⟩ := bx2 L7.own
          have d2 := L7.own.f 1
          clear hB4 c7 g7 HL6 hq
          obtain rfl | rfl : z = 0 ∨ z = 1 := by omega
          · obtain ⟨T', hT', hOI, hx⟩ : ∃ T' : List Int, T'.length = 9 ∧ OI Y6 Y5.heap.size 0 9 9 T' ∧ ∀ x ∈ T', -1 ≤ x ∧ x ≤ 100 := ⟨lit9, rfl, hq7, by intro x hx; simp [lit9] at hx; omega⟩
            have L8 := L7.setT (T' := T') (ta' := (some ⟨Y5.heap.size, 0, none⟩)) (tc' := 9) (fp' := fun b => b = Y5.heap.size) (ow_icl.2 ⟨_, _, some Y5.heap.size, rfl, OSo.of (by rw [hT']; exact hOI), fun b => by simp [eq_comm]⟩) (fun b hb => by omega)
            have HSM : Hid (SmV (F, T')) := ⟨HV.out, by simp only; omega, hx⟩
            clear L7 hq7 hOI hx
            obtain ⟨e0, e1⟩ := bx2 L8.own
            obtain ⟨e2, e3⟩ := bx2 L8.res
            have e4 := L8.res.f 0
            have e5 := L8.res.f 1
            have HA := L8.ans
            clear L8
            have HT : Hid (T'.length = 9) := hT'
            rw [hT'] at e0 e1 e2 e3 e4 e5 HA
            clear hT'
            go_wp2
            refine bodyPost_ret (v := .agg #[.int .i64 F, .slice (some ⟨Y5.heap.size, 0, none⟩) 9 9]) (by simp [results, Try.results73, go_sem, *]) rfl ?_
            exact ⟨(F, T'), (some ⟨Y5.heap.size, 0, none⟩), 9, _, by simp only [HT.out]; rfl, HSM.out, by simp only [HT.out]; exact HA⟩
          · obtain ⟨T', hT', hOI, hx⟩ : ∃ T' : List Int, T'.length = 8 ∧ OI Y6 Y5.heap.size 1 8 8 T' ∧ ∀ x ∈ T', -1 ≤ x ∧ x ≤ 100 := ⟨(lit9.drop 1), rfl, num_tailV hq7, by intro x hx; simp [lit9] at hx; omega⟩
            have L8 := L7.setT (T' := T') (ta' := (some ⟨Y5.heap.size, 1, none⟩)) (tc' := 8) (fp' := fun b => b = Y5.heap.size) (ow_icl.2 ⟨_, _, some Y5.heap.size, rfl, OSo.of (by rw [hT']; exact hOI), fun b => by simp [eq_comm]⟩) (fun b hb => by omega)
            have HSM : Hid (SmV (F, T')) := ⟨HV.out, by simp only; omega, hx⟩
            clear L7 hq7 hOI hx
            obtain ⟨e0, e1⟩ := bx2 L8.own
            obtain ⟨e2, e3⟩ := bx2 L8.res
            have e4 := L8.res.f 0
            have e5 := L8.res.f 1
            have HA := L8.ans
            clear L8
            have HT : Hid (T'.length = 8) := hT'
            rw [hT'] at e0 e1 e2 e3 e4 e5 HA
            clear hT'
            go_wp2
            refine bodyPost_ret (v := .agg #[.int .i64 F, .slice (some ⟨Y5.heap.size, 1, none⟩) 8 8]) (by simp [results, Try.results73, go_sem, *]) rfl ?_
            exact ⟨(F, T'), (some ⟨Y5.heap.size, 1, none⟩), 8, _, by simp only [HT.out]; rfl, HSM.out, by simp only [HT.out]; exact HA⟩
end Go.Proofs.Ytbmpapmdkmnhhaa

/-
  The draws DrawLeader, DrawMajority, DrawRank and DrawAfter of stage 14.
-/
namespace Go.Proofs.Ytbmpapmdkmnhhaa
set_option linter.unusedVariables false
set_option linter.unusedSimpArgs false
open Go.RowKit Go.Sort

/-- A drawn view, to be read. -/
structure RdV (w : World) (F : Int) (a : Option Addr) (c : Nat) (M : List Int) : Prop where
  vcp : VcP w a c M
  sm : SmV (F, M)
theorem RdV.below {w w' : World} {F : Int} {a : Option Addr} {c : Nat} {M : List Int} (h : RdV w F a c M) (hb : Below w.heap.size w w') : RdV w' F a c M := ⟨h.vcp.below hb, h.sm⟩
theorem SmV.fits {F : Int} {M : List Int} (h : SmV (F, M)) : Fits M := fun x hx => by have := h.2.2 x hx; omega
/-- A drawn list, to be read. -/
structure RdI (w : World) (a : Option Addr) (c : Nat) (V : List Int) : Prop where
  vcp : VcP w a c V
  len : V.length ≤ 4
  el_ : ∀ x ∈ V, -1 ≤ x ∧ x ≤ 10
theorem RdI.below {w w' : World} {a : Option Addr} {c : Nat} {V : List Int} (h : RdI w a c V) (hb : Below w.heap.size w w') : RdI w' a c V := ⟨h.vcp.below hb, h.len, h.el_⟩
theorem fits10 {V : List Int} (h : ∀ x ∈ V, -1 ≤ x ∧ x ≤ 10) : Fits V := fun x hx => by have := h x hx; omega
theorem oi_rdi {w : World} {g og cg : Nat} {V : List Int} (h : OI w g og V.length cg V) (hl : V.length ≤ 4) (hx : ∀ x ∈ V, -1 ≤ x ∧ x ≤ 10) : RdI w (some ⟨g, og, none⟩) cg V := ⟨ow_vcp (ow_icl.2 ⟨_, _, some g, rfl, OSo.of h, fun b => Iff.rfl⟩) (fits10 hx), hl, hx⟩
theorem oi_set2 {w : World} {g og cg b : Nat} {V : List Int} {x y : Value} (h : OI w g og V.length cg V) (hne : g ≠ b) : OI ((w.setCell ⟨b, 0, none⟩ x).setCell ⟨b, 1, none⟩ y) g og V.length cg V :=
  OSl.grown h (grown_set (grown_set (grown_refl w (some b)) 0 x) 1 y) (by simp; omega)
set_option maxRecDepth 100000 in
set_option maxHeartbeats 3200000 in
theorem drawLd_own (a : Option Addr) (len cap : Nat) (bs : Nat → Int) (w : World) (hv : BVec w a len bs) (hl : len ≤ 4096) :
    Calls Try.prog 40 #[.slice a len cap] w fun e w' => ∃ F ta tc T fp gv og cg V, e = .returned (.tuple #[vwV F ta (List.length T) tc, .slice (some ⟨gv, og, none⟩) (List.length V) cg]) ∧ SmV (F, T) ∧ Cel.ow w' (icl T) (.slice ta T.length tc) fp ∧ (∀ b, fp b → w.heap.size ≤ b) ∧ OI w' gv og V.length cg V ∧ w.heap.size ≤ gv ∧ V.length ≤ 4 ∧ (∀ x ∈ V, -1 ≤ x ∧ x ≤ 10) ∧ Below w.heap.size w w' := by
  have hb1 := one14 w (.cells #[.int .i64 0, .slice none 0 0] 34)
  have R1 := Bx.new w 34 #[.int .i64 0, .slice none 0 0]
  generalize hW1 : w.alloc (.cells #[.int .i64 0, .slice none 0 0] 34) = X1 at *
  have hmix : Try.prog.follows .mixedOrders = true := by kernel_rfl
  go_enter Try.func40, Try.ntmps40
  go_wp2_with fail
  refine (newC a len cap bs w X1 hb1 hv hl).mono ?_
  rintro e X2 ⟨p, rfl, hp, C2, hb2⟩
  go_wp2_with fail
  refine (drawVw_any C2).mono ?_
  rintro e X3 ⟨⟨F, T⟩, ta, tc, fp, rfl, hsm, hown, hfp, C3, hg3⟩
  unfold vwV
  dsimp only at hown hfp ⊢
  have D := DH.start (F := F) R1 hp C2.lt hb2 hg3 C3 hown hfp
  have HSM : Hid (SmV (F, T)) := hsm
  generalize hW4 : X3.alloc (.cells #[.int .i64 F, .slice ta T.length tc] 34) = X4 at *
  clear hb1 hb2 R1 C2 hown hfp C3 hg3 hsm
  have SD : ∀ W, DH w W p a len cap bs 34 X3.heap.size F (icl T) (.slice ta T.length tc) fp → W.cell? ⟨X3.heap.size, 0, none⟩ = some (.int .i64 F) ∧ W.cell? ⟨X3.heap.size, 1, none⟩ = some (.slice ta T.length tc) := fun W h => bx2 h.box
  have D0 := D.drewN 1
  have hpl : w.heap.size < p ∧ p < (X4.drewN 1).heap.size := ⟨D0.hp, D0.cc.lt⟩
  clear D
  go_wp2_with fail
  go_region_held3 (fun W => W.cell? ⟨X3.heap.size, 0, none⟩ = some (.int .i64 F) ∧ W.cell? ⟨X3.heap.size, 1, none⟩ = some (.slice ta T.length tc))
    (first
      | (with_reducible exact hAn)
      | (with_reducible exact SD _ DB)
      | exact SD _ D0)
    (first
      | (go_at_call 74; refine (drawLi_any D0.cc).mono ?_; rintro e WB ⟨V, gv, og, cg, rfl, oB, hgv, hVl, hVx, CD, hgB⟩; have DB := D0.drawn hgB CD; have hAn := (DB.ans (x := .int .i64 F) (y := .slice ta T.length tc)).2.2.1; have f0 := DB.res.f 0; have f1 := DB.res.f 1; obtain ⟨u0, u1⟩ := bx2 DB.res))
  obtain ⟨ho, hbl, _, r0, r1⟩ := DB.ans (x := .int .i64 F) (y := .slice ta T.length tc)
  have HW : Hid (RdV ((WB.setCell ⟨w.heap.size, 0, none⟩ (.int .i64 F)).setCell ⟨w.heap.size, 1, none⟩ (.slice ta T.length tc)) F ta tc T) := ⟨ow_vcp ho HSM.out.fits, HSM.out⟩
  have HB : Hid (Below w.heap.size w ((WB.setCell ⟨w.heap.size, 0, none⟩ (.int .i64 F)).setCell ⟨w.heap.size, 1, none⟩ (.slice ta T.length tc))) := hbl
  have HL : Hid (OI ((WB.setCell ⟨w.heap.size, 0, none⟩ (.int .i64 F)).setCell ⟨w.heap.size, 1, none⟩ (.slice ta T.length tc)) gv og V.length cg V ∧ w.heap.size ≤ gv ∧ V.length ≤ 4 ∧ ∀ x ∈ V, -1 ≤ x ∧ x ≤ 10) := ⟨oi_set2 oB (by omega), by omega, hVl, hVx⟩
  have HO : Hid (Cel.ow ((WB.setCell ⟨w.heap.size, 0, none⟩ (.int .i64 F)).setCell ⟨w.heap.size, 1, none⟩ (.slice ta T.length tc)) (icl T) (.slice ta T.length tc) fp ∧ ∀ b, fp b → w.heap.size ≤ b) := ⟨ho, fun b hb => by have := DB.fpl b hb; omega⟩
  clear oB hVx
  clear ho hbl D0 DB hAn hgB CD u0 u1 f0 f1
  go_wp2
  refine bodyPost_ret (v := .tuple #[.agg #[.int .i64 F, .slice ta T.length tc], .slice (some ⟨gv, og, none⟩) V.length cg]) (by simp [results, Try.results40, go_sem, r0, r1]) rfl ?_
  exact ⟨F, ta, tc, T, fp, gv, og, cg, V, rfl, HSM.out, HO.out.1, HO.out.2, HL.out.1, HL.out.2.1, HL.out.2.2.1, HL.out.2.2.2, HB.out⟩
theorem drawLd_any (a : Option Addr) (len cap : Nat) (bs : Nat → Int) (w : World) (hv : BVec w a len bs) (hl : len ≤ 4096) :
    Calls Try.prog 40 #[.slice a len cap] w fun e w' => ∃ F ta tc T sa sc V, e = .returned (.tuple #[vwV F ta (List.length T) tc, .slice sa (List.length V) sc]) ∧ RdV w' F ta tc T ∧ RdI w' sa sc V ∧ Below w.heap.size w w' := (drawLd_own a len cap bs w hv hl).mono fun e w' h => by
  obtain ⟨F, ta, tc, T, fp, gv, og, cg, V, he, h1, h2, h3, h4, h5, h6, h7, h8⟩ := h
  exact ⟨F, ta, tc, T, _, cg, V, he, ⟨ow_vcp h2 h1.fits, h1⟩, oi_rdi h4 h6 h7, h8⟩
set_option maxRecDepth 100000 in
set_option maxHeartbeats 3200000 in
theorem drawMj_any (a : Option Addr) (len cap : Nat) (bs : Nat → Int) (w : World) (hv : BVec w a len bs) (hl : len ≤ 4096) :
    Calls Try.prog 29 #[.slice a len cap] w fun e w' => ∃ F ta tc T sa sc V, e = .returned (.tuple #[vwV F ta (List.length T) tc, .slice sa (List.length V) sc]) ∧ RdV w' F ta tc T ∧ RdI w' sa sc V ∧ Below w.heap.size w w' := by
  have hb1 := one14 w (.cells #[.int .i64 0, .slice none 0 0] 34)
  have R1 := Bx.new w 34 #[.int .i64 0, .slice none 0 0]
  generalize hW1 : w.alloc (.cells #[.int .i64 0, .slice none 0 0] 34) = X1 at *
  have hD := drawLd_own a len cap bs X1 (hv.below hb1 (Nat.le_refl _)) hl
  have hl1 := R1.lt
  unfold vwV at *
  go_enter Try.func29, Try.ntmps29
  go_wp2_with fail
  refine hD.mono ?_
  rintro e X2 ⟨F, ta, tc, T, fp, gv, og, cg, V, rfl, h1, h2, h3, h4, h5, h6, h7, h8⟩
  have R2 := R1.below h8
  obtain ⟨u0, u1⟩ := bx2 R2
  have f0 := R2.f 0
  have f1 := R2.f 1
  obtain ⟨r0, r1⟩ : ((X2.setCell ⟨w.heap.size, 0, none⟩ (.int .i64 F)).setCell ⟨w.heap.size, 1, none⟩ (.slice ta T.length tc)).cell? ⟨w.heap.size, 0, none⟩ = some (.int .i64 F) ∧ ((X2.setCell ⟨w.heap.size, 0, none⟩ (.int .i64 F)).setCell ⟨w.heap.size, 1, none⟩ (.slice ta T.length tc)).cell? ⟨w.heap.size, 1, none⟩ = some (.slice ta T.length tc) := bx2 (by simpa using (R2.setC 0 (.int .i64 F)).setC 1 (.slice ta T.length tc))
  have HW : Hid (RdV ((X2.setCell ⟨w.heap.size, 0, none⟩ (.int .i64 F)).setCell ⟨w.heap.size, 1, none⟩ (.slice ta T.length tc)) F ta tc T) := ⟨ow_vcp (Cel.ow_wrt h2 (setw2 X2 w.heap.size) (fun b hb e => by have := h3 b hb; omega)) h1.fits, h1⟩
  have HL : Hid (RdI ((X2.setCell ⟨w.heap.size, 0, none⟩ (.int .i64 F)).setCell ⟨w.heap.size, 1, none⟩ (.slice ta T.length tc)) (some ⟨gv, og, none⟩) cg V) := oi_rdi (oi_set2 h4 (by omega)) h6 h7
  have HB : Hid (Below w.heap.size w ((X2.setCell ⟨w.heap.size, 0, none⟩ (.int .i64 F)).setCell ⟨w.heap.size, 1, none⟩ (.slice ta T.length tc))) := setb2 (hb1.trans (h8.mono hb1.size)) (Nat.le_refl _)
  clear hD h1 h2 h3 h4 h7 h8 R1 R2 hb1 hv
  go_wp2
  refine bodyPost_ret (v := .tuple #[.agg #[.int .i64 F, .slice ta T.length tc], .slice (some ⟨gv, og, none⟩) V.length cg]) (by simp [results, Try.results29, go_sem, r0, r1]) rfl ?_
  exact ⟨F, ta, tc, T, _, cg, V, rfl, HW.out, HL.out, HB.out⟩
set_option maxRecDepth 100000 in
set_option maxHeartbeats 3200000 in
theorem drawRk_any (a : Option Addr) (len cap : Nat) (bs : Nat → Int) (w : World) (hv : BVec w a len bs) (hl : len ≤ 4096) :
    Calls Try.prog 42 #[.slice a len cap] w fun e w' => ∃ F ta tc T v, e = .returned (.tuple #[vwV F ta (List.length T) tc, .int .i64 v]) ∧ RdV w' F ta tc T ∧ (-1 ≤ v ∧ v ≤ 9) ∧ Below w.heap.size w w' := by
  have hb1 := one14 w (.cells #[.int .i64 0, .slice none 0 0] 34)
  have R1 := Bx.new w 34 #[.int .i64 0, .slice none 0 0]
  generalize hW1 : w.alloc (.cells #[.int .i64 0, .slice none 0 0] 34) = X1 at *
  have hmix : Try.prog.follows .mixedOrders = true := by kernel_rfl
  go_enter Try.func42, Try.ntmps42
  go_wp2_with fail
  refine (newC a len cap bs w X1 hb1 hv hl).mono ?_
  rintro e X2 ⟨p, rfl, hp, C2, hb2⟩
  go_wp2_with fail
  refine (drawVw_any C2).mono ?_
  rintro e X3 ⟨⟨F, T⟩, ta, tc, fp, rfl, hsm, hown, hfp, C3, hg3⟩
  unfold vwV
  dsimp only at hown hfp ⊢
  have D := DH.start (F := F) R1 hp C2.lt hb2 hg3 C3 hown hfp
  have HSM : Hid (SmV (F, T)) := hsm
  generalize hW4 : X3.alloc (.cells #[.int .i64 F, .slice ta T.length tc] 34) = X4 at *
  clear hb1 hb2 R1 C2 hown hfp C3 hg3 hsm
  have SD : ∀ W, DH w W p a len cap bs 34 X3.heap.size F (icl T) (.slice ta T.length tc) fp → W.cell? ⟨X3.heap.size, 0, none⟩ = some (.int .i64 F) ∧ W.cell? ⟨X3.heap.size, 1, none⟩ = some (.slice ta T.length tc) := fun W h => bx2 h.box
  have D0 := D.drewN 1
  clear D
  go_wp2_with fail
  go_region_held3 (fun W => W.cell? ⟨X3.heap.size, 0, none⟩ = some (.int .i64 F) ∧ W.cell? ⟨X3.heap.size, 1, none⟩ = some (.slice ta T.length tc))
    (first
      | (with_reducible exact hAn)
      | (with_reducible exact SD _ DB)
      | exact SD _ D0)
    (first
      | (go_at_call 81; refine (fromC (-1) 9 (by omega) (by omega) (by omega) D0.cc).mono ?_; rintro e WB ⟨v, rfl, hB0, hB1, CD, hgB⟩; have DB := D0.drawn hgB CD; have hAn := (DB.ans (x := .int .i64 F) (y := .slice ta T.length tc)).2.2.1; have f0 := DB.res.f 0; have f1 := DB.res.f 1; obtain ⟨u0, u1⟩ := bx2 DB.res))
  obtain ⟨ho, hbl, _, r0, r1⟩ := DB.ans (x := .int .i64 F) (y := .slice ta T.length tc)
  have HW : Hid (RdV ((WB.setCell ⟨w.heap.size, 0, none⟩ (.int .i64 F)).setCell ⟨w.heap.size, 1, none⟩ (.slice ta T.length tc)) F ta tc T) := ⟨ow_vcp ho HSM.out.fits, HSM.out⟩
  have HB : Hid (Below w.heap.size w ((WB.setCell ⟨w.heap.size, 0, none⟩ (.int .i64 F)).setCell ⟨w.heap.size, 1, none⟩ (.slice ta T.length tc))) := hbl
  clear ho hbl D0 DB hAn hgB CD u0 u1 f0 f1
  go_wp2
  refine bodyPost_ret (v := .tuple #[.agg #[.int .i64 F, .slice ta T.length tc], .int .i64 v]) (by simp [results, Try.results42, go_sem, r0, r1]) rfl ?_
  exact ⟨F, ta, tc, T, v, rfl, HW.out, ⟨hB0, hB1⟩, HB.out⟩
set_option maxRecDepth 100000 in
set_option maxHeartbeats 3200000 in
theorem drawAf_any (a : Option Addr) (len cap : Nat) (bs : Nat → Int) (w : World) (hv : BVec w a len bs) (hl : len ≤ 4096) :
    Calls Try.prog 31 #[.slice a len cap] w fun e w' => ∃ F ta tc T sa sc V ra rc U, e = .returned (.tuple #[vwV F ta (List.length T) tc, .slice sa (List.length V) sc, .slice ra (List.length U) rc]) ∧ RdV w' F ta tc T ∧ RdI w' sa sc V ∧ RdI w' ra rc U ∧ Below w.heap.size w w' := by
  have hb1 := one14 w (.cells #[.int .i64 0, .slice none 0 0] 34)
  have R1 := Bx.new w 34 #[.int .i64 0, .slice none 0 0]
  generalize hW1 : w.alloc (.cells #[.int .i64 0, .slice none 0 0] 34) = X1 at *
  have hmix : Try.prog.follows .mixedOrders = true := by kernel_rfl
  go_enter Try.func31, Try.ntmps31
  go_wp2_with fail
  refine (newC a len cap bs w X1 hb1 hv hl).mono ?_
  rintro e X2 ⟨p, rfl, hp, C2, hb2⟩
  go_wp2_with fail
  refine (drawVw_any C2).mono ?_
  rintro e X3 ⟨⟨F, T⟩, ta, tc, fp, rfl, hsm, hown, hfp, C3, hg3⟩
  unfold vwV
  dsimp only at hown hfp ⊢
  have D := DH.start (F := F) R1 hp C2.lt hb2 hg3 C3 hown hfp
  have HSM : Hid (SmV (F, T)) := hsm
  generalize hW4 : X3.alloc (.cells #[.int .i64 F, .slice ta T.length tc] 34) = X4 at *
  clear hb1 hb2 R1 C2 hown hfp C3 hg3 hsm
  have SD : ∀ W, DH w W p a len cap bs 34 X3.heap.size F (icl T) (.slice ta T.length tc) fp → W.cell? ⟨X3.heap.size, 0, none⟩ = some (.int .i64 F) ∧ W.cell? ⟨X3.heap.size, 1, none⟩ = some (.slice ta T.length tc) := fun W h => bx2 h.box
  go_wp2_with fail
  refine (drawLi_any D.cc).mono ?_
  rintro e X5 ⟨G, gg, go, gc, rfl, oG, hgg, hGl, hGx, C5, g5⟩
  have D5 := D.drawn g5 C5
  have hpw : w.heap.size < p ∧ p < gg := ⟨D.hp, Nat.lt_of_lt_of_le D.cc.lt hgg⟩
  clear D C5 g5
  go_wp2_with fail
  refine (onceC 2 D5.cc (by omega)).mono ?_
  rintro e X6 ⟨t, rfl, C6, g6⟩
  have D6 := D5.drawn g6 C6
  have oG6 : OI X6 gg go G.length gc G := OSl.grown oG g6 (by simp; omega)
  clear D5 C6 g6 oG
  cases t
  · have D0 := D6.drewN 1
    have oG7 : OI (X6.drewN 1) gg go G.length gc G := OSl.below oG6 (Same.drewN X6 1).below oG6.blk
    have hpl : w.heap.size < p ∧ p < (X6.drewN 1).heap.size := ⟨D0.hp, D0.cc.lt⟩
    clear D6 oG6
    go_wp2_with fail
    go_region_held3 (fun W => W.cell? ⟨X3.heap.size, 0, none⟩ = some (.int .i64 F) ∧ W.cell? ⟨X3.heap.size, 1, none⟩ = some (.slice ta T.length tc))
      (first
        | (with_reducible exact hAn)
        | (with_reducible exact SD _ DB)
        | exact SD _ D0)
      (first
        | (go_at_call 74; refine (drawLi_any D0.cc).mono ?_; rintro e WB ⟨U, gv, og, cg, rfl, oB, hgv, hVl, hVx, CD, hgB⟩; have oGB : OI WB gg go G.length gc G := OSl.grown oG7 hgB (by simp; omega); have DB := D0.drawn hgB CD; have hAn := (DB.ans (x := .int .i64 F) (y := .slice ta T.length tc)).2.2.1; have f0 := DB.res.f 0; have f1 := DB.res.f 1; obtain ⟨u0, u1⟩ := bx2 DB.res))
    obtain ⟨ho, hbl, _, r0, r1⟩ := DB.ans (x := .int .i64 F) (y := .slice ta T.length tc)
    have HW : Hid (RdV ((WB.setCell ⟨w.heap.size, 0, none⟩ (.int .i64 F)).setCell ⟨w.heap.size, 1, none⟩ (.slice ta T.length tc)) F ta tc T) := ⟨ow_vcp ho HSM.out.fits, HSM.out⟩
    have HB : Hid (Below w.heap.size w ((WB.setCell ⟨w.heap.size, 0, none⟩ (.int .i64 F)).setCell ⟨w.heap.size, 1, none⟩ (.slice ta T.length tc))) := hbl
    have HL : Hid (RdI ((WB.setCell ⟨w.heap.size, 0, none⟩ (.int .i64 F)).setCell ⟨w.heap.size, 1, none⟩ (.slice ta T.length tc)) (some ⟨gv, og, none⟩) cg U) := oi_rdi (oi_set2 oB (by omega)) hVl hVx
    have HG : Hid (RdI ((WB.setCell ⟨w.heap.size, 0, none⟩ (.int .i64 F)).setCell ⟨w.heap.size, 1, none⟩ (.slice ta T.length tc)) (some ⟨gg, go, none⟩) gc G) := oi_rdi (oi_set2 oGB (by omega)) hGl hGx
    clear oB hVx oGB hGx
    clear ho hbl D0 DB hAn hgB CD u0 u1 f0 f1
    go_wp2
    refine bodyPost_ret (v := .tuple #[.agg #[.int .i64 F, .slice ta T.length tc], .slice (some ⟨gg, go, none⟩) G.length gc, .slice (some ⟨gv, og, none⟩) U.length cg]) (by simp [results, Try.results31, go_sem, r0, r1]) rfl ?_
    exact ⟨F, ta, tc, T, _, gc, G, _, cg, U, rfl, HW.out, HG.out, HL.out, HB.out⟩
  · clear oG6 hpw hgg hGl hGx
    have oE : OI (X6.alloc (.cells #[] 2)) X6.heap.size 0 ([] : List Int).length 0 [] := num_empty X6 2
    have D7 := D6.step (one14 X6 (.cells #[] 2))
    have hpw : w.heap.size < p ∧ p < X6.heap.size := ⟨D6.hp, D6.cc.lt⟩
    obtain ⟨G, hG, hGl, hGx⟩ : ∃ G : List Int, Hid (G = []) ∧ G.length ≤ 4 ∧ ∀ x ∈ G, -1 ≤ x ∧ x ≤ 10 := ⟨[], rfl, by simp, fun x hx => absurd hx List.not_mem_nil⟩
    obtain ⟨gg, hgg⟩ : ∃ g, g = X6.heap.size := ⟨_, rfl⟩
    have hG0 : G.length = 0 := by rw [hG.out]; rfl
    rw [← hG.out, ← hgg] at oE
    rw [← hgg] at hpw
    generalize hX7 : X6.alloc (.cells #[] 2) = X7 at *
    have D0 := D7.drewN 1
    have oG7 : OI (X7.drewN 1) gg 0 G.length 0 G := OSl.below oE (Same.drewN X7 1).below oE.blk
    have hpl : w.heap.size < p ∧ p < (X7.drewN 1).heap.size := ⟨D0.hp, D0.cc.lt⟩
    clear D6 D7 oE
    go_wp2_with fail
    go_region_held3 (fun W => W.cell? ⟨X3.heap.size, 0, none⟩ = some (.int .i64 F) ∧ W.cell? ⟨X3.heap.size, 1, none⟩ = some (.slice ta T.length tc))
      (first
        | (with_reducible exact hAn)
        | (with_reducible exact SD _ DB)
        | exact SD _ D0)
      (first
        | (go_at_call 74; refine (drawLi_any D0.cc).mono ?_; rintro e WB ⟨U, gv, og, cg, rfl, oB, hgv, hVl, hVx, CD, hgB⟩; have oGB : OI WB gg 0 G.length 0 G := OSl.grown oG7 hgB (by simp; omega); have DB := D0.drawn hgB CD; have hAn := (DB.ans (x := .int .i64 F) (y := .slice ta T.length tc)).2.2.1; have f0 := DB.res.f 0; have f1 := DB.res.f 1; obtain ⟨u0, u1⟩ := bx2 DB.res))
    obtain ⟨ho, hbl, _, r0, r1⟩ := DB.ans (x := .int .i64 F) (y := .slice ta T.length tc)
    have HW : Hid (RdV ((WB.setCell ⟨w.heap.size, 0, none⟩ (.int .i64 F)).setCell ⟨w.heap.size, 1, none⟩ (.slice ta T.length tc)) F ta tc T) := ⟨ow_vcp ho HSM.out.fits, HSM.out⟩
    have HB : Hid (Below w.heap.size w ((WB.setCell ⟨w.heap.size, 0, none⟩ (.int .i64 F)).setCell ⟨w.heap.size, 1, none⟩ (.slice ta T.length tc))) := hbl
    have HL : Hid (RdI ((WB.setCell ⟨w.heap.size, 0, none⟩ (.int .i64 F)).setCell ⟨w.heap.size, 1, none⟩ (.slice ta T.length tc)) (some ⟨gv, og, none⟩) cg U) := oi_rdi (oi_set2 oB (by omega)) hVl hVx
    have HG : Hid (RdI ((WB.setCell ⟨w.heap.size, 0, none⟩ (.int .i64 F)).setCell ⟨w.heap.size, 1, none⟩ (.slice ta T.length tc)) (some ⟨gg, 0, none⟩) 0 G) := oi_rdi (oi_set2 oGB (by omega)) hGl hGx
    clear oB hVx oGB hGx
    clear ho hbl D0 DB hAn hgB CD u0 u1 f0 f1
    go_wp2
    refine bodyPost_ret (v := .tuple #[.agg #[.int .i64 F, .slice ta T.length tc], .slice (some ⟨gg, 0, none⟩) G.length 0, .slice (some ⟨gv, og, none⟩) U.length cg]) (by simp [results, Try.results31, go_sem, r0, r1, hG0, hgg]) rfl ?_
    exact ⟨F, ta, tc, T, _, 0, G, _, cg, U, rfl, HW.out, HG.out, HL.out, HB.out⟩
end Go.Proofs.Ytbmpapmdkmnhhaa
