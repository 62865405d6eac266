/-
  The contract of the specification's l2Past.
-/
import Derived.Test.YtacogcfdolmfpaaPin
namespace Go.Proofs.Ytacogcfdolmfpaa
set_option linter.unusedSimpArgs false
set_option linter.unusedVariables false
open Go.RowKit Go.Sort

theorem oi_one (w : World) (z : Int) (T : TypeId) : OI (w.alloc (.cells #[.int .i64 z] T)) w.heap.size 0 1 1 [z] := by
  have h1 : ∀ i, i < 1 * 1 → i = 0 := fun i hi => by omega
  refine ⟨rfl, Nat.le_refl _, by unfold maxLen; omega, by simp, fun i hi => ?_, fun i hi => ?_, fun i hi => ?_⟩
  · rw [h1 i hi]; simp
  · rw [h1 i hi]; simp
  · unfold World.frozen?
    rw [heap_alloc_new]
    simp

set_option maxRecDepth 100000 in
set_option maxHeartbeats 3200000 in
theorem l2Past_any (b off len cap k : Nat) (es : List Ev) (w : World) (hc : EvsAt w b off len es) (hok : okT es len = true) (hk : k < len) :
    Calls Try.prog 99 #[.slice (some ⟨b, off, none⟩) len cap, .int .i64 (k : Int)] w fun e w' => Ans w w' e (nI (pastL es k)) := by
  obtain ⟨i0, hi0, hz0, hz1, hz2⟩ := info_parts Try.info3
  obtain ⟨h40, hall⟩ := okT_all hok
  have HALL : Hid (∀ k, k < len → okE es k = true) := hall
  have hlm : len ≤ maxLen := by unfold maxLen; omega
  clear hall hok
  go_enter Try.func99, Try.ntmps99
  go_wp2
  go_loopw [5, 6] (fun v5 v6 wr => ∃ (O T : List Nat) (g5 f5 c5 g6 f6 c6 : Nat), v5 = .slice (some ⟨g5, f5, none⟩) O.length c5 ∧ v6 = .slice (some ⟨g6, f6, none⟩) T.length c6 ∧ PInv es k O T (fun _ => False) ∧ T.length ≤ O.length + 1 ∧
      OI wr g5 f5 O.length c5 (nI O) ∧ OI wr g6 f6 T.length c6 (nI T) ∧ g5 ≠ g6 ∧ w.heap.size ≤ g5 ∧ w.heap.size ≤ g6 ∧ Below w.heap.size w wr) (fun v5 v6 _ => 2 * (k - lenOf v5) + lenOf v6)
  case atStart =>
    refine ⟨[], [k], w.heap.size, 0, 0, w.heap.size + 1, 0, 1, rfl, rfl, PInv.start es k, by simp, OI.below (oi_empty w 2) ((Below.refl _ _).alloc (Nat.le_refl _) _) (by simp), ?_, by omega, by omega, by omega, ((Below.refl _ _).alloc (Nat.le_refl _) _).alloc (by simp) _⟩
    have := oi_one (w.alloc (.cells #[] 2)) (k : Int) 3
    simpa [nI] using this
  case round =>
    obtain ⟨O, T, g5, f5, c5, g6, f6, c6, rfl, rfl, hP, hTO, ho5, ho6, hne, hg5, hg6, hbel⟩ := hrel
    have HP0 : Hid (PInv es k O T (fun _ => False)) := hP
    have H5 : Hid (OI wr g5 f5 O.length c5 (nI O)) := ho5
    have H6 : Hid (OI wr g6 f6 T.length c6 (nI T)) := ho6
    have HNE : Hid (g5 ≠ g6) := hne
    have HG5 : Hid (w.heap.size ≤ g5) := hg5
    have HG6 : Hid (w.heap.size ≤ g6) := hg6
    have HB : Hid (Below w.heap.size w wr) := hbel
    clear hP ho5 ho6 hne hg5 hg6 hbel
    cases T with
    | nil =>
      have HE : Hid (O = pastL es k) := HP0.out.over
      go_wp2
      go_ret
      exact ans_of (by rw [nI_len, ← HE.out]) HG5.out (by rw [← HE.out]; exact H5.out) HB.out
    | cons x T =>
      have HP : Hid (PInv es k O (x :: T) (fun _ => False)) := HP0.out
      have HX : Hid (x = k ∨ x ∈ O) := HP0.out.todo x (by simp)
      have hxk := HP0.out.head
      have hTO' : T.length ≤ O.length := by simpa using hTO
      have hxl : x < len := by omega
      have hOl := HP0.out.len
      have HC : Hid (EvsAt wr b off len es) := evs_below hc HB.out (Nat.le_refl _)
      obtain ⟨_, e1, e2⟩ := HC.out x hxl
      have hcx := H6.out.cellAt (i := 0) (by simp)
      simp only [nI_el (O := x :: T) (j := 0) (by simp), Nat.add_zero, List.getElem_cons_zero] at hcx
      have hc1 := H6.out.le
      simp only [List.length_cons] at hc1
      have hcc : (1 : Int) ≤ (c6 : Int) := by omega
      obtain ⟨o9, he9, ho9⟩ := oi_tail (z := (x : Int)) (zs := nI T) H6.out
      simp only [List.length_cons, Nat.add_sub_cancel] at ho9
      have H9 : Hid (OI wr g6 o9 T.length (c6 - 1) (nI T)) := ho9
      have hL := l2Last_any b off len cap x es wr HC.out hlm hxl
      have hxi : (x : Int) < (len : Int) := by omega
      have hxi0 : (0 : Int) ≤ (x : Int) := by omega
      clear ho9 HP0
      by_cases hk3 : (evAt es x).k = 3
      · obtain ⟨s, hs⟩ := Option.ne_none_iff_exists'.1 (okE_first (HALL.out x hxl) hk3)
        have hS := fun (X : World) (hX : EvsAt X b off len es) => l2Send_any b off len cap (evAt es x).m es X hX hlm
        rw [firstS_mono hs len (by have := (firstS_some hs).1; omega)] at hS
        simp only [ixI] at hS
        have HNX : Hid (nxL es x = [ixI (lastB es (evAt es x).n x), (s : Int)]) := by rw [Hid, nxL, if_pos hk3, hs]; rfl
        clear hs
        go_wp2_with fail
        refine hL.mono ?_
        rintro e w1 ⟨rfl, n1, hw1⟩
        have R5 := H5.out.drewN n1
        have R9 := H9.out.drewN n1
        have RB := belowN (n := n1) HB.out
        have RC := HC.out.drewN n1
        rw [← hw1] at R5 R9 RB RC
        clear hw1 hL
        have hgA := (Grew.refl w1).alloc (.cells #[.int .i64 (ixI (lastB es (evAt es x).n x))] 3)
        have S1 : w.heap.size ≤ w1.heap.size := RB.size
        obtain ⟨_, d1, d2⟩ := RC x hxl
        rw [hk3] at d1
        have hbl := World.block_lt_of_cell? _ _ d1
        simp only at hbl
        have hbne : b ≠ w1.heap.size := by omega
        clear e1 e2
        generalize hlz : ixI (lastB es (evAt es x).n x) = lz at *
        go_wp2_with fail
        refine (hS _ (RC.grew hgA)).mono ?_
        rintro e w2 ⟨rfl, hw2⟩
        have O1 : OI w2 w1.heap.size 0 1 1 [lz] := by rw [hw2]; exact oi_one w1 lz 3
        have G2 : Grew w1 w2 := by rw [hw2]; exact hgA
        clear hw2 hS hgA
        have P5 := OI.below R5 G2.1 R5.blk
        have P9 := OI.below R9 G2.1 R9.blk
        have PB : Below w.heap.size w w2 := RB.trans (G2.1.mono S1)
        have S2 : w.heap.size ≤ w2.heap.size := PB.size
        have PC : Hid (EvsAt w2 b off len es) := RC.grew G2
        have L5 := R5.blk
        have L9 := R9.blk
        clear R5 R9 RB RC d1 d2 G2
        go_wp2_with (at_builtin; refine wpList_append_os _ rfl _ _ _ rfl 3 i0 _ 1 8 Try.underlying74 hi0 hz0 hz1 hz2 rfl (by omega) w1.heap.size 0 1 1 [.int .i64 lz] rfl (OSl.below O1 ((Below.refl _ _).alloc (Nat.le_refl _) _) O1.blk) ⟨w2.heap.size, 0, none⟩ 1 1 [.int .i64 (s : Int)] rfl rfl (World.news_of_block (cs := #[.int .i64 (s : Int)]) (t := 3) (fr := (0, 0)) (heap_alloc_new w2 _)) (by simp [Value.oneCell']) (by unfold maxLen; omega) (by omega) ?_; intro gn fn cn w3 o3 hg3 hat3)
        have ON : Hid (OI w3 gn fn (nxL es x).length cn (nxL es x)) := by rw [Hid, HNX.out]; exact o3
        have M5 : Hid (OI w3 g5 f5 O.length c5 (nI O)) := OSl.grown (OSl.below P5 ((Below.refl _ _).alloc (Nat.le_refl _) _) P5.blk) hg3 (by simp; omega)
        have M9 : Hid (OI w3 g6 o9 T.length (c6 - 1) (nI T)) := OSl.grown (OSl.below P9 ((Below.refl _ _).alloc (Nat.le_refl _) _) P9.blk) hg3 (by simp; omega)
        have MB : Hid (Below w.heap.size w w3) := below_grown (PB.alloc S2 _) hg3 S1 (Nat.le_trans S2 (by simp))
        have MN : Hid (gn ≠ g6) := at_ne hat3 (by omega) (by have := P9.blk; simp; omega)
        have HNL : Hid ((nxL es x).length = 2) := by rw [Hid, HNX.out]; rfl
        clear o3 hg3 hat3 P5 P9 PB O1
        have e2' : (2 : Nat) = (nxL es x).length := HNL.out.symm
        have hnx2 : (nxL es x).length ≤ 2 := by omega
        rw [show (Value.slice (some ⟨gn, fn, none⟩) 2 cn) = .slice (some ⟨gn, fn, none⟩) (nxL es x).length cn from by rw [HNL.out]]
        clear e2'
        go_wp2
        go_loopw [5, 6, 9] (fun v5 v6 i wx => ∃ (j : Nat) (O' T' : List Nat) (g5 f5 c5 g6 f6 c6 : Nat), j ≤ (nxL es x).length ∧ i = .int .i64 j ∧ v5 = .slice (some ⟨g5, f5, none⟩) O'.length c5 ∧ v6 = .slice (some ⟨g6, f6, none⟩) T'.length c6 ∧
            PInv es k O' T' (· = x) ∧ (x = k ∨ x ∈ O') ∧ (∀ z ∈ (nxL es x).take j, 0 ≤ z → z.toNat ∈ O') ∧ T'.length + O.length = T.length + O'.length ∧ O.length ≤ O'.length ∧
            OI wx g5 f5 O'.length c5 (nI O') ∧ OI wx g6 f6 T'.length c6 (nI T') ∧ OI wx gn fn (nxL es x).length cn (nxL es x) ∧ g5 ≠ g6 ∧ gn ≠ g6 ∧ w.heap.size ≤ g5 ∧ w.heap.size ≤ g6 ∧ Below w.heap.size w wx) (fun _ _ i _ => (nxL es x).length - (intOf i).toNat)
        case atStart => exact ⟨0, O, T, g5, f5, c5, g6, o9, c6 - 1, Nat.zero_le _, rfl, rfl, rfl, HP.out.pop, HX.out, fun z hz => by simp at hz, by omega, Nat.le_refl _, M5.out, M9.out, ON.out, HNE.out, MN.out, HG5.out, HG6.out, MB.out⟩
        case round =>
          obtain ⟨j, O', T', g5', f5', c5', g6', f6', c6', hj, rfl, rfl, rfl, hP, hX, hall, hcnt, hcnt2, ho5, ho6, hon, hne1, hne2, hg5, hg6, hbel⟩ := hrel
          have KP : Hid (PInv es k O' T' (· = x)) := hP
          have KX : Hid (x = k ∨ x ∈ O') := hX
          have KA : Hid (∀ z ∈ (nxL es x).take j, 0 ≤ z → z.toNat ∈ O') := hall
          have KC : Hid (T'.length + O.length = T.length + O'.length) := hcnt
          have K5 : Hid (OI wr g5' f5' O'.length c5' (nI O')) := ho5
          have K6 : Hid (OI wr g6' f6' T'.length c6' (nI T')) := ho6
          have KN : Hid (OI wr gn fn (nxL es x).length cn (nxL es x)) := hon
          have N1 : Hid (g5' ≠ g6') := hne1
          have N2 : Hid (gn ≠ g6') := hne2
          have Q5 : Hid (w.heap.size ≤ g5') := hg5
          have Q6 : Hid (w.heap.size ≤ g6') := hg6
          have KB : Hid (Below w.heap.size w wr) := hbel
          have hOl : O'.length ≤ 40 := by have := hP.len; omega
          have hTl : T'.length ≤ 1000 := by omega
          clear hP hX hall hcnt ho5 ho6 hon hne1 hne2 hg5 hg6 hbel
          by_cases hjl : j < (nxL es x).length
          · have cz := KN.out.cellAt hjl
            have hzm : el (nxL es x) j ∈ nxL es x := el_mem hjl
            have hj1 : (j : Int) < ((nxL es x).length : Int) := by omega
            have hj0 : (0 : Int) ≤ (j : Int) := by omega
            have HM : Hid (∀ O'', (0 ≤ el (nxL es x) j → (el (nxL es x) j).toNat ∈ O'') → (∀ z ∈ (nxL es x).take j, 0 ≤ z → z.toNat ∈ O'') → ∀ z ∈ (nxL es x).take (j + 1), 0 ≤ z → z.toNat ∈ O'') := fun O'' h1 h2 => take_more hjl h2 h1
            have HSRC : Hid (0 ≤ el (nxL es x) j → (el (nxL es x) j).toNat ∈ src es x ∧ (((el (nxL es x) j).toNat : Nat) : Int) = el (nxL es x) j) := nxL_src hzm
            generalize hz : el (nxL es x) j = z at *
            clear hz hzm
            by_cases hz0' : 0 ≤ z
            · obtain ⟨hsrc, hzz⟩ := HSRC.out hz0'
              generalize hs : z.toNat = s at *
              subst hzz
              have HS : Hid (s ∈ src es x) := hsrc
              clear hs hsrc
              have hH := fun X (h : OI X g5' f5' O'.length c5' (nI O')) => l1Has_any g5' f5' O'.length c5' (s : Int) (nI O') X (nI_len O') (fun i hi => h.cellAt hi) (by unfold maxLen; omega)
              by_cases hin : s ∈ O'
              · have hd : decide ((s : Int) ∈ nI O') = true := by rw [decide_eq_true_eq]; exact nI_mem.2 hin
                rw [hd] at hH
                have HIN : Hid (s ∈ O') := hin
                clear hin hd
                go_wp2_with fail
                refine (hH wr K5.out).mono ?_
                rintro e w8 ⟨rfl, hw8⟩
                have R5 := K5.out
                have R6 := K6.out
                have RN := KN.out
                have RB := KB.out
                rw [← hw8] at R5 R6 RN RB
                clear hw8
                have Z5 : Hid (OI w8 g5' f5' O'.length c5' (nI O')) := R5
                have Z6 : Hid (OI w8 g6' f6' T'.length c6' (nI T')) := R6
                have ZN : Hid (OI w8 gn fn (nxL es x).length cn (nxL es x)) := RN
                have ZB : Hid (Below w.heap.size w w8) := RB
                clear R5 R6 RN RB
                go_wp2
                go_roundw
                case rel => exact ⟨j + 1, O', T', g5', f5', c5', g6', f6', c6', by omega, by go_num, rfl, rfl, KP.out, KX.out, HM.out O' (fun _ => by simpa using HIN.out) KA.out, KC.out, hcnt2, Z5.out, Z6.out, ZN.out, N1.out, N2.out, Q5.out, Q6.out, ZB.out⟩
                case measure => simp [intOf]; omega
              · have hd : decide ((s : Int) ∈ nI O') = false := by rw [decide_eq_false_iff_not]; exact fun h => hin (nI_mem.1 h)
                rw [hd] at hH
                have hno : (s : Int) ∉ nI O' := fun h => hin (nI_mem.1 h)
                clear hin hd
                go_wp2_with fail
                refine (hH wr K5.out).mono ?_
                rintro e w8 ⟨rfl, hw8⟩
                have R5 := K5.out
                have R6 := K6.out
                have RN := KN.out
                have RB := KB.out
                rw [← hw8] at R5 R6 RN RB
                have cz' := RN.cellAt hjl
                have cz8 : w8.cell? ⟨gn, fn + j, none⟩ = some (.int .i64 (s : Int)) := by rw [hw8]; exact cz
                clear hw8 cz'
                go_wp2_with fail
                refine (l1Put_any g5' f5' O'.length c5' (s : Int) (nI O') w8 R5 hno (by omega)).mono ?_
                rintro e w9 ⟨p, hp, hpa, hpb, g7, f7, c7, he7, hg7, ho7, hb7⟩
                rw [nI_put] at he7 ho7
                have hl7 : (nI (O'.take p ++ s :: O'.drop p)).length = O'.length + 1 := by rw [nI_len]; simp; omega
                rw [hl7] at he7 ho7
                subst he7
                have cz9 := (hb7.cell (World.block_lt_of_cell? _ _ cz8)).trans cz8
                have PP : Hid (PInv es k (O'.take p ++ s :: O'.drop p) (T' ++ [s]) (· = x)) := KP.out.push KX.out HS.out hp (fun i hi => by have := hpa i hi; rw [nI_el (by omega)] at this; omega) (fun h => by have := hpb h; rw [nI_el h] at this; omega)
                have Y6 : Hid (OI w9 g6' f6' T'.length c6' (nI T')) := OI.below R6 hb7 R6.blk
                have YN : Hid (OI w9 gn fn (nxL es x).length cn (nxL es x)) := OI.below RN hb7 RN.blk
                have Y7 : Hid (OI w9 g7 f7 (O'.length + 1) c7 (nI (O'.take p ++ s :: O'.drop p))) := ho7
                have YB : Hid (Below w.heap.size w w9) := RB.trans (hb7.mono RB.size)
                have YS : Hid (w.heap.size ≤ w9.heap.size) := YB.out.size
                have YG : Hid (w.heap.size ≤ g7) := Nat.le_trans RB.size hg7
                have YN7 : Hid (g7 ≠ g6') := by have := R6.blk; rw [Hid]; omega
                have KP2 : Hid (p ≤ O'.length) := hp
                clear R5 R6 RN RB hb7 ho7 hpa hpb hno cz cz8 hg7 hl7 hH hp
                go_wp2_with (at_builtin; refine wpList_append_os _ rfl _ _ _ rfl 3 i0 _ 1 8 Try.underlying74 hi0 hz0 hz1 hz2 rfl (by omega) g6' f6' T'.length c6' ((nI T').map (Value.int .i64)) rfl (OSl.below Y6.out ((Below.refl _ _).alloc (Nat.le_refl _) _) Y6.out.blk) ⟨w9.heap.size, 0, none⟩ 1 1 [.int .i64 (s : Int)] rfl rfl (World.news_of_block (cs := #[.int .i64 (s : Int)]) (t := 3) (fr := (0, 0)) (heap_alloc_new w9 _)) (by simp [Value.oneCell']) (by unfold maxLen; omega) (by omega) ?_; intro ga fa ca wa oa hga hata)
                have ZA : Hid (OI wa ga fa (T'.length + 1) ca (nI (T' ++ [s]))) := by rw [Hid, ← nI_snoc]; exact oi_snoc oa
                have ZN : Hid (OI wa gn fn (nxL es x).length cn (nxL es x)) := OSl.grown (OSl.below YN.out ((Below.refl _ _).alloc (Nat.le_refl _) _) YN.out.blk) hga (by have := N2.out; simp; omega)
                have Z7 : Hid (OI wa g7 f7 (O'.length + 1) c7 (nI (O'.take p ++ s :: O'.drop p))) := OSl.grown (OSl.below Y7.out ((Below.refl _ _).alloc (Nat.le_refl _) _) Y7.out.blk) hga (by have := YN7.out; simp; omega)
                have ZB : Hid (Below w.heap.size w wa) := below_grown (YB.out.alloc YS.out _) hga Q6.out (Nat.le_trans YS.out (by simp))
                have ZG : Hid (w.heap.size ≤ ga) := at_ge hata Q6.out (Nat.le_trans YS.out (by simp))
                have Z1 : Hid (g7 ≠ ga) := fun e => at_ne hata (fun e' => YN7.out e'.symm) (by have := Y7.out.blk; simp; omega) e.symm
                have Z2 : Hid (gn ≠ ga) := fun e => at_ne hata (fun e' => N2.out e'.symm) (by have := YN.out.blk; simp; omega) e.symm
                have Zl : (O'.take p ++ s :: O'.drop p).length = O'.length + 1 := by have := KP2.out; simp; omega
                have Zm : (T' ++ [s]).length = T'.length + 1 := by simp
                have HZl : Hid ((O'.take p ++ s :: O'.drop p).length = O'.length + 1) := Zl
                have HZm : Hid ((T' ++ [s]).length = T'.length + 1) := Zm
                clear oa hga hata Zl Zm cz9
                go_wp2
                go_roundw
                case rel => exact ⟨j + 1, O'.take p ++ s :: O'.drop p, T' ++ [s], g7, f7, c7, ga, fa, ca, by omega, by go_num, by rw [HZl.out], by rw [HZm.out], PP.out, (by rcases KX.out with h | h; exact .inl h; exact .inr (ins_mem.2 (.inr h))), HM.out _ (fun _ => ins_mem.2 (.inl (by simp))) (fun z hz h0 => ins_mem.2 (.inr (KA.out z hz h0))), by have := KC.out; rw [HZl.out, HZm.out]; omega, by rw [HZl.out]; omega, by rw [HZl.out]; exact Z7.out, by rw [HZm.out]; exact ZA.out, ZN.out, Z1.out, Z2.out, YG.out, ZG.out, ZB.out⟩
                case measure => simp [intOf]; omega
            · have hzb : decide (0 ≤ z) = false := by simpa using hz0'
              have HZ0 : Hid (¬ 0 ≤ z) := hz0'
              clear hz0'
              go_wp2
              go_roundw
              case rel => exact ⟨j + 1, O', T', g5', f5', c5', g6', f6', c6', by omega, by go_num, rfl, rfl, KP.out, KX.out, HM.out O' (fun h => absurd h HZ0.out) KA.out, KC.out, hcnt2, K5.out, K6.out, KN.out, N1.out, N2.out, Q5.out, Q6.out, KB.out⟩
              case measure => simp [intOf]; omega
          · have HD : Hid (PInv es k O' T' (fun _ => False)) := KP.out.seen (fun i hi => by
              have := take_all (by omega) KA.out (i : Int) (src_nxL hi) (by omega)
              simpa using this)
            have hPl := KP.out.len
            have KC2 := KC.out
            go_wp2
            go_roundw
            case rel => exact ⟨O', T', g5', f5', c5', g6', f6', c6', rfl, rfl, HD.out, by omega, K5.out, K6.out, N1.out, Q5.out, Q6.out, KB.out⟩
            case measure => simp [lenOf]; omega
      · have hk3b : ((evAt es x).k == 3) = false := by simpa using hk3
        have HNX : Hid (nxL es x = [ixI (lastB es (evAt es x).n x)]) := by rw [Hid, nxL, if_neg hk3]
        go_wp2_with fail
        refine hL.mono ?_
        rintro e w1 ⟨rfl, n1, hw1⟩
        have R5 := H5.out.drewN n1
        have R9 := H9.out.drewN n1
        have RB := belowN (n := n1) HB.out
        have RC := HC.out.drewN n1
        rw [← hw1] at R5 R9 RB RC
        clear hw1 hL
        have S1 : w.heap.size ≤ w1.heap.size := RB.size
        obtain ⟨_, d1, d2⟩ := RC x hxl
        have hbl := World.block_lt_of_cell? _ _ d1
        simp only at hbl
        have hbne : b ≠ w1.heap.size := by omega
        clear e1 e2
        generalize hlz : ixI (lastB es (evAt es x).n x) = lz at *
        have hAl : Below w1.heap.size w1 (w1.alloc (.cells #[.int .i64 lz] 3)) := (Below.refl _ _).alloc (Nat.le_refl _) _
        have ON : Hid (OI (w1.alloc (.cells #[.int .i64 lz] 3)) w1.heap.size 0 (nxL es x).length 1 (nxL es x)) := by rw [Hid, HNX.out]; exact oi_one w1 lz 3
        have M5 : Hid (OI (w1.alloc (.cells #[.int .i64 lz] 3)) g5 f5 O.length c5 (nI O)) := OI.below R5 hAl R5.blk
        have M9 : Hid (OI (w1.alloc (.cells #[.int .i64 lz] 3)) g6 o9 T.length (c6 - 1) (nI T)) := OI.below R9 hAl R9.blk
        have MB : Hid (Below w.heap.size w (w1.alloc (.cells #[.int .i64 lz] 3))) := RB.alloc S1 _
        have MN : Hid (w1.heap.size ≠ g6) := by have := R9.blk; rw [Hid]; omega
        have HNL : Hid ((nxL es x).length = 1) := by rw [Hid, HNX.out]; rfl
        have hnx2 : (nxL es x).length ≤ 2 := by have := HNL.out; omega
        clear R5 R9 RB RC hAl d2
        go_wp2
        rw [show (Value.slice (some ⟨w1.heap.size, 0, none⟩) 1 1) = .slice (some ⟨w1.heap.size, 0, none⟩) (nxL es x).length 1 from by rw [HNL.out]]
        go_loopw [5, 6, 9] (fun v5 v6 i wx => ∃ (j : Nat) (O' T' : List Nat) (g5 f5 c5 g6 f6 c6 : Nat), j ≤ (nxL es x).length ∧ i = .int .i64 j ∧ v5 = .slice (some ⟨g5, f5, none⟩) O'.length c5 ∧ v6 = .slice (some ⟨g6, f6, none⟩) T'.length c6 ∧
            PInv es k O' T' (· = x) ∧ (x = k ∨ x ∈ O') ∧ (∀ z ∈ (nxL es x).take j, 0 ≤ z → z.toNat ∈ O') ∧ T'.length + O.length = T.length + O'.length ∧ O.length ≤ O'.length ∧
            OI wx g5 f5 O'.length c5 (nI O') ∧ OI wx g6 f6 T'.length c6 (nI T') ∧ OI wx w1.heap.size 0 (nxL es x).length 1 (nxL es x) ∧ g5 ≠ g6 ∧ w1.heap.size ≠ g6 ∧ w.heap.size ≤ g5 ∧ w.heap.size ≤ g6 ∧ Below w.heap.size w wx) (fun _ _ i _ => (nxL es x).length - (intOf i).toNat)
        case atStart => exact ⟨0, O, T, g5, f5, c5, g6, o9, c6 - 1, Nat.zero_le _, rfl, rfl, rfl, HP.out.pop, HX.out, fun z hz => by simp at hz, by omega, Nat.le_refl _, M5.out, M9.out, ON.out, HNE.out, MN.out, HG5.out, HG6.out, MB.out⟩
        case round =>
          obtain ⟨j, O', T', g5', f5', c5', g6', f6', c6', hj, rfl, rfl, rfl, hP, hX, hall, hcnt, hcnt2, ho5, ho6, hon, hne1, hne2, hg5, hg6, hbel⟩ := hrel
          have KP : Hid (PInv es k O' T' (· = x)) := hP
          have KX : Hid (x = k ∨ x ∈ O') := hX
          have KA : Hid (∀ z ∈ (nxL es x).take j, 0 ≤ z → z.toNat ∈ O') := hall
          have KC : Hid (T'.length + O.length = T.length + O'.length) := hcnt
          have K5 : Hid (OI wr g5' f5' O'.length c5' (nI O')) := ho5
          have K6 : Hid (OI wr g6' f6' T'.length c6' (nI T')) := ho6
          have KN : Hid (OI wr w1.heap.size 0 (nxL es x).length 1 (nxL es x)) := hon
          have N1 : Hid (g5' ≠ g6') := hne1
          have N2 : Hid (w1.heap.size ≠ g6') := hne2
          have Q5 : Hid (w.heap.size ≤ g5') := hg5
          have Q6 : Hid (w.heap.size ≤ g6') := hg6
          have KB : Hid (Below w.heap.size w wr) := hbel
          have hOl : O'.length ≤ 40 := by have := hP.len; omega
          have hTl : T'.length ≤ 1000 := by omega
          clear hP hX hall hcnt ho5 ho6 hon hne1 hne2 hg5 hg6 hbel
          by_cases hjl : j < (nxL es x).length
          · have cz := KN.out.cellAt hjl
            simp only [Nat.zero_add] at cz
            have hzm : el (nxL es x) j ∈ nxL es x := el_mem hjl
            have hj1 : (j : Int) < ((nxL es x).length : Int) := by omega
            have hj0 : (0 : Int) ≤ (j : Int) := by omega
            have HM : Hid (∀ O'', (0 ≤ el (nxL es x) j → (el (nxL es x) j).toNat ∈ O'') → (∀ z ∈ (nxL es x).take j, 0 ≤ z → z.toNat ∈ O'') → ∀ z ∈ (nxL es x).take (j + 1), 0 ≤ z → z.toNat ∈ O'') := fun O'' h1 h2 => take_more hjl h2 h1
            have HSRC : Hid (0 ≤ el (nxL es x) j → (el (nxL es x) j).toNat ∈ src es x ∧ (((el (nxL es x) j).toNat : Nat) : Int) = el (nxL es x) j) := nxL_src hzm
            generalize hz : el (nxL es x) j = z at *
            clear hz hzm
            by_cases hz0' : 0 ≤ z
            · obtain ⟨hsrc, hzz⟩ := HSRC.out hz0'
              generalize hs : z.toNat = s at *
              subst hzz
              have HS : Hid (s ∈ src es x) := hsrc
              clear hs hsrc
              have hH := fun X (h : OI X g5' f5' O'.length c5' (nI O')) => l1Has_any g5' f5' O'.length c5' (s : Int) (nI O') X (nI_len O') (fun i hi => h.cellAt hi) (by unfold maxLen; omega)
              by_cases hin : s ∈ O'
              · have hd : decide ((s : Int) ∈ nI O') = true := by rw [decide_eq_true_eq]; exact nI_mem.2 hin
                rw [hd] at hH
                have HIN : Hid (s ∈ O') := hin
                clear hin hd
                go_wp2_with fail
                refine (hH wr K5.out).mono ?_
                rintro e w8 ⟨rfl, hw8⟩
                have R5 := K5.out
                have R6 := K6.out
                have RN := KN.out
                have RB := KB.out
                rw [← hw8] at R5 R6 RN RB
                clear hw8
                have Z5 : Hid (OI w8 g5' f5' O'.length c5' (nI O')) := R5
                have Z6 : Hid (OI w8 g6' f6' T'.length c6' (nI T')) := R6
                have ZN : Hid (OI w8 w1.heap.size 0 (nxL es x).length 1 (nxL es x)) := RN
                have ZB : Hid (Below w.heap.size w w8) := RB
                clear R5 R6 RN RB
                go_wp2
                go_roundw
                case rel => exact ⟨j + 1, O', T', g5', f5', c5', g6', f6', c6', by omega, by go_num, rfl, rfl, KP.out, KX.out, HM.out O' (fun _ => by simpa using HIN.out) KA.out, KC.out, hcnt2, Z5.out, Z6.out, ZN.out, N1.out, N2.out, Q5.out, Q6.out, ZB.out⟩
                case measure => simp [intOf]; omega
              · have hd : decide ((s : Int) ∈ nI O') = false := by rw [decide_eq_false_iff_not]; exact fun h => hin (nI_mem.1 h)
                rw [hd] at hH
                have hno : (s : Int) ∉ nI O' := fun h => hin (nI_mem.1 h)
                clear hin hd
                go_wp2_with fail
                refine (hH wr K5.out).mono ?_
                rintro e w8 ⟨rfl, hw8⟩
                have R5 := K5.out
                have R6 := K6.out
                have RN := KN.out
                have RB := KB.out
                rw [← hw8] at R5 R6 RN RB
                have cz' := RN.cellAt hjl
                have cz8 : w8.cell? ⟨w1.heap.size, j, none⟩ = some (.int .i64 (s : Int)) := by rw [hw8]; exact cz
                clear hw8 cz'
                go_wp2_with fail
                refine (l1Put_any g5' f5' O'.length c5' (s : Int) (nI O') w8 R5 hno (by omega)).mono ?_
                rintro e w9 ⟨p, hp, hpa, hpb, g7, f7, c7, he7, hg7, ho7, hb7⟩
                rw [nI_put] at he7 ho7
                have hl7 : (nI (O'.take p ++ s :: O'.drop p)).length = O'.length + 1 := by rw [nI_len]; simp; omega
                rw [hl7] at he7 ho7
                subst he7
                have cz9 := (hb7.cell (World.block_lt_of_cell? _ _ cz8)).trans cz8
                have PP : Hid (PInv es k (O'.take p ++ s :: O'.drop p) (T' ++ [s]) (· = x)) := KP.out.push KX.out HS.out hp (fun i hi => by have := hpa i hi; rw [nI_el (by omega)] at this; omega) (fun h => by have := hpb h; rw [nI_el h] at this; omega)
                have Y6 : Hid (OI w9 g6' f6' T'.length c6' (nI T')) := OI.below R6 hb7 R6.blk
                have YN : Hid (OI w9 w1.heap.size 0 (nxL es x).length 1 (nxL es x)) := OI.below RN hb7 RN.blk
                have Y7 : Hid (OI w9 g7 f7 (O'.length + 1) c7 (nI (O'.take p ++ s :: O'.drop p))) := ho7
                have YB : Hid (Below w.heap.size w w9) := RB.trans (hb7.mono RB.size)
                have YS : Hid (w.heap.size ≤ w9.heap.size) := YB.out.size
                have YG : Hid (w.heap.size ≤ g7) := Nat.le_trans RB.size hg7
                have YN7 : Hid (g7 ≠ g6') := by have := R6.blk; rw [Hid]; omega
                have KP2 : Hid (p ≤ O'.length) := hp
                clear R5 R6 RN RB hb7 ho7 hpa hpb hno cz cz8 hg7 hl7 hH hp
                go_wp2_with (at_builtin; refine wpList_append_os _ rfl _ _ _ rfl 3 i0 _ 1 8 Try.underlying74 hi0 hz0 hz1 hz2 rfl (by omega) g6' f6' T'.length c6' ((nI T').map (Value.int .i64)) rfl (OSl.below Y6.out ((Below.refl _ _).alloc (Nat.le_refl _) _) Y6.out.blk) ⟨w9.heap.size, 0, none⟩ 1 1 [.int .i64 (s : Int)] rfl rfl (World.news_of_block (cs := #[.int .i64 (s : Int)]) (t := 3) (fr := (0, 0)) (heap_alloc_new w9 _)) (by simp [Value.oneCell']) (by unfold maxLen; omega) (by omega) ?_; intro ga fa ca wa oa hga hata)
                have ZA : Hid (OI wa ga fa (T'.length + 1) ca (nI (T' ++ [s]))) := by rw [Hid, ← nI_snoc]; exact oi_snoc oa
                have ZN : Hid (OI wa w1.heap.size 0 (nxL es x).length 1 (nxL es x)) := OSl.grown (OSl.below YN.out ((Below.refl _ _).alloc (Nat.le_refl _) _) YN.out.blk) hga (by have := N2.out; simp; omega)
                have Z7 : Hid (OI wa g7 f7 (O'.length + 1) c7 (nI (O'.take p ++ s :: O'.drop p))) := OSl.grown (OSl.below Y7.out ((Below.refl _ _).alloc (Nat.le_refl _) _) Y7.out.blk) hga (by have := YN7.out; simp; omega)
                have ZB : Hid (Below w.heap.size w wa) := below_grown (YB.out.alloc YS.out _) hga Q6.out (Nat.le_trans YS.out (by simp))
                have ZG : Hid (w.heap.size ≤ ga) := at_ge hata Q6.out (Nat.le_trans YS.out (by simp))
                have Z1 : Hid (g7 ≠ ga) := fun e => at_ne hata (fun e' => YN7.out e'.symm) (by have := Y7.out.blk; simp; omega) e.symm
                have Z2 : Hid (w1.heap.size ≠ ga) := fun e => at_ne hata (fun e' => N2.out e'.symm) (by have := YN.out.blk; simp; omega) e.symm
                have Zl : (O'.take p ++ s :: O'.drop p).length = O'.length + 1 := by have := KP2.out; simp; omega
                have Zm : (T' ++ [s]).length = T'.length + 1 := by simp
                have HZl : Hid ((O'.take p ++ s :: O'.drop p).length = O'.length + 1) := Zl
                have HZm : Hid ((T' ++ [s]).length = T'.length + 1) := Zm
                clear oa hga hata Zl Zm cz9
                go_wp2
                go_roundw
                case rel => exact ⟨j + 1, O'.take p ++ s :: O'.drop p, T' ++ [s], g7, f7, c7, ga, fa, ca, by omega, by go_num, by rw [HZl.out], by rw [HZm.out], PP.out, (by rcases KX.out with h | h; exact .inl h; exact .inr (ins_mem.2 (.inr h))), HM.out _ (fun _ => ins_mem.2 (.inl (by simp))) (fun z hz h0 => ins_mem.2 (.inr (KA.out z hz h0))), by have := KC.out; rw [HZl.out, HZm.out]; omega, by rw [HZl.out]; omega, by rw [HZl.out]; exact Z7.out, by rw [HZm.out]; exact ZA.out, ZN.out, Z1.out, Z2.out, YG.out, ZG.out, ZB.out⟩
                case measure => simp [intOf]; omega
            · have hzb : decide (0 ≤ z) = false := by simpa using hz0'
              have HZ0 : Hid (¬ 0 ≤ z) := hz0'
              clear hz0'
              go_wp2
              go_roundw
              case rel => exact ⟨j + 1, O', T', g5', f5', c5', g6', f6', c6', by omega, by go_num, rfl, rfl, KP.out, KX.out, HM.out O' (fun h => absurd h HZ0.out) KA.out, KC.out, hcnt2, K5.out, K6.out, KN.out, N1.out, N2.out, Q5.out, Q6.out, KB.out⟩
              case measure => simp [intOf]; omega
          · have HD : Hid (PInv es k O' T' (fun _ => False)) := KP.out.seen (fun i hi => by
              have := take_all (by omega) KA.out (i : Int) (src_nxL hi) (by omega)
              simpa using this)
            have hPl := KP.out.len
            have KC2 := KC.out
            go_wp2
            go_roundw
            case rel => exact ⟨O', T', g5', f5', c5', g6', f6', c6', rfl, rfl, HD.out, by omega, K5.out, K6.out, N1.out, Q5.out, Q6.out, KB.out⟩
            case measure => simp [lenOf]; omega
end Go.Proofs.Ytacogcfdolmfpaa
