/-
  The contracts of the program's Past and Ahead.
-/
import Derived.Test.YtehnnfpjdfffcaaPa2
namespace Go.Proofs.Ytehnnfpjdfffcaa
set_option linter.unusedSimpArgs false
set_option linter.unusedVariables false
open Go.RowKit Go.Sort
attribute [local irreducible] mV World.setCells

theorem flt_succ (p : Nat → Bool) (q : Nat) : (List.range (q + 1)).filter p = (List.range q).filter p ++ (if p q = true then [q] else []) := by
  rw [List.range_succ, List.filter_append]
  cases h : p q <;> simp [h]
theorem flt_len (p : Nat → Bool) (q : Nat) : ((List.range q).filter p).length ≤ q := by
  have := List.length_filter_le p (List.range q)
  simpa using this

set_option maxRecDepth 100000 in
set_option maxHeartbeats 1600000 in
theorem implPast_any (b off len cap : Nat) (es : List Ev) (k : Int) (w : World) (hc : EvsAt w b off len es) (hm : len ≤ maxLen) (hcap : len ≤ cap) (hkb : -9223372036854775808 ≤ k ∧ k ≤ 9223372036854775807) :
    Calls Try.prog 42 #[.slice (some ⟨b, off, none⟩) len cap, .int .i64 k] w fun e w' => Ans w w' e (pastT es len k) := by
  have g0 : Grew w (w.alloc (.cells #[] 2)) := (Grew.refl _).alloc _
  have hT := implTok_any b off len cap es _ (hc.grew g0) hm hcap
  have o0 := oi_empty w 2
  have hN := fun X => isNumber_any (some ⟨b, off, none⟩) len cap k X hm
  cases ho : okT es len
  · rw [ho] at hT
    have HZ : Hid (pastT es len k = []) := pastT_no (.inl ho)
    go_enter Try.func42, Try.ntmps42
    go_wp2_with fail
    refine hT.mono ?_
    rintro e w1 ⟨rfl, hg1⟩
    have HG : Hid (Grew w w1) := g0.trans hg1
    have O1 : Hid (OI w1 w.heap.size 0 0 0 []) := o0.below hg1.1 o0.blk
    clear hg1
    go_wp2
    go_ret
    rw [HZ.out]
    exact ⟨w.heap.size, 0, 0, rfl, Nat.le_refl _, O1.out, HG.out.1⟩
  · rw [ho] at hT
    have h40 := (okT_all ho).1
    cases hn : numB len k
    · have HZ : Hid (pastT es len k = []) := pastT_no (.inr hn)
      unfold numB at hn
      rw [hn] at hN
      clear hn
      go_enter Try.func42, Try.ntmps42
      go_wp2_with fail
      refine hT.mono ?_
      rintro e w1 ⟨rfl, hg1⟩
      have HG : Hid (Grew w w1) := g0.trans hg1
      have O1 : Hid (OI w1 w.heap.size 0 0 0 []) := o0.below hg1.1 o0.blk
      clear hg1
      go_wp2_with fail
      refine (hN w1).mono ?_
      rintro e w2 ⟨rfl, hw⟩
      have HG2 : Hid (Grew w w2) := by rw [Hid, hw]; exact HG.out
      have O2 : Hid (OI w2 w.heap.size 0 0 0 []) := by rw [Hid, hw]; exact O1.out
      clear hw
      go_wp2
      go_ret
      rw [HZ.out]
      exact ⟨w.heap.size, 0, 0, rfl, Nat.le_refl _, O2.out, HG2.out.1⟩
    · have HZ : Hid (pastT es len k = nI (pastL es k.toNat)) := pastT_ok ho hn
      have hkr := numB_iff.1 hn
      obtain ⟨n, rfl⟩ : ∃ n : Nat, k = (n : Int) := ⟨k.toNat, by omega⟩
      unfold numB at hn
      rw [hn] at hN
      clear hn
      have hnl : n < len := by omega
      have HF : Hid ((List.range 40).filter (aB es n) = pastL es n) := flt_past (by omega)
      obtain ⟨i0, hi0, hz0, hz1, hz2⟩ := info_parts Try.info2
      go_enter Try.func42, Try.ntmps42
      go_wp2_with fail
      refine hT.mono ?_
      rintro e w1 ⟨rfl, hg1⟩
      have HG : Hid (Grew w w1) := g0.trans hg1
      have O1 : Hid (OI w1 w.heap.size 0 0 0 []) := o0.below hg1.1 o0.blk
      clear hg1
      go_wp2_with fail
      refine (hN w1).mono ?_
      rintro e w2 ⟨rfl, hw⟩
      have HG2 : Grew w w2 := by rw [hw]; exact HG.out
      have O2 : OI w2 w.heap.size 0 0 0 [] := by rw [hw]; exact O1.out
      clear hw HG O1
      go_wp2_with fail
      refine (stepsOf_any b off len cap es w2 (hc.grew HG2) ho hcap).mono ?_
      rintro e w3 ⟨rfl, hb3⟩
      have B3 : Below w.heap.size w w3 := HG2.1.trans (hb3.mono HG2.1.size)
      have O3 := O2.below hb3 O2.blk
      have R3 := bo_alloc w3 1600 no 81
      have R4 := R3.sets (tB es len)
      have al : Below w3.heap.size w3 (w3.alloc (.cells (mV 1600 no) 81)) := (Below.refl _ _).alloc (Nat.le_refl _) _
      have O4 := O3.below al O3.blk
      have hne : w.heap.size ≠ w3.heap.size := by have := O3.blk; omega
      have O5 : OI ((w3.alloc (.cells (mV 1600 no) 81)).setCells w3.heap.size 0 (mV 1600 (tB es len)).toList) w.heap.size 0 0 0 [] := OSl.grown O4 (grown_setCells _ _ _ _) (by simpa using Ne.symm hne)
      have B5 : Below w.heap.size w ((w3.alloc (.cells (mV 1600 no) 81)).setCells w3.heap.size 0 (mV 1600 (tB es len)).toList) := below_grown (B3.alloc B3.size _) (grown_setCells _ _ _ _) B3.size (Nat.le_trans B3.size (by simp))
      have hP := past_any w3.heap.size len n es _ R4 hnl h40
      have KR : Hid (Bo (w3.alloc (.cells (mV 1600 no) 81)) w3.heap.size 0 1600 no) := R3
      clear R3 R4 al O4 O3 O2 HG2 hb3 B3 hT
      go_wp2_with (first | (refine wpL_alloc _ rfl 81 1600 rfl Try.info81 ?_) | (refine wpL_store _ rfl rfl 81 1600 _ _ rfl Try.info81 w3.heap.size 0 no (tB es len) rfl rfl KR.out ?_) | (go_at_call 81; refine hP.mono ?_; rintro e w6 ⟨rfl, hb6⟩))
      have B6 : Below w.heap.size w w6 := B5.trans (hb6.mono B5.size)
      have O6 := O5.below hb6 O5.blk
      have K6 : Hid (OI w6 w.heap.size 0 0 0 []) := O6
      have KB6 : Hid (Below w.heap.size w w6) := B6
      clear hP KR O5 B5 hb6 B6 O6
      go_wp2
      go_loopw [5, 24] (fun v i wr => ∃ q : Nat, q ≤ 40 ∧ i = .int .i64 q ∧ Built w wr v ((List.range q).filter (aB es n)).length (nI ((List.range q).filter (aB es n)))) (fun _ i _ => 40 - (intOf i).toNat)
      case atStart => exact ⟨0, Nat.zero_le _, rfl, w.heap.size, 0, 0, rfl, Nat.le_refl _, K6.out, KB6.out⟩
      case round =>
        obtain ⟨q, hq, rfl, g, f, c, rfl, hgB, hown, hbel⟩ := hrel
        have HO : Hid (OI wr g f ((List.range q).filter (aB es n)).length c (nI ((List.range q).filter (aB es n)))) := hown
        have HB : Hid (Below w.heap.size w wr) := hbel
        have hsz := hbel.size
        have hfl := flt_len (aB es n) q
        clear hown hbel K6 KB6
        by_cases hlt : q < 40
        · cases ha : aB es n q
          · have HS : Hid ((List.range (q + 1)).filter (aB es n) = (List.range q).filter (aB es n)) := by rw [Hid, flt_succ, ha]; simp
            go_wp2_with (first | (refine wpL_index _ rfl _ _ rfl (aB es n) q rfl rfl hlt ?_; rw [ha]))
            go_roundw
            case rel => exact ⟨q + 1, by omega, by go_num, g, f, c, by rw [HS.out], hgB, by rw [HS.out]; exact HO.out, HB.out⟩
            case measure => simp [intOf]; omega
          · have HS : Hid ((List.range (q + 1)).filter (aB es n) = (List.range q).filter (aB es n) ++ [q]) := by rw [Hid, flt_succ, ha]; simp
            have HSL : Hid (((List.range (q + 1)).filter (aB es n)).length = ((List.range q).filter (aB es n)).length + 1) := by rw [Hid, HS.out]; simp
            generalize hL : (List.range q).filter (aB es n) = L at *
            go_wp2_with (first
              | (refine wpL_index _ rfl _ _ rfl (aB es n) q rfl rfl hlt ?_; rw [ha])
              | (at_builtin; refine wpList_append_os _ rfl _ _ _ rfl 2 i0 _ 1 8 Try.underlying24 hi0 hz0 hz1 hz2 rfl (by omega) g f L.length c ((nI L).map (Value.int .i64)) rfl (OSl.below HO.out ((Below.refl _ _).alloc (Nat.le_refl _) _) HO.out.blk) ⟨wr.heap.size, 0, none⟩ 1 1 [.int .i64 (q : Int)] rfl rfl (World.news_of_block (cs := #[.int .i64 (q : Int)]) (t := 2) (fr := (0, 0)) (heap_alloc_new wr _)) (by simp [Value.oneCell']) (by unfold maxLen; omega) (by omega) ?_; intro g2 f2 c2 w2 o2 hg2 hat2))
            have R : Hid (Built w w2 (.slice (some ⟨g2, f2, none⟩) (L.length + 1) c2) ((List.range (q + 1)).filter (aB es n)).length (nI ((List.range (q + 1)).filter (aB es n)))) := by
              rw [Hid, HSL.out, HS.out, ← nI_snoc]
              exact ⟨g2, f2, c2, rfl, at_ge hat2 hgB (Nat.le_trans hsz (by simp)), oi_snoc o2, below_grown (HB.out.alloc hsz _) hg2 hgB (Nat.le_trans hsz (by simp))⟩
            clear o2 hg2 hat2
            go_wp2
            go_roundw
            case rel => exact ⟨q + 1, by omega, by go_num, R.out⟩
            case measure => simp [intOf]; omega
        · have hq40 : q = 40 := by omega
          subst hq40
          go_wp2
          go_ret
          rw [HZ.out]
          have hO := HO.out
          rw [HF.out] at hO
          exact ans_of (by rw [HF.out, nI_len]; rfl) hgB (by rw [HF.out]; exact hO) HB.out

set_option maxRecDepth 100000 in
set_option maxHeartbeats 1600000 in
theorem implAhead_any (b off len cap : Nat) (es : List Ev) (i k : Int) (w : World) (hc : EvsAt w b off len es) (hm : len ≤ maxLen) (hcap : len ≤ cap) :
    Calls Try.prog 35 #[.slice (some ⟨b, off, none⟩) len cap, .int .i64 i, .int .i64 k] w fun e w' => e = .returned (.bool (decide (i ∈ pastT es len k))) ∧ Below w.heap.size w w' := by
  have hT := implTok_any b off len cap es w hc hm hcap
  have hNi := fun X => isNumber_any (some ⟨b, off, none⟩) len cap i X hm
  have hNk := fun X => isNumber_any (some ⟨b, off, none⟩) len cap k X hm
  cases ho : okT es len
  · rw [ho] at hT
    have HZ : Hid (decide (i ∈ pastT es len k) = false) := by rw [Hid, pastT_no (.inl ho)]; simp
    go_enter Try.func35, Try.ntmps35
    go_wp2_with fail
    refine hT.mono ?_
    rintro e w1 ⟨rfl, hg1⟩
    have HG : Hid (Grew w w1) := hg1
    clear hg1
    go_wp2
    go_ret
    exact ⟨ret_bool (by rw [HZ.out]), HG.out.1⟩
  · rw [ho] at hT
    have h40 := (okT_all ho).1
    cases hn : numB len i
    · have HZ : Hid (decide (i ∈ pastT es len k) = false) := by
        rw [Hid, decide_eq_false_iff_not]
        intro hmem
        unfold pastT at hmem
        split at hmem
        · rename_i h
          have h2 := numB_iff.1 h.2
          simp only [nI, List.mem_map] at hmem
          obtain ⟨a, ha, rfl⟩ := hmem
          have := (mem_pastL.1 ha).lt
          rw [numB_iff.2 (by omega)] at hn; cases hn
        · simp at hmem
      unfold numB at hn
      rw [hn] at hNi
      clear hn
      go_enter Try.func35, Try.ntmps35
      go_wp2_with fail
      refine hT.mono ?_
      rintro e w1 ⟨rfl, hg1⟩
      have HG : Hid (Grew w w1) := hg1
      clear hg1
      go_wp2_with fail
      refine (hNi w1).mono ?_
      rintro e w2 ⟨rfl, hw⟩
      have HG2 : Hid (Grew w w2) := by rw [Hid, hw]; exact HG.out
      clear hw
      go_wp2
      go_ret
      exact ⟨ret_bool (by rw [HZ.out]), HG2.out.1⟩
    · have hir := numB_iff.1 hn
      unfold numB at hn
      rw [hn] at hNi
      clear hn
      cases hn : numB len k
      · have HZ : Hid (decide (i ∈ pastT es len k) = false) := by rw [Hid, pastT_no (.inr hn)]; simp
        unfold numB at hn
        rw [hn] at hNk
        clear hn
        go_enter Try.func35, Try.ntmps35
        go_wp2_with fail
        refine hT.mono ?_
        rintro e w1 ⟨rfl, hg1⟩
        have HG : Hid (Grew w w1) := hg1
        clear hg1
        go_wp2_with fail
        refine (hNi w1).mono ?_
        rintro e w2 ⟨rfl, hw⟩
        have HG2 : Hid (Grew w w2) := by rw [Hid, hw]; exact HG.out
        clear hw
        go_wp2_with fail
        refine (hNk w2).mono ?_
        rintro e w3 ⟨rfl, hw⟩
        have HG3 : Hid (Grew w w3) := by rw [Hid, hw]; exact HG2.out
        clear hw
        go_wp2
        go_ret
        exact ⟨ret_bool (by rw [HZ.out]), HG3.out.1⟩
      · have hkr := numB_iff.1 hn
        obtain ⟨n, rfl⟩ : ∃ n : Nat, k = (n : Int) := ⟨k.toNat, by omega⟩
        obtain ⟨j, rfl⟩ : ∃ j : Nat, i = (j : Int) := ⟨i.toNat, by omega⟩
        have HZ : Hid (decide ((j : Int) ∈ pastT es len (n : Int)) = aB es n j) := by
          rw [Hid, pastT_ok ho hn, Bool.eq_iff_iff, aB_iff, decide_eq_true_eq, nI_mem, mem_pastL]; rfl
        unfold numB at hn
        rw [hn] at hNk
        clear hn
        have hnl : n < len := by omega
        have hj40 : j < 40 := by omega
        go_enter Try.func35, Try.ntmps35
        go_wp2_with fail
        refine hT.mono ?_
        rintro e w1 ⟨rfl, hg1⟩
        have HG : Hid (Grew w w1) := hg1
        clear hg1
        go_wp2_with fail
        refine (hNi w1).mono ?_
        rintro e w2 ⟨rfl, hw⟩
        have HG2 : Hid (Grew w w2) := by rw [Hid, hw]; exact HG.out
        clear hw
        go_wp2_with fail
        refine (hNk w2).mono ?_
        rintro e w3 ⟨rfl, hw⟩
        have HG3 : Grew w w3 := by rw [hw]; exact HG2.out
        clear hw
        go_wp2_with fail
        refine (stepsOf_any b off len cap es w3 (hc.grew HG3) ho hcap).mono ?_
        rintro e w4 ⟨rfl, hb4⟩
        have B4 : Below w.heap.size w w4 := HG3.1.trans (hb4.mono HG3.1.size)
        have R3 := bo_alloc w4 1600 no 81
        have R4 := R3.sets (tB es len)
        have B5 : Below w.heap.size w ((w4.alloc (.cells (mV 1600 no) 81)).setCells w4.heap.size 0 (mV 1600 (tB es len)).toList) := below_grown (B4.alloc B4.size _) (grown_setCells _ _ _ _) B4.size (Nat.le_trans B4.size (by simp))
        have hP := past_any w4.heap.size len n es _ R4 hnl h40
        have KR : Hid (Bo (w4.alloc (.cells (mV 1600 no) 81)) w4.heap.size 0 1600 no) := R3
        clear R3 R4 HG3 hb4 B4 hT
        go_wp2_with (first | (refine wpL_alloc _ rfl 81 1600 rfl Try.info81 ?_) | (refine wpL_store _ rfl rfl 81 1600 _ _ rfl Try.info81 w4.heap.size 0 no (tB es len) rfl rfl KR.out ?_) | (refine wpL_index _ rfl _ _ rfl (aB es n) j rfl rfl hj40 ?_) | (go_at_call 81; refine hP.mono ?_; rintro e w6 ⟨rfl, hb6⟩))
        go_ret
        exact ⟨ret_bool (by rw [HZ.out]), B5.trans (hb6.mono B5.size)⟩
end Go.Proofs.Ytehnnfpjdfffcaa
