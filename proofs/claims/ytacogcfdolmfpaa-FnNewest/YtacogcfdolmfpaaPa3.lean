/-
  The contracts of the program's Past and Ahead.
-/
import Derived.Test.YtacogcfdolmfpaaPa2
namespace Go.Proofs.Ytacogcfdolmfpaa
set_option linter.unusedSimpArgs false
set_option linter.unusedVariables false
open Go.RowKit Go.Sort
attribute [local irreducible] mV World.setCells

theorem flt_succ (p : Nat → Bool) (q : Nat) : (List.range (q + 1)).filter p = (List.range q).filter p ++ (if p q = true then [q] else []) := by
  rw [List.range_succ, List.filter_append]
  cases h : p q <;> simp [h]
theorem flt_len (p : Nat → Bool) (q : Nat) : ((List.range q).filter p).length ≤ q := by
  have := List.length_filter_le p (List.range q)
  simpa using this

set_option maxRecDepth 100000 in
set_option maxHeartbeats 1600000 in
theorem implAhead_any (b off len cap : Nat) (es : List Ev) (i k : Int) (w : World) (hc : EvsAt w b off len es) (hm : len ≤ maxLen) (hcap : len ≤ cap) :
    Calls Try.prog 35 #[.slice (some ⟨b, off, none⟩) len cap, .int .i64 i, .int .i64 k] w fun e w' => e = .returned (.bool (decide (i ∈ pastT es len k))) ∧ Below w.heap.size w w' := by
  have hT := implTok_any b off len cap es w hc hm hcap
  have hNi := fun X => isNumber_any (some ⟨b, off, none⟩) len cap i X hm
  have hNk := fun X => isNumber_any (some ⟨b, off, none⟩) len cap k X hm
  cases ho : okT es len
  · rw [ho] at hT
    have HZ : Hid (decide (i ∈ pastT es len k) = false) := by rw [Hid, pastT_no (.inl ho)]; simp
    go_enter Try.func35, Try.ntmps35
    go_wp2_with fail
    refine hT.mono ?_
    rintro e w1 ⟨rfl, hg1⟩
    have HG : Hid (Grew w w1) := hg1
    clear hg1
    go_wp2
    go_ret
    exact ⟨ret_bool (by rw [HZ.out]), HG.out.1⟩
  · rw [ho] at hT
    have h40 := (okT_all ho).1
    cases hn : numB len i
    · have HZ : Hid (decide (i ∈ pastT es len k) = false) := by
        rw [Hid, decide_eq_false_iff_not]
        intro hmem
        unfold pastT at hmem
        split at hmem
        · rename_i h
          have h2 := numB_iff.1 h.2
          simp only [nI, List.mem_map] at hmem
          obtain ⟨a, ha, rfl⟩ := hmem
          have := (mem_pastL.1 ha).lt
          rw [numB_iff.2 (by omega)] at hn; cases hn
        · simp at hmem
      unfold numB at hn
      rw [hn] at hNi
      clear hn
      go_enter Try.func35, Try.ntmps35
      go_wp2_with fail
      refine hT.mono ?_
      rintro e w1 ⟨rfl, hg1⟩
      have HG : Hid (Grew w w1) := hg1
      clear hg1
      go_wp2_with fail
      refine (hNi w1).mono ?_
      rintro e w2 ⟨rfl, hw⟩
      have HG2 : Hid (Grew w w2) := by rw [Hid, hw]; exact HG.out
      clear hw
      go_wp2
      go_ret
      exact ⟨ret_bool (by rw [HZ.out]), HG2.out.1⟩
    · have hir := numB_iff.1 hn
      unfold numB at hn
      rw [hn] at hNi
      clear hn
      cases hn : numB len k
      · have HZ : Hid (decide (i ∈ pastT es len k) = false) := by rw [Hid, pastT_no (.inr hn)]; simp
        unfold numB at hn
        rw [hn] at hNk
        clear hn
        go_enter Try.func35, Try.ntmps35
        go_wp2_with fail
        refine hT.mono ?_
        rintro e w1 ⟨rfl, hg1⟩
        have HG : Hid (Grew w w1) := hg1
        clear hg1
        go_wp2_with fail
        refine (hNi w1).mono ?_
        rintro e w2 ⟨rfl, hw⟩
        have HG2 : Hid (Grew w w2) := by rw [Hid, hw]; exact HG.out
        clear hw
        go_wp2_with fail
        refine (hNk w2).mono ?_
        rintro e w3 ⟨rfl, hw⟩
        have HG3 : Hid (Grew w w3) := by rw [Hid, hw]; exact HG2.out
        clear hw
        go_wp2
        go_ret
        exact ⟨ret_bool (by rw [HZ.out]), HG3.out.1⟩
      · have hkr := numB_iff.1 hn
        obtain ⟨n, rfl⟩ : ∃ n : Nat, k = (n : Int) := ⟨k.toNat, by omega⟩
        obtain ⟨j, rfl⟩ : ∃ j : Nat, i = (j : Int) := ⟨i.toNat, by omega⟩
        have HZ : Hid (decide ((j : Int) ∈ pastT es len (n : Int)) = aB es n j) := by
          rw [Hid, pastT_ok ho hn, Bool.eq_iff_iff, aB_iff, decide_eq_true_eq, nI_mem, mem_pastL]; rfl
        unfold numB at hn
        rw [hn] at hNk
        clear hn
        have hnl : n < len := by omega
        have hj40 : j < 40 := by omega
        go_enter Try.func35, Try.ntmps35
        go_wp2_with fail
        refine hT.mono ?_
        rintro e w1 ⟨rfl, hg1⟩
        have HG : Hid (Grew w w1) := hg1
        clear hg1
        go_wp2_with fail
        refine (hNi w1).mono ?_
        rintro e w2 ⟨rfl, hw⟩
        have HG2 : Hid (Grew w w2) := by rw [Hid, hw]; exact HG.out
        clear hw
        go_wp2_with fail
        refine (hNk w2).mono ?_
        rintro e w3 ⟨rfl, hw⟩
        have HG3 : Grew w w3 := by rw [hw]; exact HG2.out
        clear hw
        go_wp2_with fail
        refine (stepsOf_any b off len cap es w3 (hc.grew HG3) ho hcap).mono ?_
        rintro e w4 ⟨rfl, hb4⟩
        have B4 : Below w.heap.size w w4 := HG3.1.trans (hb4.mono HG3.1.size)
        have R3 := bo_alloc w4 1600 no 85
        have R4 := R3.sets (tB es len)
        have B5 : Below w.heap.size w ((w4.alloc (.cells (mV 1600 no) 85)).setCells w4.heap.size 0 (mV 1600 (tB es len)).toList) := below_grown (B4.alloc B4.size _) (grown_setCells _ _ _ _) B4.size (Nat.le_trans B4.size (by simp))
        have hP := past_any w4.heap.size len n es _ R4 hnl h40
        have KR : Hid (Bo (w4.alloc (.cells (mV 1600 no) 85)) w4.heap.size 0 1600 no) := R3
        clear R3 R4 HG3 hb4 B4 hT
        go_wp2_with (first | (refine wpL_alloc _ rfl 85 1600 rfl Try.info81 ?_) | (refine wpL_store _ rfl rfl 85 1600 _ _ rfl Try.info81 w4.heap.size 0 no (tB es len) rfl rfl KR.out ?_) | (refine wpL_index _ rfl _ _ rfl (aB es n) j rfl rfl hj40 ?_) | (go_at_call 95; refine hP.mono ?_; rintro e w6 ⟨rfl, hb6⟩))
        go_ret
        exact ⟨ret_bool (by rw [HZ.out]), B5.trans (hb6.mono B5.size)⟩
end Go.Proofs.Ytacogcfdolmfpaa
