/-
  The contracts of Past and Ahead, the specification's and the program's.
-/
import Derived.Test.YtacogcfdolmfpaaPas
namespace Go.Proofs.Ytacogcfdolmfpaa
set_option linter.unusedSimpArgs false
set_option linter.unusedVariables false
open Go.RowKit Go.Sort
attribute [local irreducible] mV World.setCells

def numB (len : Nat) (k : Int) : Bool := decide (0 ≤ k) && decide (k < (len : Int))
open Classical in
/-- All that is ahead of event k of a trace; nothing when something is not as told. -/
noncomputable def pastT (es : List Ev) (len : Nat) (k : Int) : List Int := if okT es len = true ∧ numB len k = true then nI (pastL es k.toNat) else []
theorem pastT_ok {es : List Ev} {len : Nat} {k : Int} (h : okT es len = true) (hk : numB len k = true) : pastT es len k = nI (pastL es k.toNat) := by
  unfold pastT; rw [if_pos ⟨h, hk⟩]
theorem pastT_no {es : List Ev} {len : Nat} {k : Int} (h : okT es len = false ∨ numB len k = false) : pastT es len k = [] := by
  unfold pastT; rw [if_neg]; rintro ⟨h1, h2⟩; rcases h with h | h
  · rw [h1] at h; cases h
  · rw [h2] at h; cases h
theorem numB_iff {len : Nat} {k : Int} : numB len k = true ↔ 0 ≤ k ∧ k < (len : Int) := by simp [numB]
theorem inB_num (len : Nat) (k : Int) : inB k 0 ((len : Int) - 1) = numB len k := by
  unfold inB numB
  congr 1
  rw [Bool.eq_iff_iff, decide_eq_true_eq, decide_eq_true_eq]; omega
theorem pastL_len (es : List Ev) (k : Nat) : (pastL es k).length ≤ k := sorted_len (pastL_sorted es k) (fun x hx => (mem_pastL.1 hx).lt)
theorem pastT_len (es : List Ev) (len : Nat) (k : Int) : (pastT es len k).length ≤ 40 := by
  unfold pastT
  split
  · rename_i h
    rw [nI_len]
    have h1 := pastL_len es k.toNat
    have h2 := numB_iff.1 h.2
    have h3 := (okT_all h.1).1
    omega
  · simp
theorem pastT_fits (es : List Ev) (len : Nat) (k : Int) : Fits (pastT es len k) := by
  unfold pastT
  split
  · rename_i h
    have h2 := numB_iff.1 h.2
    have h3 := (okT_all h.1).1
    exact nI_fits (B := 40) (fun x hx => by have := (mem_pastL.1 hx).lt; omega) (by omega)
  · intro x hx; simp at hx
theorem flt_past {es : List Ev} {k : Nat} (hk : k ≤ 40) : (List.range 40).filter (aB es k) = pastL es k :=
  sorted_ext (List.Pairwise.filter _ List.pairwise_lt_range) (pastL_sorted es k) (fun x => by
    rw [List.mem_filter, aB_iff, mem_pastL, List.mem_range]
    exact ⟨fun h => h.2, fun h => ⟨by have := h.lt; omega, h⟩⟩)

set_option maxRecDepth 100000 in
set_option maxHeartbeats 1600000 in
theorem specPast_any (b off len cap : Nat) (es : List Ev) (k : Int) (w : World) (hc : EvsAt w b off len es) (hm : len ≤ maxLen) (hcap : len ≤ cap) (hkb : -9223372036854775808 ≤ k ∧ k ≤ 9223372036854775807) :
    Calls Try.prog 39 #[.slice (some ⟨b, off, none⟩) len cap, .int .i64 k] w fun e w' => Ans w w' e (pastT es len k) := by
  have hT := specTok_any b off len cap es w hc hm hcap
  cases ho : okT es len
  · rw [ho] at hT
    have HZ : Hid (pastT es len k = []) := pastT_no (.inl ho)
    go_enter Try.func39, Try.ntmps39
    go_wp2_with fail
    refine hT.mono ?_
    rintro e w1 ⟨rfl, hg1⟩
    have HG : Hid (Grew w w1) := hg1
    clear hg1
    go_wp2
    go_ret
    rw [HZ.out]
    exact ⟨w1.heap.size, 0, 0, rfl, HG.out.1.size, oi_empty w1 2, (HG.out.alloc _).1⟩
  · rw [ho] at hT
    have h40 := (okT_all ho).1
    have hI := fun X => l1In_any k 0 ((len : Int) - 1) X
    rw [inB_num] at hI
    cases hn : numB len k
    · rw [hn] at hI
      have HZ : Hid (pastT es len k = []) := pastT_no (.inr hn)
      go_enter Try.func39, Try.ntmps39
      go_wp2_with fail
      refine hT.mono ?_
      rintro e w1 ⟨rfl, hg1⟩
      have HG : Hid (Grew w w1) := hg1
      clear hg1
      go_wp2_with fail
      refine (hI w1).mono ?_
      rintro e w1' ⟨rfl, hw⟩
      have HG2 : Hid (Grew w w1') := by rw [Hid, hw]; exact HG.out
      clear hw
      go_wp2
      go_ret
      rw [HZ.out]
      exact ⟨w1'.heap.size, 0, 0, rfl, HG2.out.1.size, oi_empty w1' 2, (HG2.out.alloc _).1⟩
    · rw [hn] at hI
      have HZ : Hid (pastT es len k = nI (pastL es k.toNat)) := pastT_ok ho hn
      have hkr := numB_iff.1 hn
      obtain ⟨n, rfl⟩ : ∃ n : Nat, k = (n : Int) := ⟨k.toNat, by omega⟩
      have hP := fun X (hX : EvsAt X b off len es) => l2Past_any b off len cap n es X hX ho (by omega)
      go_enter Try.func39, Try.ntmps39
      go_wp2_with fail
      refine hT.mono ?_
      rintro e w1 ⟨rfl, hg1⟩
      have HG : Hid (Grew w w1) := hg1
      clear hg1
      go_wp2_with fail
      refine (hI w1).mono ?_
      rintro e w1' ⟨rfl, hw⟩
      have HG2 : Hid (Grew w w1') := by rw [Hid, hw]; exact HG.out
      clear hw
      go_wp2_with fail
      refine (hP w1' (hc.grew HG2.out)).mono ?_
      rintro e w2 ⟨g, off', c, rfl, h1, h2, h3⟩
      have H1 : Hid (w1'.heap.size ≤ g) := h1
      have H2 : Hid (OI w2 g off' (nI (pastL es n)).length c (nI (pastL es n))) := h2
      have H3 : Hid (Below w1'.heap.size w1' w2) := h3
      clear h1 h2 h3
      go_wp2
      go_ret
      rw [HZ.out]
      exact ⟨g, off', c, rfl, Nat.le_trans HG2.out.1.size H1.out, H2.out, HG2.out.1.trans (H3.out.mono HG2.out.1.size)⟩

set_option maxRecDepth 100000 in
set_option maxHeartbeats 1600000 in
theorem specAhead_any (b off len cap : Nat) (es : List Ev) (i k : Int) (w : World) (hc : EvsAt w b off len es) (hm : len ≤ maxLen) (hcap : len ≤ cap) (hkb : -9223372036854775808 ≤ k ∧ k ≤ 9223372036854775807) :
    Calls Try.prog 36 #[.slice (some ⟨b, off, none⟩) len cap, .int .i64 i, .int .i64 k] w fun e w' => e = .returned (.bool (decide (i ∈ pastT es len k))) ∧ Below w.heap.size w w' := by
  have hl := pastT_len es len k
  go_enter Try.func36, Try.ntmps36
  go_wp2_with fail
  refine (specPast_any b off len cap es k w hc hm hcap hkb).mono ?_
  rintro e w1 ⟨g, off', c, rfl, h1, h2, h3⟩
  have HB : Hid (Below w.heap.size w w1) := h3
  clear h3
  go_wp2_with fail
  refine (l1Has_any g off' (pastT es len k).length c i (pastT es len k) w1 rfl (fun j hj => h2.cellAt hj) (by unfold maxLen; omega)).mono ?_
  rintro e w2 ⟨rfl, hw⟩
  have HB2 : Hid (Below w.heap.size w w2) := by rw [Hid, hw]; exact HB.out
  clear hw h1 h2
  go_wp2
  go_ret
  exact ⟨rfl, HB2.out⟩
end Go.Proofs.Ytacogcfdolmfpaa
