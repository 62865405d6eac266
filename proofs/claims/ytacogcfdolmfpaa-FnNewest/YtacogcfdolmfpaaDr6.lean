/-
  The draws of the clocks' laws; what the clocks tell, as the program asks it.
-/
import Derived.Test.YtacogcfdolmfpaaDr5
import Derived.Test.YtacogcfdolmfpaaVvs
import Derived.Test.YtacogcfdolmfpaaEar
namespace Go.Proofs.Ytacogcfdolmfpaa
set_option linter.unusedSimpArgs false
set_option linter.unusedVariables false
open Go.RowKit Go.Sort

theorem drew_one {w w' : World} {x : Nat} (h : ∃ n, w' = (w.drewN x).drewN n) : ∃ n, w' = w.drewN n := by
  obtain ⟨n, rfl⟩ := h
  exact ⟨x + n, by rw [World.drewN_drewN]⟩
theorem ckN_true {es : List Ev} {n : Nat} (h : okT es n = true) : ckN es n = n := by unfold ckN; rw [if_pos h]
theorem ckN_false {es : List Ev} {n : Nat} (h : okT es n = false) : ckN es n = 0 := by unfold ckN; rw [h]; rfl

theorem drawClocks_any (a : Option Addr) (len cap : Nat) (bs : Nat → Int) (w : World) (hv : BVec w a len bs) (hl : len ≤ 4096) :
    Calls Try.prog 41 #[.slice a len cap] w fun e w' => ∃ v g f n c es, e = .returned v ∧ Got w w' v g f n c es := by
  go_enter Try.func41, Try.ntmps41
  go_wp2_with fail
  refine (drawTok_any a len cap bs w hv hl).mono ?_
  rintro e w1 ⟨v, g, f, n, c, es, rfl, h⟩
  have K : Hid (Got w w1 v g f n c es) := h
  clear h
  go_wp2
  go_ret
  exact ⟨v, g, f, n, c, es, rfl, K.out⟩
theorem drawEarlier_any (a : Option Addr) (len cap : Nat) (bs : Nat → Int) (w : World) (hv : BVec w a len bs) (hl : len ≤ 4096) :
    Calls Try.prog 43 #[.slice a len cap] w fun e w' => ∃ a1 m1 c1 z1 a2 m2 c2 z2, e = .returned (.tuple #[.slice a1 m1 c1, .slice a2 m2 c2]) ∧ Vec w' a1 m1 z1 ∧ m1 ≤ c1 ∧ c1 ≤ maxLen ∧ Vec w' a2 m2 z2 ∧ m2 ≤ c2 ∧ c2 ≤ maxLen ∧ Below w.heap.size w w' := by
  go_enter Try.func43, Try.ntmps43
  go_wp2_with fail
  refine (drawUnder_any a len cap bs w hv hl).mono ?_
  rintro e w1 ⟨a1, m1, c1, z1, a2, m2, c2, z2, rfl, k1, k2, k3, k4, l1, l2, l3, l4, hb⟩
  have K1 : Hid (Vec w1 a1 m1 z1) := k1
  have K2 : Hid (Vec w1 a2 m2 z2) := l1
  have K3 : Hid (Below w.heap.size w w1) := hb
  clear k1 l1 hb
  go_wp2
  go_ret2
  exact ⟨a1, m1, c1, z1, a2, m2, c2, z2, rfl, K1.out, k2, k3, K2.out, l2, l3, K3.out⟩
theorem drawApart_any (a : Option Addr) (len cap : Nat) (bs : Nat → Int) (w : World) (hv : BVec w a len bs) (hl : len ≤ 4096) :
    Calls Try.prog 44 #[.slice a len cap] w fun e w' => ∃ a1 m1 c1 z1 a2 m2 c2 z2, e = .returned (.tuple #[.slice a1 m1 c1, .slice a2 m2 c2]) ∧ Vec w' a1 m1 z1 ∧ m1 ≤ c1 ∧ c1 ≤ maxLen ∧ Vec w' a2 m2 z2 ∧ m2 ≤ c2 ∧ c2 ≤ maxLen ∧ Below w.heap.size w w' := by
  go_enter Try.func44, Try.ntmps44
  go_wp2_with fail
  refine (drawJoin_any a len cap bs w hv hl).mono ?_
  rintro e w1 ⟨a1, m1, c1, z1, a2, m2, c2, z2, rfl, k1, k2, k3, k4, l1, l2, l3, l4, hb, _, _⟩
  have K1 : Hid (Vec w1 a1 m1 z1) := k1
  have K2 : Hid (Vec w1 a2 m2 z2) := l1
  have K3 : Hid (Below w.heap.size w w1) := hb
  clear k1 l1 hb
  go_wp2
  go_ret2
  exact ⟨a1, m1, c1, z1, a2, m2, c2, z2, rfl, K1.out, k2, k3, K2.out, l2, l3, K3.out⟩
set_option maxRecDepth 100000 in
set_option maxHeartbeats 1600000 in
theorem drawNewest_any (a : Option Addr) (len cap : Nat) (bs : Nat → Int) (w : World) (hv : BVec w a len bs) (hl : len ≤ 4096) :
    Calls Try.prog 51 #[.slice a len cap] w fun e w' => ∃ g f c es i, e = .returned (.tuple #[.slice (some ⟨g, f, none⟩) es.length c, .int .i64 i]) ∧ es.length ≤ 14 ∧ -1 ≤ i ∧ i ≤ 5 ∧ OE w' g f c es ∧ Below w.heap.size w w' := by
  go_enter Try.func51, Try.ntmps51
  go_wp2_with fail
  refine (new_any a len cap bs w hv hl).mono ?_
  rintro e w1 ⟨p, rfl, hp, hc1, hb1⟩
  have hv1 := hv.below hb1 (Nat.le_refl _)
  have hoff : OffB a len p := fun h b off e => by have := hv.inB h b off e; omega
  go_wp2_with fail
  refine (l2DrawAny_any p a len cap bs w1 hc1 hv1 hoff hl).mono ?_
  rintro e w2 ⟨g, f, c, es, rfl, hes, L2⟩
  have hs1 := hb1.size
  go_wp2_with fail
  refine (from_any p a len cap bs (-1) 5 w2 L2.cur (hv1.grown L2.grown hoff) hoff hl (by omega) (by omega) (by omega)).mono ?_
  rintro e w3 ⟨i, rfl, hi0, hi1, hc3, hg3⟩
  have L3 := L2.step hc1.lt hc3 hg3
  have K1 : Hid (OE w3 g f c es) := L3.out
  have K2 : Hid (Below w.heap.size w w3) := below_grown hb1 L3.grown (by omega) hs1
  clear hc3 hg3 L3 L2 hv1 hc1
  go_wp2
  go_ret2
  exact ⟨g, f, c, es, i, rfl, hes, hi0, hi1, K1.out, K2.out⟩

theorem cl_ok {es : List Ev} {n i : Nat} (hok : okT es n = true) (hi : i < n) : okB (cl es i) = true := by
  have := (okT_all hok).1
  exact ok8 (cl_len es i) (fun j hj => by have := cl_bound es i j hj; omega)
theorem cl_two {es : List Ev} {n i k : Nat} (hok : okT es n = true) (hi : i < n) (hk : k < n) : twoB (cl es i) (cl es k) = true := by
  unfold twoB
  rw [cl_ok hok hi, cl_ok hok hk, cl_len, cl_len]; rfl
theorem cl_under {es : List Ev} {n i k : Nat} (hok : okT es n = true) (hi : i < n) (hk : k < n) : underB (cl es i) (cl es k) = true ↔ Knows es i k := by
  unfold underB leB
  rw [cl_two hok hi hk, cl_len, Bool.true_and, List.all_eq_true, ← under_iff hok hi hk]
  constructor
  · intro h p hp
    have := h p (List.mem_range.2 hp)
    simpa using this
  · intro h p hp
    have := h p (List.mem_range.1 hp)
    simpa using this
/-- Ahead, as the specification tells it. -/
theorem ahead_iff {es : List Ev} {n i k : Nat} (hok : okT es n = true) (hk : k < n) : ((i : Int) ∈ pastT es n (k : Int)) ↔ Anc es i k := by
  rw [pastT_ok hok (numB_iff.2 (by omega)), nI_mem, mem_pastL]
  rfl
theorem earl_eq {es : List Ev} {n i k : Nat} (hok : okT es n = true) (hi : i < n) (hk : k < n) : earlB (cl es i) (cl es k) = decide ((i : Int) ∈ pastT es n (k : Int)) := by
  rw [Bool.eq_iff_iff, decide_eq_true_eq, ahead_iff hok hk, ← mattern hok hi hk, under_iff hok hi hk, ← cl_under hok hi hk]
  unfold earlB
  rw [Bool.and_eq_true, Bool.not_eq_true', decide_eq_false_iff_not]
theorem apart_eq {es : List Ev} {n i k : Nat} (hok : okT es n = true) (hi : i < n) (hk : k < n) (hne : i ≠ k) : apartB (cl es i) (cl es k) = (!decide ((i : Int) ∈ pastT es n (k : Int)) && !decide ((k : Int) ∈ pastT es n (i : Int))) := by
  rw [Bool.eq_iff_iff]
  unfold apartB
  simp only [Bool.and_eq_true, Bool.not_eq_true', decide_eq_false_iff_not, cl_two hok hi hk, true_and]
  rw [ahead_iff hok hk, ahead_iff hok hi, ← Bool.not_eq_true, ← Bool.not_eq_true, cl_under hok hi hk, cl_under hok hk hi]
  unfold Knows
  constructor
  · rintro ⟨h1, h2⟩
    exact ⟨fun h => h1 (.inr h), fun h => h2 (.inr h)⟩
  · rintro ⟨h1, h2⟩
    refine ⟨fun h => ?_, fun h => ?_⟩
    · rcases h with h | h
      · exact hne h
      · exact h1 h
    · rcases h with h | h
      · exact hne h.symm
      · exact h2 h
end Go.Proofs.Ytacogcfdolmfpaa
