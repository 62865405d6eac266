/-
  The contracts of the specification's DrawTraceOk, DrawStamps and DrawAhead.
-/
import Derived.Test.YtacogcfdolmfpaaLawFp
namespace Go.Proofs.Ytacogcfdolmfpaa
set_option linter.unusedSimpArgs false
set_option linter.unusedVariables false
open Go.RowKit Go.Sort

/-- A list of events that a draw has handed out. -/
def Got (w w' : World) (v : Value) (g f n c : Nat) (es : List Ev) : Prop := v = .slice (some ⟨g, f, none⟩) n c ∧ n ≤ 41 ∧ n ≤ c ∧ c ≤ maxLen ∧ EvsAt w' g f n es ∧ Below w.heap.size w w'

set_option maxRecDepth 100000 in
set_option maxHeartbeats 1600000 in
theorem drawTok_any (a : Option Addr) (len cap : Nat) (bs : Nat → Int) (w : World) (hv : BVec w a len bs) (hl : len ≤ 4096) :
    Calls Try.prog 84 #[.slice a len cap] w fun e w' => ∃ v g f n c es, e = .returned v ∧ Got w w' v g f n c es := by
  go_enter Try.func84, Try.ntmps84
  go_wp2_with fail
  refine (new_any a len cap bs w hv hl).mono ?_
  rintro e w1 ⟨p, rfl, hp, hc1, hb1⟩
  have hv1 := hv.below hb1 (Nat.le_refl _)
  have hoff : OffB a len p := fun h b off e => by have := hv.inB h b off e; omega
  have hs1 := hb1.size
  go_wp2_with fail
  refine (once_any p a len cap bs 30 w1 hc1 hv1 hoff hl (by omega)).mono ?_
  rintro e w2 ⟨x, rfl, hc2, hg2⟩
  have hv2 := hv1.grown hg2 hoff
  have hb2 : Below w.heap.size w w2 := below_grown hb1 hg2 (by omega) hs1
  have hs2 := hb2.size
  clear hc1 hg2
  cases x
  · go_wp2_with fail
    refine (l2DrawAny_any p a len cap bs w2 hc2 hv2 hoff hl).mono ?_
    rintro e w3 ⟨g, f, c, es, rfl, hes, L3⟩
    have K : Hid (Got w w3 (.slice (some ⟨g, f, none⟩) es.length c) g f es.length c es) := ⟨rfl, by omega, L3.out.le, L3.out.max, L3.out.at, below_grown hb2 L3.grown (by omega) hs2⟩
    clear L3
    go_wp2
    go_ret
    exact ⟨_, g, f, es.length, c, es, rfl, K.out⟩
  · go_wp2_with fail
    refine (below_any p a len cap bs 2 w2 hc2 hv2 hoff hl (by omega)).mono ?_
    rintro e w3 ⟨x, rfl, hx0, hx1, hx2, hc3, hg3⟩
    have hx3 := hx1 (by omega)
    have hb3 : Below w.heap.size w w3 := below_grown hb2 hg3 (by omega) hs2
    obtain ⟨n, hn⟩ : ∃ n : Nat, (40 : Int) + x = (n : Int) := ⟨(40 + x).toNat, by omega⟩
    have hmk := make_ev n (by omega)
    have hrow := part3_start (w := w3) (n := n) (es := [])
    have K : Hid (Got w (w3.alloc (.cells (madeCells #[.int .i64 0, .int .i64 0, .int .i64 0] (n * 3)) 48)) (.slice (some ⟨w3.heap.size, 0, none⟩) n n) w3.heap.size 0 n n []) := by
      refine ⟨rfl, by omega, Nat.le_refl _, by unfold maxLen; omega, fun i hi => ?_, hb3.alloc hb3.size _⟩
      refine ⟨?_, ?_, ?_⟩
      · rw [Nat.zero_add, hrow.cell (by omega)]; rfl
      · rw [Nat.zero_add, hrow.cell (by omega)]; rfl
      · rw [Nat.zero_add, hrow.cell (by omega)]; rfl
    clear hx1 hx2 hc3 hg3 hrow
    go_wp2
    go_ret
    exact ⟨_, w3.heap.size, 0, n, n, [], rfl, K.out⟩

set_option maxHeartbeats 400000 in
theorem drawStamps_any (a : Option Addr) (len cap : Nat) (bs : Nat → Int) (w : World) (hv : BVec w a len bs) (hl : len ≤ 4096) :
    Calls Try.prog 29 #[.slice a len cap] w fun e w' => ∃ v g f n c es, e = .returned v ∧ Got w w' v g f n c es := by
  go_enter Try.func29, Try.ntmps29
  go_wp2_with fail
  refine (drawTok_any a len cap bs w hv hl).mono ?_
  rintro e w1 ⟨v, g, f, n, c, es, rfl, h⟩
  have K : Hid (Got w w1 v g f n c es) := h
  clear h
  go_wp2
  go_ret
  exact ⟨v, g, f, n, c, es, rfl, K.out⟩

set_option maxRecDepth 100000 in
set_option maxHeartbeats 1600000 in
theorem drawAhead_any (a : Option Addr) (len cap : Nat) (bs : Nat → Int) (w : World) (hv : BVec w a len bs) (hl : len ≤ 4096) :
    Calls Try.prog 32 #[.slice a len cap] w fun e w' => ∃ g f c es i k, e = .returned (.tuple #[.slice (some ⟨g, f, none⟩) es.length c, .int .i64 i, .int .i64 k]) ∧ es.length ≤ 14 ∧ -1 ≤ k ∧ k ≤ 20 ∧ OE w' g f c es ∧ Below w.heap.size w w' := by
  go_enter Try.func32, Try.ntmps32
  go_wp2_with fail
  refine (new_any a len cap bs w hv hl).mono ?_
  rintro e w1 ⟨p, rfl, hp, hc1, hb1⟩
  have hv1 := hv.below hb1 (Nat.le_refl _)
  have hoff : OffB a len p := fun h b off e => by have := hv.inB h b off e; omega
  go_wp2_with fail
  refine (l2DrawAny_any p a len cap bs w1 hc1 hv1 hoff hl).mono ?_
  rintro e w2 ⟨g, f, c, es, rfl, hes, L2⟩
  have hs1 := hb1.size
  go_wp2_with fail
  refine (from_any p a len cap bs (-1) ((es.length : Int) + 1) w2 L2.cur (hv1.grown L2.grown hoff) hoff hl (by omega) (by omega) (by omega)).mono ?_
  rintro e w3 ⟨i, rfl, hi0, hi1, hc3, hg3⟩
  have L3 := L2.step hc1.lt hc3 hg3
  go_wp2_with fail
  refine (from_any p a len cap bs (-1) ((es.length : Int) + 1) w3 L3.cur (hv1.grown L3.grown hoff) hoff hl (by omega) (by omega) (by omega)).mono ?_
  rintro e w4 ⟨k, rfl, hk0, hk1, hc4, hg4⟩
  have L4 := L3.step hc1.lt hc4 hg4
  have K1 : Hid (OE w4 g f c es) := L4.out
  have K2 : Hid (Below w.heap.size w w4) := below_grown hb1 L4.grown (by omega) hs1
  clear hc3 hg3 L3 L2 L4 hv1 hc1 hc4 hg4
  go_wp2
  go_ret3
  exact ⟨g, f, c, es, i, k, rfl, hes, hk0, by omega, K1.out, K2.out⟩
end Go.Proofs.Ytacogcfdolmfpaa
