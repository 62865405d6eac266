/-
  Several texts in one: Isq Ird Iwv.
-/
import Derived.Test.YtggieamhbfdmhaaIe
import Derived.RangeFuncNested
import Derived.RangeFuncBound
import Derived.RangeFuncCalls
import Derived.RangeFuncLeaves
import Derived.RangeFuncBox
import Derived.Maps.AppendAt
import Derived.Shelf.Abstract
import Derived.Shelf.RegionOpen
import Derived.WalkKit
import Derived.OwnWalkIn
import Derived.TacticsInMore
import Derived.LoopNIn
import Derived.LoopIn
/-
  The program's iterator over the seqs: seqsOf, and the function that it hands back, for every loop body that keeps what the iterator reads.
-/
namespace Go.Proofs.Ytggieamhbfdmhaa
set_option linter.unusedVariables false
set_option linter.unusedSimpArgs false
open Go.RowKit Go.Sort Go.Shelf
attribute [local go_sem] Oper.semAt_some

theorem wrow_prefix (cs : List Int) (k : Nat) {i j : Nat} (h : i ≤ j) : wrow cs k i <+: wrow cs k j := by
  induction j with
  | zero => obtain rfl : i = 0 := by omega
            exact List.prefix_refl _
  | succ j ih =>
    rcases Nat.lt_or_ge j i with h1 | h1
    · obtain rfl : i = j + 1 := by omega
      exact List.prefix_refl _
    · rw [wrow_succ]
      exact (ih h1).trans (List.prefix_append _ _)
theorem wovs_prefix (cs : List Int) {i j : Nat} (h : i ≤ j) : wovs cs i <+: wovs cs j := by
  induction j with
  | zero => obtain rfl : i = 0 := by omega
            exact List.prefix_refl _
  | succ j ih =>
    rcases Nat.lt_or_ge j i with h1 | h1
    · obtain rfl : i = j + 1 := by omega
      exact List.prefix_refl _
    · rw [wovs_succ]
      exact (ih h1).trans (List.prefix_append _ _)
theorem part_prefix {cs : List Int} {k j M : Nat} (hk : k < M) (hj : j ≤ cs.length) : wovs cs k ++ wrow cs k j <+: wovs cs M := by
  refine List.IsPrefix.trans ?_ (wovs_prefix cs (Nat.succ_le_of_lt hk))
  rw [wovs_succ]
  exact (List.prefix_append_right_inj _).2 (wrow_prefix cs k hj)
/-- What a round keeps: whatever lay below n₀, and the block Bn, in which the counts' slice is captured. -/
def Kp7 (n₀ Bn : Nat) (W W' : World) : Prop := Below n₀ W W' ∧ W'.heap[Bn]? = W.heap[Bn]?
theorem Kp7.trans {n₀ Bn : Nat} {A B C : World} (h : Kp7 n₀ Bn A B) (k : Kp7 n₀ Bn B C) : Kp7 n₀ Bn A C := ⟨h.1.trans k.1, k.2.trans h.2⟩
theorem Kp7.refl (n₀ Bn : Nat) (W : World) : Kp7 n₀ Bn W W := ⟨Below.refl _ _, rfl⟩
theorem Kp7.drewN {n₀ Bn : Nat} {A B : World} (h : Kp7 n₀ Bn A B) (n : Nat) : Kp7 n₀ Bn A (B.drewN n) := ⟨belowN h.1, h.2⟩
theorem Kp7.box {n₀ Bn : Nat} {A B : World} (h : Kp7 n₀ Bn A B) {v : Value} (hv : A.cell? ⟨Bn, 0, none⟩ = some v) : B.cell? ⟨Bn, 0, none⟩ = some v := (World.cell?_of_block (w := A) h.2).trans hv
theorem Kp7.put {n₀ Bn : Nat} {w : World} (hn : n₀ ≤ w.heap.size) (hB : Bn < w.heap.size) (W : World) (l : Nat) (o o' : Obj) (hl : w.heap.size ≤ l) (h : W.heap[l]? = some o) (h1 : o.isCells = false) (h2 : o.isWalk = false) : Kp7 n₀ Bn W (W.putObj l o') :=
  ⟨belowK_b hn W l o o' hl h h1 h2, World.putObj_heap_other (by omega)⟩
theorem abides_drewN {β : Type} {B : Nat} {J : β → World → Prop} (h : AbidesFrom B J) {s : β} {W : World} (hs : J s W) (n : Nat) : J s (W.drewN n) :=
  h s W _ none hs ⟨rfl, rfl, rfl, Nat.le_refl _, fun _ _ _ => rfl⟩ (fun r e => by cases e)

set_option maxRecDepth 100000 in
set_option maxHeartbeats 2000000 in
theorem seqs1_in (n : Nat) (hn : 1 ≤ n) (l Bn n₀ b off len cap : Nat) (cs : List Int) (hok : okCt cs = true) (hlen : cs.length = len) (hf : Fits cs) (hcap : len ≤ cap) (hm : cap ≤ maxLen) (hb : b < n₀) (J Jx : List Int → World → Prop)
    (hY : ∀ pre x W, J pre W → pre.length < (wovs cs (gr cs).toNat).length → YieldAt Fence.wide (n - 1) Try.prog l #[.int .i64 x] W fun e W' =>
      (e = .returned (.bool true) ∧ J (pre ++ [x]) W' ∧ Kp7 n₀ Bn W W') ∨ (e = .returned (.bool false) ∧ Jx (pre ++ [x]) W'))
    (W : World) (hAb : AbidesFrom W.heap.size J) (hBn : W.cell? ⟨Bn, 0, none⟩ = some (.slice (some ⟨b, off, none⟩) len cap)) (hc : ∀ i, i < len → W.cell? ⟨b, off + i, none⟩ = some (.int .i64 (el cs i))) (h0 : J [] W) :
    CallsIn Fence.wide n Try.prog 87 #[.func (.yield l) #[] #[], .pointer (some ⟨Bn, 0, none⟩)] W fun e W' => (∃ v, e = .returned v) ∧
      ((∃ ys, ys = wovs cs (gr cs).toNat ∧ J ys W') ∨ (∃ pre, pre <+: wovs cs (gr cs).toNat ∧ Jx pre W')) := by
  obtain ⟨hokB, hall⟩ := okCt_all hok
  have h18 := okB_len hokB
  have h1 : 1 ≤ len := by omega
  have h8 : len ≤ 8 := by omega
  have hG : Hid (∀ w, (∀ i, i < len → w.cell? ⟨b, off + i, none⟩ = some (.int .i64 (el cs i))) → Calls Try.prog 78 #[.slice (some ⟨b, off, none⟩) len cap] w fun e w' => e = .returned (.int .i64 (gr cs)) ∧ ∃ m, w' = w.drewN m) :=
    fun w hcw => vgreatest_any b off len cap cs w hlen hf hcw (by omega) hcap hm
  have g0 : 0 ≤ gr cs := Int.le_trans (hall 0 (by omega)).1 (gr_ge (by omega))
  have g1 : gr cs ≤ 100000 := (gr_le (by omega)).2 (fun i hi => (hall i hi).2)
  obtain ⟨M, hM⟩ : ∃ M : Nat, gr cs = (M : Int) := ⟨(gr cs).toNat, by omega⟩
  have hS : Hid (∀ (k j : Nat) (w : World), k < M → j < len → Calls Try.prog 88 #[.int .i64 len, .int .i64 j, .int .i64 k] w fun e w' => e = .returned (.int .i64 ((len : Int) * (k : Int) + (j : Int))) ∧ w' = w) := by
    intro k j w hk hj
    have := seqI_any (len : Int) (j : Int) (k : Int) ⟨by omega, by omega⟩ w
    rwa [show seqL (len : Int) (j : Int) (k : Int) = (len : Int) * (k : Int) + (j : Int) by rw [seqL, if_pos (seqB_iff.2 ⟨⟨by omega, by omega⟩, ⟨by omega, by omega⟩, by omega, by omega⟩)]] at this
  have eM : (gr cs).toNat = M := by omega
  rw [eM] at hY ⊢
  have HG : Hid (gr cs = (M : Int)) := hM
  have HL : Hid (cs.length = len) := hlen
  have HA : Hid (∀ i, i < len → 0 ≤ el cs i ∧ el cs i ≤ 100000) := fun i hi => hall i (by omega)
  have hm1 : (M : Int) ≤ 100000 := by omega
  clear eM hlen hall g0 g1 h18 hokB hok
  have hG0 := hG.out W hc
  rw [HG.out] at hG0
  clear hM hG HG
  refine callsIn_of_wp Try.func87 rfl trivial ?_ rfl
  simp only [Try.ntmps87, List.size_toArray, List.length_cons, List.length_nil, Nat.reduceAdd, Nat.reduceSub, Array.replicate_succ, Array.replicate_zero, List.push_toArray, List.append_toArray, List.nil_append, List.cons_append]
  gi_wp2_with (refine ⟨trivial, ?_⟩; gi_at_call 78; refine (callsIn_wide.2 hG0).mono ?_; rintro e w' ⟨rfl, m, rfl⟩)
  have hK0 : Kp7 n₀ Bn W (W.drewN m) := (Kp7.refl _ _ _).drewN m
  have hJ0 : J (wovs cs 0) (W.drewN m) := abides_drewN hAb h0 m
  generalize W.drewN m = W1 at *
  gi_loopw [11] (fun i wr => ∃ k : Nat, k ≤ M ∧ i = .int .i64 k ∧ J (wovs cs k) wr ∧ Kp7 n₀ Bn W wr)
    (fun i _ => M - (intOf i).toNat)
  case atStart => exact ⟨0, Nat.zero_le _, rfl, hJ0, hK0⟩
  case round =>
    obtain ⟨k, hk, rfl, hJs, hnx⟩ := hrel
    have hbx := hnx.box hBn
    by_cases hlt : k < M
    · gi_wp2
      gi_loopw [16] (fun i wr2 => ∃ j : Nat, j ≤ len ∧ i = .int .i64 j ∧ J (wovs cs k ++ wrow cs k j) wr2 ∧ Kp7 n₀ Bn W wr2)
        (fun i _ => len - (intOf i).toNat)
      case atStart => exact ⟨0, Nat.zero_le _, rfl, by simpa [wrow] using hJs, hnx⟩
      case round =>
        obtain ⟨j, hj, rfl, hJ2, hn2⟩ := hrel
        by_cases hjl : j < len
        · have hcx := (hn2.1.cell (p := ⟨b, off + j, none⟩) hb).trans (hc j hjl)
          have hbd := HA.out j hjl
          by_cases hx : (k : Int) < el cs j
          · have HW : Hid (wrow cs k (j + 1) = wrow cs k j ++ [(len : Int) * (k : Int) + (j : Int)]) := by rw [Hid, wrow_succ, if_pos hx, HL.out]
            have HP : Hid (wovs cs k ++ wrow cs k (j + 1) <+: wovs cs M) := part_prefix hlt (by rw [HL.out]; omega)
            have hS1 := fun w => hS.out k j w hlt hjl
            obtain ⟨fn, tmps, assign, body, hy, hR⟩ := hY _ ((len : Int) * (k : Int) + (j : Int)) wr hJ2 (by
              have := HP.out.length_le
              rw [HW.out] at this
              simp only [List.length_append, List.length_cons, List.length_nil] at this ⊢
              omega)
            generalize (len : Int) * (k : Int) + (j : Int) = x at *
            gi_wp2_with (refine ⟨trivial, ?_⟩; gi_at_call 88; refine (callsIn_wide.2 (hS1 _)).mono ?_; rintro e w' ⟨rfl, rfl⟩)
            refine hR.mono ?_
            rintro e W3 (⟨rfl, hJ3, hk3⟩ | ⟨rfl, hJx3⟩)
            · gi_wp2
              go_roundw
              case rel => exact ⟨j + 1, by omega, by go_num, by rw [HW.out, ← List.append_assoc]; exact hJ3, hn2.trans hk3⟩
              case measure => simp [intOf]; omega
            · gi_wp2
              refine bodyPost_ret (results_none rfl _ _ _) rfl ?_
              exact ⟨⟨_, rfl⟩, .inr ⟨_, by have := HP.out; rw [HW.out, ← List.append_assoc] at this; exact this, hJx3⟩⟩
          · have HW : Hid (wrow cs k (j + 1) = wrow cs k j) := by rw [Hid, wrow_succ, if_neg hx, List.append_nil]
            gi_wp2
            refine ⟨trivial, ?_⟩
            gi_wp2
            refine ⟨fun _ h => (by cases h), ?_⟩
            gi_wp2
            go_roundw
            case rel => exact ⟨j + 1, by omega, by go_num, by rw [HW.out]; exact hJ2, hn2⟩
            case measure => simp [intOf]; omega
        · obtain rfl : j = len := by omega
          have HW : Hid (wovs cs (k + 1) = wovs cs k ++ wrow cs k j) := by rw [Hid, wovs_succ, HL.out]
          gi_wp2
          go_roundw
          case rel => exact ⟨k + 1, by omega, by go_num, by rw [HW.out]; exact hJ2, hn2⟩
          case measure => simp [intOf]; omega
    · obtain rfl : k = M := by omega
      gi_wp2
      go_end0
      exact ⟨⟨_, rfl⟩, .inl ⟨_, rfl, hJs⟩⟩
end Go.Proofs.Ytggieamhbfdmhaa

/-
  The program's Ready: a range over the iterator that leaves at the first gap.
-/
namespace Go.Proofs.Ytggieamhbfdmhaa
set_option linter.unusedVariables false
set_option linter.unusedSimpArgs false
open Go.RowKit Go.Sort Go.Shelf
attribute [local go_sem] Oper.semAt_some

set_option maxHeartbeats 400000 in
theorem seqsOf_any (a : Option Addr) (len cap : Nat) (w : World) : Calls Try.prog 83 #[.slice a len cap] w fun e w' => e = .returned (.func (.func 87) #[] #[.pointer (some ⟨w.heap.size, 0, none⟩)]) ∧ w' = w.alloc (.cells #[.slice a len cap] 52) := by
  go_enter Try.func83, Try.ntmps83
  go_wp2
  go_ret
  exact ⟨rfl, rfl⟩

theorem seqs_stops (n : Nat) (hn : 1 ≤ n) (Bn n₀ b off len cap : Nat) (cs : List Int) (hok : okCt cs = true) (hlen : cs.length = len) (hf : Fits cs) (hcap : len ≤ cap) (hm : cap ≤ maxLen) (hb : b < n₀) (w : World) (hBn : Bn < w.heap.size) (hn₀ : n₀ ≤ w.heap.size)
    (hc : w.cell? ⟨Bn, 0, none⟩ = some (.slice (some ⟨b, off, none⟩) len cap)) (hcs : ∀ i, i < len → w.cell? ⟨b, off + i, none⟩ = some (.int .i64 (el cs i))) :
    SeqStopsK Fence.wide n Try.prog 87 #[.pointer (some ⟨Bn, 0, none⟩)] (fun x : Int => #[Value.int .i64 x]) (Kp7 n₀ Bn) (fun ys => ys = wovs cs (gr cs).toNat) (fun pre => pre <+: wovs cs (gr cs).toNat) (wovs cs (gr cs).toNat).length w := fun l J Jx W hW hJ _ hY h0 =>
  seqs1_in n hn l Bn n₀ b off len cap cs hok hlen hf hcap hm hb J Jx hY W hJ ((hW.cell (p := ⟨Bn, 0, none⟩) hBn).trans hc) (fun i hi => (hW.cell (p := ⟨b, off + i, none⟩) (by show b < _; omega)).trans (hcs i hi)) h0

theorem mins_le (cs : List Int) (M : Nat) : ∀ j, mins cs M j ≤ j * M := by
  intro j
  induction j with
  | zero => simp [mins]
  | succ j ih => rw [mins_succ, Nat.succ_mul]; omega
theorem wovs_max {cs : List Int} (hok : okCt cs = true) : (wovs cs (gr cs).toNat).length ≤ 800000 := by
  obtain ⟨hokB, hall⟩ := okCt_all hok
  have h18 := okB_len hokB
  have g1 : gr cs ≤ 100000 := (gr_le (by omega)).2 (fun i hi => (hall i hi).2)
  rw [wovs_len]
  refine Nat.le_trans (mins_le _ _ _) ?_
  exact Nat.mul_le_mul (by omega : cs.length ≤ 8) (by omega : (gr cs).toNat ≤ 100000)
theorem wovs_wov {cs : List Int} (hok : okCt cs = true) : IsWov cs (wovs cs (gr cs).toNat) := by
  obtain ⟨hokB, hall⟩ := okCt_all hok
  have h18 := okB_len hokB
  refine wovs_is (by omega) (fun i hi => ?_)
  have := gr_ge hi
  omega
/-- The numbers 0, 1, 2, .. -/
def Run (Z : List Int) : Prop := ∀ i, i < Z.length → el Z i = (i : Int)
theorem Run.snoc {Z : List Int} (h : Run Z) : Run (Z ++ [(Z.length : Int)]) := by
  intro i hi
  simp only [List.length_append, List.length_cons, List.length_nil] at hi
  by_cases e : i < Z.length
  · have := h i e
    rw [el_eq e] at this
    rw [el_eq (by simp; omega), List.getElem_append_left e, this]
  · obtain rfl : i = Z.length := by omega
    rw [el_eq (by simp)]
    simp
theorem Run.mem {Z : List Int} (h : Run Z) {q : Int} (hq : q ∈ Z) : 0 ≤ q ∧ q < (Z.length : Int) := by
  obtain ⟨i, hi, rfl⟩ := List.getElem_of_mem hq
  have := h i hi
  rw [el_eq hi] at this
  omega
theorem Run.has {Z : List Int} (h : Run Z) {i : Nat} (hi : i < Z.length) : (i : Int) ∈ Z := by
  rw [← h i hi]; exact el_mem hi
theorem ready_all {cs Z : List Int} (h : IsWov cs Z) (hz : Run Z) : IsReady cs Z.length := by
  refine ⟨fun q hq => ?_, fun hb => ?_⟩
  · have := (h.2 (q : Int)).1 (hz.has hq)
    simpa using this.2
  · have := (h.2 (Z.length : Int)).2 ⟨by omega, by simpa using hb⟩
    have := hz.mem this
    omega
theorem ready_gap {cs Z ini : List Int} {x : Int} (h : IsWov cs Z) (hp : ini ++ [x] <+: Z) (hz : Run ini) (hx : x ≠ (ini.length : Int)) : IsReady cs ini.length := by
  obtain ⟨rest, rfl⟩ := hp
  obtain ⟨hr, hm⟩ := h
  have hr2 := hr
  rw [List.append_assoc, List.pairwise_append] at hr2
  obtain ⟨_, hr3, hr4⟩ := hr2
  have hxi : 0 ≤ x := ((hm x).1 (by simp)).1
  have hgt : (ini.length : Int) < x := by
    rcases Nat.eq_zero_or_pos ini.length with e | e
    · omega
    · have h1 := hz.has (i := ini.length - 1) (by omega)
      have := hr4 _ h1 x (by simp)
      omega
  refine ⟨fun q hq => ?_, fun hb => ?_⟩
  · have := (hm (q : Int)).1 (by simp [hz.has hq])
    simpa using this.2
  · have h2 := (hm (ini.length : Int)).2 ⟨by omega, by simpa using hb⟩
    rw [List.append_assoc, List.mem_append] at h2
    rcases h2 with h2 | h2
    · have := hz.mem h2; omega
    · simp only [List.cons_append, List.nil_append, List.mem_cons] at h2
      rcases h2 with h2 | h2
      · omega
      · simp only [List.cons_append, List.nil_append, List.pairwise_cons] at hr3
        have := hr3.1 _ h2
        omega

end Go.Proofs.Ytggieamhbfdmhaa

/-
  The program's Woven: slices.AppendSeq of []int64 over the iterator.
-/
namespace Go.Proofs.Ytggieamhbfdmhaa
set_option linter.unusedVariables false
set_option linter.unusedSimpArgs false
open Go.RowKit Go.Sort Go.Shelf
attribute [local go_sem] Oper.semAt_some

set_option maxRecDepth 100000 in
set_option maxHeartbeats 2000000 in
theorem appendSeq_in (g Bn n₀ b off len cap : Nat) (cs : List Int) (w : World) (hok : okCt cs = true) (hlen : cs.length = len) (hf : Fits cs) (hcap : len ≤ cap) (hm : cap ≤ maxLen) (hb : b < n₀) (hn₀ : n₀ ≤ w.heap.size)
    (hcs : ∀ i, i < len → w.cell? ⟨b, off + i, none⟩ = some (.int .i64 (el cs i))) (hbN : Boxed w Bn 52 (.slice (some ⟨b, off, none⟩) len cap)) (hrow : w.ownsRow n₀ 2 1 (.slice (some ⟨g, 0, none⟩) 0 0) 0 []) :
    Calls Try.prog 82 #[.slice (some ⟨g, 0, none⟩) 0 0, .func (.func 87) #[] #[.pointer (some ⟨Bn, 0, none⟩)]] w fun e W' => (∃ g' c, e = .returned (.slice (some ⟨g', 0, none⟩) (wovs cs (gr cs).toNat).length c) ∧
      W'.ownsRow n₀ 2 1 (.slice (some ⟨g', 0, none⟩) (wovs cs (gr cs).toNat).length c) (wovs cs (gr cs).toNat).length ((wovs cs (gr cs).toNat).map (Value.int .i64))) ∧ Below n₀ w W' := by
  obtain ⟨i0, hi0, hz0, hz1, hz2⟩ := info_parts2n Try.info2n
  have hN := wovs_max hok
  have HL : Hid (cs.length = len) := hlen
  clear hlen
  refine (callsIn_wide (n := 3)).1 ?_
  refine callsIn_of_wp_marks Try.func82 rfl trivial ?_ rfl
  simp only [Try.ntmps82, List.size_toArray, List.length_cons, List.length_nil, Nat.reduceAdd, Nat.reduceSub, Array.replicate_succ, Array.replicate_zero, List.push_toArray, List.append_toArray, List.nil_append, List.cons_append]
  gi_wp2
  have bS := Boxed.new w 24 (.slice (some ⟨g, 0, none⟩) 0 0)
  have hB1 : Below n₀ w (w.alloc (.cells #[.slice (some ⟨g, 0, none⟩) 0 0] 24)) := (Below.refl _ w).alloc hn₀ _
  have hltN := hbN.lt
  refine wpIn_rangeFunc_ownG rfl (by omega) (gf := 87) (lb := #[.pointer (some ⟨Bn, 0, none⟩)]) rfl trivial (enters_of Try.func87 (by kernel_rfl) rfl)
    (seqs_stops 2 (by omega) Bn n₀ b off len cap cs hok HL.out hf hcap hm hb _ (by simp; omega) (by simp; omega) (hbN.alloc _).cell (fun i hi => (hB1.cell (p := ⟨b, off + i, none⟩) hb).trans (hcs i hi))) Kp7.trans (Kp7.put (by simp; omega) (by simp; omega)) (Below.refl _ _) (fun _ => rfl)
    (fun pre W => ((∃ v, Boxed W w.heap.size 24 v ∧ W.ownsRow n₀ 2 1 v pre.length (pre.map (Value.int .i64)) ∧ ∃ g c, v = .slice (some ⟨g, 0, none⟩) pre.length c) ∧ Boxed W Bn 52 (.slice (some ⟨b, off, none⟩) len cap)) ∧ Below n₀ w W)
    (fun _ _ _ => False)
    (OwnFrom.and (OwnFrom.and (Own.from (holdsRow_own n₀ w.heap.size 24 2 1 (fun pre : List Int => pre.length) (fun pre => pre.map (Value.int .i64)) (fun pre v => ∃ g c, v = .slice (some ⟨g, 0, none⟩) pre.length c)) _) (Own.from (boxed_own Bn 52 (fun _ => .slice (some ⟨b, off, none⟩) len cap)) _)) (ownFrom_below hn₀ (by simp; omega)))
    (fun _ _ _ _ _ hs _ _ => hs)
    ⟨⟨⟨_, bS, hrow.alloc _, g, 0, rfl⟩, hbN.alloc _⟩, hB1⟩
    (fun x => { tmps := #[.slice (some ⟨g, 0, none⟩) 0 0, .func (.func 87) #[] #[.pointer (some ⟨Bn, 0, none⟩)], .pointer (some ⟨w.heap.size, 0, none⟩), undef, .slice none 0 0, .int .i64 x, .func (.func 87) #[] #[.pointer (some ⟨Bn, 0, none⟩)], .int .i64 x, undef, undef, undef, undef, undef], defers := [] }) ?assign ?body ?done ?stop
  case assign =>
    intro l x W K hK
    gi_wp2
    exact hK
  case body =>
    rintro l pre x W ⟨⟨⟨v, hv, hrw, g1, c1, rfl⟩, hbn⟩, hB⟩ hlt
    have hc := hv.cell
    have hpl : pre.length < 800000 := by omega
    have hml : pre.length + 1 ≤ maxLen := by unfold maxLen; omega
    have hsz := hB.size
    gi_wp2_with (gi_at_builtin; refine wpListIn_append_own _ rfl _ _ 24 rfl n₀ 2 i0 (.int .i64 0) 1 8 Try.underlying24 hi0 hz0 hz1 hz2 rfl (by decide) _ _ _ rfl (hrw.alloc _) ⟨W.heap.size, 0, none⟩ 1 1 [.int .i64 x] rfl rfl (cell_one_new _ _ _) (by simp [Value.oneCell']) (by omega) (by omega) (by simp; omega) ?_; intro v' w1 hown' hgrow _; obtain ⟨g', cap', rfl⟩ := ownsRow_succ hown'; obtain ⟨hv1, hv2, hr2, hk2, hb2⟩ := hv.appended (by decide) hrw (Nat.le_trans hn₀ hsz) hn₀ hown' hgrow; have hc1 := hv1.cell; have hf1 := hv1.frozen)
    have hbn2 := ((hbn.alloc _).kept hgrow (hbn.not_row (by decide) hrw)).other (B' := w.heap.size) (by omega) (.slice (some ⟨g', 0, none⟩) (pre.length + 1) cap')
    exact ⟨hk2.from _, ⟨hb2, hbn2.trans (show W.heap[Bn]? = _ from hbn).symm⟩, ⟨⟨_, hv2, by simpa using hr2, g', cap', by simp⟩, hbn2⟩, hB.trans hb2⟩
  case done =>
    rintro D ys W hD rfl ⟨⟨⟨v, hv, hrw, g1, c1, rfl⟩, hbn⟩, hB⟩ hK
    have hc := hv.cell
    gi_wp2
    refine ⟨by simp, .inl ⟨_, _, rfl, run_takeDeferred hK, ?_⟩⟩
    exact ⟨_, results_tmp rfl _ _ _, ⟨g1, c1, rfl, ownsRow_putObj hrw _ hK rfl⟩, hB.trans (belowK_b (w := w) hn₀ W D _ _ (by simp at hD; omega) hK rfl rfl)⟩
  case stop =>
    rintro D c pre W _ _ h _
    exact h.elim

set_option maxRecDepth 100000 in
set_option maxHeartbeats 1600000 in
theorem implWoven : ImplWoven := by
  intro a len cap cs w hv hcap hm
  have hAr : Calls Try.prog 81 #[.slice a len cap] w fun e w' => e = .returned (.bool (okCt cs)) ∧ Below w.heap.size w w' :=
    (areCounts_any _ len cap cs w hv hcap hm).mono (fun e w' ⟨he, n, hw⟩ => ⟨he, hw ▸ belowN (Below.refl _ _)⟩)
  have hSm : Hid (∀ w1, Below w.heap.size w w1 → Calls Try.prog 19 #[.slice a len cap] w1 fun e w' => e = .returned (.int .i64 (sumB cs)) ∧ Below w.heap.size w w') :=
    fun w1 h1 => (implSum_any a len cap cs w1 (hv.below h1 (Nat.le_refl _)) hcap hm).mono (fun e w' ⟨he, n, hw⟩ => ⟨he, hw ▸ belowN h1⟩)
  cases hb : okCt cs with
  | false =>
    rw [hb] at hAr
    have HZ : Hid (IsWoven cs []) := .inr ⟨.inl hb, rfl⟩
    clear hb hSm
    go_enter Try.func68, Try.ntmps68
    go_wp2_with (go_at_call 81; refine hAr.mono ?_; rintro e w1 ⟨rfl, hB1⟩)
    go_ret
    exact ⟨[], HZ.out, _, 0, 0, rfl, hB1.size, num_empty _ 2, hB1.alloc hB1.size _⟩
  | true =>
    rw [hb] at hAr
    obtain ⟨hok, hall⟩ := okCt_all hb
    have hsb : sumB cs = sumL cs := by rw [sumB, if_pos hok]
    rw [hsb] at hSm
    by_cases h200 : (200 : Int) < sumL cs
    · have HZ : Hid (IsWoven cs []) := .inr ⟨.inr h200, rfl⟩
      clear hb hsb hall hok
      generalize sumL cs = z at *
      go_enter Try.func68, Try.ntmps68
      go_wp2_with (first | (go_at_call 81; refine hAr.mono ?_; rintro e w1 ⟨rfl, hB1⟩) | (go_at_call 19; refine (hSm.out _ hB1).mono ?_; rintro e w2 ⟨rfl, hB2⟩))
      go_ret
      exact ⟨[], HZ.out, _, 0, 0, rfl, hB2.size, num_empty _ 2, hB2.alloc hB2.size _⟩
    · have h18 := okB_len hok
      have hl := hv.1
      have hf : Fits cs := hv.2.1
      obtain ⟨b, off, rfl, hc⟩ := hv.cells (by omega)
      have hbl : b < w.heap.size := World.block_lt_of_cell? _ _ (hc 0 (by omega))
      have HZ : Hid (IsWoven cs (wovs cs (gr cs).toNat)) := .inl ⟨hb, by omega, wovs_wov hb⟩
      have hW : Hid (∀ w2, Below w.heap.size w w2 → Calls Try.prog 82 #[.slice (some ⟨w2.heap.size, 0, none⟩) 0 0, .func (.func 87) #[] #[.pointer (some ⟨w2.heap.size + 1, 0, none⟩)]] ((w2.alloc (.cells #[] 2)).alloc (.cells #[.slice (some ⟨b, off, none⟩) len cap] 52)) fun e w' => AnsN w w' e (wovs cs (gr cs).toNat)) := by
        intro w2 h2
        have hs2 := h2.size
        have hB3 : Below w.heap.size w ((w2.alloc (.cells #[] 2)).alloc (.cells #[.slice (some ⟨b, off, none⟩) len cap] 52)) := (h2.alloc hs2 _).alloc (by simp; omega) _
        have bN := Boxed.new (w2.alloc (.cells #[] 2)) 52 (.slice (some ⟨b, off, none⟩) len cap)
        rw [World.size_alloc] at bN
        refine (appendSeq_in w2.heap.size (w2.heap.size + 1) w.heap.size b off len cap cs _ hb hl hf hcap hm hbl (by simp; omega) (fun i hi => (hB3.cell (p := ⟨b, off + i, none⟩) hbl).trans (hc i hi)) bN ((World.ownsRow_made w2 #[] 0 hs2 (Nat.zero_le _) rfl).alloc _)).mono ?_
        rintro e W' ⟨⟨g, c, rfl, ho⟩, hB⟩
        obtain ⟨g2, c2, hv2, hg2, ho2⟩ := OSl.of_ownsRow ho (by simp)
        cases hv2
        exact ⟨g, 0, c, rfl, hg2, ho2, hB3.trans hB⟩
      have hd : decide ((200 : Int) < sumL cs) = false := by simpa using h200
      clear hb hsb hall hok hc h18 hl h200 hv hf
      generalize wovs cs (gr cs).toNat = Z at *
      generalize sumL cs = z at *
      go_enter Try.func68, Try.ntmps68
      go_wp2_with (first | (go_at_call 81; refine hAr.mono ?_; rintro e w1 ⟨rfl, hB1⟩) | (go_at_call 19; refine (hSm.out _ hB1).mono ?_; rintro e w2 ⟨rfl, hB2⟩) | (go_at_call 83; refine (seqsOf_any _ _ _ _).mono ?_; rintro e w3 ⟨rfl, rfl⟩) | (go_at_call 82; refine (hW.out _ hB2).mono ?_; rintro e w4 ⟨g, og, c, rfl, hg, ho, hB4⟩))
      go_ret
      exact ⟨_, HZ.out, g, og, c, rfl, hg, ho, hB4⟩
end Go.Proofs.Ytggieamhbfdmhaa
