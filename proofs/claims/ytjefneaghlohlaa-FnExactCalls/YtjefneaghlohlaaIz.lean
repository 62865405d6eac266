/-
  Several texts in one: Hnd Hpp.
-/
import Derived.Test.YtjefneaghlohlaaIy
import Derived.Test.YtjefneaghlohlaaIx
import Derived.Lib.AppendZeros
/-
  A heap of numbers behind the interface: its methods.
-/
namespace Go.Proofs.Ytjefneaghlohlaa
set_option linter.unusedVariables false
set_option linter.unusedSimpArgs false
open Go.RowKit Go.Sort

theorem mixedH : Try.prog.follows .mixedOrders = true := by kernel_rfl
/-- What has been written since w0: blocks B and g0 alone, and new ones laid. -/
structure Fr (w0 : World) (B g0 : Nat) (w : World) : Prop where
  os : w.os = w0.os
  tape : w.tape = w0.tape
  output : w.output = w0.output
  size : w0.heap.size ≤ w.heap.size
  block : ∀ k, k < w0.heap.size → k ≠ B → k ≠ g0 → w.heap[k]? = w0.heap[k]?
theorem Fr.refl (w : World) (B g : Nat) : Fr w B g w := ⟨rfl, rfl, rfl, Nat.le_refl _, fun _ _ _ _ => rfl⟩
/-- The heap in box B: the numbers xs, in a block of their own. -/
def Hs (w0 : World) (B g0 : Nat) (w : World) (xs : List Int) : Prop :=
  ∃ g og cap, Bx w B 74 #[.slice (some ⟨g, og, none⟩) xs.length cap] ∧ OI w g og xs.length cap xs ∧ g ≠ B ∧ (g = g0 ∨ w0.heap.size ≤ g) ∧ B < w0.heap.size ∧ Fr w0 B g0 w
theorem Fr.drewN {w0 w : World} {B g0 : Nat} (h : Fr w0 B g0 w) (n : Nat) : Fr w0 B g0 (w.drewN n) := ⟨h.os, h.tape, h.output, h.size, h.block⟩
theorem Hs.drewN {w0 w : World} {B g0 : Nat} {xs : List Int} (h : Hs w0 B g0 w xs) (n : Nat) : Hs w0 B g0 (w.drewN n) xs := by
  obtain ⟨g, og, cap, h1, h2, h3, h4, h5, h6⟩ := h
  exact ⟨g, og, cap, h1.drewN n, h2.drewN n, h3, h4, h5, h6.drewN n⟩
theorem Fr.set {w0 w : World} {B g0 g : Nat} (h : Fr w0 B g0 w) (hg : g = B ∨ g = g0 ∨ w0.heap.size ≤ g) (i : Nat) (v : Value) : Fr w0 B g0 (w.setCell ⟨g, i, none⟩ v) :=
  ⟨h.os, h.tape, h.output, by simp [World.setCell]; exact h.size, fun k hk h1 h2 => (Below.heap_setCell _ _ _ _ (by intro (e : k = g); rcases hg with e1 | e1 | e1 <;> omega)).trans (h.block k hk h1 h2)⟩
theorem el_ga (xs : List Int) (i : Nat) : ga xs i = el xs i := by simp [ga, el]
theorem sw_el (xs : List Int) (i j : Nat) : sw xs i j = (xs.set i (el xs j)).set j (el xs i) := by rw [sw, el_ga, el_ga]
theorem Bx.setOther {w : World} {B g i : Nat} {T : TypeId} {cs : Array Value} {v : Value} (h : Bx w B T cs) (hne : g ≠ B) : Bx (w.setCell ⟨g, i, none⟩ v) B T cs := h.grown (grown_set (grown_refl w (some g)) i v) (by simpa using hne.symm)

set_option maxHeartbeats 400000 in
theorem ndLen_any (a : Option Addr) (len cap : Nat) (w : World) : Calls Try.prog 84 #[.slice a len cap] w fun e w' => e = .returned (.int .i64 (len : Int)) ∧ w' = w := by
  go_enter Try.func84, Try.ntmps84
  go_wp2
  go_ret
  exact ⟨rfl, rfl⟩
set_option maxHeartbeats 800000 in
theorem ndLess_any (g og n cap i j : Nat) (xs : List Int) (w : World) (ho : OI w g og n cap xs) (hi : i < n) (hj : j < n) :
    Calls Try.prog 105 #[.slice (some ⟨g, og, none⟩) n cap, .int .i64 (i : Int), .int .i64 (j : Int)] w fun e w' => e = .returned (.bool (decide (el xs i < el xs j))) ∧ ∃ m, w' = w.drewN m := by
  have ci := ho.cellAt hi
  have cj := ho.cellAt hj
  have i1 : (i : Int) < (n : Int) := by omega
  have j1 : (j : Int) < (n : Int) := by omega
  have i0 : (0 : Int) ≤ (i : Int) := by omega
  have j0 : (0 : Int) ≤ (j : Int) := by omega
  generalize el xs i = x at *
  generalize el xs j = y at *
  go_enter Try.func105, Try.ntmps105
  go_wp2_with fail
  go_quiet (fail)
  go_wp2
  go_ret
  exact ⟨rfl, _, rfl⟩
set_option maxRecDepth 100000 in
set_option maxHeartbeats 1600000 in
theorem ndSwap_any (g og n cap i j : Nat) (xs : List Int) (w : World) (ho : OI w g og n cap xs) (hi : i < n) (hj : j < n) :
    Calls Try.prog 108 #[.slice (some ⟨g, og, none⟩) n cap, .int .i64 (i : Int), .int .i64 (j : Int)] w fun e w' => (∃ v, e = .returned v) ∧ ∃ m, w' = ((w.setCell ⟨g, og + i, none⟩ (.int .i64 (el xs j))).setCell ⟨g, og + j, none⟩ (.int .i64 (el xs i))).drewN m := by
  have ci := ho.cellAt hi
  have cj := ho.cellAt hj
  have hle := ho.le
  have fi := ho.free i (by omega)
  have fj := ho.free j (by omega)
  have i1 : (i : Int) < (n : Int) := by omega
  have j1 : (j : Int) < (n : Int) := by omega
  have i0 : (0 : Int) ≤ (i : Int) := by omega
  have j0 : (0 : Int) ≤ (j : Int) := by omega
  by_cases hij : i = j
  · subst hij
    generalize el xs i = x at *
    go_enter Try.func108, Try.ntmps108
    go_wp2_with fail
    have hmix := mixedH
    go_region
    all_goals
      go_end0
      exact ⟨⟨_, rfl⟩, 1, rfl⟩
  · have hne : og + i ≠ og + j := by omega
    have hne' : og + j ≠ og + i := by omega
    generalize el xs i = x at *
    generalize el xs j = y at *
    go_enter Try.func108, Try.ntmps108
    go_wp2_with fail
    have hmix := mixedH
    go_region
    all_goals
      go_end0
      exact ⟨⟨_, rfl⟩, 1, rfl⟩
end Go.Proofs.Ytjefneaghlohlaa

/-
  A heap of numbers behind the interface: its Push and Pop.
-/
namespace Go.Proofs.Ytjefneaghlohlaa
set_option linter.unusedVariables false
set_option linter.unusedSimpArgs false
open Go.RowKit Go.Sort

theorem step_append_runH {P : Program} (w : World) {ops : Array Oper} {o : Oper} {a : Act} {K : Act → World → Prop} {Q : Exit → Act → World → Prop} {E : Prop} (hgd : o.guard = none) (s x : Operand) (t tn : TypeId)
    (ho : o.op = .call { callee := .builtin .append, args := #[s, x], argTypes := #[t, tn] }) (vs vx : Value) (hs : a.eval s = vs) (hx : a.eval x = vx)
    (v' : Value) (w' : World) (hr : (Builtin.append_ #[t, tn] o.type #[vs, vx]).run P w = .ok v' w') (h : K (a.put o.dst v') w') :
    if Region.wanted o (yielded ops a.tmps) = true then Oper.wp P o a w K Q else E := by
  have hw : Region.wanted o (yielded ops a.tmps) = true := by simp [Region.wanted, hgd]
  rw [if_pos hw]
  exact Lib.wp_append_run w s x t tn ho vs vx hs hx v' w' hr h
theorem Fr.alloc {w0 w : World} {B g0 : Nat} (h : Fr w0 B g0 w) (o : Obj) : Fr w0 B g0 (w.alloc o) :=
  ⟨h.os, h.tape, h.output, Nat.le_trans h.size (by simp), fun k hk h1 h2 => (Below.heap_alloc _ _ _ (Nat.lt_of_lt_of_le hk h.size)).trans (h.block k hk h1 h2)⟩
theorem Fr.grown {w0 w w' : World} {B g0 g : Nat} (h : Fr w0 B g0 w) (hg : w.grownBy w' (some g)) (hb : g = B ∨ g = g0 ∨ w0.heap.size ≤ g) : Fr w0 B g0 w' :=
  ⟨hg.os.trans h.os, hg.tape.trans h.tape, hg.output.trans h.output, Nat.le_trans h.size hg.size, fun k hk h1 h2 => (hg.block k (Nat.lt_of_lt_of_le hk h.size) (by intro e; cases e; rcases hb with e1 | e1 | e1 <;> omega)).trans (h.block k hk h1 h2)⟩

set_option maxRecDepth 100000 in
set_option maxHeartbeats 1600000 in
theorem ndPush_any (w0 : World) (B g0 : Nat) (xs : List Int) (x : Int) (w : World) (h : Hs w0 B g0 w xs) (hn : xs.length ≤ 1000000) :
    Calls Try.prog 107 #[.pointer (some ⟨B, 0, none⟩), .iface 2 (.int .i64 x)] w fun e w' => (∃ v, e = .returned v) ∧ Hs w0 B g0 w' (xs ++ [x]) := by
  obtain ⟨i0, hi0, hz0, hz1, hz2⟩ := info_parts2n Try.info2n
  obtain ⟨g, og, cap, hbx, ho, hgB, hg0, hB0, hfr⟩ := h
  have c0 := hbx.at 0 rfl
  have f0 := hbx.f 0
  have hA : ∀ X : World, X.heap = (w.alloc (.cells #[.int .i64 x] 2)).heap → X.os = w.os → X.tape = w.tape → X.output = w.output → ∃ g4 o4 k4 w4, (Builtin.append_ #[74, 74] 74 #[.slice (some ⟨g, og, none⟩) xs.length cap, .slice (some ⟨w.heap.size, 0, none⟩) 1 1]).run Try.prog X = .ok (.slice (some ⟨g4, o4, none⟩) (xs.length + 1) k4) w4 ∧
      w4.cell? ⟨B, 0, none⟩ = some (.slice (some ⟨g, og, none⟩) xs.length cap) ∧ w4.frozen? ⟨B, 0, none⟩ = false ∧ Hs w0 B g0 (w4.setCell ⟨B, 0, none⟩ (.slice (some ⟨g4, o4, none⟩) (xs.length + 1) k4)) (xs ++ [x]) := by
    intro X hX e1 e2 e3
    have hO : OSl X 1 g og xs.length cap (xs.map (Value.int .i64)) := OSl.of_block (w := w) ho (by rw [hX]; exact Below.heap_alloc _ _ _ ho.blk) (by rw [hX]; simp; have := ho.blk; omega)
    have hXs : X.heap.size = w.heap.size + 1 := by rw [hX]; simp
    have hnew : X.heap[w.heap.size]? = some (.cells #[.int .i64 x] 2) := by rw [hX]; exact heap_alloc_new w _
    obtain ⟨g4, o4, k4, w4, hr4, hO4, hg4, hat⟩ := run_append_os (P := Try.prog) X 74 74 2 i0 _ 1 8 Try.underlying74 hi0 hz0 hz1 hz2 rfl (by omega) g og xs.length cap _ hO ⟨w.heap.size, 0, none⟩ 1 1 [.int .i64 x] rfl (World.news_of_block (cs := #[.int .i64 x]) (t := 2) (fr := (0, 0)) hnew) (by simp [Value.oneCell']) (by unfold maxLen; omega) (by omega)
    have hbX : Bx X B 74 #[.slice (some ⟨g, og, none⟩) xs.length cap] := by rw [Bx, hX]; exact hbx.alloc _
    have hb4 := hbX.grown hg4 (by simpa using hgB.symm)
    have hgl := ho.blk
    have hBl := hbx.lt
    have hfs := hfr.size
    have hg4B : g4 ≠ B := by rcases hat with e | e <;> omega
    have hfX : Fr w0 B g0 X := ⟨e1.trans hfr.os, e2.trans hfr.tape, e3.trans hfr.output, by omega, fun k hk h1 h2 => by rw [hX]; exact (hfr.alloc _).block k hk h1 h2⟩
    have hf4 := hfX.grown hg4 (by rcases hg0 with e | e <;> omega)
    refine ⟨g4, o4, k4, w4, hr4, hb4.at 0 rfl, hb4.f 0, g4, o4, k4, ?_, ?_, hg4B, by rcases hat with e | e <;> omega, hB0, hf4.set (.inl rfl) 0 _⟩
    · have := heap_set (i := 0) (u := .slice (some ⟨g4, o4, none⟩) (xs.length + 1) k4) hb4
      rw [Bx, this]
      simp
    · have h1 : OI w4 g4 o4 (xs.length + 1) k4 (xs ++ [x]) := by rw [OI, List.map_append]; exact hO4
      rw [List.length_append, List.length_singleton]
      exact OSl.of_block h1 ((grown_set (grown_refl w4 (some B)) 0 _).block g4 h1.blk (by simpa using hg4B)) (by simp [World.setCell]; exact h1.blk)
  have hta : ∀ w, (Instr.typeAssert (.iface 2 (.int .i64 x)) 20 2 false).run Try.prog w = .ok (.int .i64 x) w := fun w => by kernel_rfl
  have n1 : ¬ B = w.heap.size := by have := hbx.lt; omega
  have z0 : (w.alloc (.cells #[.int .i64 x] 2)).cell? ⟨B, 0, none⟩ = some (.slice (some ⟨g, og, none⟩) xs.length cap) := (hbx.alloc _).at 0 rfl
  clear hbx ho hfr
  go_enter Try.func107, Try.ntmps107
  go_wp2_with fail
  have hmix := mixedH
  go_region_law
    (first
      | (obtain ⟨g4, o4, k4, w4, hr4, x1, x2, hh⟩ := hA ((w.alloc (.cells #[.int .i64 x] 2)).drew) rfl rfl rfl rfl; refine step_append_runH _ (by rfl) _ _ _ _ (by rfl) (.slice (some ⟨g, og, none⟩) xs.length cap) _ (by rfl) (by rfl) _ w4 hr4 ?_))
  all_goals
    go_end0
    exact ⟨⟨_, rfl⟩, hh⟩

set_option maxRecDepth 100000 in
set_option maxHeartbeats 1600000 in
theorem ndPop_any (w0 : World) (B g0 : Nat) (xs : List Int) (x : Int) (w : World) (h : Hs w0 B g0 w (xs ++ [x])) (hn : xs.length ≤ 1000000) :
    Calls Try.prog 106 #[.pointer (some ⟨B, 0, none⟩)] w fun e w' => e = .returned (.iface 2 (.int .i64 x)) ∧ Hs w0 B g0 w' xs := by
  obtain ⟨g, og, cap, hbx, ho, hgB, hg0, hB0, hfr⟩ := h
  rw [List.length_append, List.length_singleton] at hbx ho
  have c0 := hbx.at 0 rfl
  have f0 := hbx.f 0
  have hle := ho.le
  have hmx := ho.max
  have cx := ho.cellAt (i := xs.length) (by omega)
  rw [show el (xs ++ [x]) xs.length = x by simp [el]] at cx
  have n1 : (xs.length : Int) < ((xs.length + 1 : Nat) : Int) := by omega
  have n0 : (0 : Int) ≤ (xs.length : Int) := by omega
  have n2 : (xs.length : Int) ≤ (cap : Int) := by omega
  have HF : Hid (Hs w0 B g0 (w.setCell ⟨B, 0, none⟩ (.slice (some ⟨g, og, none⟩) xs.length cap)) xs) := by
    have hO : OI w g og xs.length cap xs := ⟨by simp, by omega, ho.max, ho.blk, fun i hi => by
      have := ho.cell i (by omega)
      rw [this, List.map_append, List.getElem?_append_left (by simp; omega)], ho.some, ho.free⟩
    refine ⟨g, og, cap, ?_, ?_, hgB, hg0, hB0, hfr.set (.inl rfl) 0 _⟩
    · have := heap_set (i := 0) (u := .slice (some ⟨g, og, none⟩) xs.length cap) hbx
      rw [Bx, this]
      simp
    · exact OSl.of_block hO ((grown_set (grown_refl w (some B)) 0 _).block g hO.blk (by simpa using hgB)) (by simp [World.setCell]; exact hO.blk)
  unfold maxLen at hmx
  clear hbx ho hfr
  go_enter Try.func106, Try.ntmps106
  go_wp2
  go_ret
  exact ⟨rfl, HF.out⟩
end Go.Proofs.Ytjefneaghlohlaa
