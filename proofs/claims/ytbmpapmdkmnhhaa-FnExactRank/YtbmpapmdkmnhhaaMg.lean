/-
  Several texts in one: Avg.
-/
import Derived.Test.YtbmpapmdkmnhhaaHh
import Derived.Laws.IdiomCopy
/-
  General: arrays of values of one cell each, of any length: their laws at the operations, the array never laid out.
-/
namespace Go.Proofs.Ytbmpapmdkmnhhaa
set_option linter.unusedSimpArgs false
set_option linter.unusedVariables false
open Go.RowKit Go.Sort

/-- The cells of an array of n values. -/
def vA (n : Nat) (f : Nat → Value) : Array Value := ((List.range n).map f).toArray
theorem vA_size (n : Nat) (f : Nat → Value) : (vA n f).size = n := by simp [vA]
theorem vA_get {n : Nat} {f : Nat → Value} {j : Nat} (h : j < n) : (vA n f)[j]? = some (f j) := by simp [vA, h]
theorem vA_congr {n : Nat} {f f' : Nat → Value} (h : ∀ j, j < n → f j = f' j) : vA n f = vA n f' := by
  unfold vA
  rw [List.map_congr_left (fun j hj => h j (List.mem_range.1 hj))]
theorem vA_one {n : Nat} {f : Nat → Value} (h : ∀ j, j < n → (f j).oneCell' = true) : ∀ v ∈ (vA n f).toList, v.oneCell' = true := by
  intro v hv
  simp only [vA, List.mem_map, List.mem_range] at hv
  obtain ⟨j, hj, rfl⟩ := hv
  exact h j hj
/-- Block b, from off on, holds the n values f, which may be written. -/
structure VAt (w : World) (b off n : Nat) (f : Nat → Value) : Prop where
  cell : ∀ j, j < n → w.cell? ⟨b, off + j, none⟩ = some (f j)
  free : ∀ j, j < n → w.frozen? ⟨b, off + j, none⟩ = false
  blk : b < w.heap.size
theorem VAt.of_block {w w' : World} {b off n : Nat} {m : Nat → Value} (h : VAt w b off n m) (e : w'.heap[b]? = w.heap[b]?) (hs : b < w'.heap.size) : VAt w' b off n m :=
  ⟨fun j hj => by rw [World.cell?_of_block (w := w) e]; exact h.cell j hj,
   fun j hj => by rw [show w'.frozen? ⟨b, off + j, none⟩ = w.frozen? ⟨b, off + j, none⟩ from by simp only [World.frozen?, e]]; exact h.free j hj, hs⟩
theorem VAt.below {w w' : World} {b off n B : Nat} {m : Nat → Value} (h : VAt w b off n m) (hb : Below B w w') (hg : b < B) : VAt w' b off n m := h.of_block (hb.block b hg) (Nat.lt_of_lt_of_le h.blk hb.size)
theorem VAt.drewN {w : World} {b off n : Nat} {m : Nat → Value} (h : VAt w b off n m) (k : Nat) : VAt (w.drewN k) b off n m := ⟨h.cell, h.free, h.blk⟩
theorem VAt.grown {w w' : World} {b off n : Nat} {m : Nat → Value} {r : Option Nat} (h : VAt w b off n m) (hg : w.grownBy w' r) (hr : r ≠ some b) : VAt w' b off n m :=
  h.of_block (hg.block b h.blk (Ne.symm hr)) (Nat.lt_of_lt_of_le h.blk hg.size)
theorem VAt.congr {w : World} {b off n : Nat} {m m' : Nat → Value} (h : VAt w b off n m) (e : ∀ j, j < n → m j = m' j) : VAt w b off n m' := ⟨fun j hj => by rw [← e j hj]; exact h.cell j hj, h.free, h.blk⟩
/-- f with v at place i. -/
def upA (f : Nat → Value) (i : Nat) (v : Value) : Nat → Value := fun j => if j = i then v else f j
theorem upA_same (f : Nat → Value) (i : Nat) (v : Value) : upA f i v i = v := by simp [upA]
theorem upA_other {f : Nat → Value} {i j : Nat} {v : Value} (h : j ≠ i) : upA f i v j = f j := by simp [upA, h]
theorem VAt.set {w : World} {b off n : Nat} {m : Nat → Value} (h : VAt w b off n m) {i : Nat} (hi : i < n) (v : Value) : VAt (w.setCell ⟨b, off + i, none⟩ v) b off n (upA m i v) := by
  refine ⟨fun j hj => ?_, fun j hj => by rw [World.frozen?_setCell]; exact h.free j hj, by simp [World.setCell]; exact h.blk⟩
  by_cases e : j = i
  · subst e
    rw [World.cell?_setCell_same _ _ _ (h.cell j hj), upA_same]
  · rw [World.cell?_setCell_other _ _ _ _ (by intro h; have := congrArg Addr.off h; simp only at this; omega), upA_other e]; exact h.cell j hj
theorem VAt.setFar {w : World} {b g off n i : Nat} {m : Nat → Value} {u : Value} (h : VAt w b off n m) (hne : b ≠ g) : VAt (w.setCell ⟨g, i, none⟩ u) b off n m :=
  h.of_block (Below.heap_setCell _ _ _ _ (by exact hne)) (by simp [World.setCell]; exact h.blk)
theorem VAt.setsFar {w : World} {b g off n i : Nat} {m : Nat → Value} {us : List Value} (h : VAt w b off n m) (hne : b ≠ g) : VAt (w.setCells g i us) b off n m :=
  h.of_block ((grown_setCells g us i w).block b h.blk (by simpa using hne)) (by rw [size_setCells]; exact h.blk)
theorem VAt.sets {w : World} {b off n : Nat} {m : Nat → Value} (h : VAt w b off n m) (m' : Nat → Value) : VAt (w.setCells b off (vA n m').toList) b off n m' := by
  have hl : (vA n m').toList.length = n := by simp [vA]
  have hin := World.cell?_setCells_in b (vA n m').toList off w (fun j hj => by rw [hl] at hj; rw [h.cell j hj]; rfl)
  refine ⟨fun j hj => ?_, fun j hj => by rw [World.frozen?_setCells]; exact h.free j hj, by rw [size_setCells]; exact h.blk⟩
  rw [hin j (by rw [hl]; exact hj)]
  simp [vA, hj]
theorem va_alloc (w : World) (n : Nat) (m : Nat → Value) (T : TypeId) : VAt (w.alloc (.cells (vA n m) T)) w.heap.size 0 n m := by
  have hb := heap_alloc_new w (.cells (vA n m) T)
  refine ⟨fun j hj => ?_, fun j hj => ?_, by simp⟩
  · simp only [World.cell?, hb, Nat.zero_add]
    simp [vA_get hj]
  · unfold World.frozen?
    rw [hb]
    simp

theorem ldX_run {w : World} {b off n : Nat} {m : Nat → Value} (h : VAt w b off n m) : (loadCells ⟨b, off, none⟩ n).run Try.prog w = .ok (vA n m) w :=
  run_loadCells (P := Try.prog) w ⟨b, off, none⟩ n m (fun j hj => by rw [add_lit0]; exact h.cell j hj)
theorem stX_run {w : World} {b off n : Nat} {m : Nat → Value} (h : VAt w b off n m) (m' : Nat → Value) (h1 : ∀ j, j < n → (m' j).oneCell' = true) : (storeCells ⟨b, off, none⟩ (vA n m').toList).run Try.prog w = .ok () (w.setCells b off (vA n m').toList) := by
  have hl : (vA n m').toList.length = n := by simp [vA]
  exact run_storeCells_cells (P := Try.prog) b off (vA n m').toList 0 w (fun j hj => by rw [hl] at hj; rw [Nat.add_zero, h.cell j hj]; rfl) (fun j hj => by rw [hl] at hj; rw [Nat.add_zero]; exact h.free j hj) (vA_one h1)
theorem allocX_run {T n b : Nat} {z : Nat → Value} (hi : (Try.prog.info? T).map (fun i => (i.zero, i.size, i.bytes)) = some (some (.agg (vA n z)), n, b)) (w : World) :
    (Instr.alloc T true (.tuple #[])).run Try.prog w = .ok (.pointer (some ⟨w.heap.size, 0, none⟩)) (w.alloc (.cells (vA n z) T)) := by
  obtain ⟨i, hi0, hz, _, _⟩ := info_parts2n hi
  simp [Instr.alloc, zeroValue, typeInfo, hi0, hz, newVar, newRow, Value.cells]
theorem loadX_run {T n k by_ : Nat} {z : Nat → Value} {e : TypeId} (hu : Try.prog.underlying T = some (.array k e)) (hi : (Try.prog.info? T).map (fun i => (i.zero, i.size, i.bytes)) = some (some (.agg (vA n z)), n, by_)) {w : World} {b off : Nat} {m : Nat → Value} (h : VAt w b off n m) :
    (Instr.loadAt T (.pointer (some ⟨b, off, none⟩))).run Try.prog w = .ok (.agg (vA n m)) w := by
  obtain ⟨i, hi0, _, hs, _⟩ := info_parts2n hi
  simp [Instr.loadAt, Instr.sureAddr, loadVar, isAgg, run_underlying hu, sizeOf, typeInfo, hi0, hs, ldX_run h]
theorem storeX_run {T n by_ : Nat} {z : Nat → Value} (hi : (Try.prog.info? T).map (fun i => (i.zero, i.size, i.bytes)) = some (some (.agg (vA n z)), n, by_)) {w : World} {b off : Nat} {m : Nat → Value} (h : VAt w b off n m) (m' : Nat → Value) (h1 : ∀ j, j < n → (m' j).oneCell' = true) :
    (Instr.storeAt T (.pointer (some ⟨b, off, none⟩)) (.agg (vA n m'))).run Try.prog w = .ok () (w.setCells b off (vA n m').toList) := by
  obtain ⟨i, hi0, _, hs, _⟩ := info_parts2n hi
  simp [Instr.storeAt, Instr.sureAddr, storeVar, sizeOf, typeInfo, hi0, hs, Value.cells, vA_size, stX_run h m' h1]
theorem indexX_run {T e n k eb : Nat} {ez : Value} {m : Nat → Value} {i : Nat} (hu : Try.prog.underlying T = some (.array k e)) (hk : k = n) (he : ∀ w, (isAgg e).run Try.prog w = .ok false w) (hi : (Try.prog.info? e).map (fun i => (i.zero, i.size, i.bytes)) = some (some ez, 1, eb)) (hn : i < n) (w : World) :
    (Instr.index T (.agg (vA n m)) (.int .i64 (i : Int))).run Try.prog w = .ok (m i) w := by
  obtain ⟨t, ht, _, hs, _⟩ := info_parts2n hi
  subst hk
  have h0 : (0 : Int) ≤ (i : Int) ∧ (i : Int) < (k : Int) := by omega
  simp [Instr.index, asIntOf, run_underlying hu, Go.part, he, sizeOf, typeInfo, ht, hs, h0.1, hn, vA_get hn]
theorem buildX_run {T e n k by_ eb : Nat} {z : Nat → Value} {ez : Value} (hu : Try.prog.underlying T = some (.array k e)) (hi : (Try.prog.info? T).map (fun i => (i.zero, i.size, i.bytes)) = some (some (.agg (vA n z)), n, by_)) (he : (Try.prog.info? e).map (fun i => (i.zero, i.size, i.bytes)) = some (some ez, 1, eb)) (w : World) :
    (Instr.build T #[]).run Try.prog w = .ok (.agg (vA n z)) w := by
  obtain ⟨t, ht, hz, hs, _⟩ := info_parts2n hi
  obtain ⟨t4, ht4, _, hs4, _⟩ := info_parts2n he
  simp [Instr.build, zeroValue, typeInfo, ht, hz, run_underlying hu, sizeOf, ht4, hs4, Instr.fill, Value.cells]

section
variable (w : World) {ops : Array Oper} {rest : List Oper} {o : Oper} {a : Act} {Q : Exit → Act → World → Prop}
theorem wpX_val (hgd : o.guard = none) (v : Value) (w' : World) (hrun : (execOp a.eval o).run Try.prog w = .ok (.value v) w') (h : wpList Try.prog ops Q rest (a.put o.dst v) w') : wpList Try.prog ops Q (o :: rest) a w :=
  wpList_plain hgd fun _ hK => by
    unfold Oper.wp
    rw [hrun]
    exact hK _ _ h
theorem wpX_alloc (hgd : o.guard = none) (T n by_ : Nat) (z : Nat → Value) (hop : o.op = .alloc T) (hi : (Try.prog.info? T).map (fun i => (i.zero, i.size, i.bytes)) = some (some (.agg (vA n z)), n, by_))
    (h : wpList Try.prog ops Q rest (a.put o.dst (.pointer (some ⟨w.heap.size, 0, none⟩))) (w.alloc (.cells (vA n z) T))) : wpList Try.prog ops Q (o :: rest) a w :=
  wpX_val w hgd _ _ (by unfold execOp; simp only [hop, Sem.run_bind, allocX_run hi, Result.andThen_ok, Sem.run_pure]) h
theorem wpX_load (hgd : o.guard = none) (T n by_ k : Nat) (z : Nat → Value) (s : Operand) (hop : o.op = .load T s) (e : TypeId) (hu : Try.prog.underlying T = some (.array k e)) (hi : (Try.prog.info? T).map (fun i => (i.zero, i.size, i.bytes)) = some (some (.agg (vA n z)), n, by_))
    (b off : Nat) (m : Nat → Value) (hs : a.eval s = .pointer (some ⟨b, off, none⟩)) (hb : VAt w b off n m)
    (h : wpList Try.prog ops Q rest (a.put o.dst (.agg (vA n m))) w) : wpList Try.prog ops Q (o :: rest) a w :=
  wpX_val w hgd _ _ (by unfold execOp; simp only [hop, hs, Sem.run_bind, loadX_run hu hi hb, Result.andThen_ok, Sem.run_pure]) h
theorem wpX_index (hgd : o.guard = none) (T e n k eb : Nat) (ez : Value) (s x : Operand) (hop : o.op = .index T s x) (hu : Try.prog.underlying T = some (.array k e)) (hk : k = n) (he : ∀ w, (isAgg e).run Try.prog w = .ok false w) (hi : (Try.prog.info? e).map (fun i => (i.zero, i.size, i.bytes)) = some (some ez, 1, eb))
    (m : Nat → Value) (i : Nat) (v : Value) (hs : a.eval s = .agg (vA n m)) (hx : a.eval x = .int .i64 (i : Int)) (hn : i < n) (hv : m i = v)
    (h : wpList Try.prog ops Q rest (a.put o.dst v) w) : wpList Try.prog ops Q (o :: rest) a w :=
  wpX_val w hgd _ _ (by unfold execOp; simp only [hop, hs, hx, Sem.run_bind, indexX_run hu hk he hi hn, Result.andThen_ok, Sem.run_pure, hv]) h
theorem wpX_build (hgd : o.guard = none) (T e n k by_ eb : Nat) (z : Nat → Value) (ez : Value) (hop : o.op = .build T #[]) (hu : Try.prog.underlying T = some (.array k e)) (hi : (Try.prog.info? T).map (fun i => (i.zero, i.size, i.bytes)) = some (some (.agg (vA n z)), n, by_)) (he : (Try.prog.info? e).map (fun i => (i.zero, i.size, i.bytes)) = some (some ez, 1, eb))
    (h : wpList Try.prog ops Q rest (a.put o.dst (.agg (vA n z))) w) : wpList Try.prog ops Q (o :: rest) a w :=
  wpX_val w hgd _ _ (by unfold execOp; simp only [hop, List.map_toArray, List.map_nil, Sem.run_bind, buildX_run hu hi he, Result.andThen_ok, Sem.run_pure]) h
theorem wpX_box (hgd : o.guard = none) (T n : Nat) (s : Operand) (hop : o.op = .box T s) (m : Nat → Value) (hs : a.eval s = .agg (vA n m))
    (h : wpList Try.prog ops Q rest (a.put o.dst (.pointer (some ⟨w.heap.size, 0, none⟩))) (w.alloc (.cells (vA n m) T))) : wpList Try.prog ops Q (o :: rest) a w :=
  wpX_val w hgd _ _ (by unfold execOp; simp [hop, hs, Instr.box, newVar, newRow, Value.cells, vA_size]) h
theorem wpX_store (hgd : o.guard = none) (hd : o.dst = none) (T n by_ : Nat) (z : Nat → Value) (s x : Operand) (hop : o.op = .store T s x) (hi : (Try.prog.info? T).map (fun i => (i.zero, i.size, i.bytes)) = some (some (.agg (vA n z)), n, by_))
    (b off : Nat) (m m' : Nat → Value) (h1 : ∀ j, j < n → (m' j).oneCell' = true) (hs : a.eval s = .pointer (some ⟨b, off, none⟩)) (hx : a.eval x = .agg (vA n m')) (hb : VAt w b off n m)
    (h : wpList Try.prog ops Q rest a (w.setCells b off (vA n m').toList)) : wpList Try.prog ops Q (o :: rest) a w :=
  wpList_plain hgd fun _ hK => by
    unfold Oper.wp
    have : (execOp a.eval o).run Try.prog w = .ok .skip (w.setCells b off (vA n m').toList) := by
      unfold execOp; simp only [hop, hs, hx, Sem.run_bind, storeX_run hi hb m' h1, Result.andThen_ok, Sem.run_pure]
    rw [this]
    have e : a.put o.dst undef = a := by rw [hd]; rfl
    exact hK (a.put o.dst undef) _ (by rw [e]; exact h)
end
/-- A result that is such an array, in a cell, and a flag behind it. -/
theorem resX_cell {fn : Func} {c d : Nat} {T n k by_ : Nat} {z : Nat → Value} {e : TypeId} {tmps : Array Value} {w : World} {b off : Nat} {m : Nat → Value} {x : Value} (hr : fn.results = #[.cell c T, .tmp d]) (hu : Try.prog.underlying T = some (.array k e))
    (hi : (Try.prog.info? T).map (fun i => (i.zero, i.size, i.bytes)) = some (some (.agg (vA n z)), n, by_)) (ht : tmps.getD c undef = .pointer (some ⟨b, off, none⟩)) (hx : tmps.getD d undef = x) (hb : VAt w b off n m) :
    (results fn tmps).run Try.prog w = .ok (.tuple #[.agg (vA n m), x]) w := by
  obtain ⟨i, hi0, _, hs, _⟩ := info_parts2n hi
  have hl : (loadVar T ⟨b, off, none⟩).run Try.prog w = .ok (.agg (vA n m)) w := by
    simp [loadVar, isAgg, run_underlying hu, sizeOf, typeInfo, hi0, hs, ldX_run hb]
  have ht' : tmps[c]?.getD undef = .pointer (some ⟨b, off, none⟩) := by simpa using ht
  have hx' : tmps[d]?.getD undef = x := by simpa using hx
  simp [results, hr, ht', hx', asAddr, hl]
end Go.Proofs.Ytbmpapmdkmnhhaa
