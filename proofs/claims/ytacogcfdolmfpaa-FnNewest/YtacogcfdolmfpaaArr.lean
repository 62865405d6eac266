/-
  Arrays of bools: their laws at the operations, the array never laid out.
-/
import Derived.Test.YtacogcfdolmfpaaPst
import Derived.DeepKeys
namespace Go.Proofs.Ytacogcfdolmfpaa
set_option linter.unusedSimpArgs false
set_option linter.unusedVariables false
open Go.RowKit Go.Sort

/-- The cells of an array of n bools. -/
def mV (n : Nat) (m : Nat → Bool) : Array Value := ((List.range n).map (fun j => Value.bool (m j))).toArray
theorem mV_size (n : Nat) (m : Nat → Bool) : (mV n m).size = n := by simp [mV]
theorem mV_get {n : Nat} {m : Nat → Bool} {j : Nat} (h : j < n) : (mV n m)[j]? = some (.bool (m j)) := by simp [mV, h]
theorem mV_list {n : Nat} {m : Nat → Bool} {j : Nat} (h : j < n) : (mV n m).toList[j]? = some (.bool (m j)) := by simp [mV, h]
theorem mV_congr {n : Nat} {m m' : Nat → Bool} (h : ∀ j, j < n → m j = m' j) : mV n m = mV n m' := by
  unfold mV
  rw [List.map_congr_left (fun j hj => by rw [h j (List.mem_range.1 hj)])]
theorem mV_one (n : Nat) (m : Nat → Bool) : ∀ v ∈ (mV n m).toList, v.oneCell' = true := by
  intro v hv
  simp only [mV, List.mem_map] at hv
  obtain ⟨j, _, rfl⟩ := hv
  rfl
def no : Nat → Bool := fun _ => false

theorem Try.info79 : (Try.prog.info? 83).map (fun i => (i.zero, i.size, i.bytes)) = some (some (.agg (mV 40 no)), 40, 40) := by kernel_rfl
theorem Try.info81 : (Try.prog.info? 85).map (fun i => (i.zero, i.size, i.bytes)) = some (some (.agg (mV 1600 no)), 1600, 1600) := by kernel_rfl
theorem Try.info4 : (Try.prog.info? 4).map (fun i => (i.zero, i.size, i.bytes)) = some (some (.bool false), 1, 1) := by kernel_rfl

/-- Block b, from off on, holds the n bools m, which may be written. -/
structure Bo (w : World) (b off n : Nat) (m : Nat → Bool) : Prop where
  cell : ∀ j, j < n → w.cell? ⟨b, off + j, none⟩ = some (.bool (m j))
  free : ∀ j, j < n → w.frozen? ⟨b, off + j, none⟩ = false
  blk : b < w.heap.size
theorem Bo.of_block {w w' : World} {b off n : Nat} {m : Nat → Bool} (h : Bo w b off n m) (e : w'.heap[b]? = w.heap[b]?) (hs : b < w'.heap.size) : Bo w' b off n m :=
  ⟨fun j hj => by rw [World.cell?_of_block (w := w) e]; exact h.cell j hj,
   fun j hj => by rw [show w'.frozen? ⟨b, off + j, none⟩ = w.frozen? ⟨b, off + j, none⟩ from by simp only [World.frozen?, e]]; exact h.free j hj, hs⟩
theorem Bo.below {w w' : World} {b off n B : Nat} {m : Nat → Bool} (h : Bo w b off n m) (hb : Below B w w') (hg : b < B) : Bo w' b off n m := h.of_block (hb.block b hg) (Nat.lt_of_lt_of_le h.blk hb.size)
theorem Bo.drewN {w : World} {b off n : Nat} {m : Nat → Bool} (h : Bo w b off n m) (k : Nat) : Bo (w.drewN k) b off n m := ⟨h.cell, h.free, h.blk⟩
theorem Bo.congr {w : World} {b off n : Nat} {m m' : Nat → Bool} (h : Bo w b off n m) (e : ∀ j, j < n → m j = m' j) : Bo w b off n m' := ⟨fun j hj => by rw [← e j hj]; exact h.cell j hj, h.free, h.blk⟩
theorem Bo.part {w : World} {b off n : Nat} {m : Nat → Bool} (h : Bo w b off n m) {o k : Nat} (hk : o + k ≤ n) : Bo w b (off + o) k (fun j => m (o + j)) :=
  ⟨fun j hj => by rw [Nat.add_assoc]; exact h.cell (o + j) (by omega), fun j hj => by rw [Nat.add_assoc]; exact h.free (o + j) (by omega), h.blk⟩
theorem Bo.set {w : World} {b off n : Nat} {m : Nat → Bool} (h : Bo w b off n m) {i : Nat} (hi : i < n) (v : Bool) : Bo (w.setCell ⟨b, off + i, none⟩ (.bool v)) b off n (fun j => if j = i then v else m j) := by
  refine ⟨fun j hj => ?_, fun j hj => by rw [World.frozen?_setCell]; exact h.free j hj, by simp [World.setCell]; exact h.blk⟩
  by_cases e : j = i
  · subst e
    rw [World.cell?_setCell_same _ _ _ (h.cell j hj), if_pos rfl]
  · rw [World.cell?_setCell_other _ _ _ _ (by intro h; have := congrArg Addr.off h; simp only at this; omega), if_neg e]; exact h.cell j hj
theorem Bo.setFar {w : World} {b g off n i : Nat} {m : Nat → Bool} {u : Value} (h : Bo w b off n m) (hne : b ≠ g) : Bo (w.setCell ⟨g, i, none⟩ u) b off n m :=
  h.of_block (Below.heap_setCell _ _ _ _ (by exact hne)) (by simp [World.setCell]; exact h.blk)
theorem Bo.setsFar {w : World} {b g off n i : Nat} {m : Nat → Bool} {us : List Value} (h : Bo w b off n m) (hne : b ≠ g) : Bo (w.setCells g i us) b off n m :=
  h.of_block ((grown_setCells g us i w).block b h.blk (by simpa using hne)) (by rw [size_setCells]; exact h.blk)
theorem Bo.sets {w : World} {b off n : Nat} {m : Nat → Bool} (h : Bo w b off n m) (m' : Nat → Bool) : Bo (w.setCells b off (mV n m').toList) b off n m' := by
  have hl : (mV n m').toList.length = n := by simp [mV]
  have hin := World.cell?_setCells_in b (mV n m').toList off w (fun j hj => by rw [hl] at hj; rw [h.cell j hj]; rfl)
  refine ⟨fun j hj => ?_, fun j hj => by rw [World.frozen?_setCells]; exact h.free j hj, by rw [size_setCells]; exact h.blk⟩
  rw [hin j (by rw [hl]; exact hj)]
  simp [mV]
theorem bo_alloc (w : World) (n : Nat) (m : Nat → Bool) (T : TypeId) : Bo (w.alloc (.cells (mV n m) T)) w.heap.size 0 n m := by
  have hb := heap_alloc_new w (.cells (mV n m) T)
  refine ⟨fun j hj => ?_, fun j hj => ?_, by simp⟩
  · simp only [World.cell?, hb, Nat.zero_add]
    simp [mV_get hj]
  · unfold World.frozen?
    rw [hb]
    simp

theorem ld_run {w : World} {b off n : Nat} {m : Nat → Bool} (h : Bo w b off n m) : (loadCells ⟨b, off, none⟩ n).run Try.prog w = .ok (mV n m) w :=
  run_loadCells (P := Try.prog) w ⟨b, off, none⟩ n (fun j => .bool (m j)) (fun j hj => by rw [add_lit0]; exact h.cell j hj)
theorem st_run {w : World} {b off n : Nat} {m : Nat → Bool} (h : Bo w b off n m) (m' : Nat → Bool) : (storeCells ⟨b, off, none⟩ (mV n m').toList).run Try.prog w = .ok () (w.setCells b off (mV n m').toList) := by
  have hl : (mV n m').toList.length = n := by simp [mV]
  exact run_storeCells_cells (P := Try.prog) b off (mV n m').toList 0 w (fun j hj => by rw [hl] at hj; rw [Nat.add_zero, h.cell j hj]; rfl) (fun j hj => by rw [hl] at hj; rw [Nat.add_zero]; exact h.free j hj) (mV_one n m')
theorem alloc_run {T n : Nat} (hi : (Try.prog.info? T).map (fun i => (i.zero, i.size, i.bytes)) = some (some (.agg (mV n no)), n, n)) (w : World) :
    (Instr.alloc T true (.tuple #[])).run Try.prog w = .ok (.pointer (some ⟨w.heap.size, 0, none⟩)) (w.alloc (.cells (mV n no) T)) := by
  obtain ⟨i, hi0, hz, _, _⟩ := info_parts hi
  simp [Instr.alloc, zeroValue, typeInfo, hi0, hz, newVar, newRow, Value.cells]
theorem load_run {T n k : Nat} {e : TypeId} (hu : Try.prog.underlying T = some (.array k e)) (hi : (Try.prog.info? T).map (fun i => (i.zero, i.size, i.bytes)) = some (some (.agg (mV n no)), n, n)) {w : World} {b off : Nat} {m : Nat → Bool} (h : Bo w b off n m) :
    (Instr.loadAt T (.pointer (some ⟨b, off, none⟩))).run Try.prog w = .ok (.agg (mV n m)) w := by
  obtain ⟨i, hi0, _, hs, _⟩ := info_parts hi
  simp [Instr.loadAt, Instr.sureAddr, loadVar, isAgg, run_underlying hu, sizeOf, typeInfo, hi0, hs, ld_run h]
theorem store_run {T n : Nat} (hi : (Try.prog.info? T).map (fun i => (i.zero, i.size, i.bytes)) = some (some (.agg (mV n no)), n, n)) {w : World} {b off : Nat} {m : Nat → Bool} (h : Bo w b off n m) (m' : Nat → Bool) :
    (Instr.storeAt T (.pointer (some ⟨b, off, none⟩)) (.agg (mV n m'))).run Try.prog w = .ok () (w.setCells b off (mV n m').toList) := by
  obtain ⟨i, hi0, _, hs, _⟩ := info_parts hi
  simp [Instr.storeAt, Instr.sureAddr, storeVar, sizeOf, typeInfo, hi0, hs, Value.cells, mV_size, st_run h]

theorem index_run {m : Nat → Bool} {i : Nat} (hi : i < 40) (w : World) : (Instr.index 83 (.agg (mV 40 m)) (.int .i64 (i : Int))).run Try.prog w = .ok (.bool (m i)) w := by
  obtain ⟨t, ht, _, hs, _⟩ := info_parts Try.info4
  have h0 : (0 : Int) ≤ (i : Int) ∧ (i : Int) < ((40 : Nat) : Int) := by omega
  simp [Instr.index, asIntOf, run_underlying Try.underlying83, Go.part, isAgg, run_underlying Try.underlying4, sizeOf, typeInfo, ht, hs, h0.1, hi, mV_get hi]
theorem build_run (w : World) : (Instr.build 83 #[]).run Try.prog w = .ok (.agg (mV 40 no)) w := by
  obtain ⟨t, ht, hz, hs, _⟩ := info_parts Try.info79
  obtain ⟨t4, ht4, _, hs4, _⟩ := info_parts Try.info4
  simp [Instr.build, zeroValue, typeInfo, ht, hz, run_underlying Try.underlying83, sizeOf, ht4, hs4, Instr.fill, Value.cells]
theorem clear_run {w : World} {b off n : Nat} {m : Nat → Bool} (h : Bo w b off n m) (hn : 0 < n) (c ty : Nat) :
    (Builtin.clear_ #[113] ty #[.slice (some ⟨b, off, none⟩) n c]).run Try.prog w = .ok (.tuple #[]) (w.setCells b off (mV n no).toList) := by
  obtain ⟨t4, ht4, hz4, _, _⟩ := info_parts Try.info4
  have hzc : (Builtin.zeroCells #[.bool false] n).toList = (mV n no).toList := by
    apply List.ext_getElem
    · simp [Builtin.zeroCells, mV]
    · intro i h1 h2
      simp [Builtin.zeroCells, mV, no, Nat.mod_one]
  have hst := st_run h no
  cases n with
  | zero => omega
  | succ n =>
    simp [Builtin.clear_, run_underlying Try.underlying113, zeroValue, typeInfo, ht4, hz4, Value.cells, hzc, hst]

theorem beqB (a b : Bool) (d : Nat) (w : World) : (Op.equalIn (d + 1) 4 (.bool a) (.bool b)).run Try.prog w = .ok (a == b) w := by
  simp [Op.equalIn, run_underlying Try.underlying4]
theorem eqItems_run (d : Nat) (m m' : Nat → Bool) (w : World) : ∀ (is : List Nat), (∀ i ∈ is, i < 40) → (Op.eqItems (d + 1) 4 1 (mV 40 m) (mV 40 m') is).run Try.prog w = .ok (is.all (fun i => m i == m' i)) w
  | [], _ => by simp [Op.eqItems]
  | i :: is, h => by
    have hi := h i (by simp)
    have ih := eqItems_run d m m' w is (fun j hj => h j (by simp [hj]))
    have hp : ∀ x : Nat → Bool, (Go.part 4 (mV 40 x) (i * 1)).run Try.prog w = .ok (.bool (x i)) w := fun x => by
      simp [Go.part, isAgg, run_underlying Try.underlying4, mV_get hi]
    simp only [Op.eqItems, Sem.run_bind, hp, Result.andThen_ok, beqB, List.all_cons]
    cases hb : (m i == m' i)
    · simp
    · simpa using ih
theorem neq_run (m m' : Nat → Bool) (x y : Operand) (w : World) :
    (do eqGuard .neq 83 x y (.agg (mV 40 m)) (.agg (mV 40 m')); binOp .neq 83 (.agg (mV 40 m)) (.agg (mV 40 m'))).run Try.prog w = .ok (.bool (!((List.range 40).all (fun i => m i == m' i)))) w := by
  obtain ⟨t4, ht4, _, _, _⟩ := info_parts Try.info4
  have hg : Try.prog.eqGuardType Try.prog.depth 83 = false := by kernel_rfl
  have hc : Try.prog.cellsOf 4 = 1 := by kernel_rfl
  have he := eqItems_run 9998 m m' w (List.range 40) (fun i hi => List.mem_range.1 hi)
  have ha := run_equalIn_array (P := Try.prog) w 9999 (mV 40 m) (mV 40 m') Try.underlying83 ht4
  rw [hc] at ha
  simp [eqGuard, hg, binOp, Op.equal]
  have hd : Op.maxDepth = 9999 + 1 := rfl
  rw [hd, ha, he]
  simp

section
variable (w : World) {ops : Array Oper} {rest : List Oper} {o : Oper} {a : Act} {Q : Exit → Act → World → Prop}
theorem wpL_val (hgd : o.guard = none) (v : Value) (w' : World) (hrun : (execOp a.eval o).run Try.prog w = .ok (.value v) w') (h : wpList Try.prog ops Q rest (a.put o.dst v) w') : wpList Try.prog ops Q (o :: rest) a w :=
  wpList_plain hgd fun _ hK => by
    unfold Oper.wp
    rw [hrun]
    exact hK _ _ h
theorem wpL_alloc (hgd : o.guard = none) (T n : Nat) (hop : o.op = .alloc T) (hi : (Try.prog.info? T).map (fun i => (i.zero, i.size, i.bytes)) = some (some (.agg (mV n no)), n, n))
    (h : wpList Try.prog ops Q rest (a.put o.dst (.pointer (some ⟨w.heap.size, 0, none⟩))) (w.alloc (.cells (mV n no) T))) : wpList Try.prog ops Q (o :: rest) a w :=
  wpL_val w hgd _ _ (by unfold execOp; simp only [hop, Sem.run_bind, alloc_run hi, Result.andThen_ok, Sem.run_pure]) h
theorem wpL_load (hgd : o.guard = none) (T n k : Nat) (s : Operand) (hop : o.op = .load T s) (e : TypeId) (hu : Try.prog.underlying T = some (.array k e)) (hi : (Try.prog.info? T).map (fun i => (i.zero, i.size, i.bytes)) = some (some (.agg (mV n no)), n, n))
    (b off : Nat) (m : Nat → Bool) (hs : a.eval s = .pointer (some ⟨b, off, none⟩)) (hb : Bo w b off n m)
    (h : wpList Try.prog ops Q rest (a.put o.dst (.agg (mV n m))) w) : wpList Try.prog ops Q (o :: rest) a w :=
  wpL_val w hgd _ _ (by unfold execOp; simp only [hop, hs, Sem.run_bind, load_run hu hi hb, Result.andThen_ok, Sem.run_pure]) h
theorem wpL_index (hgd : o.guard = none) (s x : Operand) (hop : o.op = .index 83 s x) (m : Nat → Bool) (i : Nat) (hs : a.eval s = .agg (mV 40 m)) (hx : a.eval x = .int .i64 (i : Int)) (hi : i < 40)
    (h : wpList Try.prog ops Q rest (a.put o.dst (.bool (m i))) w) : wpList Try.prog ops Q (o :: rest) a w :=
  wpL_val w hgd _ _ (by unfold execOp; simp only [hop, hs, hx, Sem.run_bind, index_run hi, Result.andThen_ok, Sem.run_pure]) h
theorem wpL_build (hgd : o.guard = none) (hop : o.op = .build 83 #[]) (h : wpList Try.prog ops Q rest (a.put o.dst (.agg (mV 40 no))) w) : wpList Try.prog ops Q (o :: rest) a w :=
  wpL_val w hgd _ _ (by unfold execOp; simp only [hop, List.map_toArray, List.map_nil, Sem.run_bind, build_run, Result.andThen_ok, Sem.run_pure]) h
theorem wpL_neq (hgd : o.guard = none) (s x : Operand) (ty : TypeId) (hop : o.op = .binOp .neq 83 s x ty) (m m' : Nat → Bool) (hs : a.eval s = .agg (mV 40 m)) (hx : a.eval x = .agg (mV 40 m'))
    (h : wpList Try.prog ops Q rest (a.put o.dst (.bool (!((List.range 40).all (fun i => m i == m' i))))) w) : wpList Try.prog ops Q (o :: rest) a w :=
  wpL_val w hgd _ _ (by
    unfold execOp
    have := neq_run m m' s x w
    simp only [hop, hs, hx]
    rw [Sem.run_bind, this]
    simp) h
theorem wpL_store (hgd : o.guard = none) (hd : o.dst = none) (T n : Nat) (s x : Operand) (hop : o.op = .store T s x) (hi : (Try.prog.info? T).map (fun i => (i.zero, i.size, i.bytes)) = some (some (.agg (mV n no)), n, n))
    (b off : Nat) (m m' : Nat → Bool) (hs : a.eval s = .pointer (some ⟨b, off, none⟩)) (hx : a.eval x = .agg (mV n m')) (hb : Bo w b off n m)
    (h : wpList Try.prog ops Q rest a (w.setCells b off (mV n m').toList)) : wpList Try.prog ops Q (o :: rest) a w :=
  wpList_plain hgd fun _ hK => by
    unfold Oper.wp
    have : (execOp a.eval o).run Try.prog w = .ok .skip (w.setCells b off (mV n m').toList) := by
      unfold execOp; simp only [hop, hs, hx, Sem.run_bind, store_run hi hb, Result.andThen_ok, Sem.run_pure]
    rw [this]
    have e : a.put o.dst undef = a := by rw [hd]; rfl
    exact hK (a.put o.dst undef) _ (by rw [e]; exact h)
theorem wpL_clear (hgd : o.guard = none) (hd : o.dst = none) (x : Operand) (hop : o.op = .call { callee := .builtin .clear, args := #[x], argTypes := #[113] }) (b off n c : Nat) (m : Nat → Bool) (hx : a.eval x = .slice (some ⟨b, off, none⟩) n c) (hn : 0 < n) (hb : Bo w b off n m)
    (h : wpList Try.prog ops Q rest a (w.setCells b off (mV n no).toList)) : wpList Try.prog ops Q (o :: rest) a w :=
  wpList_plain hgd fun _ hK => by
    unfold Oper.wp
    have : (execOp a.eval o).run Try.prog w = .ok (.value (.tuple #[])) (w.setCells b off (mV n no).toList) := by
      unfold execOp; simp only [hop, resolve, invoke, builtin, Sem.run_bind, Sem.run_pure, Result.andThen_ok, List.map_toArray, List.map_cons, List.map_nil, hx, clear_run hb hn]
    rw [this]
    have e : a.put o.dst (.tuple #[]) = a := by rw [hd]; rfl
    exact hK (a.put o.dst (.tuple #[])) _ (by rw [e]; exact h)
end
end Go.Proofs.Ytacogcfdolmfpaa
