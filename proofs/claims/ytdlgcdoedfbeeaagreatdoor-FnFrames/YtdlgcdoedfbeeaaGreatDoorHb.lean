/-
  Several texts in one: Iea.
-/
import Derived.Test.YtdlgcdoedfbeeaaGreatDoorHa
/-
  errors.As at the program's own error: the target is set.
-/
namespace Go.Proofs.YtdlgcdoedfbeeaaGreatDoor
set_option linter.unusedSimpArgs false
set_option linter.unusedVariables false
open Go.RowKit Go.Sort Go.Extern.Stop Go.Stop Go.Extern

theorem asSet (tb b : Nat) (n : Int) (a : Addr) (o0 o1 : Value) (W : World) (h0 : W.cell? ⟨b, 0, none⟩ = some (.int .i64 n)) (h1 : W.cell? ⟨b, 1, none⟩ = some (.iface 144 (.pointer (some a))))
    (t0 : W.cell? ⟨tb, 0, none⟩ = some o0) (t1 : W.cell? ⟨tb, 1, none⟩ = some o1) (f0 : W.frozen? ⟨tb, 0, none⟩ = false) (f1 : W.frozen? ⟨tb, 1, none⟩ = false) :
    (enSet #[.agg #[hdl 46, .pointer (some ⟨tb, 0, none⟩), .int .u64 409], .agg #[hdl 46, .pointer (some ⟨b, 0, none⟩), .int .u64 153]]).run Tryz.prog W
      = .ok (.tuple #[]) ((W.setCell ⟨tb, 0, none⟩ (.int .i64 n)).setCell ⟨tb, 1, none⟩ (.iface 144 (.pointer (some a)))) := by
  unfold enSet
  have t1' : (W.setCell ⟨tb, 0, none⟩ (.int .i64 n)).cell? ⟨tb, 1, none⟩ = some o1 := by rw [World.cell?_setCell_other W ⟨tb, 0, none⟩ ⟨tb, 1, none⟩ _ (by simp)]; exact t1
  have s0 := fun m => run_store Tryz.prog W ⟨tb, 0, none⟩ (.int .i64 n) m (by rfl)
  have s1 := fun m => run_store Tryz.prog (W.setCell ⟨tb, 0, none⟩ (.int .i64 n)) ⟨tb, 1, none⟩ (.iface 144 (.pointer (some a))) m (by rfl)
  simp only [t0, f0] at s0
  simp only [t1', World.frozen?_setCell, f1] at s1
  delta ReflectliteValue.set
  rw [rowTwo]
  simp only [Sem.run_bind, asPartsA, asPartsS, Result.andThen]
  simp [ReflectliteValue.flagAddr, asLoadS b _ _ W h0 h1, Result.andThen, asDirect, storeVar, asSize, Value.cells, storeCells, Addr.add, s0, s1]
set_option maxHeartbeats 4000000 in
/-- errors.As(nil, target). -/
theorem as_nil (t : Value) (w : World) :
    Calls Tryz.prog 24 #[.nilIface, t] w fun e w' => e = .returned (.bool false) ∧ w' = w := by
  go_enter Tryz.func24, Tryz.ntmps24
  go_wp2
  go_ret
  exact ⟨rfl, rfl⟩

set_option maxHeartbeats 4000000 in
/-- errors.As(the error, the address of a variable of its type). -/
theorem as_hit (tb : Nat) (n : Int) (a : Addr) (o0 o1 : Value) (w : World) (hg : w.cell? ⟨1, 0, none⟩ = some (.iface 94 (.agg #[hdl 42])))
    (t0 : w.cell? ⟨tb, 0, none⟩ = some o0) (t1 : w.cell? ⟨tb, 1, none⟩ = some o1) (f0 : w.frozen? ⟨tb, 0, none⟩ = false) (f1 : w.frozen? ⟨tb, 1, none⟩ = false) :
    Calls Tryz.prog 24 #[.iface 46 (errV n a), .iface 48 (.pointer (some ⟨tb, 0, none⟩))] w fun e w' => e = .returned (.bool true) ∧ w'.cell? ⟨tb, 0, none⟩ = some (.int .i64 n) ∧ Below tb w w' := by
  have h6 := @run_callFunc_extern Tryz.prog 36 _ enValueOf Tryz.func36 (by kernel_rfl) (by kernel_rfl) (by kernel_rfl) (by kernel_rfl)
  have h7 := @run_callFunc_extern Tryz.prog 37 _ enType Tryz.func37 (by kernel_rfl) (by kernel_rfl) (by kernel_rfl) (by kernel_rfl)
  have h8 := @run_callFunc_extern Tryz.prog 38 _ enIsNil Tryz.func38 (by kernel_rfl) (by kernel_rfl) (by kernel_rfl) (by kernel_rfl)
  have h27 := @run_callFunc_extern Tryz.prog 103 _ enKind Tryz.func103 (by kernel_rfl) (by kernel_rfl) (by kernel_rfl) (by kernel_rfl)
  have h37 := @run_callFunc_extern Tryz.prog 115 _ enElem Tryz.func115 (by kernel_rfl) (by kernel_rfl) (by kernel_rfl) (by kernel_rfl)
  have h38 := @run_callFunc_extern Tryz.prog 116 _ enImplements Tryz.func116 (by kernel_rfl) (by kernel_rfl) (by kernel_rfl) (by kernel_rfl)
  have h10 := @run_callFunc_extern Tryz.prog 52 _ enTypeOf Tryz.func52 (by kernel_rfl) (by kernel_rfl) (by kernel_rfl) (by kernel_rfl)
  have h35 := @run_callFunc_extern Tryz.prog 113 _ enAssignable Tryz.func113 (by kernel_rfl) (by kernel_rfl) (by kernel_rfl) (by kernel_rfl)
  have h11 := @run_callFunc_extern Tryz.prog 54 _ enElemV Tryz.func54 (by kernel_rfl) (by kernel_rfl) (by kernel_rfl) (by kernel_rfl)
  have h12 := @run_callFunc_extern Tryz.prog 55 _ enSet Tryz.func55 (by kernel_rfl) (by kernel_rfl) (by kernel_rfl) (by kernel_rfl)
  have tO := asTypeOfS
  have mA := asMethodAssignable
  have aS := asAssignable
  have vS := asValueOfS n a
  have f6 := asValueOfP
  have f7 := asTypeP
  have mK := asMethodKind
  have mE := asMethodElem
  have mI := asMethodImplements
  have kP := asKindP
  have kS := asKindS
  have eP := asElemP
  have iS := asImplements
  obtain ⟨W1, hW1⟩ : ∃ W1, W1 = w.alloc (.cells #[.pointer (some ⟨tb, 0, none⟩)] 48) := ⟨_, rfl⟩
  have n8 := asIsNil ⟨w.heap.size, 0, none⟩ ⟨tb, 0, none⟩ ((w.alloc (.cells #[.pointer (some ⟨tb, 0, none⟩)] 48)).alloc (.cells #[hdl 48, .pointer (some ⟨w.heap.size, 0, none⟩), .int .u64 150] 71)) (by simp)
  have hlt : ∀ {b i : Nat} {v : Value}, w.cell? ⟨b, i, none⟩ = some v → b < w.heap.size := fun {b i v} h => by
    rcases Nat.lt_or_ge b w.heap.size with h' | h'
    · exact h'
    · simp [World.cell?, Array.getElem?_eq_none h'] at h
  have hgl := hlt hg
  have htl := hlt t0
  have hg2 : ((w.alloc (.cells #[.pointer (some ⟨tb, 0, none⟩)] 48)).alloc (.cells #[hdl 48, .pointer (some ⟨w.heap.size, 0, none⟩), .int .u64 150] 71)).cell? ⟨1, 0, none⟩ = some (.iface 94 (.agg #[hdl 42])) := by
    rw [World.cell?_alloc_lt _ _ ⟨1, 0, none⟩ (by simp; omega), World.cell?_alloc_lt _ _ ⟨1, 0, none⟩ hgl]; exact hg
  have el := asElemV ⟨w.heap.size, 0, none⟩ ⟨tb, 0, none⟩ (((w.alloc (.cells #[.pointer (some ⟨tb, 0, none⟩)] 48)).alloc (.cells #[hdl 48, .pointer (some ⟨w.heap.size, 0, none⟩), .int .u64 150] 71)).alloc (.cells #[hdl 48, .pointer (some ⟨w.heap.size, 0, none⟩), .int .u64 150] 71)) (by rw [World.cell?_alloc_lt _ _ ⟨w.heap.size, 0, none⟩ (by simp; omega)]; simp)
  have old : ∀ i v, w.cell? ⟨tb, i, none⟩ = some v → ((((w.alloc (.cells #[.pointer (some ⟨tb, 0, none⟩)] 48)).alloc (.cells #[hdl 48, .pointer (some ⟨w.heap.size, 0, none⟩), .int .u64 150] 71)).alloc (.cells #[hdl 48, .pointer (some ⟨w.heap.size, 0, none⟩), .int .u64 150] 71)).alloc (.cells #[.int .i64 n, .iface 144 (.pointer (some a))] 46)).cell? ⟨tb, i, none⟩ = some v := fun i v h => by
    rw [World.cell?_alloc_lt _ _ ⟨tb, i, none⟩ (by simp; omega), World.cell?_alloc_lt _ _ ⟨tb, i, none⟩ (by simp; omega), World.cell?_alloc_lt _ _ ⟨tb, i, none⟩ (by simp; omega), World.cell?_alloc_lt _ _ ⟨tb, i, none⟩ htl]; exact h
  have oldf : ∀ i, w.frozen? ⟨tb, i, none⟩ = false → ((((w.alloc (.cells #[.pointer (some ⟨tb, 0, none⟩)] 48)).alloc (.cells #[hdl 48, .pointer (some ⟨w.heap.size, 0, none⟩), .int .u64 150] 71)).alloc (.cells #[hdl 48, .pointer (some ⟨w.heap.size, 0, none⟩), .int .u64 150] 71)).alloc (.cells #[.int .i64 n, .iface 144 (.pointer (some a))] 46)).frozen? ⟨tb, i, none⟩ = false := fun i h => by
    rw [World.frozen?_alloc_old _ _ ⟨tb, i, none⟩ (by simp; omega), World.frozen?_alloc_old _ _ ⟨tb, i, none⟩ (by simp; omega), World.frozen?_alloc_old _ _ ⟨tb, i, none⟩ (by simp; omega), World.frozen?_alloc_old _ _ ⟨tb, i, none⟩ (Nat.ne_of_lt htl)]; exact h
  have st := asSet tb (w.heap.size + 1 + 1 + 1) n a o0 o1 ((((w.alloc (.cells #[.pointer (some ⟨tb, 0, none⟩)] 48)).alloc (.cells #[hdl 48, .pointer (some ⟨w.heap.size, 0, none⟩), .int .u64 150] 71)).alloc (.cells #[hdl 48, .pointer (some ⟨w.heap.size, 0, none⟩), .int .u64 150] 71)).alloc (.cells #[.int .i64 n, .iface 144 (.pointer (some a))] 46))
    (by rw [World.cell?_alloc_at _ _ _ _ (by simp)]; rfl) (by rw [World.cell?_alloc_at _ _ _ _ (by simp)]; rfl) (old 0 o0 t0) (old 1 o1 t1) (oldf 0 f0) (oldf 1 f1)
  have HC : Hid (∀ W : World, W.cell? ⟨tb, 0, none⟩ = some o0 → ((W.setCell ⟨tb, 0, none⟩ (.int .i64 n)).setCell ⟨tb, 1, none⟩ (.iface 144 (.pointer (some a)))).cell? ⟨tb, 0, none⟩ = some (.int .i64 n)) := fun W h => by
    rw [World.cell?_setCell_other (W.setCell ⟨tb, 0, none⟩ (.int .i64 n)) ⟨tb, 1, none⟩ ⟨tb, 0, none⟩ _ (by simp)]
    exact World.cell?_setCell_same W _ _ h
  have HO := old 0 o0 t0
  have HOH : Hid _ := HO
  clear HO old oldf hW1
  unfold errV at *
  go_enter Tryz.func24, Tryz.ntmps24
  go_wp2
  refine wp_loop_rounds 1 ?_
  rw [rounds_succ]
  go_wp2
  go_ret
  refine ⟨rfl, HC.out _ HOH.out, ?_⟩
  have B1 := (((((Below.refl tb w).alloc (Nat.le_of_lt htl) (.cells #[.pointer (some ⟨tb, 0, none⟩)] 48)).alloc (by simp; omega) (.cells #[hdl 48, .pointer (some ⟨w.heap.size, 0, none⟩), .int .u64 150] 71)).alloc (by simp; omega) (.cells #[hdl 48, .pointer (some ⟨w.heap.size, 0, none⟩), .int .u64 150] 71)).alloc (by simp; omega) (.cells #[.int .i64 n, .iface 144 (.pointer (some a))] 46))
  exact (B1.setCell (p := ⟨tb, 0, none⟩) (Nat.le_refl _) _).setCell (p := ⟨tb, 1, none⟩) (Nat.le_refl _) _
end Go.Proofs.YtdlgcdoedfbeeaaGreatDoor
