/-
  Several texts in one: Iea.
-/
import Derived.Test.YtbnpliobigjapaaDoorHa
/-
  errors.As at the program's own error: the target is set.
-/
namespace Go.Proofs.YtbnpliobigjapaaDoor
set_option linter.unusedSimpArgs false
set_option linter.unusedVariables false
open Go.RowKit Go.Sort Go.Extern.Stop Go.Stop Go.Extern

theorem asSet (tb b : Nat) (n : Int) (a : Addr) (o0 o1 : Value) (W : World) (h0 : W.cell? ⟨b, 0, none⟩ = some (.int .i64 n)) (h1 : W.cell? ⟨b, 1, none⟩ = some (.iface 134 (.pointer (some a))))
    (t0 : W.cell? ⟨tb, 0, none⟩ = some o0) (t1 : W.cell? ⟨tb, 1, none⟩ = some o1) (f0 : W.frozen? ⟨tb, 0, none⟩ = false) (f1 : W.frozen? ⟨tb, 1, none⟩ = false) :
    (enSet #[.agg #[hdl 91, .pointer (some ⟨tb, 0, none⟩), .int .u64 409], .agg #[hdl 91, .pointer (some ⟨b, 0, none⟩), .int .u64 153]]).run Tryd.prog W
      = .ok (.tuple #[]) ((W.setCell ⟨tb, 0, none⟩ (.int .i64 n)).setCell ⟨tb, 1, none⟩ (.iface 134 (.pointer (some a)))) := by
  unfold enSet
  have t1' : (W.setCell ⟨tb, 0, none⟩ (.int .i64 n)).cell? ⟨tb, 1, none⟩ = some o1 := by rw [World.cell?_setCell_other W ⟨tb, 0, none⟩ ⟨tb, 1, none⟩ _ (by simp)]; exact t1
  have s0 := fun m => run_store Tryd.prog W ⟨tb, 0, none⟩ (.int .i64 n) m (by rfl)
  have s1 := fun m => run_store Tryd.prog (W.setCell ⟨tb, 0, none⟩ (.int .i64 n)) ⟨tb, 1, none⟩ (.iface 134 (.pointer (some a))) m (by rfl)
  simp only [t0, f0] at s0
  simp only [t1', World.frozen?_setCell, f1] at s1
  delta ReflectliteValue.set
  rw [rowTwo]
  simp only [Sem.run_bind, asPartsA, asPartsS, Result.andThen]
  simp [ReflectliteValue.flagAddr, asLoadS b _ _ W h0 h1, Result.andThen, asDirect, storeVar, asSize, Value.cells, storeCells, Addr.add, s0, s1]
end Go.Proofs.YtbnpliobigjapaaDoor
