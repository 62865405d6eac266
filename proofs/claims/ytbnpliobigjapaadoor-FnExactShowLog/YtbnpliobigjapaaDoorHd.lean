/-
  Several texts in one: Ifa.
-/
import Derived.Test.YtbnpliobigjapaaDoorHc
import Derived.Test.YtbnpliobigjapaaDoorHb
/-
  The contract of the program's frameAt.
-/
namespace Go.Proofs.YtbnpliobigjapaaDoor
set_option linter.unusedSimpArgs false
set_option linter.unusedVariables false
open Go.RowKit Go.Sort Go.Shelf

theorem mixedF : Tryd.prog.follows .mixedOrders = true := by kernel_rfl
/-- What frameAt answers of what is left of a disk. -/
def AtF (w w' : World) (a : Addr) (r : List UInt8) (k : Nat) (e : Ending) : Prop :=
  ((∃ t, Begins r t ∧ e = .returned (.tuple #[.string (sv t), .nilIface])) ∨ ((∀ t, ¬ Begins r t) ∧ e = .returned (.tuple #[.string (sv []), .iface 91 (errV (k : Int) a)]))) ∧ Below w.heap.size w w'

attribute [local irreducible] sv
end Go.Proofs.YtbnpliobigjapaaDoor
