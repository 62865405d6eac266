/-
  Several texts in one: Ies.
-/
import Derived.Test.YtbnpliobigjapaaDoorGs
import Derived.WalkKit
import Derived.LaidEql
import Derived.Stop.Asserts
import Derived.RowKitTokens
/-
  errors.Is and errors.As at the program's own error (a struct that wraps the one sentinel), Go's own text of both walked.
-/
namespace Go.Proofs.YtbnpliobigjapaaDoor
set_option linter.unusedSimpArgs false
set_option linter.unusedVariables false
open Go.RowKit Go.Sort Go.Extern.Stop Go.Stop Go.Extern

theorem esComp : (Tryd.prog.info? 134).map (·.comparable) = some true := by kernel_rfl
theorem esSize : (Tryd.prog.info? 136).map (·.size) = some 1 := by kernel_rfl
/-- What the error is: where, and the sentinel that it wraps. -/
def errV (n : Int) (a : Addr) : Value := .agg #[.int .i64 n, .iface 134 (.pointer (some a))]

/-! ### errors.As at the target of the program's own type -/
noncomputable def enIsNil : Array Value → Sem Value := ReflectliteValue.method (ReflectliteValue.valueError "reflectlite.Value.IsNil" 0) ReflectliteValue.isNil
noncomputable def enElemV : Array Value → Sem Value := ReflectliteValue.method (ReflectliteValue.valueError "reflectlite.Value.Elem" 0) ReflectliteValue.elem
noncomputable def enSet : Array Value → Sem Value := ReflectliteValue.set
/-- The handle of a type. -/
abbrev hdl (t : TypeId) : Value := .pointer (some ⟨7, t, none⟩)

/-- A row of one, or of two, values met with its own pattern. -/
theorem rowOne (v : Value) (h1 : Value → Sem Value) (h2 : Array Value → Sem Value) : ReflectliteValue.method.match_2 (fun _ => Sem Value) #[v] h1 h2 = h1 v := rfl
theorem rowTwo (v x : Value) (h1 : Value → Value → Sem Value) (h2 : Array Value → Sem Value) : ReflectliteValue.set.match_3 (fun _ => Sem Value) #[v, x] h1 h2 = h1 v x := rfl
theorem asPartsS (a : Addr) (w : World) : (ReflectliteValue.parts (.agg #[hdl 91, .pointer (some a), .int .u64 153])).run Tryd.prog w = .ok (some (91, a, 153)) w := by kernel_rfl
theorem asPartsA (a : Addr) (w : World) : (ReflectliteValue.parts (.agg #[hdl 91, .pointer (some a), .int .u64 409])).run Tryd.prog w = .ok (some (91, a, 409)) w := by kernel_rfl
theorem asMkS (p : Addr) (w : World) : (ReflectliteValue.mk 91 p ReflectliteValue.flagAddr).run Tryd.prog w = .ok (.agg #[hdl 91, .pointer (some p), .int .u64 409]) w := by kernel_rfl
theorem asDirect (w : World) : (Rtype.directlyAssignable 91 91).run Tryd.prog w = .ok true w := by kernel_rfl
theorem asSize (w : World) : (Go.sizeOf 91).run Tryd.prog w = .ok 2 w := by kernel_rfl
theorem asIsAgg (w : World) : (isAgg 91).run Tryd.prog w = .ok true w := by kernel_rfl
theorem asLoadS (b : Nat) (x y : Value) (W : World) (h0 : W.cell? ⟨b, 0, none⟩ = some x) (h1 : W.cell? ⟨b, 1, none⟩ = some y) : (loadVar 91 ⟨b, 0, none⟩).run Tryd.prog W = .ok (.agg #[x, y]) W := by
  simp [loadVar, asIsAgg, asSize, loadCells, loadCellsFrom, Addr.add, h0, h1, Result.andThen]
end Go.Proofs.YtbnpliobigjapaaDoor
