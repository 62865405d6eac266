/-
  Several texts in one: Ies.
-/
import Derived.Test.YtdlgcdoedfbeeaaDoorGs
import Derived.WalkKit
import Derived.LaidEql
import Derived.Stop.Asserts
import Derived.RowKitTokens
/-
  errors.Is and errors.As at the program's own error (a struct that wraps the one sentinel), Go's own text of both walked.
-/
namespace Go.Proofs.YtdlgcdoedfbeeaaDoor
set_option linter.unusedSimpArgs false
set_option linter.unusedVariables false
open Go.RowKit Go.Sort Go.Extern.Stop Go.Stop Go.Extern

/-- The model's entries for internal/reflectlite, under names of their own: what stands in the model's table for each function. -/
noncomputable def enTypeOf : Array Value → Sem Value := (Extern.find Tryd.f40).getD fun _ => pure (.tuple #[])
noncomputable def enComparable : Array Value → Sem Value := (Extern.find Tryd.f96).getD fun _ => pure (.tuple #[])
theorem esTypeOf (v : Value) (w : World) : (enTypeOf #[.iface 122 v]).run Tryd.prog w = .ok (.iface 78 (.agg #[.pointer (some ⟨8, 122, none⟩)])) w := by kernel_rfl
theorem esComparable (w : World) : (enComparable #[.agg #[.pointer (some ⟨8, 122, none⟩)]]).run Tryd.prog w = .ok (.bool true) w := by kernel_rfl
theorem esMethodComparable (v : Value) (w : World) : (Go.method 253 78 v "Comparable").run Tryd.prog w = .ok (96, v) w := by kernel_rfl
theorem esComp : (Tryd.prog.info? 122).map (·.comparable) = some true := by kernel_rfl
theorem esSize : (Tryd.prog.info? 124).map (·.size) = some 1 := by kernel_rfl
theorem esNoIs (v : Value) (xT : TypeId) (w : World) : (Instr.typeAssert (.iface 40 v) xT 99 true).run Tryd.prog w = .ok (.tuple #[.nilIface, .bool false]) w := run_typeAssert_lacksB Tryd.underlying99 (by kernel_rfl) (by kernel_rfl) v xT w
theorem esHasUnwrap (v : Value) (xT : TypeId) (w : World) : (Instr.typeAssert (.iface 40 v) xT 85 true).run Tryd.prog w = .ok (.tuple #[.iface 40 v, .bool true]) w := run_typeAssert_hasB Tryd.underlying85 (by kernel_rfl) v xT w
theorem esMethodUnwrap (v : Value) (w : World) : (Go.method 253 40 v "Unwrap").run Tryd.prog w = .ok (90, v) w := by kernel_rfl

/-- What the error is: where, and the sentinel that it wraps. -/
def errV (n : Int) (a : Addr) : Value := .agg #[.int .i64 n, .iface 122 (.pointer (some a))]

set_option maxHeartbeats 400000 in
/-- errors.Is(nil, the sentinel). -/
theorem is_nil (b : Addr) (w : World) :
    Calls Tryd.prog 27 #[.nilIface, .iface 122 (.pointer (some b))] w fun e w' => e = .returned (.bool false) ∧ w' = w := by
  have hn := run_eql_iface_nil_left (P := Tryd.prog) w 122 (.pointer (some b)) Tryd.underlying36
  go_enter Tryd.func27, Tryd.ntmps27
  go_wp2
  go_ret
  exact ⟨rfl, rfl⟩

set_option maxHeartbeats 1600000 in
/-- errors.Is(the error, the sentinel that it wraps). -/
theorem is_wrapped (n : Int) (a : Addr) (w : World) :
    Calls Tryd.prog 27 #[.iface 40 (errV n a), .iface 122 (.pointer (some a))] w fun e w' => e = .returned (.bool true) ∧ Below w.heap.size w w' := by
  obtain ⟨i, hi, hcmp⟩ := Option.map_eq_some_iff.1 esComp
  obtain ⟨j, hj, hjs⟩ := Option.map_eq_some_iff.1 esSize
  have h8 := @run_callFunc_extern Tryd.prog 40 _ enTypeOf Tryd.func40 (by kernel_rfl) (by kernel_rfl) (by kernel_rfl) (by kernel_rfl)
  have h32 := @run_callFunc_extern Tryd.prog 96 _ enComparable Tryd.func96 (by kernel_rfl) (by kernel_rfl) (by kernel_rfl) (by kernel_rfl)
  have tT := esTypeOf
  have cT := esComparable
  have mR := esMethodComparable
  have nE := esNoIs
  have uW := esHasUnwrap
  have mU := esMethodUnwrap
  have heq : ∀ w, (binOp .eql 36 (.iface 122 (.pointer (some a))) (.iface 122 (.pointer (some a)))).run Tryd.prog w = .ok (.bool true) w := fun w => run_eql_iface_ptr_same (P := Tryd.prog) w a Tryd.underlying36 Tryd.underlying122 hi hcmp hj
  have hty : ∀ w, (binOp .eql 36 (.iface 40 (errV n a)) (.iface 122 (.pointer (some a)))).run Tryd.prog w = .ok (.bool false) w := fun w => run_eql_iface_types (P := Tryd.prog) 40 122 (errV n a) (.pointer (some a)) Tryd.underlying36 (by decide) w
  unfold errV at *
  go_enter Tryd.func27, Tryd.ntmps27
  go_wp2
  refine wp_loop_rounds 2 ?_
  rw [rounds_succ]
  go_wp2
  rw [rounds_succ]
  go_wp2
  go_ret
  exact ⟨rfl, (Below.refl _ _).alloc (Nat.le_refl _) _⟩

/-! ### errors.As at the target of the program's own type -/
noncomputable def enValueOf : Array Value → Sem Value := (Extern.find Tryd.f28).getD fun _ => pure (.tuple #[])
noncomputable def enType : Array Value → Sem Value := (Extern.find Tryd.f29).getD fun _ => pure (.tuple #[])
noncomputable def enIsNil : Array Value → Sem Value := ReflectliteValue.method (ReflectliteValue.valueError "reflectlite.Value.IsNil" 0) ReflectliteValue.isNil
noncomputable def enKind : Array Value → Sem Value := (Extern.find Tryd.f86).getD fun _ => pure (.tuple #[])
noncomputable def enElem : Array Value → Sem Value := (Extern.find Tryd.f97).getD fun _ => pure (.tuple #[])
noncomputable def enImplements : Array Value → Sem Value := (Extern.find Tryd.f98).getD fun _ => pure (.tuple #[])
noncomputable def enAssignable : Array Value → Sem Value := (Extern.find Tryd.f95).getD fun _ => pure (.tuple #[])
noncomputable def enElemV : Array Value → Sem Value := ReflectliteValue.method (ReflectliteValue.valueError "reflectlite.Value.Elem" 0) ReflectliteValue.elem
noncomputable def enSet : Array Value → Sem Value := ReflectliteValue.set
/-- The handle of a type. -/
abbrev hdl (t : TypeId) : Value := .pointer (some ⟨8, t, none⟩)

theorem asValueOfP (t : Addr) (w : World) : (enValueOf #[.iface 42 (.pointer (some t))]).run Tryd.prog w
    = .ok (.agg #[hdl 42, .pointer (some ⟨w.heap.size, 0, none⟩), .int .u64 150]) (w.alloc (.cells #[.pointer (some t)] 42)) := by kernel_rfl
theorem asTypeP (a : Addr) (w : World) : (enType #[.agg #[hdl 42, .pointer (some a), .int .u64 150]]).run Tryd.prog w = .ok (.iface 78 (.agg #[hdl 42])) w := by kernel_rfl
theorem asMethodKind (h : Value) (w : World) : (Go.method 253 78 (.agg #[h]) "Kind").run Tryd.prog w = .ok (86, h) w := by kernel_rfl
theorem asKindP (w : World) : (enKind #[hdl 42]).run Tryd.prog w = .ok (.int .u8 22) w := by kernel_rfl
theorem asKindS (w : World) : (enKind #[hdl 40]).run Tryd.prog w = .ok (.int .u8 25) w := by kernel_rfl
theorem asMethodElem (h : Value) (w : World) : (Go.method 253 78 (.agg #[h]) "Elem").run Tryd.prog w = .ok (97, .agg #[h]) w := by kernel_rfl
theorem asMethodImplements (h : Value) (w : World) : (Go.method 253 78 (.agg #[h]) "Implements").run Tryd.prog w = .ok (98, .agg #[h]) w := by kernel_rfl
theorem asMethodAssignable (h : Value) (w : World) : (Go.method 253 78 (.agg #[h]) "AssignableTo").run Tryd.prog w = .ok (95, .agg #[h]) w := by kernel_rfl
theorem asElemP (w : World) : (enElem #[.agg #[hdl 42]]).run Tryd.prog w = .ok (.iface 78 (.agg #[hdl 40])) w := by kernel_rfl
theorem asImplements (w : World) : (enImplements #[.agg #[hdl 40], .iface 78 (.agg #[hdl 36])]).run Tryd.prog w = .ok (.bool true) w := by kernel_rfl
theorem asTypeOfS (v : Value) (w : World) : (enTypeOf #[.iface 40 v]).run Tryd.prog w = .ok (.iface 78 (.agg #[hdl 40])) w := by kernel_rfl
theorem asAssignable (w : World) : (enAssignable #[.agg #[hdl 40], .iface 78 (.agg #[hdl 40])]).run Tryd.prog w = .ok (.bool true) w := by kernel_rfl
theorem asValueOfS (n : Int) (a : Addr) (w : World) : (enValueOf #[.iface 40 (errV n a)]).run Tryd.prog w
    = .ok (.agg #[hdl 40, .pointer (some ⟨w.heap.size, 0, none⟩), .int .u64 153]) (w.alloc (.cells #[.int .i64 n, .iface 122 (.pointer (some a))] 40)) := by kernel_rfl

/-- A row of one, or of two, values met with its own pattern. -/
theorem rowOne (v : Value) (h1 : Value → Sem Value) (h2 : Array Value → Sem Value) : ReflectliteValue.method.match_2 (fun _ => Sem Value) #[v] h1 h2 = h1 v := rfl
theorem rowTwo (v x : Value) (h1 : Value → Value → Sem Value) (h2 : Array Value → Sem Value) : ReflectliteValue.set.match_3 (fun _ => Sem Value) #[v, x] h1 h2 = h1 v x := rfl
theorem asPartsP (a : Addr) (w : World) : (ReflectliteValue.parts (.agg #[hdl 42, .pointer (some a), .int .u64 150])).run Tryd.prog w = .ok (some (42, a, 150)) w := by kernel_rfl
theorem asPartsS (a : Addr) (w : World) : (ReflectliteValue.parts (.agg #[hdl 40, .pointer (some a), .int .u64 153])).run Tryd.prog w = .ok (some (40, a, 153)) w := by kernel_rfl
theorem asPartsA (a : Addr) (w : World) : (ReflectliteValue.parts (.agg #[hdl 40, .pointer (some a), .int .u64 409])).run Tryd.prog w = .ok (some (40, a, 409)) w := by kernel_rfl
theorem asLoadP (a p : Addr) (W : World) (ha : W.cell? a = some (.pointer (some p))) : (loadVar 42 a).run Tryd.prog W = .ok (.pointer (some p)) W := by
  simp [loadVar, isAgg, underlying, Tryd.underlying42, ha, Result.andThen]
theorem asIsNil (a p : Addr) (W : World) (ha : W.cell? a = some (.pointer (some p))) :
    (enIsNil #[.agg #[hdl 42, .pointer (some a), .int .u64 150]]).run Tryd.prog W = .ok (.bool false) W := by
  unfold enIsNil
  delta ReflectliteValue.method
  rw [rowOne]
  simp only [Sem.run_bind, asPartsP, Result.andThen]
  simp [ReflectliteValue.isNil, asLoadP a p W ha, Result.andThen]
theorem asElemOfP (w : World) : (Rtype.elem? 42).run Tryd.prog w = .ok (some 40) w := by kernel_rfl
theorem asMkS (p : Addr) (w : World) : (ReflectliteValue.mk 40 p ReflectliteValue.flagAddr).run Tryd.prog w = .ok (.agg #[hdl 40, .pointer (some p), .int .u64 409]) w := by kernel_rfl
theorem asElemV (a p : Addr) (W : World) (ha : W.cell? a = some (.pointer (some p))) :
    (enElemV #[.agg #[hdl 42, .pointer (some a), .int .u64 150]]).run Tryd.prog W = .ok (.agg #[hdl 40, .pointer (some p), .int .u64 409]) W := by
  unfold enElemV
  delta ReflectliteValue.method
  rw [rowOne]
  simp only [Sem.run_bind, asPartsP, Result.andThen]
  simp [ReflectliteValue.elem, asLoadP a p W ha, Result.andThen, asElemOfP, asMkS]
theorem asDirect (w : World) : (Rtype.directlyAssignable 40 40).run Tryd.prog w = .ok true w := by kernel_rfl
theorem asSize (w : World) : (Go.sizeOf 40).run Tryd.prog w = .ok 2 w := by kernel_rfl
theorem asIsAgg (w : World) : (isAgg 40).run Tryd.prog w = .ok true w := by kernel_rfl
theorem asLoadS (b : Nat) (x y : Value) (W : World) (h0 : W.cell? ⟨b, 0, none⟩ = some x) (h1 : W.cell? ⟨b, 1, none⟩ = some y) : (loadVar 40 ⟨b, 0, none⟩).run Tryd.prog W = .ok (.agg #[x, y]) W := by
  simp [loadVar, asIsAgg, asSize, loadCells, loadCellsFrom, Addr.add, h0, h1, Result.andThen]
end Go.Proofs.YtdlgcdoedfbeeaaDoor
