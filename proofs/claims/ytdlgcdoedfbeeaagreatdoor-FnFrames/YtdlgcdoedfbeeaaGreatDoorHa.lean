/-
  Several texts in one: Ies.
-/
import Derived.Test.YtdlgcdoedfbeeaaGreatDoorGs
import Derived.WalkKit
import Derived.LaidEql
import Derived.Stop.Asserts
import Derived.RowKitTokens
/-
  errors.Is and errors.As at the program's own error (a struct that wraps the one sentinel), Go's own text of both walked.
-/
namespace Go.Proofs.YtdlgcdoedfbeeaaGreatDoor
set_option linter.unusedSimpArgs false
set_option linter.unusedVariables false
open Go.RowKit Go.Sort Go.Extern.Stop Go.Stop Go.Extern

/-- The model's entries for internal/reflectlite, under names of their own: what stands in the model's table for each function. -/
noncomputable def enTypeOf : Array Value → Sem Value := (Extern.find Tryz.f52).getD fun _ => pure (.tuple #[])
noncomputable def enComparable : Array Value → Sem Value := (Extern.find Tryz.f114).getD fun _ => pure (.tuple #[])
theorem esTypeOf (v : Value) (w : World) : (enTypeOf #[.iface 144 v]).run Tryz.prog w = .ok (.iface 94 (.agg #[.pointer (some ⟨8, 144, none⟩)])) w := by kernel_rfl
theorem esComparable (w : World) : (enComparable #[.agg #[.pointer (some ⟨8, 144, none⟩)]]).run Tryz.prog w = .ok (.bool true) w := by kernel_rfl
theorem esMethodComparable (v : Value) (w : World) : (Go.method 274 94 v "Comparable").run Tryz.prog w = .ok (114, v) w := by kernel_rfl
theorem esComp : (Tryz.prog.info? 144).map (·.comparable) = some true := by kernel_rfl
theorem esSize : (Tryz.prog.info? 146).map (·.size) = some 1 := by kernel_rfl
theorem esNoIs (v : Value) (xT : TypeId) (w : World) : (Instr.typeAssert (.iface 46 v) xT 114 true).run Tryz.prog w = .ok (.tuple #[.nilIface, .bool false]) w := run_typeAssert_lacksB Tryz.underlying114 (by kernel_rfl) (by kernel_rfl) v xT w
theorem esHasUnwrap (v : Value) (xT : TypeId) (w : World) : (Instr.typeAssert (.iface 46 v) xT 101 true).run Tryz.prog w = .ok (.tuple #[.iface 46 v, .bool true]) w := run_typeAssert_hasB Tryz.underlying101 (by kernel_rfl) v xT w
theorem esMethodUnwrap (v : Value) (w : World) : (Go.method 274 46 v "Unwrap").run Tryz.prog w = .ok (107, v) w := by kernel_rfl

/-- What the error is: where, and the sentinel that it wraps. -/
def errV (n : Int) (a : Addr) : Value := .agg #[.int .i64 n, .iface 144 (.pointer (some a))]

set_option maxHeartbeats 400000 in
/-- errors.Is(nil, the sentinel). -/
theorem is_nil (b : Addr) (w : World) :
    Calls Tryz.prog 35 #[.nilIface, .iface 144 (.pointer (some b))] w fun e w' => e = .returned (.bool false) ∧ w' = w := by
  have hn := run_eql_iface_nil_left (P := Tryz.prog) w 144 (.pointer (some b)) Tryz.underlying42
  go_enter Tryz.func35, Tryz.ntmps35
  go_wp2
  go_ret
  exact ⟨rfl, rfl⟩

set_option maxHeartbeats 1600000 in
/-- errors.Is(the error, the sentinel that it wraps). -/
theorem is_wrapped (n : Int) (a : Addr) (w : World) :
    Calls Tryz.prog 35 #[.iface 46 (errV n a), .iface 144 (.pointer (some a))] w fun e w' => e = .returned (.bool true) ∧ Below w.heap.size w w' := by
  obtain ⟨i, hi, hcmp⟩ := Option.map_eq_some_iff.1 esComp
  obtain ⟨j, hj, hjs⟩ := Option.map_eq_some_iff.1 esSize
  have h8 := @run_callFunc_extern Tryz.prog 52 _ enTypeOf Tryz.func52 (by kernel_rfl) (by kernel_rfl) (by kernel_rfl) (by kernel_rfl)
  have h32 := @run_callFunc_extern Tryz.prog 114 _ enComparable Tryz.func114 (by kernel_rfl) (by kernel_rfl) (by kernel_rfl) (by kernel_rfl)
  have tT := esTypeOf
  have cT := esComparable
  have mR := esMethodComparable
  have nE := esNoIs
  have uW := esHasUnwrap
  have mU := esMethodUnwrap
  have heq : ∀ w, (binOp .eql 42 (.iface 144 (.pointer (some a))) (.iface 144 (.pointer (some a)))).run Tryz.prog w = .ok (.bool true) w := fun w => run_eql_iface_ptr_same (P := Tryz.prog) w a Tryz.underlying42 Tryz.underlying144 hi hcmp hj
  have hty : ∀ w, (binOp .eql 42 (.iface 46 (errV n a)) (.iface 144 (.pointer (some a)))).run Tryz.prog w = .ok (.bool false) w := fun w => run_eql_iface_types (P := Tryz.prog) 46 144 (errV n a) (.pointer (some a)) Tryz.underlying42 (by decide) w
  unfold errV at *
  go_enter Tryz.func35, Tryz.ntmps35
  go_wp2
  refine wp_loop_rounds 2 ?_
  rw [rounds_succ]
  go_wp2
  rw [rounds_succ]
  go_wp2
  go_ret
  exact ⟨rfl, (Below.refl _ _).alloc (Nat.le_refl _) _⟩

/-! ### errors.As at the target of the program's own type -/
noncomputable def enValueOf : Array Value → Sem Value := (Extern.find Tryz.f36).getD fun _ => pure (.tuple #[])
noncomputable def enType : Array Value → Sem Value := (Extern.find Tryz.f37).getD fun _ => pure (.tuple #[])
noncomputable def enIsNil : Array Value → Sem Value := ReflectliteValue.method (ReflectliteValue.valueError "reflectlite.Value.IsNil" 0) ReflectliteValue.isNil
noncomputable def enKind : Array Value → Sem Value := (Extern.find Tryz.f103).getD fun _ => pure (.tuple #[])
noncomputable def enElem : Array Value → Sem Value := (Extern.find Tryz.f115).getD fun _ => pure (.tuple #[])
noncomputable def enImplements : Array Value → Sem Value := (Extern.find Tryz.f116).getD fun _ => pure (.tuple #[])
noncomputable def enAssignable : Array Value → Sem Value := (Extern.find Tryz.f113).getD fun _ => pure (.tuple #[])
noncomputable def enElemV : Array Value → Sem Value := ReflectliteValue.method (ReflectliteValue.valueError "reflectlite.Value.Elem" 0) ReflectliteValue.elem
noncomputable def enSet : Array Value → Sem Value := ReflectliteValue.set
/-- The handle of a type. -/
abbrev hdl (t : TypeId) : Value := .pointer (some ⟨8, t, none⟩)

theorem asValueOfP (t : Addr) (w : World) : (enValueOf #[.iface 48 (.pointer (some t))]).run Tryz.prog w
    = .ok (.agg #[hdl 48, .pointer (some ⟨w.heap.size, 0, none⟩), .int .u64 150]) (w.alloc (.cells #[.pointer (some t)] 48)) := by kernel_rfl
theorem asTypeP (a : Addr) (w : World) : (enType #[.agg #[hdl 48, .pointer (some a), .int .u64 150]]).run Tryz.prog w = .ok (.iface 94 (.agg #[hdl 48])) w := by kernel_rfl
theorem asMethodKind (h : Value) (w : World) : (Go.method 274 94 (.agg #[h]) "Kind").run Tryz.prog w = .ok (103, h) w := by kernel_rfl
theorem asKindP (w : World) : (enKind #[hdl 48]).run Tryz.prog w = .ok (.int .u8 22) w := by kernel_rfl
theorem asKindS (w : World) : (enKind #[hdl 46]).run Tryz.prog w = .ok (.int .u8 25) w := by kernel_rfl
theorem asMethodElem (h : Value) (w : World) : (Go.method 274 94 (.agg #[h]) "Elem").run Tryz.prog w = .ok (115, .agg #[h]) w := by kernel_rfl
theorem asMethodImplements (h : Value) (w : World) : (Go.method 274 94 (.agg #[h]) "Implements").run Tryz.prog w = .ok (116, .agg #[h]) w := by kernel_rfl
theorem asMethodAssignable (h : Value) (w : World) : (Go.method 274 94 (.agg #[h]) "AssignableTo").run Tryz.prog w = .ok (113, .agg #[h]) w := by kernel_rfl
theorem asElemP (w : World) : (enElem #[.agg #[hdl 48]]).run Tryz.prog w = .ok (.iface 94 (.agg #[hdl 46])) w := by kernel_rfl
theorem asImplements (w : World) : (enImplements #[.agg #[hdl 46], .iface 94 (.agg #[hdl 42])]).run Tryz.prog w = .ok (.bool true) w := by kernel_rfl
theorem asTypeOfS (v : Value) (w : World) : (enTypeOf #[.iface 46 v]).run Tryz.prog w = .ok (.iface 94 (.agg #[hdl 46])) w := by kernel_rfl
theorem asAssignable (w : World) : (enAssignable #[.agg #[hdl 46], .iface 94 (.agg #[hdl 46])]).run Tryz.prog w = .ok (.bool true) w := by kernel_rfl
theorem asValueOfS (n : Int) (a : Addr) (w : World) : (enValueOf #[.iface 46 (errV n a)]).run Tryz.prog w
    = .ok (.agg #[hdl 46, .pointer (some ⟨w.heap.size, 0, none⟩), .int .u64 153]) (w.alloc (.cells #[.int .i64 n, .iface 144 (.pointer (some a))] 46)) := by kernel_rfl

/-- A row of one, or of two, values met with its own pattern. -/
theorem rowOne (v : Value) (h1 : Value → Sem Value) (h2 : Array Value → Sem Value) : ReflectliteValue.method.match_2 (fun _ => Sem Value) #[v] h1 h2 = h1 v := rfl
theorem rowTwo (v x : Value) (h1 : Value → Value → Sem Value) (h2 : Array Value → Sem Value) : ReflectliteValue.set.match_3 (fun _ => Sem Value) #[v, x] h1 h2 = h1 v x := rfl
theorem asPartsP (a : Addr) (w : World) : (ReflectliteValue.parts (.agg #[hdl 48, .pointer (some a), .int .u64 150])).run Tryz.prog w = .ok (some (48, a, 150)) w := by kernel_rfl
theorem asPartsS (a : Addr) (w : World) : (ReflectliteValue.parts (.agg #[hdl 46, .pointer (some a), .int .u64 153])).run Tryz.prog w = .ok (some (46, a, 153)) w := by kernel_rfl
theorem asPartsA (a : Addr) (w : World) : (ReflectliteValue.parts (.agg #[hdl 46, .pointer (some a), .int .u64 409])).run Tryz.prog w = .ok (some (46, a, 409)) w := by kernel_rfl
theorem asLoadP (a p : Addr) (W : World) (ha : W.cell? a = some (.pointer (some p))) : (loadVar 48 a).run Tryz.prog W = .ok (.pointer (some p)) W := by
  simp [loadVar, isAgg, underlying, Tryz.underlying48, ha, Result.andThen]
theorem asIsNil (a p : Addr) (W : World) (ha : W.cell? a = some (.pointer (some p))) :
    (enIsNil #[.agg #[hdl 48, .pointer (some a), .int .u64 150]]).run Tryz.prog W = .ok (.bool false) W := by
  unfold enIsNil
  delta ReflectliteValue.method
  rw [rowOne]
  simp only [Sem.run_bind, asPartsP, Result.andThen]
  simp [ReflectliteValue.isNil, asLoadP a p W ha, Result.andThen]
theorem asElemOfP (w : World) : (Rtype.elem? 48).run Tryz.prog w = .ok (some 46) w := by kernel_rfl
theorem asMkS (p : Addr) (w : World) : (ReflectliteValue.mk 46 p ReflectliteValue.flagAddr).run Tryz.prog w = .ok (.agg #[hdl 46, .pointer (some p), .int .u64 409]) w := by kernel_rfl
theorem asElemV (a p : Addr) (W : World) (ha : W.cell? a = some (.pointer (some p))) :
    (enElemV #[.agg #[hdl 48, .pointer (some a), .int .u64 150]]).run Tryz.prog W = .ok (.agg #[hdl 46, .pointer (some p), .int .u64 409]) W := by
  unfold enElemV
  delta ReflectliteValue.method
  rw [rowOne]
  simp only [Sem.run_bind, asPartsP, Result.andThen]
  simp [ReflectliteValue.elem, asLoadP a p W ha, Result.andThen, asElemOfP, asMkS]
theorem asDirect (w : World) : (Rtype.directlyAssignable 46 46).run Tryz.prog w = .ok true w := by kernel_rfl
theorem asSize (w : World) : (Go.sizeOf 46).run Tryz.prog w = .ok 2 w := by kernel_rfl
theorem asIsAgg (w : World) : (isAgg 46).run Tryz.prog w = .ok true w := by kernel_rfl
theorem asLoadS (b : Nat) (x y : Value) (W : World) (h0 : W.cell? ⟨b, 0, none⟩ = some x) (h1 : W.cell? ⟨b, 1, none⟩ = some y) : (loadVar 46 ⟨b, 0, none⟩).run Tryz.prog W = .ok (.agg #[x, y]) W := by
  simp [loadVar, asIsAgg, asSize, loadCells, loadCellsFrom, Addr.add, h0, h1, Result.andThen]
end Go.Proofs.YtdlgcdoedfbeeaaGreatDoor
