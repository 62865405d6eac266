/-
  Several texts in one: Opw.
-/
import Derived.Test.YtkompamocpnefaaIk
import Derived.Lib.SmallJoins
import Derived.OpenShut
import Derived.ChangeOld
/-
  How a window that comes in is read.
-/
namespace Go.Proofs.Ytkompamocpnefaa
set_option linter.unusedVariables false
set_option linter.unusedSimpArgs false
open Go.ChangeShapes Go.WideShapes Go.ChangeAt Go.RowKit

theorem open_win {H : Type} {enc : TypeId × Value → H} {W : World} {base : Nat} {v : Value} {d : DataW H} {p : List MemPlace} (hv : Value.okWide Try.prog W .any base 43 v) (h : DataW.Trod enc Try.prog W 0 (fun _ => true) true 43 v d p) :
    ∃ sz st a len cap zs, v = wiV sz st a len cap ∧ I64w sz ∧ I64w st ∧ IsRow .i64 W a len cap zs := by
  obtain ⟨c0, c1, c2, y0, y1, y2, n, rfl, rfl, rfl, g0, g1, g2⟩ := Joins.open_agg3 Try.underlying43 (by kernel_rfl) (by kernel_rfl) hv h
  obtain ⟨i0, e0, _, b0⟩ := DataW.trod_int Try.underlying2 g0
  obtain ⟨i1, e1, _, b1⟩ := DataW.trod_int Try.underlying2 g1
  simp at e0 e1
  subst e0 e1
  rcases open_ints Try.underlying24 Try.underlying2 (by kernel_rfl) g2 with ⟨hcs, _⟩ | ⟨x, l, c, zs, hcs, _, hl, hm, hz, _, hcell, hwz⟩
  · simp at hcs
    subst hcs
    exact ⟨i0, i1, none, 0, 0, [], rfl, bounds_i64 b0, bounds_i64 b1, .inl ⟨rfl, rfl, rfl, rfl⟩⟩
  · simp at hcs
    subst hcs
    exact ⟨i0, i1, some x, l, c, zs, rfl, bounds_i64 b0, bounds_i64 b1, .inr ⟨x, rfl, hl, hm, by simpa using hz, hcell, hwz⟩⟩
end Go.Proofs.Ytkompamocpnefaa
