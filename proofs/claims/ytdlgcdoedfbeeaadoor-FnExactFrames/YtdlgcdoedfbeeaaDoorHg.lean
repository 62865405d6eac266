/-
  Several texts in one: Igl.
-/
import Derived.Test.YtdlgcdoedfbeeaaDoorHf
import Derived.Test.YtdlgcdoedfbeeaaDoorHe
/-
  From what the rows list of the package-level variables to what the walks ask: the sentinels and the handle of the type error.
-/
namespace Go.Proofs.YtdlgcdoedfbeeaaDoor
set_option linter.unusedSimpArgs false
set_option linter.unusedVariables false
open Go.RowKit Go.Sort

theorem gErr : Tryd.prog.globalNamed "loop.example/g00266/impl.errNoFrame" = some 0 := by kernel_rfl
theorem gErrType : (Tryd.prog.globals[0]?).map (·.type) = some 36 := by kernel_rfl
theorem gSyn : Tryd.prog.globalNamed "strconv.ErrSyntax" = some 6 := by kernel_rfl
theorem gSynType : (Tryd.prog.globals[6]?).map (·.type) = some 36 := by kernel_rfl
theorem gRng : Tryd.prog.globalNamed "strconv.ErrRange" = some 7 := by kernel_rfl
theorem gRngType : (Tryd.prog.globals[7]?).map (·.type) = some 36 := by kernel_rfl
theorem cellsES : Tryd.prog.cellsOf 124 = 1 := by kernel_rfl
theorem cellsStr : Tryd.prog.cellsOf 9 = 1 := by kernel_rfl
theorem starES : "*" ++ "errors.errorString" = "*errors.errorString" := by decide
theorem rowES (u : TypeId) (h : Tryd.prog.typeName? 3 u = some "*errors.errorString") : u = 122 :=
  typeName_ptr_named (nm := "errors.errorString") (by rw [starES]; kernel_rfl) (by kernel_rfl) (by decide) u (by rw [starES]; exact h)
theorem gTyp : Tryd.prog.globalNamed "errors.errorType" = some 1 := by kernel_rfl
theorem rtRow : (Tryd.prog.cutTypes.find? (·.1 == "internal/reflectlite.rtype")).map (·.2) = some 78 := by kernel_rfl
theorem nTypes : Tryd.prog.types.size = 153 := by kernel_rfl
theorem oneRow : ((List.range 153).filter fun t => Tryd.prog.rowNamed t [101, 114, 114, 111, 114]) = [36] := by kernel_rfl

/-- What the rows of Frames list. -/
def laidF : List (String × DataW Unit) := [("math/bits.deBruijn32tab", Rows.laid_math_bits_deBruijn32tab), ("math/bits.deBruijn64tab", Rows.laid_math_bits_deBruijn64tab), ("internal/strconv.uint64pow10", Rows.laid_internal_strconv_uint64pow10), ("errors.errorType", Rows.laid_errors_errorType), ("strconv.ErrRange", Rows.laid_strconv_ErrRange), ("strconv.ErrSyntax", Rows.laid_strconv_ErrSyntax), ("loop.example/g00266/impl.errNoFrame", Rows.laid_loop_example_g00266_impl_errNoFrame)]
theorem laidF_parts (W : World) : laidMetH Tryd.prog laidF W = (laidMet Tryd.prog [("math/bits.deBruijn32tab", Rows.laid_math_bits_deBruijn32tab), ("math/bits.deBruijn64tab", Rows.laid_math_bits_deBruijn64tab), ("internal/strconv.uint64pow10", Rows.laid_internal_strconv_uint64pow10), ("strconv.ErrRange", Rows.laid_strconv_ErrRange), ("strconv.ErrSyntax", Rows.laid_strconv_ErrSyntax), ("loop.example/g00266/impl.errNoFrame", Rows.laid_loop_example_g00266_impl_errNoFrame)] W ∧ handlesMet Tryd.prog [("errors.errorType", Rows.laid_errors_errorType)] W) := by kernel_rfl
theorem glob_of_laid {W : World} (h : laidMetH Tryd.prog laidF W) : ∃ a, Glob a W ∧ W.var? Tryd.prog "loop.example/g00266/impl.errNoFrame" = some #[.iface 122 (.pointer (some a))] := by
  rw [laidF_parts] at h
  obtain ⟨h1, h2⟩ := h
  obtain ⟨ar, sr, hr, -, -, -⟩ := laid_sentinel h1.tail.tail.tail gRng gRngType Tryd.underlying36 rowES Tryd.underlying122 Tryd.underlying124 rfl rfl Tryd.underlying9 cellsES cellsStr
  obtain ⟨ay, ss, hs, -, -, -⟩ := laid_sentinel h1.tail.tail.tail.tail gSyn gSynType Tryd.underlying36 rowES Tryd.underlying122 Tryd.underlying124 rfl rfl Tryd.underlying9 cellsES cellsStr
  obtain ⟨ae, se, he, -, -, -⟩ := laid_sentinel h1.tail.tail.tail.tail.tail gErr gErrType Tryd.underlying36 rowES Tryd.underlying122 Tryd.underlying124 rfl rfl Tryd.underlying9 cellsES cellsStr
  have ht : W.cell? ⟨1, 0, none⟩ = some (.iface 78 (.agg #[hdl 36])) := by
    obtain ⟨name, u, ty, e1, e2, e3, e4, e5⟩ := h2 _ (List.mem_singleton.2 rfl)
    have en : name = [101, 114, 114, 111, 114] := (Option.some.inj e1).symm
    subst en
    obtain rfl := Option.some.inj (rtRow.symm.trans e2)
    have hm : ty ∈ (List.range 153).filter fun t => Tryd.prog.rowNamed t [101, 114, 114, 111, 114] := List.mem_filter.2 ⟨List.mem_range.2 (by rw [← nTypes]; exact e3), e4⟩
    rw [oneRow] at hm
    obtain rfl := List.mem_singleton.1 hm
    have hh : typeHandle Tryd.prog 36 = hdl 36 := by kernel_rfl
    rw [hh] at e5
    simpa using World.var?_cell gTyp e5 0
  exact ⟨ae, ⟨tab_of_laid h1.tail.tail, ⟨_, _, by simpa using World.var?_cell gSyn hs 0⟩, ⟨_, _, by simpa using World.var?_cell gRng hr 0⟩, by simpa using World.var?_cell gErr he 0, ht⟩, he⟩
end Go.Proofs.YtdlgcdoedfbeeaaDoor
