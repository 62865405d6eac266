/-
  Several texts in one: Jgl.
-/
import Derived.Test.YtbnpliobigjapaaDoorHf
import Derived.Test.YtbnpliobigjapaaDoorLn
/-
  From what the rows list of the package-level variables to what the walks ask: the sentinels, the table of powers of ten.
-/
namespace Go.Proofs.YtbnpliobigjapaaDoor
set_option linter.unusedSimpArgs false
set_option linter.unusedVariables false
open Go.RowKit Go.Sort

theorem gErr : Tryd.prog.globalNamed "loop.example/g00266/impl.errNoFrame" = some 0 := by kernel_rfl
theorem gErrType : (Tryd.prog.globals[0]?).map (·.type) = some 62 := by kernel_rfl
theorem gSyn : Tryd.prog.globalNamed "strconv.ErrSyntax" = some 3 := by kernel_rfl
theorem gSynType : (Tryd.prog.globals[3]?).map (·.type) = some 62 := by kernel_rfl
theorem gRng : Tryd.prog.globalNamed "strconv.ErrRange" = some 4 := by kernel_rfl
theorem gRngType : (Tryd.prog.globals[4]?).map (·.type) = some 62 := by kernel_rfl
theorem cellsES : Tryd.prog.cellsOf 136 = 1 := by kernel_rfl
theorem cellsStr : Tryd.prog.cellsOf 9 = 1 := by kernel_rfl
theorem starES : "*" ++ "errors.errorString" = "*errors.errorString" := by decide
theorem rowES (u : TypeId) (h : Tryd.prog.typeName? 3 u = some "*errors.errorString") : u = 134 :=
  typeName_ptr_named (nm := "errors.errorString") (by rw [starES]; kernel_rfl) (by kernel_rfl) (by decide) u (by rw [starES]; exact h)
/-- What the rows of Recovered list. -/
def laidB : List (String × DataW Unit) := [("math/bits.deBruijn32tab", Rows.laid_math_bits_deBruijn32tab), ("math/bits.deBruijn64tab", Rows.laid_math_bits_deBruijn64tab), ("internal/strconv.uint64pow10", Rows.laid_internal_strconv_uint64pow10), ("strconv.ErrRange", Rows.laid_strconv_ErrRange), ("strconv.ErrSyntax", Rows.laid_strconv_ErrSyntax), ("loop.example/g00266/impl.errNoFrame", Rows.laid_loop_example_g00266_impl_errNoFrame)]
theorem laidB_parts (W : World) : laidMetH Tryd.prog laidB W = laidMet Tryd.prog laidB W := by kernel_rfl
theorem glB_of_laid {W : World} (h : laidMetH Tryd.prog laidB W) : ∃ a, GlB a W ∧ W.var? Tryd.prog "loop.example/g00266/impl.errNoFrame" = some #[.iface 134 (.pointer (some a))] := by
  rw [laidB_parts] at h
  have h1 := h
  unfold laidB at h1
  obtain ⟨ar, sr, hr, -, -, -⟩ := laid_sentinel h1.tail.tail.tail gRng gRngType Tryd.underlying62 rowES Tryd.underlying134 Tryd.underlying136 rfl rfl Tryd.underlying9 cellsES cellsStr
  obtain ⟨ay, ss, hs, -, -, -⟩ := laid_sentinel h1.tail.tail.tail.tail gSyn gSynType Tryd.underlying62 rowES Tryd.underlying134 Tryd.underlying136 rfl rfl Tryd.underlying9 cellsES cellsStr
  obtain ⟨ae, se, he, -, -, -⟩ := laid_sentinel h1.tail.tail.tail.tail.tail gErr gErrType Tryd.underlying62 rowES Tryd.underlying134 Tryd.underlying136 rfl rfl Tryd.underlying9 cellsES cellsStr
  exact ⟨ae, ⟨tab_of_laid h1.tail.tail, ⟨_, _, by simpa using World.var?_cell gSyn hs 0⟩, ⟨_, _, by simpa using World.var?_cell gRng hr 0⟩, by simpa using World.var?_cell gErr he 0⟩, he⟩
/-- What the rows of ShowLog list. -/
def laidT : List (String × DataW Unit) := [("math/bits.deBruijn32tab", Rows.laid_math_bits_deBruijn32tab), ("math/bits.deBruijn64tab", Rows.laid_math_bits_deBruijn64tab), ("internal/strconv.uint64pow10", Rows.laid_internal_strconv_uint64pow10)]
theorem laidT_parts (W : World) : laidMetH Tryd.prog laidT W = laidMet Tryd.prog laidT W := by kernel_rfl
theorem tabT_of_laid {W : World} (h : laidMetH Tryd.prog laidT W) : Tab W := by
  rw [laidT_parts] at h
  have h1 := h
  unfold laidT at h1
  exact tab_of_laid h1.tail.tail
end Go.Proofs.YtbnpliobigjapaaDoor
