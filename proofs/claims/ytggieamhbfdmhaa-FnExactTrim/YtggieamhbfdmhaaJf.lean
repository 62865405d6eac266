/-
  Several texts in one: Rlr Rlo.
-/
import Derived.Test.YtggieamhbfdmhaaJe
import Derived.Test.YtggieamhbfdmhaaHy
import Derived.Test.YtggieamhbfdmhaaHh
/-
  Lists of lists in memory; the specification's l1Has, l1Rises and RelayOk.
-/
namespace Go.Proofs.Ytggieamhbfdmhaa
set_option linter.unusedVariables false
set_option linter.unusedSimpArgs false
open Go.RowKit Go.Sort

/-- A slice of slices of numbers, to be read. -/
structure VV (w : World) (a : Option Addr) (len cap : Nat) (H : List (List Int)) : Prop where
  n : H.length = len
  le : len ≤ cap
  mx : cap ≤ maxLen
  row : ∀ i, i < len → ∃ b off x c, a = some ⟨b, off, none⟩ ∧ w.cell? ⟨b, off + i, none⟩ = some (.slice x (row H i).length c) ∧ Vec w x (row H i).length (row H i) ∧ (row H i).length ≤ c ∧ c ≤ maxLen
theorem VV.drewN {w : World} {a : Option Addr} {len cap : Nat} {H : List (List Int)} (h : VV w a len cap H) (n : Nat) : VV (w.drewN n) a len cap H := ⟨h.n, h.le, h.mx, h.row⟩
theorem el_mem10 {xs : List Int} {x : Int} : x ∈ xs ↔ ∃ j, j < xs.length ∧ el xs j = x := by
  constructor
  · intro h
    obtain ⟨i, hi, rfl⟩ := List.getElem_of_mem h
    exact ⟨i, hi, by rw [el_eq hi]⟩
  · rintro ⟨j, hj, rfl⟩
    exact el_mem hj
def risB (xs : List Int) : Bool := decide (∀ i, i < xs.length - 1 → el xs i < el xs (i + 1))

end Go.Proofs.Ytggieamhbfdmhaa

/-
  The specification's RelayOk.
-/
namespace Go.Proofs.Ytggieamhbfdmhaa
set_option linter.unusedVariables false
set_option linter.unusedSimpArgs false
open Go.RowKit Go.Sort

/-- A relay as a value. -/
def rlV (N B : Int) (a : Option Addr) (len cap : Nat) : Value := .agg #[.int .i64 N, .int .i64 B, .slice a len cap]
theorem mixedR : Try.prog.follows .mixedOrders = true := by kernel_rfl
theorem VV.grew {w w' : World} {a : Option Addr} {len cap : Nat} {H : List (List Int)} (h : VV w a len cap H) (hg : Grew w w') : VV w' a len cap H :=
  ⟨h.n, h.le, h.mx, fun i hi => by
    obtain ⟨b, off, x, c, e, h1, h2, h3, h4⟩ := h.row i hi
    exact ⟨b, off, x, c, e, hg.cell h1, h2.below hg.1 (Nat.le_refl _), h3, h4⟩⟩

end Go.Proofs.Ytggieamhbfdmhaa
