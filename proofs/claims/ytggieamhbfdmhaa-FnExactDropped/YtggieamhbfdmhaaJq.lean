/-
  Several texts in one: Rtn.
-/
import Derived.Test.YtggieamhbfdmhaaJp
/-
  The contract of the specification's Turn.
-/
namespace Go.Proofs.Ytggieamhbfdmhaa
set_option linter.unusedVariables false
set_option linter.unusedSimpArgs false
open Go.RowKit Go.Sort

/-- A list of passes, to be read. -/
def PsS (w : World) (a : Option Addr) (n : Nat) (cs : List Ps) : Prop := cs.length = n ∧ (n = 0 ∨ ∃ b off, a = some ⟨b, off, none⟩ ∧ ∀ i, i < n → w.cell? ⟨b, off + i * 3, none⟩ = some (.int .i64 (pat cs i).1) ∧ w.cell? ⟨b, off + i * 3 + 1, none⟩ = some (.int .i64 (pat cs i).2.1) ∧ w.cell? ⟨b, off + i * 3 + 2, none⟩ = some (.int .i64 (pat cs i).2.2))
theorem PsS.below {w w' : World} {a : Option Addr} {n : Nat} {cs : List Ps} (h : PsS w a n cs) (hb : Below w.heap.size w w') : PsS w' a n cs := by
  refine ⟨h.1, ?_⟩
  rcases h.2 with h | ⟨b, off, ha, hc⟩
  · exact .inl h
  · exact .inr ⟨b, off, ha, fun i hi => by
      obtain ⟨h0, h1, h2⟩ := hc i hi
      exact ⟨(hb.cell (World.block_lt_of_cell? _ _ h0)).trans h0, (hb.cell (World.block_lt_of_cell? _ _ h1)).trans h1, (hb.cell (World.block_lt_of_cell? _ _ h2)).trans h2⟩⟩

theorem map_row {Z : List (List Int)} {t : Nat} (ht : t < Z.length) : (Z.map icl)[t]? = some (icl (row Z t)) := by
  rw [List.getElem?_map, List.getElem?_eq_getElem ht]
  simp [row, List.getD, ht]
end Go.Proofs.Ytggieamhbfdmhaa
