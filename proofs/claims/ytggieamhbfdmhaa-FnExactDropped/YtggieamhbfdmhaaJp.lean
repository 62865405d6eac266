/-
  Several texts in one: Rnr Rpn.
-/
import Derived.Test.YtggieamhbfdmhaaJi
import Derived.Test.YtggieamhbfdmhaaJn
import Derived.Test.YtggieamhbfdmhaaJh
/-
  The contract of the specification's NewRelay.
-/
namespace Go.Proofs.Ytggieamhbfdmhaa
set_option linter.unusedVariables false
set_option linter.unusedSimpArgs false
open Go.RowKit Go.Sort

/-- A relay and a flag as an answer, in memory of its own. -/
def AnsRl (w w' : World) (e : Ending) (R : (Int × Int × List (List Int)) × Bool) : Prop := ∃ a c, e = .returned (.tuple #[rlV R.1.1 R.1.2.1 a R.1.2.2.length c, .bool R.2]) ∧ NewO w w' (iicl R.1.2.2) (.slice a R.1.2.2.length c)
theorem infoSl10 : (Try.prog.info? 24).map (fun i => (i.zero, i.size, i.bytes)) = some (some (.slice none 0 0), 1, 24) := by kernel_rfl
theorem Bx.r3 {w : World} {B : Nat} {T : TypeId} {x y v : Value} (h : Bx w B T #[x, y, v]) : w.cell? ⟨B, 0, none⟩ = some x ∧ w.cell? ⟨B, 1, none⟩ = some y ∧ w.cell? ⟨B, 2, none⟩ = some v := ⟨h.at 0 rfl, h.at 1 rfl, h.at 2 rfl⟩
/-- Three stores into one block. -/
theorem below3 {B g : Nat} {w w' : World} (h : Below B w w') (hg : B ≤ g) {x y z : Value} : Below B w (((w'.setCell ⟨g, 0, none⟩ x).setCell ⟨g, 1, none⟩ y).setCell ⟨g, 2, none⟩ z) :=
  ((h.setCell (p := ⟨g, 0, none⟩) hg x).setCell (p := ⟨g, 1, none⟩) hg y).setCell (p := ⟨g, 2, none⟩) hg z
theorem wrt3 (w : World) (g : Nat) {x y z : Value} : Wrt (fun b => b = g) w (((w.setCell ⟨g, 0, none⟩ x).setCell ⟨g, 1, none⟩ y).setCell ⟨g, 2, none⟩ z) :=
  ((Wrt.set w g 0 x).trans (Wrt.set _ g 1 y) (fun _ _ h => h)).trans (Wrt.set _ g 2 z) (fun _ _ h => h)
theorem owL_nils {w : World} : ∀ n, owL w (List.replicate n (icl [])) (List.replicate n (.slice none 0 0)) (fun _ => False)
  | 0 => ⟨rfl, fun _ h => h⟩
  | n + 1 => ⟨.slice none 0 0, List.replicate n (.slice none 0 0), fun _ => False, fun _ => False, rfl, ow_icl.2 ⟨none, 0, none, rfl, OSo.nil w 1 plainN, fun b => by simp⟩, owL_nils n, fun _ h => absurd h id, fun b => by simp⟩

theorem one_alloc10 (w : World) (o : Obj) : Below w.heap.size w (w.alloc o) := (Below.refl _ _).alloc (Nat.le_refl _) _
def ints (B : Nat) : List Int := (List.range B).map (fun i : Nat => (i : Int))
theorem ints_succ (k : Nat) : ints (k + 1) = ints k ++ [(k : Int)] := by simp [ints, List.range_succ]
theorem ints_len (k : Nat) : (ints k).length = k := by simp [ints]

end Go.Proofs.Ytggieamhbfdmhaa

/-
  The specification's l1Put onto a list without an element; and onto any.
-/
namespace Go.Proofs.Ytggieamhbfdmhaa
set_option linter.unusedVariables false
set_option linter.unusedSimpArgs false
open Go.RowKit Go.Sort

end Go.Proofs.Ytggieamhbfdmhaa
