/-
  Several texts in one: Lgs.
-/
import Derived.Test.YtgaibngaincahaaKv
import Derived.Test.YtgaibngaincahaaKw
import Derived.Test.YtgaibngaincahaaHy
import Derived.BigQuiet
/-
  Logs in memory; the specification's LogOk, l12Copy, TextAt.
-/
namespace Go.Proofs.Ytgaibngaincahaa
set_option linter.unusedVariables false
set_option linter.unusedSimpArgs false
open Go.RowKit Go.Sort

/-- A log as a value. -/
def lgV (F : Int) (a : Option Addr) (n c : Nat) : Value := .agg #[.int .i64 F, .slice a n c]
theorem Bx.r2 {w : World} {B : Nat} {T : TypeId} {x y : Value} (h : Bx w B T #[x, y]) : w.cell? ⟨B, 0, none⟩ = some x ∧ w.cell? ⟨B, 1, none⟩ = some y := ⟨h.at 0 rfl, h.at 1 rfl⟩
theorem below2 {B g : Nat} {w w' : World} (h : Below B w w') (hg : B ≤ g) {x y : Value} : Below B w ((w'.setCell ⟨g, 0, none⟩ x).setCell ⟨g, 1, none⟩ y) :=
  (h.setCell (p := ⟨g, 0, none⟩) hg x).setCell (p := ⟨g, 1, none⟩) hg y
theorem wrt2 (w : World) (g : Nat) {x y : Value} : Wrt (fun b => b = g) w ((w.setCell ⟨g, 0, none⟩ x).setCell ⟨g, 1, none⟩ y) :=
  (Wrt.set w g 0 x).trans (Wrt.set _ g 1 y) (fun _ _ h => h)
theorem oneA (w : World) (o : Obj) : Below w.heap.size w (w.alloc o) := (Below.refl _ _).alloc (Nat.le_refl _) _
/-- A log as an answer, in memory of its own. -/
def AnsLg (w w' : World) (e : Ending) (l : Lg) : Prop := ∃ a c, e = .returned (lgV l.1 a l.2.length c) ∧ NewO w w' (scl l.2) (.slice a l.2.length c)
def AnsLb (w w' : World) (e : Ending) (l : Lg × Bool) : Prop := ∃ a c, e = .returned (.tuple #[lgV l.1.1 a l.1.2.length c, .bool l.2]) ∧ NewO w w' (scl l.1.2) (.slice a l.1.2.length c)
theorem newO_nil {w w' : World} (hb : Below w.heap.size w w') : NewO w w' (scl []) (.slice none 0 0) := ⟨fun _ => False, ow_scl.2 ⟨none, 0, none, rfl, OSo.nil _ _ plainN, fun b => by simp⟩, fun _ h => absurd h id, hb⟩
/-- A list of texts is copied behind a list without an element. -/
theorem txs_copied {P : Program} {w : World} (t ty e : TypeId) (i : TypeInfo) (ht : P.underlying t = some (.slice e)) (hi : P.info? e = some i) (hz : i.zero = some (.string ⟨#[]⟩)) (hsize : i.size = 1) (hby : i.bytes = 16)
    {a : Option Addr} (ha : PlainA a) {x : Option Addr} {c : Nat} {T : List (List UInt8)} (hv : TxS w x T) (hm : T.length ≤ 1048576) :
    ∃ a' c' w' fp', (Builtin.append_ #[t, t] ty #[.slice a 0 0, .slice x T.length c]).run P w = .ok (.slice a' T.length c') w' ∧ Cel.ow w' (scl T) (.slice a' T.length c') fp' ∧ Wrt (fun _ => False) w w' ∧ ∀ b, fp' b → b = w.heap.size := by
  obtain ⟨a', c', G', w', hr, ho', hg, hat⟩ := run_append_oo (P := P) w t ty e i _ 1 16 ht hi hz hsize hby rfl (by omega) a 0 0 [] none (OSo.nil _ _ ha) x T.length c (svs T) (by rw [svs_len]; omega) hv.news (svs_one T) (by unfold maxLen; omega) (by omega)
  simp only [Nat.zero_add, List.nil_append] at hr ho'
  refine ⟨a', c', w', fun b => G' = some b, hr, ow_scl.2 ⟨a', c', G', rfl, ho', fun b => Iff.rfl⟩, (Wrt.of_grown hg).mono (fun b _ hb => by cases hb), fun b hb => ?_⟩
  rcases hat with h | h
  · rw [h] at hb; cases hb
  · rw [h] at hb; cases hb; rfl

attribute [local irreducible] sv
end Go.Proofs.Ytgaibngaincahaa
