/-
  Several texts in one: Dhl.
-/
import Derived.Test.YtgaibngaincahaaIw
import Derived.Test.YtgaibngaincahaaJn
/-
  A draw that holds one struct of a number and a list: the cursor, the answer's room, the struct's own block (general: logs, views).
-/
namespace Go.Proofs.Ytgaibngaincahaa
set_option linter.unusedVariables false
set_option linter.unusedSimpArgs false
open Go.RowKit Go.Sort

theorem bx2 {w : World} {B : Nat} {T : TypeId} {x y : Value} (h : Bx w B T #[x, y]) : w.cell? ⟨B, 0, none⟩ = some x ∧ w.cell? ⟨B, 1, none⟩ = some y := ⟨h.at 0 rfl, h.at 1 rfl⟩
theorem setw2 (w : World) (g : Nat) {x y : Value} : Wrt (fun b => b = g) w ((w.setCell ⟨g, 0, none⟩ x).setCell ⟨g, 1, none⟩ y) :=
  (Wrt.set w g 0 x).trans (Wrt.set _ g 1 y) (fun _ _ h => h)
theorem setb2 {B g : Nat} {w w' : World} (h : Below B w w') (hg : B ≤ g) {x y : Value} : Below B w ((w'.setCell ⟨g, 0, none⟩ x).setCell ⟨g, 1, none⟩ y) :=
  (h.setCell (p := ⟨g, 0, none⟩) hg _).setCell (p := ⟨g, 1, none⟩) hg _
/-- What such a draw holds: the answer's room in block R, the struct in block B. -/
structure DH (w Y : World) (p : Nat) (a : Option Addr) (len cap : Nat) (bs : Nat → Int) (T : TypeId) (B : Nat) (F : Int) (c : Cel) (v : Value) (fp : Fp) : Prop where
  cc : Cc w Y p a len cap bs
  res : Bx Y w.heap.size T #[.int .i64 0, .slice none 0 0]
  box : Bx Y B T #[.int .i64 F, v]
  own : Cel.ow Y c v fp
  fpl : ∀ b, fp b → p < b
  hp : w.heap.size < p
  hB : p < B
theorem DH.drawn {w Y Y' : World} {p : Nat} {a : Option Addr} {len cap : Nat} {bs : Nat → Int} {T : TypeId} {B : Nat} {F : Int} {c : Cel} {v : Value} {fp : Fp} (h : DH w Y p a len cap bs T B F c v fp) (hg : Y.grownBy Y' (some p)) (hc : Cc w Y' p a len cap bs) : DH w Y' p a len cap bs T B F c v fp := by
  have h1 := h.hp
  have h2 := h.hB
  exact ⟨hc, h.res.grown hg (by simp; omega), h.box.grown hg (by simp; omega), Cel.ow_wrt h.own (Wrt.of_grown hg) (fun b hb e => by cases e; have := h.fpl _ hb; omega), h.fpl, h1, h2⟩
theorem DH.step {w Y Y' : World} {p : Nat} {a : Option Addr} {len cap : Nat} {bs : Nat → Int} {T : TypeId} {B : Nat} {F : Int} {c : Cel} {v : Value} {fp : Fp} (h : DH w Y p a len cap bs T B F c v fp) (hb : Below Y.heap.size Y Y') : DH w Y' p a len cap bs T B F c v fp :=
  ⟨h.cc.step hb, h.res.below hb, h.box.below hb, Cel.ow_below h.own hb, h.fpl, h.hp, h.hB⟩
theorem DH.drewN {w Y : World} {p : Nat} {a : Option Addr} {len cap : Nat} {bs : Nat → Int} {T : TypeId} {B : Nat} {F : Int} {c : Cel} {v : Value} {fp : Fp} (h : DH w Y p a len cap bs T B F c v fp) (n : Nat) : DH w (Y.drewN n) p a len cap bs T B F c v fp := h.step (Same.drewN Y n).below
/-- From the answer's room, the cursor and the draw of the struct. -/
theorem DH.start {w X1 X2 X3 : World} {p : Nat} {a : Option Addr} {len cap : Nat} {bs : Nat → Int} {T : TypeId} {F : Int} {c : Cel} {v : Value} {fp : Fp} (R1 : Bx X1 w.heap.size T #[.int .i64 0, .slice none 0 0]) (hp : X1.heap.size ≤ p) (hpl : p < X2.heap.size) (hb2 : Below X1.heap.size X1 X2)
    (hg : X2.grownBy X3 (some p)) (hc : Cc w X3 p a len cap bs) (ho : Cel.ow X3 c v fp) (hf : ∀ b, fp b → X2.heap.size ≤ b) : DH w (X3.alloc (.cells #[.int .i64 F, v] T)) p a len cap bs T X3.heap.size F c v fp := by
  have l1 := R1.lt
  have s1 := hg.size
  have hb := (Below.refl X3.heap.size X3).alloc (Nat.le_refl _) (.cells #[.int .i64 F, v] T)
  exact ⟨hc.step hb, ((R1.below hb2).grown hg (by simp; omega)).below hb, Bx.new _ _ _, Cel.ow_below ho hb, fun b hb' => by have := hf b hb'; omega, by omega, by omega⟩
/-- The struct is stored into the answer's room. -/
theorem DH.ans {w Y : World} {p : Nat} {a : Option Addr} {len cap : Nat} {bs : Nat → Int} {T : TypeId} {B : Nat} {F : Int} {c : Cel} {v : Value} {fp : Fp} (h : DH w Y p a len cap bs T B F c v fp) {x y : Value} :
    Cel.ow ((Y.setCell ⟨w.heap.size, 0, none⟩ x).setCell ⟨w.heap.size, 1, none⟩ y) c v fp ∧ Below w.heap.size w ((Y.setCell ⟨w.heap.size, 0, none⟩ x).setCell ⟨w.heap.size, 1, none⟩ y) ∧
      (((Y.setCell ⟨w.heap.size, 0, none⟩ x).setCell ⟨w.heap.size, 1, none⟩ y).cell? ⟨B, 0, none⟩ = some (.int .i64 F) ∧ ((Y.setCell ⟨w.heap.size, 0, none⟩ x).setCell ⟨w.heap.size, 1, none⟩ y).cell? ⟨B, 1, none⟩ = some v) ∧
      (((Y.setCell ⟨w.heap.size, 0, none⟩ x).setCell ⟨w.heap.size, 1, none⟩ y).cell? ⟨w.heap.size, 0, none⟩ = some x ∧ ((Y.setCell ⟨w.heap.size, 0, none⟩ x).setCell ⟨w.heap.size, 1, none⟩ y).cell? ⟨w.heap.size, 1, none⟩ = some y) := by
  have h1 := h.hp
  have h2 := h.hB
  have hw := setw2 Y w.heap.size (x := x) (y := y)
  refine ⟨Cel.ow_wrt h.own hw (fun b hb e => by have := h.fpl b hb; omega), setb2 h.cc.below (Nat.le_refl _), bx2 (h.box.wrt hw (by omega)), ?_⟩
  have h3 := (h.res.setC 0 x).setC 1 y
  exact bx2 (by simpa using h3)
/-- All cells that a region of such a draw reads or writes. -/
theorem DH.six {w Y : World} {p : Nat} {a : Option Addr} {len cap : Nat} {bs : Nat → Int} {T : TypeId} {B : Nat} {F : Int} {c : Cel} {v : Value} {fp : Fp} (h : DH w Y p a len cap bs T B F c v fp) :
    (Y.cell? ⟨B, 0, none⟩ = some (.int .i64 F) ∧ Y.cell? ⟨B, 1, none⟩ = some v) ∧ (Y.cell? ⟨w.heap.size, 0, none⟩ = some (.int .i64 0) ∧ Y.cell? ⟨w.heap.size, 1, none⟩ = some (.slice none 0 0)) ∧ (Y.frozen? ⟨w.heap.size, 0, none⟩ = false ∧ Y.frozen? ⟨w.heap.size, 1, none⟩ = false) := ⟨bx2 h.box, bx2 h.res, h.res.f 0, h.res.f 1⟩
end Go.Proofs.Ytgaibngaincahaa
