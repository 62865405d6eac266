/-
  Several texts in one: Rps.
-/
import Derived.Test.YtggieamhbfdmhaaJh
/-
  The contracts of the laws' own helpers on lists of passes: eqPassS, markPassS, heldPassS.
-/
namespace Go.Proofs.Ytggieamhbfdmhaa
set_option linter.unusedVariables false
set_option linter.unusedSimpArgs false
open Go.RowKit Go.Sort

/-- Triples of numbers in a slice of one's own, as one list of numbers. -/
def O3 (w : World) (g off n cap : Nat) (zs : List Int) : Prop := OSl w 3 g off n cap (zs.map (Value.int .i64))
def fl3 (L : List Ps) : List Int := L.flatMap (fun c => [c.1, c.2.1, c.2.2])
theorem pvs_fl (L : List Ps) : pvs L = (fl3 L).map (Value.int .i64) := by
  induction L with
  | nil => rfl
  | cons c L ih =>
    have e1 : pvs (c :: L) = .int .i64 c.1 :: .int .i64 c.2.1 :: .int .i64 c.2.2 :: pvs L := by simp [pvs]
    have e2 : fl3 (c :: L) = c.1 :: c.2.1 :: c.2.2 :: fl3 L := by simp [fl3]
    rw [e1, e2, ih]; rfl
theorem OP.o3 {w : World} {g off n cap : Nat} {L : List Ps} (h : OP w g off n cap L) : O3 w g off n cap (fl3 L) := by rw [O3, ← pvs_fl]; exact h
theorem OP.length {w : World} {g off n cap : Nat} {L : List Ps} (h : OP w g off n cap L) : L.length = n := by
  have := h.len
  rw [pvs_len] at this
  omega
theorem OP.c0 {w : World} {g off n cap : Nat} {L : List Ps} (h : OP w g off n cap L) {i : Nat} (hi : i < n) : w.cell? ⟨g, off + i * 3, none⟩ = some (.int .i64 (pat L i).1) := by
  rw [h.cell (i * 3) (by omega)]
  exact (pvs_at L i (by rw [h.length]; exact hi)).1
theorem OP.c1 {w : World} {g off n cap : Nat} {L : List Ps} (h : OP w g off n cap L) {i : Nat} (hi : i < n) : w.cell? ⟨g, off + i * 3 + 1, none⟩ = some (.int .i64 (pat L i).2.1) := by
  rw [Nat.add_assoc, h.cell (i * 3 + 1) (by omega)]
  exact (pvs_at L i (by rw [h.length]; exact hi)).2.1
theorem OP.c2 {w : World} {g off n cap : Nat} {L : List Ps} (h : OP w g off n cap L) {i : Nat} (hi : i < n) : w.cell? ⟨g, off + i * 3 + 2, none⟩ = some (.int .i64 (pat L i).2.2) := by
  rw [Nat.add_assoc, h.cell (i * 3 + 2) (by omega)]
  exact (pvs_at L i (by rw [h.length]; exact hi)).2.2
theorem OP.below {w w' : World} {g off n cap B : Nat} {L : List Ps} (h : OP w g off n cap L) (hb : Below B w w') (hg : g < B) : OP w' g off n cap L := OSl.below h hb hg
theorem OP.drewN {w : World} {g off n cap : Nat} {L : List Ps} (h : OP w g off n cap L) (k : Nat) : OP (w.drewN k) g off n cap L := OSl.drewN h k
theorem O3.length {w : World} {g off n cap : Nat} {zs : List Int} (h : O3 w g off n cap zs) : zs.length = n * 3 := by have := h.len; simpa using this
theorem O3.cellAt {w : World} {g off n cap : Nat} {zs : List Int} (h : O3 w g off n cap zs) {i : Nat} (hi : i < n * 3) : w.cell? ⟨g, off + i, none⟩ = some (.int .i64 (el zs i)) := by
  have hl := h.length
  rw [h.cell i hi]
  simp [el, show i < zs.length by omega]
theorem O3.set {w : World} {g off n cap : Nat} {zs : List Int} (h : O3 w g off n cap zs) {i : Nat} (hi : i < n * 3) (y : Int) : O3 (w.setCell ⟨g, off + i, none⟩ (.int .i64 y)) g off n cap (zs.set i y) := by
  have hl := h.length
  have hc := h.cellAt hi
  refine ⟨by simpa using hl, h.le, h.max, by simp [World.setCell]; exact h.blk, fun j hj => ?_, fun j hj => ?_, fun j hj => by rw [World.frozen?_setCell]; exact h.free j hj⟩
  · by_cases e : i = j
    · subst e
      rw [World.cell?_setCell_same _ _ _ hc]
      simp [show i < zs.length by omega]
    · rw [World.cell?_setCell_other _ _ _ _ (by simp [e]), h.cell j hj]
      simp [e]
  · by_cases e : i = j
    · subst e; rw [World.cell?_setCell_same _ _ _ hc]; rfl
    · rw [World.cell?_setCell_other _ _ _ _ (by simp [e])]; exact h.some j hj

end Go.Proofs.Ytggieamhbfdmhaa
