/-
  The walk of the law FnExactStamps.
-/
import Derived.Test.YtacogcfdolmfpaaSti
import Derived.Test.YtacogcfdolmfpaaOpn
namespace Go.Proofs.Ytacogcfdolmfpaa
set_option linter.unusedSimpArgs false
set_option linter.unusedVariables false
open Go.RowKit Go.Sort

theorem EvRow.below {w w' : World} {b n B : Nat} {es : List Ev} (h : EvRow w b n es) (hb : Below B w w') (hB : b < B) : EvRow w' b n es := World.rowIs.of_block h (hb.block b hB)
/-- What a law holds of its three rows as the world goes on. -/
structure Tri (w cur : World) (b n g og cg d od cd : Nat) (es : List Ev) (G Z : List Int) : Prop where
  below : Below w.heap.size w cur
  x0 : EvRow cur b n es
  got : OI cur g og Z.length cg G
  want : OI cur d od Z.length cd Z
theorem Tri.step {w cur next : World} {b n g og cg d od cd : Nat} {es : List Ev} {G Z : List Int} (h : Tri w cur b n g og cg d od cd es G Z) (hb : Below cur.heap.size cur next) : Tri w next b n g og cg d od cd es G Z :=
  ⟨h.below.trans (hb.mono h.below.size), h.x0.below hb h.x0.lt, h.got.below hb h.got.blk, h.want.below hb h.want.blk⟩
theorem Tri.drewN {w cur : World} {b n g og cg d od cd : Nat} {es : List Ev} {G Z : List Int} (h : Tri w cur b n g og cg d od cd es G Z) (k : Nat) : Tri w (cur.drewN k) b n g og cg d od cd es G Z :=
  ⟨belowN h.below, h.x0, h.got.drewN k, h.want.drewN k⟩
theorem stT_len (es : List Ev) (len : Nat) : (stT es len).length ≤ 40 := by
  unfold stT
  split
  · rename_i h; rw [stL_len]; exact (okT_all h).1
  · simp
theorem stT_fits (es : List Ev) (len : Nat) : Fits (stT es len) := by
  unfold stT
  split
  · rename_i h; exact fits_stL es len (by have := (okT_all h).1; omega)
  · intro x hx; simp at hx

end Go.Proofs.Ytacogcfdolmfpaa
