/-
  The walks of the laws FnExactJoin and FnExactMeet: at every two arguments they return true, and nothing that was there is written.
-/
import Derived.Test.YtacogcfdolmfpaaJoinImpl
namespace Go.Proofs.Ytacogcfdolmfpaa
open Go.RowKit

theorem mark_at (g cap k0 : Nat) (q : Int) (zs : List Int) (n : Nat) (hn0 : n = zs.length) (w : World) (ho : OwnAt w g cap zs) (hq : q = (k0 : Int)) (hk : k0 ≤ 10000000) (hn : zs.length ≤ 10000000) :
    Calls Try.prog 63 #[.slice (some ⟨g, 0, none⟩) n cap, .int .i64 q] w fun e w' => e = .returned (.int .i64 (q + (n : Int))) ∧ OwnAt w' g cap (marks n k0) ∧ Touch g w w' := by
  subst hq hn0
  refine (mark_any g cap k0 zs w ho hk hn).mono ?_
  rintro e w' ⟨rfl, h⟩
  exact ⟨ret_int (by omega), h⟩
theorem held_at (g cap k0 n : Nat) (q : Int) (w : World) (ho : OwnAt w g cap (marks n k0)) (hq : q = (k0 : Int)) (hk : k0 ≤ 10000000) (hn : n ≤ 10000000) :
    Calls Try.prog 64 #[.slice (some ⟨g, 0, none⟩) n cap, .int .i64 q] w fun e w' => e = .returned (.int .i64 (q + (n : Int))) ∧ w' = w := by
  subst hq
  refine (held_any g cap k0 n w ho hk hn).mono ?_
  rintro e w' ⟨rfl, h⟩
  exact ⟨ret_int (by omega), h⟩

theorem pairB_fits (f : Int → Int → Int) (hf : ∀ x y, f x y = x ∨ f x y = y) (xs ys : List Int) : Fits (pairB f xs ys) := by
  unfold pairB
  cases h : twoB xs ys
  · intro x hx; simp at hx
  · obtain ⟨ox, oy, hl⟩ := twoB_true h
    intro x hx
    simp only [if_true, jn, List.mem_map, List.mem_range] at hx
    obtain ⟨i, hi, rfl⟩ := hx
    have h1 := okB_el ox hi
    have h2 := okB_el oy (i := i) (by omega)
    rcases hf (el xs i) (el ys i) with e | e <;> rw [e] <;> omega
theorem max_or (x y : Int) : max x y = x ∨ max x y = y := by omega
theorem min_or (x y : Int) : min x y = x ∨ min x y = y := by omega
theorem marks_fits (n k0 : Nat) (h : k0 + n ≤ 100000000) : Fits (marks n k0) := by
  intro x hx
  simp only [marks, List.mem_map, List.mem_range] at hx
  obtain ⟨i, hi, rfl⟩ := hx
  omega

/-- What the law holds of the four rows of its own, as the world goes on. -/
structure Four (w cur : World) (b0 b1 g c d e n0 n1 : Nat) (X0 X1 Z : List Int) : Prop where
  below : Below w.heap.size w cur
  x0 : OwnAt cur b0 n0 X0
  x1 : OwnAt cur b1 n1 X1
  got : OwnAt cur g c Z
  want : OwnAt cur d e Z
theorem Four.step {w cur next : World} {b0 b1 g c d e n0 n1 : Nat} {X0 X1 Z : List Int} (h : Four w cur b0 b1 g c d e n0 n1 X0 X1 Z) (hb : Below cur.heap.size cur next) : Four w next b0 b1 g c d e n0 n1 X0 X1 Z :=
  ⟨h.below.trans (hb.mono h.below.size), h.x0.below hb h.x0.lt, h.x1.below hb h.x1.lt, h.got.below hb h.got.lt, h.want.below hb h.want.lt⟩
theorem Four.drewN {w cur : World} {b0 b1 g c d e n0 n1 : Nat} {X0 X1 Z : List Int} (h : Four w cur b0 b1 g c d e n0 n1 X0 X1 Z) (n : Nat) : Four w (cur.drewN n) b0 b1 g c d e n0 n1 X0 X1 Z :=
  ⟨belowN h.below, h.x0, h.x1, h.got, h.want⟩

end Go.Proofs.Ytacogcfdolmfpaa
