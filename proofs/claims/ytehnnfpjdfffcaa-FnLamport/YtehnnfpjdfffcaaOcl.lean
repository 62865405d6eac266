/-
  The contract of the comparison that the program's Order hands to slices.SortFunc.
-/
import Derived.Test.YtehnnfpjdfffcaaLay
import Derived.Test.YtehnnfpjdfffcaaOwn
import Derived.Test.YtehnnfpjdfffcaaEv
namespace Go.Proofs.Ytehnnfpjdfffcaa
set_option linter.unusedSimpArgs false
set_option linter.unusedVariables false
open Go.RowKit Go.Sort

theorem cmp_any (x y : Int) (w : World) : Calls Try.prog 75 #[.int .i64 x, .int .i64 y] w fun e w' => e = .returned (.int .i64 (Lib.compareInt x y)) ∧ w' = w := by
  have h := Go.Proofs.AnyG.cmp_Compare_int Try.cmpL x y w
  change Calls Try.prog 75 _ _ _ at h
  exact h

def orI (x y : Int) : Int := if x = 0 then y else x
set_option maxHeartbeats 400000 in
theorem or_any (b c : Nat) (x y : Int) (w : World) (h0 : w.cell? ⟨b, 0, none⟩ = some (.int .i64 x)) (h1 : w.cell? ⟨b, 1, none⟩ = some (.int .i64 y)) :
    Calls Try.prog 74 #[.slice (some ⟨b, 0, none⟩) 2 c] w fun e w' => e = .returned (.int .i64 (orI x y)) ∧ w' = w := by
  have h0' : w.cell? ⟨b, 0 + 0, none⟩ = some (.int .i64 x) := h0
  go_enter Try.func74, Try.ntmps74
  go_wp2
  go_loop [8] (fun i => (i = .int .i64 0) ∨ (i = .int .i64 1 ∧ x = 0) ∨ (i = .int .i64 2 ∧ x = 0 ∧ y = 0)) (fun i => 2 - (intOf i).toNat)
  case atStart => exact .inl rfl
  case round =>
    rcases hrel with rfl | ⟨rfl, hx⟩ | ⟨rfl, hx, hy⟩
    · by_cases hx : x = 0
      · have hb : (x != 0) = false := by simpa using hx
        have HX : Hid (x = 0) := hx
        clear hx
        go_wp2
        go_round
        case rel => exact .inr (.inl ⟨by go_num, HX.out⟩)
        case measure => simp [intOf]
      · have hb : (x != 0) = true := by simpa using hx
        have HX : Hid (¬ x = 0) := hx
        clear hx
        go_wp2
        go_ret
        exact ⟨ret_int (by unfold orI; rw [if_neg HX.out]), rfl⟩
    · have HX : Hid (x = 0) := hx
      clear hx
      by_cases hy : y = 0
      · have hb : (y != 0) = false := by simpa using hy
        have HY : Hid (y = 0) := hy
        clear hy
        go_wp2
        go_round
        case rel => exact .inr (.inr ⟨by go_num, HX.out, HY.out⟩)
        case measure => simp [intOf]
      · have hb : (y != 0) = true := by simpa using hy
        clear hy
        go_wp2
        go_ret
        exact ⟨ret_int (by unfold orI; rw [if_pos HX.out]), rfl⟩
    · have HX : Hid (x = 0) := hx
      have HY : Hid (y = 0) := hy
      clear hx hy
      go_wp2
      go_ret
      exact ⟨ret_int (by unfold orI; rw [if_pos HX.out, HY.out]), rfl⟩

set_option maxRecDepth 100000 in
set_option maxHeartbeats 3200000 in
theorem ordC_any (i j s l g off n c b o len cap : Nat) (p q u v : Int) (w : World) (hs : w.cell? ⟨s, 0, none⟩ = some (.slice (some ⟨g, off, none⟩) n c)) (hl : w.cell? ⟨l, 0, none⟩ = some (.slice (some ⟨b, o, none⟩) len cap))
    (hi : i < n) (hj : j < n) (hil : i < len) (hjl : j < len) (ci : w.cell? ⟨g, off + i, none⟩ = some (.int .i64 p)) (cj : w.cell? ⟨g, off + j, none⟩ = some (.int .i64 q))
    (ei : w.cell? ⟨b, o + i * 3, none⟩ = some (.int .i64 u)) (ej : w.cell? ⟨b, o + j * 3, none⟩ = some (.int .i64 v)) :
    Calls Try.prog 73 #[.int .i64 (i : Int), .int .i64 (j : Int), .pointer (some ⟨s, 0, none⟩), .pointer (some ⟨l, 0, none⟩)] w fun e w' => e = .returned (.int .i64 (orI (Lib.compareInt p q) (Lib.compareInt u v))) ∧ Grew w w' := by
  have i1 : (i : Int) < (n : Int) := by omega
  have i0 : (0 : Int) ≤ (i : Int) := by omega
  have j1 : (j : Int) < (n : Int) := by omega
  have j0 : (0 : Int) ≤ (j : Int) := by omega
  have i2 : (i : Int) < (len : Int) := by omega
  have j2 : (j : Int) < (len : Int) := by omega
  have hO : ∀ k, Calls Try.prog 74 #[.slice (some ⟨w.heap.size, 0, none⟩) 2 2] ((w.drewN k).alloc (.cells #[.int .i64 (Lib.compareInt p q), .int .i64 (Lib.compareInt u v)] 3)) fun e w' => e = .returned (.int .i64 (orI (Lib.compareInt p q) (Lib.compareInt u v))) ∧ w' = ((w.drewN k).alloc (.cells #[.int .i64 (Lib.compareInt p q), .int .i64 (Lib.compareInt u v)] 3)) := fun k => by
    have hb := heap_alloc_new (w.drewN k) (.cells #[.int .i64 (Lib.compareInt p q), .int .i64 (Lib.compareInt u v)] 3)
    have hb' : ((w.drewN k).alloc (.cells #[.int .i64 (Lib.compareInt p q), .int .i64 (Lib.compareInt u v)] 3)).heap[w.heap.size]? = some (.cells #[.int .i64 (Lib.compareInt p q), .int .i64 (Lib.compareInt u v)] 3 (0, 0)) := hb
    exact or_any w.heap.size 2 _ _ _ (by simp only [World.cell?, hb']; simp) (by simp only [World.cell?, hb']; simp)
  have hC1 := fun X => cmp_any p q X
  have hC2 := fun X => cmp_any u v X
  generalize Lib.compareInt p q = x at *
  generalize Lib.compareInt u v = y at *
  go_enter Try.func73, Try.ntmps73
  go_wp2_with fail
  go_region_held3 (fun w' => w'.cell? ⟨s, 0, none⟩ = some (.slice (some ⟨g, off, none⟩) n c) ∧ w'.cell? ⟨l, 0, none⟩ = some (.slice (some ⟨b, o, none⟩) len cap) ∧ w'.cell? ⟨g, off + i, none⟩ = some (.int .i64 p) ∧ w'.cell? ⟨g, off + j, none⟩ = some (.int .i64 q) ∧ w'.cell? ⟨b, o + i * 3, none⟩ = some (.int .i64 u) ∧ w'.cell? ⟨b, o + j * 3, none⟩ = some (.int .i64 v))
    (first | go_keep)
    (first
      | (go_at_call_of 75 p; refine (hC1 _).mono ?_; rintro e w' ⟨rfl, rfl⟩)
      | (go_at_call_of 75 u; refine (hC2 _).mono ?_; rintro e w' ⟨rfl, rfl⟩)
      | (go_at_call 74; refine (hO 1).mono ?_; rintro e w' ⟨rfl, rfl⟩))
  go_wp2
  go_ret
  exact ⟨rfl, ((Grew.refl _).drewN 1).alloc _⟩
end Go.Proofs.Ytehnnfpjdfffcaa
