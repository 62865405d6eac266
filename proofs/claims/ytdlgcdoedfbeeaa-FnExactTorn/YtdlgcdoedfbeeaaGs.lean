/-
  Several texts in one: Stx Hyf.
-/
import Derived.Test.YtdlgcdoedfbeeaaGr
import Derived.Deep.RegionHeld3
/-
  Texts that the laws compare, mark and hold: the contracts of laws.markText, eqStringS, likeTexts, markStringS, heldStringS.
-/
namespace Go.Proofs.Ytdlgcdoedfbeeaa
set_option linter.unusedSimpArgs false
set_option linter.unusedVariables false
open Go.RowKit Go.Sort

theorem OS.set {w : World} {g off n cap : Nat} {zs : List (List UInt8)} (h : OS w g off n cap zs) {i : Nat} (hi : i < n) (y : List UInt8) : OS (w.setCell ⟨g, off + i, none⟩ (.string (sv y))) g off n cap (zs.set i y) := by
  have hl := h.length
  have hc := h.cellAt hi
  refine ⟨by simp [svs, hl], h.le, h.max, by simp [World.setCell]; exact h.blk, fun j hj => ?_, fun j hj => ?_, fun j hj => by rw [World.frozen?_setCell]; exact h.free j hj⟩
  · by_cases e : i = j
    · subst e
      rw [World.cell?_setCell_same _ _ _ hc]
      simp [svs, show i < zs.length by omega]
    · rw [World.cell?_setCell_other _ _ _ _ (by simp [e]), h.cell j hj]
      simp [svs, e]
  · by_cases e : i = j
    · subst e
      rw [World.cell?_setCell_same _ _ _ hc]; rfl
    · rw [World.cell?_setCell_other _ _ _ _ (by simp [e])]; exact h.some j hj
theorem OS.take {w : World} {g off n cap : Nat} {zs : List (List UInt8)} (h : OS w g off n cap zs) {k : Nat} (hk : k ≤ n) : OS w g off k cap (zs.take k) := by
  have hl := h.length
  have hle := h.le
  refine ⟨by simp [svs, hl]; omega, by omega, h.max, h.blk, fun i hi => ?_, h.some, h.free⟩
  rw [h.cell i (by omega)]
  simp [svs, show i < k by omega]
theorem OS.setFar {w : World} {g g' off n cap i : Nat} {zs : List (List UInt8)} {u : Value} (h : OS w g off n cap zs) (hne : g ≠ g') : OS (w.setCell ⟨g', i, none⟩ u) g off n cap zs :=
  OSl.of_block h (Below.heap_setCell _ _ _ _ (by exact hne)) (by simp [World.setCell]; exact h.blk)
/-- The mark k. -/
def mtL (k : Nat) : List UInt8 := 109 :: dec k
/-- Texts of which the first j are marked from k on. -/
def mkS (zs : List (List UInt8)) (k j : Nat) : List (List UInt8) := (List.range j).map (fun i => mtL (k + i)) ++ zs.drop j
theorem mkS_zero (zs : List (List UInt8)) (k : Nat) : mkS zs k 0 = zs := by simp [mkS]
theorem mkS_step {zs : List (List UInt8)} {k j : Nat} (h : j < zs.length) : (mkS zs k j).set j (mtL (k + j)) = mkS zs k (j + 1) := by
  unfold mkS
  rw [List.set_append_right _ _ (by simp)]
  simp only [List.length_map, List.length_range, Nat.sub_self]
  rw [List.drop_eq_getElem_cons h, List.set_cons_zero, List.range_succ, List.map_append, List.append_assoc]
  rfl
def marksS (n k : Nat) : List (List UInt8) := (List.range n).map (fun i => mtL (k + i))
theorem mkS_done (zs : List (List UInt8)) (k : Nat) : mkS zs k zs.length = marksS zs.length k := by simp [mkS, marksS]
theorem marksS_get {n k i : Nat} (h : i < n) : (marksS n k).getD i [] = mtL (k + i) := by simp [marksS, h]

attribute [local irreducible] sv
end Go.Proofs.Ytdlgcdoedfbeeaa

/-
  The walks of the exact laws of frames, from what the program's functions answer.
-/
namespace Go.Proofs.Ytdlgcdoedfbeeaa
set_option linter.unusedSimpArgs false
set_option linter.unusedVariables false
open Go.RowKit Go.Sort

/-- What the program's Check answers. -/
def ImplCheck : Prop := ∀ (l : List UInt8) (w : World), l.length ≤ 1048576 → Calls Try.prog 25 #[.string (sv l)] w fun e w' => e = .returned (.int .i64 (chk l)) ∧ Below w.heap.size w w'
/-- What the program's Torn answers. -/
def ImplTorn : Prop := ∀ (l r : List UInt8) (n m : Int) (w : World), l.length ≤ 1048576 → r.length ≤ 1048576 → Calls Try.prog 27 #[.string (sv l), .int .i64 n, .string (sv r), .int .i64 m] w fun e w' => e = .returned (.string (sv (firstB l n ++ firstB r m))) ∧ Below w.heap.size w w'

attribute [local irreducible] sv
set_option maxHeartbeats 400000 in
/-- The law FnExactCheck. -/
theorem lawCheck (hI : ImplCheck) (l : List UInt8) (w : World) (hm : l.length ≤ maxLen) :
    Calls Try.prog 4 #[.string (sv l)] w fun e w' => e = .returned (.bool true) ∧ Below w.heap.size w w' := by
  have hsz := sv_size l
  unfold maxLen at hm
  by_cases hb : (1048576 : Int) < (l.length : Int)
  · go_enter Try.func4, Try.ntmps4
    go_wp2
    go_ret
    exact ⟨rfl, Below.refl _ _⟩
  · have hl : l.length ≤ 1048576 := by omega
    go_enter Try.func4, Try.ntmps4
    go_wp2_with fail
    refine (specCheck_any l w hl).mono ?_
    rintro e w1 ⟨rfl, rfl⟩
    go_wp2_with fail
    refine (hI l _ hl).mono ?_
    rintro e w2 ⟨rfl, hb2⟩
    have HB : Hid (Below w1.heap.size w1 w2) := hb2
    clear hb2
    generalize chk l = c at *
    go_wp2
    go_ret
    exact ⟨rfl, HB.out⟩

set_option maxHeartbeats 400000 in
/-- The law FnExactTorn. -/
theorem lawTorn (hI : ImplTorn) (l : List UInt8) (n : Int) (r : List UInt8) (m : Int) (w : World) (hm : l.length ≤ maxLen) (hm' : r.length ≤ maxLen) :
    Calls Try.prog 5 #[.string (sv l), .int .i64 n, .string (sv r), .int .i64 m] w fun e w' => e = .returned (.bool true) ∧ Below w.heap.size w w' := by
  have hsz := sv_size l
  have hsz' := sv_size r
  unfold maxLen at hm hm'
  by_cases hb : (1048576 : Int) < (l.length : Int)
  · go_enter Try.func5, Try.ntmps5
    go_wp2
    go_ret
    exact ⟨rfl, Below.refl _ _⟩
  · have hl : l.length ≤ 1048576 := by omega
    have hbd : decide ((1048576 : Int) < (l.length : Int)) = false := by simp; omega
    by_cases hb' : (1048576 : Int) < (r.length : Int)
    · go_enter Try.func5, Try.ntmps5
      go_wp2
      go_ret
      exact ⟨rfl, Below.refl _ _⟩
    · have hr : r.length ≤ 1048576 := by omega
      go_enter Try.func5, Try.ntmps5
      go_wp2_with fail
      refine (specTorn_any l r n m w hl hr).mono ?_
      rintro e w1 ⟨rfl, rfl⟩
      go_wp2_with fail
      refine (hI l r n m _ hl hr).mono ?_
      rintro e w2 ⟨rfl, hb2⟩
      have HB : Hid (Below w1.heap.size w1 w2) := hb2
      clear hb2
      generalize firstB l n ++ firstB r m = F at *
      have hq : ((sv F).toList == (sv F).toList) = true := by simp
      go_wp2
      go_ret
      exact ⟨rfl, HB.out⟩

end Go.Proofs.Ytdlgcdoedfbeeaa
