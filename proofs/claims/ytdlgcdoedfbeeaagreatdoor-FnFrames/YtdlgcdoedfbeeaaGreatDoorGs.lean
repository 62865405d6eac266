/-
  Several texts in one: Stx Hyf.
-/
import Derived.Test.YtdlgcdoedfbeeaaGreatDoorGr
import Derived.Deep.RegionHeld3
/-
  Texts that the laws compare, mark and hold: the contracts of laws.markText, eqStringS, likeTexts, markStringS, heldStringS.
-/
namespace Go.Proofs.YtdlgcdoedfbeeaaGreatDoor
set_option linter.unusedSimpArgs false
set_option linter.unusedVariables false
open Go.RowKit Go.Sort

theorem OS.set {w : World} {g off n cap : Nat} {zs : List (List UInt8)} (h : OS w g off n cap zs) {i : Nat} (hi : i < n) (y : List UInt8) : OS (w.setCell ⟨g, off + i, none⟩ (.string (sv y))) g off n cap (zs.set i y) := by
  have hl := h.length
  have hc := h.cellAt hi
  refine ⟨by simp [svs, hl], h.le, h.max, by simp [World.setCell]; exact h.blk, fun j hj => ?_, fun j hj => ?_, fun j hj => by rw [World.frozen?_setCell]; exact h.free j hj⟩
  · by_cases e : i = j
    · subst e
      rw [World.cell?_setCell_same _ _ _ hc]
      simp [svs, show i < zs.length by omega]
    · rw [World.cell?_setCell_other _ _ _ _ (by simp [e]), h.cell j hj]
      simp [svs, e]
  · by_cases e : i = j
    · subst e
      rw [World.cell?_setCell_same _ _ _ hc]; rfl
    · rw [World.cell?_setCell_other _ _ _ _ (by simp [e])]; exact h.some j hj
theorem OS.take {w : World} {g off n cap : Nat} {zs : List (List UInt8)} (h : OS w g off n cap zs) {k : Nat} (hk : k ≤ n) : OS w g off k cap (zs.take k) := by
  have hl := h.length
  have hle := h.le
  refine ⟨by simp [svs, hl]; omega, by omega, h.max, h.blk, fun i hi => ?_, h.some, h.free⟩
  rw [h.cell i (by omega)]
  simp [svs, show i < k by omega]
theorem OS.setFar {w : World} {g g' off n cap i : Nat} {zs : List (List UInt8)} {u : Value} (h : OS w g off n cap zs) (hne : g ≠ g') : OS (w.setCell ⟨g', i, none⟩ u) g off n cap zs :=
  OSl.of_block h (Below.heap_setCell _ _ _ _ (by exact hne)) (by simp [World.setCell]; exact h.blk)
/-- The mark k. -/
def mtL (k : Nat) : List UInt8 := 109 :: dec k
/-- Texts of which the first j are marked from k on. -/
def mkS (zs : List (List UInt8)) (k j : Nat) : List (List UInt8) := (List.range j).map (fun i => mtL (k + i)) ++ zs.drop j
theorem mkS_zero (zs : List (List UInt8)) (k : Nat) : mkS zs k 0 = zs := by simp [mkS]
theorem mkS_step {zs : List (List UInt8)} {k j : Nat} (h : j < zs.length) : (mkS zs k j).set j (mtL (k + j)) = mkS zs k (j + 1) := by
  unfold mkS
  rw [List.set_append_right _ _ (by simp)]
  simp only [List.length_map, List.length_range, Nat.sub_self]
  rw [List.drop_eq_getElem_cons h, List.set_cons_zero, List.range_succ, List.map_append, List.append_assoc]
  rfl
def marksS (n k : Nat) : List (List UInt8) := (List.range n).map (fun i => mtL (k + i))
theorem mkS_done (zs : List (List UInt8)) (k : Nat) : mkS zs k zs.length = marksS zs.length k := by simp [mkS, marksS]
theorem marksS_get {n k i : Nat} (h : i < n) : (marksS n k).getD i [] = mtL (k + i) := by simp [marksS, h]

attribute [local irreducible] sv
set_option maxRecDepth 100000 in
set_option maxHeartbeats 1600000 in
theorem likeT_any (g og cg n g' og' cg' n' : Nat) (zs ys : List (List UInt8)) (w : World) (hz : OS w g og n cg zs) (hy : OS w g' og' n' cg' ys) :
    Calls Tryz.prog 12 #[.slice (some ⟨g, og, none⟩) n cg, .slice (some ⟨g', og', none⟩) n' cg'] w fun e w' => e = .returned (.bool (decide (zs = ys))) ∧ ∃ q, w' = w.drewN q := by
  have hzl := hz.length
  have hyl := hy.length
  have hm : n ≤ maxLen := Nat.le_trans hz.le hz.max
  have hm' : n' ≤ maxLen := Nat.le_trans hy.le hy.max
  unfold maxLen at hm hm'
  have HZ : Hid (OS w g og n cg zs) := hz
  have HY : Hid (OS w g' og' n' cg' ys) := hy
  clear hz hy
  by_cases hn : n = n'
  · subst hn
    go_enter Tryz.func12, Tryz.ntmps12
    go_wp2
    go_loopw [5] (fun i wr => ∃ j : Nat, j ≤ n ∧ i = .int .i64 j ∧ zs.take j = ys.take j ∧ ∃ q, wr = w.drewN q) (fun i _ => n - (intOf i).toNat)
    case atStart => exact ⟨0, Nat.zero_le _, rfl, rfl, 0, rfl⟩
    case round =>
      obtain ⟨j, hj, rfl, he, q, rfl⟩ := hrel
      have HE : Hid (zs.take j = ys.take j) := he
      clear he
      by_cases hlt : j < n
      · have c1 := HZ.out.cellAt hlt
        have c2 := HY.out.cellAt hlt
        have HT1 : Hid (zs.take (j + 1) = zs.take j ++ [zs.getD j []]) := by rw [Hid, List.take_succ_eq_append_getElem (by omega)]; simp [show j < zs.length by omega]
        have HT2 : Hid (ys.take (j + 1) = ys.take j ++ [ys.getD j []]) := by rw [Hid, List.take_succ_eq_append_getElem (by omega)]; simp [show j < ys.length by omega]
        have j1 : (j : Int) < (n : Int) := by omega
        have j0 : (0 : Int) ≤ (j : Int) := by omega
        by_cases hq : zs.getD j [] = ys.getD j []
        · have hb : ((sv (zs.getD j [])).toList == (sv (ys.getD j [])).toList) = true := by rw [sv_list, sv_list, hq]; simp
          have HN : Hid (zs.take (j + 1) = ys.take (j + 1)) := by rw [Hid, HT1.out, HT2.out, HE.out, hq]
          clear hq
          generalize zs.getD j [] = A at *
          generalize ys.getD j [] = B at *
          go_wp2_with fail
          go_quiet (fail)
          go_wp2
          go_roundw
          case rel => exact ⟨j + 1, by omega, by go_num, HN.out, _, rfl⟩
          case measure => simp [intOf]; omega
        · have hb : ((sv (zs.getD j [])).toList == (sv (ys.getD j [])).toList) = false := by rw [sv_list, sv_list]; simpa using hq
          have HN : Hid (decide (zs = ys) = false) := by
            rw [Hid, decide_eq_false_iff_not]
            intro h
            exact hq (by rw [h])
          clear hq
          generalize zs.getD j [] = A at *
          generalize ys.getD j [] = B at *
          go_wp2_with fail
          go_quiet (fail)
          go_wp2
          go_ret
          exact ⟨ret_bool HN.out.symm, _, World.drewN_drewN _ _ _⟩
      · have hjn : j = n := by omega
        subst hjn
        have HN : Hid (decide (zs = ys) = true) := by
          rw [Hid, decide_eq_true_eq]
          have := HE.out
          rwa [List.take_of_length_le (by omega), List.take_of_length_le (by omega)] at this
        go_wp2
        go_ret
        exact ⟨ret_bool HN.out.symm, _, rfl⟩
  · have HN : Hid (decide (zs = ys) = false) := by
      rw [Hid, decide_eq_false_iff_not]
      intro h
      exact hn (by rw [← hzl, ← hyl, h])
    have hb : ((n : Int) != (n' : Int)) = true := by simp; omega
    have hb' : ((n : Int) == (n' : Int)) = false := by simp; omega
    clear hn
    go_enter Tryz.func12, Tryz.ntmps12
    go_wp2
    go_ret
    exact ⟨ret_bool HN.out.symm, 0, rfl⟩

end Go.Proofs.YtdlgcdoedfbeeaaGreatDoor

/-
  The walks of the exact laws of frames, from what the program's functions answer.
-/
namespace Go.Proofs.YtdlgcdoedfbeeaaGreatDoor
set_option linter.unusedSimpArgs false
set_option linter.unusedVariables false
open Go.RowKit Go.Sort

/-- What the program's Check answers. -/
def ImplCheck : Prop := ∀ (l : List UInt8) (w : World), l.length ≤ 1048576 → Calls Tryz.prog 15 #[.string (sv l)] w fun e w' => e = .returned (.int .i64 (chk l)) ∧ Below w.heap.size w w'
/-- What the program's Frame answers, in the worlds that W may become. -/
def ImplFrame (W : World) : Prop := ∀ (l : List UInt8) (w : World), Below W.heap.size W w → l.length ≤ 1048576 → Calls Tryz.prog 8 #[.string (sv l)] w fun e w' => e = .returned (.string (sv (frameL l))) ∧ Below w.heap.size w w'
/-- What the program's Frames answers, in the worlds that W may become. -/
def ImplFrames (W : World) : Prop := ∀ (d : List UInt8) (w : World), Below W.heap.size W w → d.length ≤ 1048576 → Calls Tryz.prog 6 #[.string (sv d)] w fun e w' => ∃ ts, IsFrames d ts ∧ AnsF w w' e ts
/-- What the program's Torn answers. -/
def ImplTorn : Prop := ∀ (l r : List UInt8) (n m : Int) (w : World), l.length ≤ 1048576 → r.length ≤ 1048576 → Calls Tryz.prog 10 #[.string (sv l), .int .i64 n, .string (sv r), .int .i64 m] w fun e w' => e = .returned (.string (sv (firstB l n ++ firstB r m))) ∧ Below w.heap.size w w'

attribute [local irreducible] sv
end Go.Proofs.YtdlgcdoedfbeeaaGreatDoor
