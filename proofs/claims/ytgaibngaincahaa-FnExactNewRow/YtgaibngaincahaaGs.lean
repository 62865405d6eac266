/-
  Several texts in one: Stx Hyf.
-/
import Derived.Test.YtgaibngaincahaaGr
import Derived.Deep.RegionHeld3
/-
  Texts that the laws compare, mark and hold: the contracts of laws.markText, eqStringS, likeTexts, markStringS, heldStringS.
-/
namespace Go.Proofs.Ytgaibngaincahaa
set_option linter.unusedSimpArgs false
set_option linter.unusedVariables false
open Go.RowKit Go.Sort

theorem OS.set {w : World} {g off n cap : Nat} {zs : List (List UInt8)} (h : OS w g off n cap zs) {i : Nat} (hi : i < n) (y : List UInt8) : OS (w.setCell ⟨g, off + i, none⟩ (.string (sv y))) g off n cap (zs.set i y) := by
  have hl := h.length
  have hc := h.cellAt hi
  refine ⟨by simp [svs, hl], h.le, h.max, by simp [World.setCell]; exact h.blk, fun j hj => ?_, fun j hj => ?_, fun j hj => by rw [World.frozen?_setCell]; exact h.free j hj⟩
  · by_cases e : i = j
    · subst e
      rw [World.cell?_setCell_same _ _ _ hc]
      simp [svs, show i < zs.length by omega]
    · rw [World.cell?_setCell_other _ _ _ _ (by simp [e]), h.cell j hj]
      simp [svs, e]
  · by_cases e : i = j
    · subst e
      rw [World.cell?_setCell_same _ _ _ hc]; rfl
    · rw [World.cell?_setCell_other _ _ _ _ (by simp [e])]; exact h.some j hj
theorem OS.take {w : World} {g off n cap : Nat} {zs : List (List UInt8)} (h : OS w g off n cap zs) {k : Nat} (hk : k ≤ n) : OS w g off k cap (zs.take k) := by
  have hl := h.length
  have hle := h.le
  refine ⟨by simp [svs, hl]; omega, by omega, h.max, h.blk, fun i hi => ?_, h.some, h.free⟩
  rw [h.cell i (by omega)]
  simp [svs, show i < k by omega]
theorem OS.setFar {w : World} {g g' off n cap i : Nat} {zs : List (List UInt8)} {u : Value} (h : OS w g off n cap zs) (hne : g ≠ g') : OS (w.setCell ⟨g', i, none⟩ u) g off n cap zs :=
  OSl.of_block h (Below.heap_setCell _ _ _ _ (by exact hne)) (by simp [World.setCell]; exact h.blk)
/-- The mark k. -/
def mtL (k : Nat) : List UInt8 := 109 :: dec k
/-- Texts of which the first j are marked from k on. -/
def mkS (zs : List (List UInt8)) (k j : Nat) : List (List UInt8) := (List.range j).map (fun i => mtL (k + i)) ++ zs.drop j
theorem mkS_zero (zs : List (List UInt8)) (k : Nat) : mkS zs k 0 = zs := by simp [mkS]
theorem mkS_step {zs : List (List UInt8)} {k j : Nat} (h : j < zs.length) : (mkS zs k j).set j (mtL (k + j)) = mkS zs k (j + 1) := by
  unfold mkS
  rw [List.set_append_right _ _ (by simp)]
  simp only [List.length_map, List.length_range, Nat.sub_self]
  rw [List.drop_eq_getElem_cons h, List.set_cons_zero, List.range_succ, List.map_append, List.append_assoc]
  rfl
def marksS (n k : Nat) : List (List UInt8) := (List.range n).map (fun i => mtL (k + i))
theorem mkS_done (zs : List (List UInt8)) (k : Nat) : mkS zs k zs.length = marksS zs.length k := by simp [mkS, marksS]
theorem marksS_get {n k i : Nat} (h : i < n) : (marksS n k).getD i [] = mtL (k + i) := by simp [marksS, h]

attribute [local irreducible] sv
set_option maxRecDepth 100000 in
set_option maxHeartbeats 1600000 in
theorem markText_any (k : Nat) (w : World) (h1 : 1 ≤ k) (hk : k ≤ 1000000000000) :
    Calls Try.prog 96 #[.int .i64 (k : Int)] w fun e w' => e = .returned (.string (sv (mtL k))) ∧ Below w.heap.size w w' := by
  have hk0 : ¬ ((k : Int) ≤ 0) := by omega
  have hk1 : decide ((k : Int) ≤ 0) = false := by simp; omega
  have hnil : (⟨#[]⟩ : ByteArray) = sv [] := by unfold sv; rfl
  have h109 : (⟨#[109]⟩ : ByteArray) = sv [109] := by unfold sv; rfl
  go_enter Try.func96, Try.ntmps96
  go_wp2
  go_loopg [0, 3] (k + 1) (fun g a s wr => ∃ (m : Nat) (l : List UInt8), m ≤ k ∧ g = m + 1 ∧ a = .int .i64 m ∧ s = .string (sv l) ∧ l.length + g ≤ k + 1 ∧ dec k = decT m l ∧ Below w.heap.size w wr)
  case atStart => exact ⟨k, [], Nat.le_refl _, rfl, rfl, by rw [← hnil], by simp, by rw [decT, if_neg (by omega)]; simp, Below.refl _ _⟩
  case round =>
    obtain ⟨m, l, hm, hg, rfl, rfl, hlg, hc, hb⟩ := hrel
    have HB : Hid (Below w.heap.size w wr) := hb
    have HC : Hid (dec k = decT m l) := hc
    clear hb hc hnil
    have hsz := sv_size l
    have hs109 : (⟨#[109]⟩ : ByteArray).size = 1 := rfl
    rcases Nat.eq_zero_or_pos m with h0 | hp
    · subst h0
      have HD : Hid ((⟨#[109]⟩ : ByteArray) ++ sv l = sv (mtL k)) := by rw [Hid, h109, sv_app, mtL, HC.out, decT, if_pos rfl]; rfl
      clear h109
      go_wp2
      go_ret
      exact ⟨by rw [← HD.out]; rfl, HB.out⟩
    · have HS : Hid (dec k = decT (m / 10) (dig (m % 10) :: l)) := by rw [Hid, decT_step, HC.out, decT, if_neg (by omega)]
      have e1 : Int.tmod (m : Int) 10 = (m : Int) % 10 := Int.tmod_eq_emod_of_nonneg (by omega)
      have e2 : Int.tdiv (m : Int) 10 = (m : Int) / 10 := Int.tdiv_eq_ediv_of_nonneg (by omega)
      have hd10 : (m : Int) % 10 < 10 := by omega
      have hd0 : 0 ≤ (m : Int) % 10 := by omega
      have hcv := one_byte wr (dig (m % 10)) (48 + (m : Int) % 10) (by rw [dig_val (by omega)]; omega)
      have happ : sv [dig (m % 10)] ++ sv l = sv (dig (m % 10) :: l) := sv_app _ _
      have hs1 : (sv [dig (m % 10)]).size = 1 := sv_size _
      have HB' : Hid (Below w.heap.size w (wr.alloc (.cells #[.int .u8 (48 + (m : Int) % 10)] 5))) := HB.out.alloc HB.out.size _
      have hll : l.length ≤ 1000000000002 := by omega
      have e4 : ((m / 10 : Nat) : Int) = (m : Int) / 10 := by omega
      have hpi : (0 : Int) < (m : Int) := by omega
      clear h109
      go_wp2
      go_roundg (m / 10 + 1)
      case measure => omega
      case rel => exact ⟨m / 10, dig (m % 10) :: l, by omega, rfl, by rw [e4], rfl, by rw [List.length_cons]; omega, HS.out, HB'.out⟩

set_option maxRecDepth 100000 in
set_option maxHeartbeats 1600000 in
theorem eqS_any (g og cg n g' og' cg' n' : Nat) (zs ys : List (List UInt8)) (w : World) (hz : OS w g og n cg zs) (hy : OS w g' og' n' cg' ys) :
    Calls Try.prog 78 #[.slice (some ⟨g, og, none⟩) n cg, .slice (some ⟨g', og', none⟩) n' cg'] w fun e w' => e = .returned (.bool (decide (zs = ys))) ∧ ∃ q, w' = w.drewN q := by
  have hzl := hz.length
  have hyl := hy.length
  have hm : n ≤ maxLen := Nat.le_trans hz.le hz.max
  have hm' : n' ≤ maxLen := Nat.le_trans hy.le hy.max
  unfold maxLen at hm hm'
  have HZ : Hid (OS w g og n cg zs) := hz
  have HY : Hid (OS w g' og' n' cg' ys) := hy
  clear hz hy
  by_cases hn : n = n'
  · subst hn
    go_enter Try.func78, Try.ntmps78
    go_wp2
    go_loopw [5] (fun i wr => ∃ j : Nat, j ≤ n ∧ i = .int .i64 j ∧ zs.take j = ys.take j ∧ ∃ q, wr = w.drewN q) (fun i _ => n - (intOf i).toNat)
    case atStart => exact ⟨0, Nat.zero_le _, rfl, rfl, 0, rfl⟩
    case round =>
      obtain ⟨j, hj, rfl, he, q, rfl⟩ := hrel
      have HE : Hid (zs.take j = ys.take j) := he
      clear he
      by_cases hlt : j < n
      · have c1 := HZ.out.cellAt hlt
        have c2 := HY.out.cellAt hlt
        have HT1 : Hid (zs.take (j + 1) = zs.take j ++ [zs.getD j []]) := by rw [Hid, List.take_succ_eq_append_getElem (by omega)]; simp [show j < zs.length by omega]
        have HT2 : Hid (ys.take (j + 1) = ys.take j ++ [ys.getD j []]) := by rw [Hid, List.take_succ_eq_append_getElem (by omega)]; simp [show j < ys.length by omega]
        have j1 : (j : Int) < (n : Int) := by omega
        have j0 : (0 : Int) ≤ (j : Int) := by omega
        by_cases hq : zs.getD j [] = ys.getD j []
        · have hb : ((sv (zs.getD j [])).toList == (sv (ys.getD j [])).toList) = true := by rw [sv_list, sv_list, hq]; simp
          have HN : Hid (zs.take (j + 1) = ys.take (j + 1)) := by rw [Hid, HT1.out, HT2.out, HE.out, hq]
          clear hq
          generalize zs.getD j [] = A at *
          generalize ys.getD j [] = B at *
          go_wp2_with fail
          go_quiet (fail)
          go_wp2
          go_roundw
          case rel => exact ⟨j + 1, by omega, by go_num, HN.out, _, rfl⟩
          case measure => simp [intOf]; omega
        · have hb : ((sv (zs.getD j [])).toList == (sv (ys.getD j [])).toList) = false := by rw [sv_list, sv_list]; simpa using hq
          have HN : Hid (decide (zs = ys) = false) := by
            rw [Hid, decide_eq_false_iff_not]
            intro h
            exact hq (by rw [h])
          clear hq
          generalize zs.getD j [] = A at *
          generalize ys.getD j [] = B at *
          go_wp2_with fail
          go_quiet (fail)
          go_wp2
          go_ret
          exact ⟨ret_bool HN.out.symm, _, World.drewN_drewN _ _ _⟩
      · have hjn : j = n := by omega
        subst hjn
        have HN : Hid (decide (zs = ys) = true) := by
          rw [Hid, decide_eq_true_eq]
          have := HE.out
          rwa [List.take_of_length_le (by omega), List.take_of_length_le (by omega)] at this
        go_wp2
        go_ret
        exact ⟨ret_bool HN.out.symm, _, rfl⟩
  · have HN : Hid (decide (zs = ys) = false) := by
      rw [Hid, decide_eq_false_iff_not]
      intro h
      exact hn (by rw [← hzl, ← hyl, h])
    have hb : ((n : Int) != (n' : Int)) = true := by simp; omega
    have hb' : ((n : Int) == (n' : Int)) = false := by simp; omega
    clear hn
    go_enter Try.func78, Try.ntmps78
    go_wp2
    go_ret
    exact ⟨ret_bool HN.out.symm, 0, rfl⟩

set_option maxRecDepth 100000 in
set_option maxHeartbeats 1600000 in
theorem likeT_any (g og cg n g' og' cg' n' : Nat) (zs ys : List (List UInt8)) (w : World) (hz : OS w g og n cg zs) (hy : OS w g' og' n' cg' ys) :
    Calls Try.prog 72 #[.slice (some ⟨g, og, none⟩) n cg, .slice (some ⟨g', og', none⟩) n' cg'] w fun e w' => e = .returned (.bool (decide (zs = ys))) ∧ ∃ q, w' = w.drewN q := by
  have hzl := hz.length
  have hyl := hy.length
  have hm : n ≤ maxLen := Nat.le_trans hz.le hz.max
  have hm' : n' ≤ maxLen := Nat.le_trans hy.le hy.max
  unfold maxLen at hm hm'
  have HZ : Hid (OS w g og n cg zs) := hz
  have HY : Hid (OS w g' og' n' cg' ys) := hy
  clear hz hy
  by_cases hn : n = n'
  · subst hn
    go_enter Try.func72, Try.ntmps72
    go_wp2
    go_loopw [5] (fun i wr => ∃ j : Nat, j ≤ n ∧ i = .int .i64 j ∧ zs.take j = ys.take j ∧ ∃ q, wr = w.drewN q) (fun i _ => n - (intOf i).toNat)
    case atStart => exact ⟨0, Nat.zero_le _, rfl, rfl, 0, rfl⟩
    case round =>
      obtain ⟨j, hj, rfl, he, q, rfl⟩ := hrel
      have HE : Hid (zs.take j = ys.take j) := he
      clear he
      by_cases hlt : j < n
      · have c1 := HZ.out.cellAt hlt
        have c2 := HY.out.cellAt hlt
        have HT1 : Hid (zs.take (j + 1) = zs.take j ++ [zs.getD j []]) := by rw [Hid, List.take_succ_eq_append_getElem (by omega)]; simp [show j < zs.length by omega]
        have HT2 : Hid (ys.take (j + 1) = ys.take j ++ [ys.getD j []]) := by rw [Hid, List.take_succ_eq_append_getElem (by omega)]; simp [show j < ys.length by omega]
        have j1 : (j : Int) < (n : Int) := by omega
        have j0 : (0 : Int) ≤ (j : Int) := by omega
        by_cases hq : zs.getD j [] = ys.getD j []
        · have hb : ((sv (zs.getD j [])).toList == (sv (ys.getD j [])).toList) = true := by rw [sv_list, sv_list, hq]; simp
          have HN : Hid (zs.take (j + 1) = ys.take (j + 1)) := by rw [Hid, HT1.out, HT2.out, HE.out, hq]
          clear hq
          generalize zs.getD j [] = A at *
          generalize ys.getD j [] = B at *
          go_wp2_with fail
          go_quiet (fail)
          go_wp2
          go_roundw
          case rel => exact ⟨j + 1, by omega, by go_num, HN.out, _, rfl⟩
          case measure => simp [intOf]; omega
        · have hb : ((sv (zs.getD j [])).toList == (sv (ys.getD j [])).toList) = false := by rw [sv_list, sv_list]; simpa using hq
          have HN : Hid (decide (zs = ys) = false) := by
            rw [Hid, decide_eq_false_iff_not]
            intro h
            exact hq (by rw [h])
          clear hq
          generalize zs.getD j [] = A at *
          generalize ys.getD j [] = B at *
          go_wp2_with fail
          go_quiet (fail)
          go_wp2
          go_ret
          exact ⟨ret_bool HN.out.symm, _, World.drewN_drewN _ _ _⟩
      · have hjn : j = n := by omega
        subst hjn
        have HN : Hid (decide (zs = ys) = true) := by
          rw [Hid, decide_eq_true_eq]
          have := HE.out
          rwa [List.take_of_length_le (by omega), List.take_of_length_le (by omega)] at this
        go_wp2
        go_ret
        exact ⟨ret_bool HN.out.symm, _, rfl⟩
  · have HN : Hid (decide (zs = ys) = false) := by
      rw [Hid, decide_eq_false_iff_not]
      intro h
      exact hn (by rw [← hzl, ← hyl, h])
    have hb : ((n : Int) != (n' : Int)) = true := by simp; omega
    have hb' : ((n : Int) == (n' : Int)) = false := by simp; omega
    clear hn
    go_enter Try.func72, Try.ntmps72
    go_wp2
    go_ret
    exact ⟨ret_bool HN.out.symm, 0, rfl⟩

set_option maxRecDepth 100000 in
set_option maxHeartbeats 1600000 in
theorem markS_any (g off cap k0 n : Nat) (zs : List (List UInt8)) (w : World) (ho : OS w g off n cap zs) (hk1 : 1 ≤ k0) (hk : k0 ≤ 10000000) (hn : n ≤ 10000000) :
    Calls Try.prog 80 #[.slice (some ⟨g, off, none⟩) n cap, .int .i64 (k0 : Int)] w fun e w' => e = .returned (.int .i64 ((k0 : Int) + (n : Int))) ∧ OS w' g off n cap (marksS n k0) ∧ w.grownBy w' (some g) := by
  have hzl := ho.length
  subst hzl
  have HO0 : Hid (OS w g off zs.length cap zs) := ho
  clear ho
  go_enter Try.func80, Try.ntmps80
  go_wp2
  go_loopw [1, 5] (fun q i wr => ∃ j : Nat, j ≤ zs.length ∧ i = .int .i64 j ∧ q = .int .i64 ((k0 + j : Nat) : Int) ∧ OS wr g off zs.length cap (mkS zs k0 j) ∧ w.grownBy wr (some g)) (fun _ i _ => zs.length - (intOf i).toNat)
  case atStart => exact ⟨0, Nat.zero_le _, rfl, rfl, by rw [mkS_zero]; exact HO0.out, grown_refl _ _⟩
  case round =>
    obtain ⟨j, hj, rfl, rfl, hown, ht⟩ := hrel
    have HO : Hid (OS wr g off zs.length cap (mkS zs k0 j)) := hown
    have HT : Hid (w.grownBy wr (some g)) := ht
    clear hown ht HO0
    by_cases hlt : j < zs.length
    · have hM := markText_any (k0 + j) wr (by omega) (by omega)
      have j1 : (j : Int) < (zs.length : Int) := by omega
      have j0 : (0 : Int) ≤ (j : Int) := by omega
      have HST : Hid ((mkS zs k0 j).set j (mtL (k0 + j)) = mkS zs k0 (j + 1)) := mkS_step hlt
      go_wp2_with fail
      refine hM.mono ?_
      rintro e w1 ⟨rfl, hb1⟩
      have KO : Hid (OS w1 g off zs.length cap (mkS zs k0 j)) := HO.out.below hb1 HO.out.blk
      have hc := KO.out.cellAt hlt
      have hf := KO.out.free j (by have := KO.out.le; omega)
      have KO' : Hid (OS (w1.setCell ⟨g, off + j, none⟩ (.string (sv (mtL (k0 + j))))) g off zs.length cap (mkS zs k0 (j + 1))) := by rw [Hid, ← HST.out]; exact KO.out.set hlt _
      have KT' : Hid (w.grownBy (w1.setCell ⟨g, off + j, none⟩ (.string (sv (mtL (k0 + j))))) (some g)) := grown_set (grown_trans HT.out ⟨hb1.os, hb1.tape, hb1.output, hb1.size, fun x hx _ => hb1.block x hx⟩) (off + j) _
      clear hb1 hM
      generalize mtL (k0 + j) = MT at *
      go_wp2
      go_roundw
      case rel => exact ⟨j + 1, by omega, by go_num, by go_num, KO'.out, KT'.out⟩
      case measure => simp [intOf]; omega
    · have hjl : j = zs.length := by omega
      subst hjl
      have HD : Hid (OS wr g off zs.length cap (marksS zs.length k0)) := by rw [Hid, ← mkS_done]; exact HO.out
      go_wp2
      go_ret
      exact ⟨ret_int (by omega), HD.out, HT.out⟩

set_option maxRecDepth 100000 in
set_option maxHeartbeats 1600000 in
theorem heldS_any (g off cap k0 n : Nat) (w : World) (ho : OS w g off n cap (marksS n k0)) (hk1 : 1 ≤ k0) (hk : k0 ≤ 10000000) (hn : n ≤ 10000000) :
    Calls Try.prog 82 #[.slice (some ⟨g, off, none⟩) n cap, .int .i64 (k0 : Int)] w fun e w' => e = .returned (.int .i64 ((k0 : Int) + (n : Int))) ∧ Below w.heap.size w w' := by
  have HO0 : Hid (OS w g off n cap (marksS n k0)) := ho
  clear ho
  go_enter Try.func82, Try.ntmps82
  go_wp2
  go_loopw [1, 5] (fun q i wr => ∃ j : Nat, j ≤ n ∧ i = .int .i64 j ∧ q = .int .i64 ((k0 + j : Nat) : Int) ∧ Below w.heap.size w wr) (fun _ i _ => n - (intOf i).toNat)
  case atStart => exact ⟨0, Nat.zero_le _, rfl, rfl, Below.refl _ _⟩
  case round =>
    obtain ⟨j, hj, rfl, rfl, hb⟩ := hrel
    have HB : Hid (Below w.heap.size w wr) := hb
    clear hb
    by_cases hlt : j < n
    · have HO := HO0.out.below HB.out HO0.out.blk
      have hc := HO.cellAt hlt
      rw [marksS_get hlt] at hc
      have hM := fun X => markText_any (k0 + j) X (by omega) (by omega)
      have j1 : (j : Int) < (n : Int) := by omega
      have j0 : (0 : Int) ≤ (j : Int) := by omega
      generalize mtL (k0 + j) = MT at *
      have hq : ((sv MT).toList == (sv MT).toList) = true := by simp
      have hS : ∀ X, Below wr.heap.size wr X → X.cell? ⟨g, off + j, none⟩ = some (.string (sv MT)) := fun X hX => (hX.cell (World.block_lt_of_cell? _ _ hc)).trans hc
      have bd : Below wr.heap.size wr (wr.drewN 1) := belowN (Below.refl _ _)
      clear HO hc
      go_wp2_with fail
      go_region_held3 (fun X => X.cell? ⟨g, off + j, none⟩ = some (.string (sv MT)))
        (first
          | exact hS _ b1
          | exact hS _ bd)
        (first
          | (go_at_call 96; refine (hM _).mono ?_; rintro e w1 ⟨rfl, hb1⟩; have b1 : Below wr.heap.size wr w1 := bd.trans (hb1.mono bd.size)))
      have HB' : Hid (Below w.heap.size w w1) := HB.out.trans (b1.mono HB.out.size)
      clear hM hS bd b1 hb1
      go_wp2
      go_roundw
      case rel => exact ⟨j + 1, by omega, by go_num, by go_num, HB'.out⟩
      case measure => simp [intOf]; omega
    · have hjl : j = n := by omega
      subst hjl
      go_wp2
      go_ret
      exact ⟨ret_int (by omega), HB.out⟩
end Go.Proofs.Ytgaibngaincahaa

/-
  The walks of the exact laws of frames, from what the program's functions answer.
-/
namespace Go.Proofs.Ytgaibngaincahaa
set_option linter.unusedSimpArgs false
set_option linter.unusedVariables false
open Go.RowKit Go.Sort

attribute [local irreducible] sv
end Go.Proofs.Ytgaibngaincahaa
