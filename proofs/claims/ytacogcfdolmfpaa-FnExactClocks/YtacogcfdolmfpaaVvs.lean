/-
  The laws' own functions on slices of rows: eqInt64SS, likeVectors, markInt64SS, heldInt64SS.
-/
import Derived.Test.YtacogcfdolmfpaaNws
namespace Go.Proofs.Ytacogcfdolmfpaa
set_option linter.unusedSimpArgs false
set_option linter.unusedVariables false
open Go.RowKit Go.Sort

theorem drew_more {w w' : World} {q x : Nat} (h : ∃ n, w' = (w.drewN (q + x)).drewN n) : ∃ n, w' = w.drewN (q + n) := by
  obtain ⟨n, rfl⟩ := h
  exact ⟨x + n, by rw [World.drewN_drewN, Nat.add_assoc]⟩
theorem VR.at8 {w : World} {Bs g off n cap k : Nat} {r : Nat → Nat × Nat × Nat} {Z : Nat → List Int} (h : VR w Bs g off n cap k r Z) (h8 : ∀ i, i < k → (Z i).length = 8) {i : Nat} (hi : i < k) (hn : i < n) : w.cell? ⟨g, off + i, none⟩ = some (.slice (some ⟨(r i).1, (r i).2.1, none⟩) 8 (r i).2.2) := by
  rw [h.cell hi hn, rowV, h8 i hi]
theorem VR.row8 {w : World} {Bs g off n cap k : Nat} {r : Nat → Nat × Nat × Nat} {Z : Nat → List Int} (h : VR w Bs g off n cap k r Z) (h8 : ∀ i, i < k → (Z i).length = 8) {i : Nat} (hi : i < k) : OI w (r i).1 (r i).2.1 8 (r i).2.2 (Z i) := by
  have := h.row i hi
  rwa [h8 i hi] at this
theorem VR.congr {w : World} {Bs g off n cap k : Nat} {r : Nat → Nat × Nat × Nat} {Z Z' : Nat → List Int} (h : VR w Bs g off n cap k r Z) (e : ∀ i, i < k → Z i = Z' i) : VR w Bs g off n cap k r Z' := by
  refine ⟨?_, fun i hi => by rw [← e i hi]; exact h.row i hi, h.apart, h.far, h.news⟩
  have : (List.range n).map (rowAt k r Z) = (List.range n).map (rowAt k r Z') := List.map_congr_left (fun i _ => by
    unfold rowAt
    split
    · rename_i hi; rw [e i hi]
    · rfl)
  rw [← this]; exact h.outer
theorem VR.mark {w w' : World} {Bs g off n cap j : Nat} {r : Nat → Nat × Nat × Nat} {Z : Nat → List Int} {zs : List Int} (h : VR w Bs g off n cap n r Z) (hj : j < n) (ht : Touch (r j).1 w w') (hl : zs.length = (Z j).length) (ho : OI w' (r j).1 (r j).2.1 zs.length (r j).2.2 zs) :
    VR w' Bs g off n cap n r (fun i => if i = j then zs else Z i) := by
  refine ⟨?_, ?_, h.apart, h.far, h.news⟩
  · have e : (List.range n).map (rowAt n r (fun i => if i = j then zs else Z i)) = (List.range n).map (rowAt n r Z) := List.map_congr_left (fun i _ => by
      unfold rowAt rowV
      by_cases e : i = j
      · subst e; simp only [if_true, hl]
      · simp only [if_neg e])
    rw [e]
    exact h.outer.of_block (ht.block g (Ne.symm (h.far j hj))) (by rw [ht.size]; exact h.outer.blk)
  · intro i hi
    by_cases e : i = j
    · subst e
      rw [if_pos rfl]; exact ho
    · rw [if_neg e]
      refine OSl.of_block (h.row i hi) (ht.block _ ?_) (by rw [ht.size]; exact (h.row i hi).blk)
      rcases Nat.lt_or_gt_of_ne e with hlt | hgt
      · exact h.apart i j hlt hj
      · exact Ne.symm (h.apart j i hgt hi)

set_option maxRecDepth 100000 in
set_option maxHeartbeats 1600000 in
theorem eqVV_any (g off cap g' off' cap' n Bs Bs' : Nat) (r r' : Nat → Nat × Nat × Nat) (Z : Nat → List Int) (w : World) (h : VR w Bs g off n cap n r Z) (h' : VR w Bs' g' off' n cap' n r' Z) (hn : n ≤ 40) (h8 : ∀ i, i < n → (Z i).length = 8) (hf : ∀ i, i < n → Fits (Z i)) :
    Calls Try.prog 56 #[.slice (some ⟨g, off, none⟩) n cap, .slice (some ⟨g', off', none⟩) n cap'] w fun e w' => e = .returned (.bool true) ∧ ∃ q, w' = w.drewN q := by
  have HV : Hid (VR w Bs g off n cap n r Z) := h
  have HV' : Hid (VR w Bs' g' off' n cap' n r' Z) := h'
  have H8 : Hid (∀ i, i < n → (Z i).length = 8) := h8
  have HF : Hid (∀ i, i < n → Fits (Z i)) := hf
  clear h h' h8 hf
  go_enter Try.func56, Try.ntmps56
  go_wp2
  go_loopw [5] (fun i wr => ∃ k : Nat, k ≤ n ∧ i = .int .i64 k ∧ ∃ q, wr = w.drewN q) (fun i _ => n - (intOf i).toNat)
  case atStart => exact ⟨0, Nat.zero_le _, rfl, 0, rfl⟩
  case round =>
    obtain ⟨k, hk, rfl, q, rfl⟩ := hrel
    by_cases hlt : k < n
    · have x1 := HV.out.at8 H8.out hlt hlt
      have x2 := HV'.out.at8 H8.out hlt hlt
      have hi1 : (k : Int) < (n : Int) := by omega
      have hE := fun (X : Nat) => eq_any (some ⟨(r k).1, (r k).2.1, none⟩) (some ⟨(r' k).1, (r' k).2.1, none⟩) 8 (r k).2.2 8 (r' k).2.2 (Z k) (Z k) (w.drewN X) (((HV.out.row8 H8.out hlt).vec (HF.out k hlt)).drewN X) (((HV'.out.row8 H8.out hlt).vec (HF.out k hlt)).drewN X) (by unfold maxLen; omega)
      have hd : decide (Z k = Z k) = true := by simp
      rw [hd] at hE
      go_wp2_with fail
      go_quiet (first | (go_at_call 62; exact (hE (q + _)).mono (fun e w' h => ⟨h.1, drew_more h.2⟩)))
      go_wp2
      go_roundw
      case rel => exact ⟨k + 1, by omega, by go_num, _, rfl⟩
      case measure => simp [intOf]; omega
    · go_wp2
      go_ret
      exact ⟨rfl, _, rfl⟩

set_option maxRecDepth 100000 in
set_option maxHeartbeats 1600000 in
theorem likeVV_any (g off cap g' off' cap' n Bs Bs' : Nat) (r r' : Nat → Nat × Nat × Nat) (Z : Nat → List Int) (w : World) (h : VR w Bs g off n cap n r Z) (h' : VR w Bs' g' off' n cap' n r' Z) (hn : n ≤ 40) (h8 : ∀ i, i < n → (Z i).length = 8) (hf : ∀ i, i < n → Fits (Z i)) :
    Calls Try.prog 45 #[.slice (some ⟨g, off, none⟩) n cap, .slice (some ⟨g', off', none⟩) n cap'] w fun e w' => e = .returned (.bool true) ∧ ∃ q, w' = w.drewN q := by
  have HV : Hid (VR w Bs g off n cap n r Z) := h
  have HV' : Hid (VR w Bs' g' off' n cap' n r' Z) := h'
  have H8 : Hid (∀ i, i < n → (Z i).length = 8) := h8
  have HF : Hid (∀ i, i < n → Fits (Z i)) := hf
  clear h h' h8 hf
  go_enter Try.func45, Try.ntmps45
  go_wp2
  go_loopw [5] (fun i wr => ∃ k : Nat, k ≤ n ∧ i = .int .i64 k ∧ ∃ q, wr = w.drewN q) (fun i _ => n - (intOf i).toNat)
  case atStart => exact ⟨0, Nat.zero_le _, rfl, 0, rfl⟩
  case round =>
    obtain ⟨k, hk, rfl, q, rfl⟩ := hrel
    by_cases hlt : k < n
    · have x1 := HV.out.at8 H8.out hlt hlt
      have x2 := HV'.out.at8 H8.out hlt hlt
      have hi1 : (k : Int) < (n : Int) := by omega
      have hE := fun (X : Nat) => like_any (some ⟨(r k).1, (r k).2.1, none⟩) (some ⟨(r' k).1, (r' k).2.1, none⟩) 8 (r k).2.2 8 (r' k).2.2 (Z k) (Z k) (w.drewN X) (((HV.out.row8 H8.out hlt).vec (HF.out k hlt)).drewN X) (((HV'.out.row8 H8.out hlt).vec (HF.out k hlt)).drewN X) (by unfold maxLen; omega)
      have hd : sameB (Z k) (Z k) = true := by simp [sameB]
      rw [hd] at hE
      go_wp2_with fail
      go_quiet (first | (go_at_call 17; exact (hE (q + _)).mono (fun e w' h => ⟨h.1, drew_more h.2⟩)))
      go_wp2
      go_roundw
      case rel => exact ⟨k + 1, by omega, by go_num, _, rfl⟩
      case measure => simp [intOf]; omega
    · go_wp2
      go_ret
      exact ⟨rfl, _, rfl⟩

set_option maxRecDepth 100000 in
set_option maxHeartbeats 1600000 in
theorem markVV_any (g off cap n Bs : Nat) (r : Nat → Nat × Nat × Nat) (Z : Nat → List Int) (w : World) (h : VR w Bs g off n cap n r Z) (hn : n ≤ 40) (h8 : ∀ i, i < n → (Z i).length = 8) (hB : Bs ≤ w.heap.size) :
    Calls Try.prog 59 #[.slice (some ⟨g, off, none⟩) n cap, .int .i64 1] w fun e w' => e = .returned (.int .i64 ((1 + 8 * n : Nat) : Int)) ∧ VR w' Bs g off n cap n r (fun i => marks 8 (1 + 8 * i)) ∧ Below Bs w w' := by
  have HV0 : Hid (VR w Bs g off n cap n r Z) := h
  have H8 : Hid (∀ i, i < n → (Z i).length = 8) := h8
  clear h h8
  go_enter Try.func59, Try.ntmps59
  go_wp2
  go_loopw [1, 5] (fun q i wr => ∃ k : Nat, k ≤ n ∧ i = .int .i64 k ∧ q = .int .i64 ((1 + 8 * k : Nat) : Int) ∧ VR wr Bs g off n cap n r (fun i => if i < k then marks 8 (1 + 8 * i) else Z i) ∧ Below Bs w wr) (fun _ i _ => n - (intOf i).toNat)
  case atStart => exact ⟨0, Nat.zero_le _, rfl, rfl, HV0.out.congr (fun i _ => by simp), Below.refl _ _⟩
  case round =>
    obtain ⟨k, hk, rfl, rfl, hv, hb⟩ := hrel
    have HV : Hid (VR wr Bs g off n cap n r (fun i => if i < k then marks 8 (1 + 8 * i) else Z i)) := hv
    have HB : Hid (Below Bs w wr) := hb
    have H8' : Hid (∀ i, i < n → (if i < k then marks 8 (1 + 8 * i) else Z i).length = 8) := fun i hi => by
      split
      · exact marks_len _ _
      · exact H8.out i hi
    clear hv hb
    by_cases hlt : k < n
    · have x1 := HV.out.at8 H8'.out hlt hlt
      have hi1 : (k : Int) < (n : Int) := by omega
      have hM := markO_any (r k).1 (r k).2.1 (r k).2.2 (1 + 8 * k) 8 ((1 + 8 * k : Nat) : Int) _ wr (HV.out.row8 H8'.out hlt) rfl (by omega) (by omega)
      go_wp2_with fail
      refine hM.mono ?_
      rintro e w2 ⟨rfl, ho2, ht2⟩
      have R : Hid (VR w2 Bs g off n cap n r (fun i => if i < k + 1 then marks 8 (1 + 8 * i) else Z i)) := by
        refine (HV.out.mark (zs := marks 8 (1 + 8 * k)) hlt ht2 (by rw [marks_len, H8'.out k hlt]) (by rw [marks_len]; exact ho2)).congr (fun i hi => ?_)
        by_cases e : i = k
        · subst e; simp
        · by_cases h2 : i < k
          · simp [e, h2, show i < k + 1 by omega]
          · simp [e, h2, show ¬ i < k + 1 by omega]
      have R2 : Hid (Below Bs w w2) := HB.out.trans (ht2.below (HV.out.news k hlt))
      have e8 : ((1 + 8 * k : Nat) : Int) + ((8 : Nat) : Int) = ((1 + 8 * (k + 1) : Nat) : Int) := by omega
      rw [e8]
      clear ho2 ht2 hM x1
      go_wp2
      go_roundw
      case rel => exact ⟨k + 1, by omega, by go_num, rfl, R.out, R2.out⟩
      case measure => simp [intOf]; omega
    · have hkn : k = n := by omega
      subst hkn
      go_wp2
      go_ret
      exact ⟨rfl, HV.out.congr (fun i hi => by simp [hi]), HB.out⟩

set_option maxRecDepth 100000 in
set_option maxHeartbeats 1600000 in
theorem heldVV_any (g off cap n Bs : Nat) (r : Nat → Nat × Nat × Nat) (w : World) (h : VR w Bs g off n cap n r (fun i => marks 8 (1 + 8 * i))) (hn : n ≤ 40) :
    Calls Try.prog 60 #[.slice (some ⟨g, off, none⟩) n cap, .int .i64 1] w fun e w' => e = .returned (.int .i64 ((1 + 8 * n : Nat) : Int)) ∧ w' = w := by
  have HV : Hid (VR w Bs g off n cap n r (fun i => marks 8 (1 + 8 * i))) := h
  have H8 : Hid (∀ i, i < n → (marks 8 (1 + 8 * i)).length = 8) := fun i _ => marks_len _ _
  clear h
  go_enter Try.func60, Try.ntmps60
  go_wp2
  go_loopw [1, 5] (fun q i wr => ∃ k : Nat, k ≤ n ∧ i = .int .i64 k ∧ q = .int .i64 ((1 + 8 * k : Nat) : Int) ∧ wr = w) (fun _ i _ => n - (intOf i).toNat)
  case atStart => exact ⟨0, Nat.zero_le _, rfl, rfl, rfl⟩
  case round =>
    obtain ⟨k, hk, rfl, rfl, rfl⟩ := hrel
    by_cases hlt : k < n
    · have x1 := HV.out.at8 H8.out hlt hlt
      have hi1 : (k : Int) < (n : Int) := by omega
      have hM := heldO_any (r k).1 (r k).2.1 (r k).2.2 (1 + 8 * k) 8 ((1 + 8 * k : Nat) : Int) wr (HV.out.row8 H8.out hlt) rfl (by omega) (by omega)
      have e8 : ((1 + 8 * k : Nat) : Int) + ((8 : Nat) : Int) = ((1 + 8 * (k + 1) : Nat) : Int) := by omega
      rw [e8] at hM
      have hp : decide (((1 + 8 * (k + 1) : Nat) : Int) < 0) = false := by simp; omega
      go_wp2_with fail
      refine hM.mono ?_
      rintro e w2 ⟨rfl, hw2⟩
      replace hw2 := hw2.symm
      subst hw2
      clear hM
      go_wp2
      go_roundw
      case rel => exact ⟨k + 1, by omega, by go_num, rfl, trivial⟩
      case measure => simp [intOf]; omega
    · have hkn : k = n := by omega
      subst hkn
      go_wp2
      go_ret
      exact ⟨rfl, rfl⟩
end Go.Proofs.Ytacogcfdolmfpaa
