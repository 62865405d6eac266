/-
  The contract of the program's (*marks).add.
-/
import Derived.Test.YtacogcfdolmfpaaArr
namespace Go.Proofs.Ytacogcfdolmfpaa
set_option linter.unusedSimpArgs false
set_option linter.unusedVariables false
open Go.RowKit Go.Sort

set_option maxRecDepth 100000 in
set_option maxHeartbeats 1600000 in
theorem add_any (b : Nat) (m x : Nat → Bool) (w : World) (hb : Bo w b 0 40 m) :
    Calls Try.prog 117 #[.pointer (some ⟨b, 0, none⟩), .agg (mV 40 x)] w fun e w' => e = .returned (.tuple #[]) ∧ Bo w' b 0 40 (fun j => m j || x j) ∧ w.grownBy w' (some b) := by
  have hbl := hb.blk
  have hB1 : Bo (w.alloc (.cells (mV 40 x) 83)) b 0 40 m := hb.below ((Below.refl _ _).alloc (Nat.le_refl _) _) hbl
  have hX := bo_alloc w 40 x 83
  go_enter Try.func117, Try.ntmps117
  go_wp2_with (first | (refine wpL_load _ rfl 83 40 40 _ rfl 4 Try.underlying83 Try.info79 w.heap.size 0 x rfl hX ?_))
  go_loopw [7] (fun i wr => ∃ k : Nat, k ≤ 40 ∧ i = .int .i64 k ∧ Bo wr b 0 40 (fun j => m j || (decide (j < k) && x j)) ∧ w.grownBy wr (some b)) (fun i _ => 40 - (intOf i).toNat)
  case atStart => exact ⟨0, Nat.zero_le _, rfl, hB1.congr (fun j _ => by simp), World.grownBy_alloc _ _ _⟩
  case round =>
    obtain ⟨k, hk, rfl, hBo, hg⟩ := hrel
    have HBo : Hid (Bo wr b 0 40 (fun j => m j || (decide (j < k) && x j))) := hBo
    have HG : Hid (w.grownBy wr (some b)) := hg
    clear hBo hg
    by_cases hlt : k < 40
    · have c0 := HBo.out.cell k hlt
      have f0 := HBo.out.free k hlt
      simp only [Nat.zero_add, Nat.lt_irrefl, decide_false, Bool.false_and, Bool.or_false] at c0 f0
      have hk1 : (k : Int) < 40 := by omega
      have hk0 : (0 : Int) ≤ (k : Int) := by omega
      clear hB1 hX
      cases hmk : m k
      · rw [hmk] at c0
        go_wp2_with (first | (refine wpL_index _ rfl _ _ rfl x k rfl rfl hlt ?_))
        go_region
        have R : Hid (Bo (wr.setCell ⟨b, k, none⟩ (.bool (x k))) b 0 40 (fun j => m j || (decide (j < k + 1) && x j))) := by
          have := HBo.out.set hlt (x k)
          rw [Nat.zero_add] at this
          exact this.congr (fun j _ => by
            by_cases e : j = k
            · subst e; simp [hmk]
            · rw [if_neg e]
              by_cases h : j < k
              · simp [h, show j < k + 1 by omega]
              · simp [h, show ¬ j < k + 1 by omega])
        have RG : Hid (w.grownBy (wr.setCell ⟨b, k, none⟩ (.bool (x k))) (some b)) := grown_set HG.out _ _
        clear c0 f0
        go_wp2
        go_roundw
        case rel => exact ⟨k + 1, by omega, by go_num, R.out.drewN 1, grown_drewN RG.out 1⟩
        case measure => simp [intOf]; omega
      · rw [hmk] at c0
        go_wp2_with (first | (refine wpL_index _ rfl _ _ rfl x k rfl rfl hlt ?_))
        go_region
        have R : Hid (Bo (wr.setCell ⟨b, k, none⟩ (.bool true)) b 0 40 (fun j => m j || (decide (j < k + 1) && x j))) := by
          have := HBo.out.set hlt true
          rw [Nat.zero_add] at this
          exact this.congr (fun j _ => by
            by_cases e : j = k
            · subst e; simp [hmk]
            · rw [if_neg e]
              by_cases h : j < k
              · simp [h, show j < k + 1 by omega]
              · simp [h, show ¬ j < k + 1 by omega])
        have RG : Hid (w.grownBy (wr.setCell ⟨b, k, none⟩ (.bool true)) (some b)) := grown_set HG.out _ _
        clear c0 f0
        go_wp2
        go_roundw
        case rel => exact ⟨k + 1, by omega, by go_num, R.out.drewN 1, grown_drewN RG.out 1⟩
        case measure => simp [intOf]; omega
    · have hk40 : k = 40 := by omega
      subst hk40
      go_wp2
      go_end0
      exact ⟨rfl, HBo.out.congr (fun j hj => by simp [hj]), HG.out⟩
end Go.Proofs.Ytacogcfdolmfpaa
