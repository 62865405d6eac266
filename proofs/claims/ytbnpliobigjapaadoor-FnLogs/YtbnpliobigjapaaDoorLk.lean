/-
  Several texts in one: Jlc.
-/
import Derived.Test.YtbnpliobigjapaaDoorLj
import Derived.Lib.MinMax
/-
  The program's TextAt, Shorter and Cut.
-/
namespace Go.Proofs.YtbnpliobigjapaaDoor
set_option linter.unusedVariables false
set_option linter.unusedSimpArgs false
open Go.RowKit Go.Sort

attribute [local irreducible] sv
set_option maxRecDepth 100000 in
set_option maxHeartbeats 1600000 in
theorem implLogOk : ImplLogOk := fun F a cap T w hF hv hm hs => (lgkI_any F a cap T w hv.txs (by unfold maxLen; omega)).mono (fun e w' h => ⟨h.1, h.2.1⟩)
set_option maxRecDepth 100000 in
set_option maxHeartbeats 1600000 in
theorem implTextAt : ImplTextAt := by
  intro F a cap T v w hF hvI hv hm hs
  have hG0 : Grew w (w.alloc (.cells #[.int .i64 F, .slice a T.length cap] 26)) := (Grew.refl _).alloc _
  have hK := lgkI_any F a cap T _ (hv.txs.grew hG0) (by unfold maxLen; omega)
  have HV : Hid (TxS w a T) := hv.txs
  have hnil : (⟨#[]⟩ : ByteArray) = sv [] := by unfold sv; rfl
  have HN : Hid ((⟨#[]⟩ : ByteArray) = sv []) := hnil
  clear hv hnil
  by_cases hok : okLg (F, T)
  · rw [decide_eq_true hok] at hK
    have h1 := hok.1
    have h40 := hok.2.1
    simp only at h1 h40
    have hw1 : wrap64 (F + (T.length : Int)) = F + (T.length : Int) := by unfold wrap64; omega
    have hX := fun X => nxtI_any F a T.length cap X hw1
    unfold lgV at hK hX ⊢
    by_cases hin : F ≤ v ∧ v < F + (T.length : Int)
    · obtain ⟨k, hkv⟩ : ∃ k : Nat, v - F = (k : Int) := ⟨(v - F).toNat, by omega⟩
      have hk : k < T.length := by omega
      have HZ : Hid (txtLg (F, T) v = (T.getD k [], true)) := by rw [Hid, txtLg, if_pos ⟨hok, ⟨hin.1, by simp only; omega⟩⟩, show (v - (F, T).1).toNat = k by simp only; omega]
      have C := fun X => clone_any (T.getD k []) X (hs k hk)
      rcases HV.out with h0 | ⟨b, off, rfl, hc⟩
      · omega
      have hck := hc k hk
      have hw3 : (v - F).toNat = k := by omega
      have k1 : v - F < (T.length : Int) := by omega
      have k0 : (0 : Int) ≤ v - F := by omega
      have g1 : ¬ (v < F) := by omega
      have g2 : ¬ (F + (T.length : Int) ≤ v) := by omega
      clear hok hc HV hkv hin hs
      generalize T.getD k [] = t at *
      go_enter Tryd.func19, Tryd.ntmps19
      go_wp2_with (first
        | (go_at_call 17; refine hK.mono ?_; rintro e w2 ⟨rfl, hg2⟩; have x0 := hg2.cell (x := ⟨w.heap.size, 0, none⟩) (v := .int .i64 F) (by simp); have x1 := hg2.cell (x := ⟨w.heap.size, 1, none⟩) (v := .slice (some ⟨b, off, none⟩) T.length cap) (by simp); have x2 := hg2.cell (hG0.cell hck))
        | (go_at_call 34; refine (hX _).mono ?_; rintro e w3 ⟨rfl, hg3⟩; have y0 := hg3.cell x0; have y1 := hg3.cell x1; have y2 := hg3.cell x2)
        | (go_at_call 35; refine (C _).mono ?_; rintro e w4 ⟨rfl, hb4⟩))
      refine bodyPost_ret (v := .tuple #[.string (sv t), .bool true]) (by simp [results, Tryd.results19, go_sem, *]) rfl ?_
      rw [HZ.out]
      have hb3 := (hG0.trans (hg2.trans hg3)).1
      exact ⟨rfl, hb3.trans (hb4.mono hb3.size)⟩
    · have HZ : Hid (txtLg (F, T) v = ([], false)) := by rw [Hid, txtLg, if_neg (fun h => hin (by have := h.2; simp only [txtB] at this; omega))]
      have hcase : v < F ∨ (¬ v < F ∧ F + (T.length : Int) ≤ v) := by omega
      clear hok hin
      rcases hcase with g1 | ⟨g1, g2⟩
      all_goals
        go_enter Tryd.func19, Tryd.ntmps19
        go_wp2_with (first
          | (go_at_call 17; refine hK.mono ?_; rintro e w2 ⟨rfl, hg2⟩; have x0 := hg2.cell (x := ⟨w.heap.size, 0, none⟩) (v := .int .i64 F) (by simp); have x1 := hg2.cell (x := ⟨w.heap.size, 1, none⟩) (v := .slice a T.length cap) (by simp))
          | (go_at_call 34; refine (hX _).mono ?_; rintro e w3 ⟨rfl, hg3⟩))
        refine bodyPost_ret (v := .tuple #[.string ⟨#[]⟩, .bool false]) (by simp [results, Tryd.results19, go_sem, *]) rfl ?_
        rw [HZ.out, HN.out]
        first
          | exact ⟨rfl, (hG0.trans (hg2.trans hg3)).1⟩
          | exact ⟨rfl, (hG0.trans hg2).1⟩
  · rw [decide_eq_false hok] at hK
    have HZ : Hid (txtLg (F, T) v = ([], false)) := by rw [Hid, txtLg, if_neg (fun h => hok h.1)]
    unfold lgV at hK ⊢
    clear hok
    go_enter Tryd.func19, Tryd.ntmps19
    go_wp2_with (go_at_call 17; refine hK.mono ?_; rintro e w2 ⟨rfl, hg2⟩)
    refine bodyPost_ret (v := .tuple #[.string ⟨#[]⟩, .bool false]) (by simp [results, Tryd.results19, go_sem, *]) rfl ?_
    rw [HZ.out, HN.out]
    exact ⟨rfl, (hG0.trans hg2).1⟩
end Go.Proofs.YtbnpliobigjapaaDoor
