/-
  Several texts in one: Jlc Jld.
-/
import Derived.Test.YtbnpliobigjapaaLj
import Derived.Test.YtbnpliobigjapaaJo
import Derived.Lib.MinMax
/-
  The program's TextAt, Shorter and Cut.
-/
namespace Go.Proofs.Ytbnpliobigjapaa
set_option linter.unusedVariables false
set_option linter.unusedSimpArgs false
open Go.RowKit Go.Sort

attribute [local irreducible] sv
set_option maxRecDepth 100000 in
set_option maxHeartbeats 1600000 in
theorem implLogOk : ImplLogOk := fun F a cap T w hF hv hm hs => (lgkI_any F a cap T w hv.txs (by unfold maxLen; omega)).mono (fun e w' h => ⟨h.1, h.2.1⟩)
set_option maxRecDepth 100000 in
set_option maxHeartbeats 1600000 in
theorem implTextAt : ImplTextAt := by
  intro F a cap T v w hF hvI hv hm hs
  have hG0 : Grew w (w.alloc (.cells #[.int .i64 F, .slice a T.length cap] 35)) := (Grew.refl _).alloc _
  have hK := lgkI_any F a cap T _ (hv.txs.grew hG0) (by unfold maxLen; omega)
  have HV : Hid (TxS w a T) := hv.txs
  have hnil : (⟨#[]⟩ : ByteArray) = sv [] := by unfold sv; rfl
  have HN : Hid ((⟨#[]⟩ : ByteArray) = sv []) := hnil
  clear hv hnil
  by_cases hok : okLg (F, T)
  · rw [decide_eq_true hok] at hK
    have h1 := hok.1
    have h40 := hok.2.1
    simp only at h1 h40
    have hw1 : wrap64 (F + (T.length : Int)) = F + (T.length : Int) := by unfold wrap64; omega
    have hX := fun X => nxtI_any F a T.length cap X hw1
    unfold lgV at hK hX ⊢
    by_cases hin : F ≤ v ∧ v < F + (T.length : Int)
    · obtain ⟨k, hkv⟩ : ∃ k : Nat, v - F = (k : Int) := ⟨(v - F).toNat, by omega⟩
      have hk : k < T.length := by omega
      have HZ : Hid (txtLg (F, T) v = (T.getD k [], true)) := by rw [Hid, txtLg, if_pos ⟨hok, ⟨hin.1, by simp only; omega⟩⟩, show (v - (F, T).1).toNat = k by simp only; omega]
      have C := fun X => clone_any (T.getD k []) X (hs k hk)
      rcases HV.out with h0 | ⟨b, off, rfl, hc⟩
      · omega
      have hck := hc k hk
      have hw3 : (v - F).toNat = k := by omega
      have k1 : v - F < (T.length : Int) := by omega
      have k0 : (0 : Int) ≤ v - F := by omega
      have g1 : ¬ (v < F) := by omega
      have g2 : ¬ (F + (T.length : Int) ≤ v) := by omega
      clear hok hc HV hkv hin hs
      generalize T.getD k [] = t at *
      go_enter Try.func32, Try.ntmps32
      go_wp2_with (first
        | (go_at_call 38; refine hK.mono ?_; rintro e w2 ⟨rfl, hg2⟩; have x0 := hg2.cell (x := ⟨w.heap.size, 0, none⟩) (v := .int .i64 F) (by simp); have x1 := hg2.cell (x := ⟨w.heap.size, 1, none⟩) (v := .slice (some ⟨b, off, none⟩) T.length cap) (by simp); have x2 := hg2.cell (hG0.cell hck))
        | (go_at_call 68; refine (hX _).mono ?_; rintro e w3 ⟨rfl, hg3⟩; have y0 := hg3.cell x0; have y1 := hg3.cell x1; have y2 := hg3.cell x2)
        | (go_at_call 69; refine (C _).mono ?_; rintro e w4 ⟨rfl, hb4⟩))
      refine bodyPost_ret (v := .tuple #[.string (sv t), .bool true]) (by simp [results, Try.results32, go_sem, *]) rfl ?_
      rw [HZ.out]
      have hb3 := (hG0.trans (hg2.trans hg3)).1
      exact ⟨rfl, hb3.trans (hb4.mono hb3.size)⟩
    · have HZ : Hid (txtLg (F, T) v = ([], false)) := by rw [Hid, txtLg, if_neg (fun h => hin (by have := h.2; simp only [txtB] at this; omega))]
      have hcase : v < F ∨ (¬ v < F ∧ F + (T.length : Int) ≤ v) := by omega
      clear hok hin
      rcases hcase with g1 | ⟨g1, g2⟩
      all_goals
        go_enter Try.func32, Try.ntmps32
        go_wp2_with (first
          | (go_at_call 38; refine hK.mono ?_; rintro e w2 ⟨rfl, hg2⟩; have x0 := hg2.cell (x := ⟨w.heap.size, 0, none⟩) (v := .int .i64 F) (by simp); have x1 := hg2.cell (x := ⟨w.heap.size, 1, none⟩) (v := .slice a T.length cap) (by simp))
          | (go_at_call 68; refine (hX _).mono ?_; rintro e w3 ⟨rfl, hg3⟩))
        refine bodyPost_ret (v := .tuple #[.string ⟨#[]⟩, .bool false]) (by simp [results, Try.results32, go_sem, *]) rfl ?_
        rw [HZ.out, HN.out]
        first
          | exact ⟨rfl, (hG0.trans (hg2.trans hg3)).1⟩
          | exact ⟨rfl, (hG0.trans hg2).1⟩
  · rw [decide_eq_false hok] at hK
    have HZ : Hid (txtLg (F, T) v = ([], false)) := by rw [Hid, txtLg, if_neg (fun h => hok h.1)]
    unfold lgV at hK ⊢
    clear hok
    go_enter Try.func32, Try.ntmps32
    go_wp2_with (go_at_call 38; refine hK.mono ?_; rintro e w2 ⟨rfl, hg2⟩)
    refine bodyPost_ret (v := .tuple #[.string ⟨#[]⟩, .bool false]) (by simp [results, Try.results32, go_sem, *]) rfl ?_
    rw [HZ.out, HN.out]
    exact ⟨rfl, (hG0.trans hg2).1⟩
end Go.Proofs.Ytbnpliobigjapaa

/-
  The program's Shorter and Cut.
-/
namespace Go.Proofs.Ytbnpliobigjapaa
set_option linter.unusedVariables false
set_option linter.unusedSimpArgs false
open Go.RowKit Go.Sort

/-- An answer is stored into the room. -/
theorem lg_stored {w W X u : World} {F : Int} {a : Option Addr} {n cap : Nat} (H : LgH w W F a n cap) (hX : Below W.heap.size W X) {G : Int} {P : List (List UInt8)} {ta : Option Addr} {tc : Nat} (hN : NewO X u (scl P) (.slice ta P.length tc)) :
    (u.cell? ⟨w.heap.size + 1, 0, none⟩ = some (.int .i64 0) ∧ u.cell? ⟨w.heap.size + 1, 1, none⟩ = some (.slice none 0 0) ∧ u.frozen? ⟨w.heap.size + 1, 0, none⟩ = false ∧ u.frozen? ⟨w.heap.size + 1, 1, none⟩ = false) ∧
    NewO w ((u.setCell ⟨w.heap.size + 1, 0, none⟩ (.int .i64 G)).setCell ⟨w.heap.size + 1, 1, none⟩ (.slice ta P.length tc)) (scl P) (.slice ta P.length tc) := by
  obtain ⟨fp, ho, hf, hb⟩ := hN
  have HX := H.step hX
  have HU := HX.step hb
  have hl := HX.res.lt
  have hs := hX.size
  exact ⟨⟨HU.res.at 0 rfl, HU.res.at 1 rfl, HU.res.f 0, HU.res.f 1⟩, fp, Cel.ow_wrt ho (wrt2 u (w.heap.size + 1)) (fun b hb e => by have := hf b hb; omega), fun b hb => by have := hf b hb; omega, below2 HU.below (by omega)⟩
theorem w1_bound {F : Int} {n : Nat} (h : 1 ≤ F ∧ F ≤ 1000000) (hn : n ≤ 40) : wrap64 (F + (n : Int)) = F + (n : Int) := by unfold wrap64; omega

attribute [local irreducible] sv
set_option maxRecDepth 100000 in
set_option maxHeartbeats 3200000 in
theorem implShorter : ImplShorter := by
  intro F a cap T b0 w hF hvI hv hm hs
  have hmix : Try.prog.follows .mixedOrders = true := by kernel_rfl
  have hH := LgH.start w F a T.length cap
  have hK := lgkI_any F a cap T _ (hv.txs.below hH.below) (by unfold maxLen; omega)
  have HH : Hid (LgH w ((w.alloc (.cells #[.int .i64 F, .slice a T.length cap] 35)).alloc (.cells #[.int .i64 0, .slice none 0 0] 35)) F a T.length cap) := hH
  have HV : Hid (TxP w a cap T) := hv
  clear hv hH
  by_cases hok : okLg (F, T)
  · rw [decide_eq_true hok] at hK
    have h1 := hok.1
    have h40 := hok.2.1
    simp only at h1 h40
    obtain ⟨hb1, hb2, hb3⟩ := shN_bound hok b0
    simp only at hb2 hb3
    obtain ⟨k, hk⟩ : ∃ k : Nat, shN (F, T) b0 = (k : Int) := ⟨(shN (F, T) b0).toNat, by omega⟩
    have HZ : Hid (shLg (F, T) b0 = (F + (k : Int), T.drop k)) := by rw [Hid, shLg, if_pos hok, hk]; rfl
    rw [hk] at hb1 hb2 hb3
    unfold shN at hk
    simp only at hk
    have HVE : ∀ V6, (if 1000000 < (if F + (T.length : Int) < b0 then F + (T.length : Int) else b0) then 1000000 else (if F + (T.length : Int) < b0 then F + (T.length : Int) else b0)) = V6 → max F V6 = F + (k : Int) := fun V6 h => by subst h; (repeat' split) <;> omega
    have HPE : Hid ((T.drop k).take (T.length - k) = T.drop k) := List.take_of_length_le (by rw [List.length_drop]; omega)
    have hB : ∀ V6, Hid ((if 1000000 < (if F + (T.length : Int) < b0 then F + (T.length : Int) else b0) then 1000000 else (if F + (T.length : Int) < b0 then F + (T.length : Int) else b0)) = V6) → ∀ X, Below w.heap.size w X → Calls Try.prog 67 #[lgV F a T.length cap, .int .i64 (max F V6), .int .i64 (F + (T.length : Int))] X fun e w' => AnsLg X w' e (F + (k : Int), T.drop k) := fun V6 h6 X hX => by
      have := btwI_any F a cap T k T.length (max F V6) (F + (T.length : Int)) X (HV.out.below hX) (by omega) (Nat.le_refl _) (HVE V6 h6.out) rfl h1 h40 hs
      rw [HPE.out, HVE V6 h6.out] at this
      rw [HVE V6 h6.out]
      exact this
    generalize T.drop k = P at *
    clear hk hb1 hb2 hb3 HVE
    have hw1 := w1_bound h1 h40
    have hX := fun X => nxtI_any F a T.length cap X hw1
    unfold AnsLg at hB
    unfold lgV at hK hX hB ⊢
    clear hok hs
    go_enter Try.func29, Try.ntmps29
    go_wp2_with (go_at_call 38; refine hK.mono ?_; rintro e w2 ⟨rfl, hg2⟩; have H2 := HH.out.step hg2.1; obtain ⟨x0, x1⟩ := H2.box.r2)
    have b0d : Below w2.heap.size w2 (w2.drewN 1) := (Same.drewN w2 1).below
    have KS : ∀ X, Below w2.heap.size w2 X → X.cell? ⟨w.heap.size, 0, none⟩ = some (.int .i64 F) ∧ X.cell? ⟨w.heap.size, 1, none⟩ = some (.slice a T.length cap) := fun X hX => (H2.box.below hX).r2
    have KB : ∀ X, Below w2.heap.size w2 X → Below w.heap.size w X := fun X hX => H2.below.trans (hX.mono H2.below.size)
    clear hg2 hK HH HV x0 x1
    refine gt_begin (S := fun X : World => X.cell? ⟨w.heap.size, 0, none⟩ = some (.int .i64 F) ∧ X.cell? ⟨w.heap.size, 1, none⟩ = some (.slice a T.length cap)) 11 hmix (by kernel_rfl) ?_
    have hHeld : (fun X : World => X.cell? ⟨w.heap.size, 0, none⟩ = some (.int .i64 F) ∧ X.cell? ⟨w.heap.size, 1, none⟩ = some (.slice a T.length cap)) w2.drew := KS _ b0d
    refine gt_take (i := 0) (v := ?_) rfl (by kernel_rfl) (by kernel_rfl) (by kernel_rfl) (by kernel_rfl) (fun _ _ _ h => h) (Or.inl ⟨by rfl, ?_⟩) hHeld ?_
    rotate_left
    · (intro X hSX; (try dsimp only at hSX); obtain ⟨g0, g1⟩ := hSX; go_simp; try with_reducible rfl)
    try simp only [Act.put, List.setIfInBounds_toArray, List.set_cons_zero, List.set_cons_succ]
    refine gt_take (i := 1) (v := ?_) rfl (by kernel_rfl) (by kernel_rfl) (by kernel_rfl) (by kernel_rfl) (fun _ _ _ h => h) (Or.inl ⟨by rfl, ?_⟩) hHeld ?_
    rotate_left
    · (intro X hSX; (try dsimp only at hSX); obtain ⟨g0, g1⟩ := hSX; go_simp; try with_reducible rfl)
    try simp only [Act.put, List.setIfInBounds_toArray, List.set_cons_zero, List.set_cons_succ]
    refine gt_take (i := 2) (v := ?_) rfl (by kernel_rfl) (by kernel_rfl) (by kernel_rfl) (by kernel_rfl) (fun _ _ _ h => h) (Or.inl ⟨by rfl, ?_⟩) hHeld ?_
    rotate_left
    · (intro X hSX; (try dsimp only at hSX); obtain ⟨g0, g1⟩ := hSX; go_simp; try with_reducible rfl)
    try simp only [Act.put, List.setIfInBounds_toArray, List.set_cons_zero, List.set_cons_succ]
    refine gt_pure (i := 3) (v := ?_) rfl (by kernel_rfl) (by kernel_rfl) (by kernel_rfl) (fun _ _ _ h => h) (Or.inl ⟨by rfl, ?_⟩) ?_
    rotate_left
    · (intro X; go_simp; try with_reducible rfl)
    try simp only [Act.put, List.setIfInBounds_toArray, List.set_cons_zero, List.set_cons_succ]
    refine gt_take (i := 4) (v := ?_) rfl (by kernel_rfl) (by kernel_rfl) (by kernel_rfl) (by kernel_rfl) (fun _ _ _ h => h) (Or.inl ⟨by rfl, ?_⟩) hHeld ?_
    rotate_left
    · (intro X hSX; (try dsimp only at hSX); obtain ⟨g0, g1⟩ := hSX; go_simp; try with_reducible rfl)
    try simp only [Act.put, List.setIfInBounds_toArray, List.set_cons_zero, List.set_cons_succ]
    refine gt_take (i := 8) (v := ?_) rfl (by kernel_rfl) (by kernel_rfl) (by kernel_rfl) (by kernel_rfl) (fun _ _ _ h => h) (Or.inl ⟨by rfl, ?_⟩) hHeld ?_
    rotate_left
    · (intro X hSX; (try dsimp only at hSX); obtain ⟨g0, g1⟩ := hSX; go_simp; try with_reducible rfl)
    try simp only [Act.put, List.setIfInBounds_toArray, List.set_cons_zero, List.set_cons_succ]
    refine gt_one (i := 5) rfl (by kernel_rfl) (by kernel_rfl) (fun K hK => ?_)
    go_simp
    go_at_call 68
    refine (hX _).mono ?_
    rintro e u1 ⟨rfl, hgu1⟩
    have b1 : Below w2.heap.size w2 u1 := b0d.trans (hgu1.1.mono b0d.size)
    refine hK.out _ _ (KS _ b1) (fun hHeldN => ?_)
    clear hK hHeld
    have hHeld := hHeldN
    try simp only [Act.put, List.setIfInBounds_toArray, List.set_cons_zero, List.set_cons_succ]
    refine gt_pure (i := 6) (v := ?_) rfl (by kernel_rfl) (by kernel_rfl) (by kernel_rfl) (fun _ _ _ h => h) (Or.inl ⟨by rfl, ?_⟩) ?_
    rotate_left
    · (intro X; go_simp; try with_reducible rfl)
    try simp only [Act.put, List.setIfInBounds_toArray, List.set_cons_zero, List.set_cons_succ]
    generalize h6 : (if 1000000 < (if F + (T.length : Int) < b0 then F + (T.length : Int) else b0) then 1000000 else (if F + (T.length : Int) < b0 then F + (T.length : Int) else b0)) = V6
    have H6 : Hid ((if 1000000 < (if F + (T.length : Int) < b0 then F + (T.length : Int) else b0) then 1000000 else (if F + (T.length : Int) < b0 then F + (T.length : Int) else b0)) = V6) := h6
    clear h6
    refine gt_pure (i := 7) (v := ?_) rfl (by kernel_rfl) (by kernel_rfl) (by kernel_rfl) (fun _ _ _ h => h) (Or.inl ⟨by rfl, ?_⟩) ?_
    rotate_left
    · (intro X; go_simp; try with_reducible rfl)
    try simp only [Act.put, List.setIfInBounds_toArray, List.set_cons_zero, List.set_cons_succ]
    refine gt_one (i := 9) rfl (by kernel_rfl) (by kernel_rfl) (fun K hK => ?_)
    go_simp
    go_at_call 68
    refine (hX _).mono ?_
    rintro e u2 ⟨rfl, hgu2⟩
    have b2 : Below w2.heap.size w2 u2 := b1.trans (hgu2.1.mono b1.size)
    refine hK.out _ _ (KS _ b2) (fun hHeldN => ?_)
    clear hK hHeld
    have hHeld := hHeldN
    try simp only [Act.put, List.setIfInBounds_toArray, List.set_cons_zero, List.set_cons_succ]
    refine gt_one (i := 10) rfl (by kernel_rfl) (by kernel_rfl) (fun K hK => ?_)
    go_simp
    go_at_call 67
    refine (hB V6 H6 _ (KB _ b2)).mono ?_
    rintro e u7 ⟨a7, c7, rfl, hN7⟩
    have b7 : Below w2.heap.size w2 u7 := b2.trans ((by obtain ⟨_, _, _, h⟩ := hN7; exact h : Below _ _ u7).mono b2.size)
    obtain ⟨⟨z0, z1, z2, z3⟩, hN⟩ := lg_stored (G := F + (k : Int)) H2 b2 hN7
    refine hK.out _ _ (KS _ b7) (fun hHeldN => ?_)
    clear hK hHeld
    have hHeld := hHeldN
    try simp only [Act.put, List.setIfInBounds_toArray, List.set_cons_zero, List.set_cons_succ]
    clear hHeld hHeldN
    refine gt_last rfl (by kernel_rfl) (by kernel_rfl) (fun K hK => ?_)
    go_simp
    refine hK.out _ _ ?_
    try go_wp2
    refine bodyPost_ret (v := .agg #[.int .i64 (F + (k : Int)), .slice a7 P.length c7]) (by simp [results, Try.results29, go_sem, *]) rfl ?_
    rw [HZ.out]
    exact ⟨a7, c7, rfl, hN⟩
  · rw [decide_eq_false hok] at hK
    have HZ : Hid (shLg (F, T) b0 = zeroLg) := by rw [Hid, shLg, if_neg hok]
    unfold lgV at hK ⊢
    clear hok
    go_enter Try.func29, Try.ntmps29
    go_wp2_with (go_at_call 38; refine hK.mono ?_; rintro e w2 ⟨rfl, hg2⟩; have H2 := HH.out.step hg2.1; obtain ⟨x0, x1⟩ := H2.res.r2; have f0 := H2.res.f 0; have f1 := H2.res.f 1)
    refine bodyPost_ret (v := .agg #[.int .i64 0, .slice none 0 0]) (by simp [results, Try.results29, go_sem, *]) rfl ?_
    rw [HZ.out]
    exact ⟨none, 0, rfl, newO_nil (below2 H2.below (by omega))⟩
set_option maxRecDepth 100000 in
set_option maxHeartbeats 3200000 in
theorem implCut : ImplCut := by
  intro F a cap T b0 w hF hvI hv hm hs
  have hmix : Try.prog.follows .mixedOrders = true := by kernel_rfl
  have hH := LgH.start w F a T.length cap
  have hK := lgkI_any F a cap T _ (hv.txs.below hH.below) (by unfold maxLen; omega)
  have HH : Hid (LgH w ((w.alloc (.cells #[.int .i64 F, .slice a T.length cap] 35)).alloc (.cells #[.int .i64 0, .slice none 0 0] 35)) F a T.length cap) := hH
  have HV : Hid (TxP w a cap T) := hv
  clear hv hH
  by_cases hok : okLg (F, T)
  · rw [decide_eq_true hok] at hK
    have h1 := hok.1
    have h40 := hok.2.1
    simp only at h1 h40
    obtain ⟨hb1, hb2⟩ := cuN_bound hok b0
    simp only at hb2
    obtain ⟨k, hk⟩ : ∃ k : Nat, cuN (F, T) b0 = (k : Int) := ⟨(cuN (F, T) b0).toNat, by omega⟩
    have HZ : Hid (cuLg (F, T) b0 = (F, T.take k)) := by rw [Hid, cuLg, if_pos hok, hk]; rfl
    rw [hk] at hb1 hb2
    unfold cuN at hk
    simp only at hk
    unfold I64l at hvI
    have hw2 : IntKind.i64.wrap (F + (T.length : Int) - 1) = F + (T.length : Int) - 1 := by rw [IntKind.wrap_i64]; omega
    have hw3 : IntKind.i64.wrap (min b0 (F + (T.length : Int) - 1) + 1) = min b0 (F + (T.length : Int) - 1) + 1 := by rw [IntKind.wrap_i64]; omega
    have HVE : Hid (max F (min b0 (F + (T.length : Int) - 1) + 1) = F + (k : Int)) := by rw [Hid]; omega
    have HPE : Hid ((T.drop 0).take (k - 0) = T.take k) := by rw [Hid, List.drop_zero, Nat.sub_zero]
    have hB : ∀ X, Below w.heap.size w X → Calls Try.prog 67 #[lgV F a T.length cap, .int .i64 F, .int .i64 (max F (min b0 (F + (T.length : Int) - 1) + 1))] X fun e w' => AnsLg X w' e (F, T.take k) := fun X hX => by
      have := btwI_any F a cap T 0 k F (max F (min b0 (F + (T.length : Int) - 1) + 1)) X (HV.out.below hX) (by omega) (by omega) (by omega) HVE.out h1 h40 hs
      rw [HPE.out] at this
      exact this
    generalize T.take k = P at *
    clear hk hb1 hb2
    have hw1 := w1_bound h1 h40
    have hX := fun X => nxtI_any F a T.length cap X hw1
    unfold AnsLg at hB
    unfold lgV at hK hX hB ⊢
    clear hok hs
    go_enter Try.func30, Try.ntmps30
    go_wp2_with (go_at_call 38; refine hK.mono ?_; rintro e w2 ⟨rfl, hg2⟩; have H2 := HH.out.step hg2.1; obtain ⟨x0, x1⟩ := H2.box.r2)
    have b0d : Below w2.heap.size w2 (w2.drewN 1) := (Same.drewN w2 1).below
    have KS : ∀ X, Below w2.heap.size w2 X → X.cell? ⟨w.heap.size, 0, none⟩ = some (.int .i64 F) ∧ X.cell? ⟨w.heap.size, 1, none⟩ = some (.slice a T.length cap) := fun X hX => (H2.box.below hX).r2
    have KB : ∀ X, Below w2.heap.size w2 X → Below w.heap.size w X := fun X hX => H2.below.trans (hX.mono H2.below.size)
    clear hg2 hK HH HV x0 x1
    refine gt_begin (S := fun X : World => X.cell? ⟨w.heap.size, 0, none⟩ = some (.int .i64 F) ∧ X.cell? ⟨w.heap.size, 1, none⟩ = some (.slice a T.length cap)) 13 hmix (by kernel_rfl) ?_
    have hHeld : (fun X : World => X.cell? ⟨w.heap.size, 0, none⟩ = some (.int .i64 F) ∧ X.cell? ⟨w.heap.size, 1, none⟩ = some (.slice a T.length cap)) w2.drew := KS _ b0d
    refine gt_take (i := 0) (v := ?_) rfl (by kernel_rfl) (by kernel_rfl) (by kernel_rfl) (by kernel_rfl) (fun _ _ _ h => h) (Or.inl ⟨by rfl, ?_⟩) hHeld ?_
    rotate_left
    · (intro X hSX; (try dsimp only at hSX); obtain ⟨g0, g1⟩ := hSX; go_simp; try with_reducible rfl)
    try simp only [Act.put, List.setIfInBounds_toArray, List.set_cons_zero, List.set_cons_succ]
    refine gt_take (i := 1) (v := ?_) rfl (by kernel_rfl) (by kernel_rfl) (by kernel_rfl) (by kernel_rfl) (fun _ _ _ h => h) (Or.inl ⟨by rfl, ?_⟩) hHeld ?_
    rotate_left
    · (intro X hSX; (try dsimp only at hSX); obtain ⟨g0, g1⟩ := hSX; go_simp; try with_reducible rfl)
    try simp only [Act.put, List.setIfInBounds_toArray, List.set_cons_zero, List.set_cons_succ]
    refine gt_take (i := 2) (v := ?_) rfl (by kernel_rfl) (by kernel_rfl) (by kernel_rfl) (by kernel_rfl) (fun _ _ _ h => h) (Or.inl ⟨by rfl, ?_⟩) hHeld ?_
    rotate_left
    · (intro X hSX; (try dsimp only at hSX); obtain ⟨g0, g1⟩ := hSX; go_simp; try with_reducible rfl)
    try simp only [Act.put, List.setIfInBounds_toArray, List.set_cons_zero, List.set_cons_succ]
    refine gt_take (i := 3) (v := ?_) rfl (by kernel_rfl) (by kernel_rfl) (by kernel_rfl) (by kernel_rfl) (fun _ _ _ h => h) (Or.inl ⟨by rfl, ?_⟩) hHeld ?_
    rotate_left
    · (intro X hSX; (try dsimp only at hSX); obtain ⟨g0, g1⟩ := hSX; go_simp; try with_reducible rfl)
    try simp only [Act.put, List.setIfInBounds_toArray, List.set_cons_zero, List.set_cons_succ]
    refine gt_take (i := 4) (v := ?_) rfl (by kernel_rfl) (by kernel_rfl) (by kernel_rfl) (by kernel_rfl) (fun _ _ _ h => h) (Or.inl ⟨by rfl, ?_⟩) hHeld ?_
    rotate_left
    · (intro X hSX; (try dsimp only at hSX); obtain ⟨g0, g1⟩ := hSX; go_simp; try with_reducible rfl)
    try simp only [Act.put, List.setIfInBounds_toArray, List.set_cons_zero, List.set_cons_succ]
    refine gt_pure (i := 5) (v := ?_) rfl (by kernel_rfl) (by kernel_rfl) (by kernel_rfl) (fun _ _ _ h => h) (Or.inl ⟨by rfl, ?_⟩) ?_
    rotate_left
    · (intro X; go_simp; try with_reducible rfl)
    try simp only [Act.put, List.setIfInBounds_toArray, List.set_cons_zero, List.set_cons_succ]
    refine gt_take (i := 6) (v := ?_) rfl (by kernel_rfl) (by kernel_rfl) (by kernel_rfl) (by kernel_rfl) (fun _ _ _ h => h) (Or.inl ⟨by rfl, ?_⟩) hHeld ?_
    rotate_left
    · (intro X hSX; (try dsimp only at hSX); obtain ⟨g0, g1⟩ := hSX; go_simp; try with_reducible rfl)
    try simp only [Act.put, List.setIfInBounds_toArray, List.set_cons_zero, List.set_cons_succ]
    refine gt_one (i := 7) rfl (by kernel_rfl) (by kernel_rfl) (fun K hK => ?_)
    go_simp
    go_at_call 68
    refine (hX _).mono ?_
    rintro e u1 ⟨rfl, hgu1⟩
    have b1 : Below w2.heap.size w2 u1 := b0d.trans (hgu1.1.mono b0d.size)
    refine hK.out _ _ (KS _ b1) (fun hHeldN => ?_)
    clear hK hHeld
    have hHeld := hHeldN
    try simp only [Act.put, List.setIfInBounds_toArray, List.set_cons_zero, List.set_cons_succ]
    refine gt_pure (i := 8) (v := ?_) rfl (by kernel_rfl) (by kernel_rfl) (by kernel_rfl) (fun _ _ _ h => h) (Or.inl ⟨by rfl, ?_⟩) ?_
    rotate_left
    · (intro X; go_simp; try with_reducible rfl)
    try simp only [Act.put, List.setIfInBounds_toArray, List.set_cons_zero, List.set_cons_succ]
    refine gt_pure (i := 9) (v := ?_) rfl (by kernel_rfl) (by kernel_rfl) (by kernel_rfl) (fun _ _ _ h => h) (Or.inl ⟨by rfl, ?_⟩) ?_
    rotate_left
    · (intro X; go_simp; try with_reducible rfl)
    try simp only [Act.put, List.setIfInBounds_toArray, List.set_cons_zero, List.set_cons_succ]
    refine gt_pure (i := 10) (v := ?_) rfl (by kernel_rfl) (by kernel_rfl) (by kernel_rfl) (fun _ _ _ h => h) (Or.inl ⟨by rfl, ?_⟩) ?_
    rotate_left
    · (intro X; go_simp; try with_reducible rfl)
    try simp only [Act.put, List.setIfInBounds_toArray, List.set_cons_zero, List.set_cons_succ]
    refine gt_pure (i := 11) (v := ?_) rfl (by kernel_rfl) (by kernel_rfl) (by kernel_rfl) (fun _ _ _ h => h) (Or.inl ⟨by rfl, ?_⟩) ?_
    rotate_left
    · (intro X; go_simp; try with_reducible rfl)
    try simp only [Act.put, List.setIfInBounds_toArray, List.set_cons_zero, List.set_cons_succ]
    refine gt_one (i := 12) rfl (by kernel_rfl) (by kernel_rfl) (fun K hK => ?_)
    go_simp
    go_at_call 67
    refine (hB _ (KB _ b1)).mono ?_
    rintro e u7 ⟨a7, c7, rfl, hN7⟩
    have b7 : Below w2.heap.size w2 u7 := b1.trans ((by obtain ⟨_, _, _, h⟩ := hN7; exact h : Below _ _ u7).mono b1.size)
    obtain ⟨⟨z0, z1, z2, z3⟩, hN⟩ := lg_stored (G := F) H2 b1 hN7
    refine hK.out _ _ (KS _ b7) (fun hHeldN => ?_)
    clear hK hHeld
    have hHeld := hHeldN
    try simp only [Act.put, List.setIfInBounds_toArray, List.set_cons_zero, List.set_cons_succ]
    clear hHeld hHeldN
    refine gt_last rfl (by kernel_rfl) (by kernel_rfl) (fun K hK => ?_)
    go_simp
    refine hK.out _ _ ?_
    try go_wp2
    refine bodyPost_ret (v := .agg #[.int .i64 (F), .slice a7 P.length c7]) (by simp [results, Try.results30, go_sem, *]) rfl ?_
    rw [HZ.out]
    exact ⟨a7, c7, rfl, hN⟩
  · rw [decide_eq_false hok] at hK
    have HZ : Hid (cuLg (F, T) b0 = zeroLg) := by rw [Hid, cuLg, if_neg hok]
    unfold lgV at hK ⊢
    clear hok
    go_enter Try.func30, Try.ntmps30
    go_wp2_with (go_at_call 38; refine hK.mono ?_; rintro e w2 ⟨rfl, hg2⟩; have H2 := HH.out.step hg2.1; obtain ⟨x0, x1⟩ := H2.res.r2; have f0 := H2.res.f 0; have f1 := H2.res.f 1)
    refine bodyPost_ret (v := .agg #[.int .i64 0, .slice none 0 0]) (by simp [results, Try.results30, go_sem, *]) rfl ?_
    rw [HZ.out]
    exact ⟨none, 0, rfl, newO_nil (below2 H2.below (by omega))⟩
end Go.Proofs.Ytbnpliobigjapaa
