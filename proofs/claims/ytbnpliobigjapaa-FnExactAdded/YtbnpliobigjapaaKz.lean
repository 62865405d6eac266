/-
  Several texts in one: Lgd.
-/
import Derived.Test.YtbnpliobigjapaaKy
import Derived.Deep.RegionHeld3
/-
  The specification's Shorter, Cut.
-/
namespace Go.Proofs.Ytbnpliobigjapaa
set_option linter.unusedVariables false
set_option linter.unusedSimpArgs false
open Go.RowKit Go.Sort

/-- A part of the log's texts is copied, and stored into the answer's room with a number. -/
theorem lgd_app {w W : World} {F Q : Int} {a x : Option Addr} {n cap c : Nat} {P : List (List UInt8)} (i0 : TypeInfo) (hi0 : Try.prog.info? 9 = some i0) (hz0 : i0.zero = some (.string ⟨#[]⟩)) (hz1 : i0.size = 1) (hz2 : i0.bytes = 16)
    (H : LgH w W F a n cap) (hP : TxS W x P) (hm : P.length ≤ 1048576) :
    ∀ X, Same X (W.alloc (.cells #[] 9)) → ∃ v' w4, (Builtin.append_ #[33, 33] 33 #[.slice (some ⟨W.heap.size, 0, none⟩) 0 0, .slice x P.length c]).run Try.prog X = .ok v' w4 ∧
      ∃ a' c', v' = .slice a' P.length c' ∧ (w4.cell? ⟨w.heap.size, 0, none⟩ = some (.int .i64 F) ∧ w4.cell? ⟨w.heap.size, 1, none⟩ = some (.slice a n cap)) ∧ (∀ u0 u1, ((w4.setCell ⟨w.heap.size + 1, 0, none⟩ u0).setCell ⟨w.heap.size + 1, 1, none⟩ u1).cell? ⟨w.heap.size, 0, none⟩ = some (.int .i64 F) ∧ ((w4.setCell ⟨w.heap.size + 1, 0, none⟩ u0).setCell ⟨w.heap.size + 1, 1, none⟩ u1).cell? ⟨w.heap.size, 1, none⟩ = some (.slice a n cap)) ∧ w4.cell? ⟨w.heap.size + 1, 0, none⟩ = some (.int .i64 0) ∧ w4.cell? ⟨w.heap.size + 1, 1, none⟩ = some (.slice none 0 0) ∧ w4.frozen? ⟨w.heap.size + 1, 0, none⟩ = false ∧ w4.frozen? ⟨w.heap.size + 1, 1, none⟩ = false ∧
        NewO w ((w4.setCell ⟨w.heap.size + 1, 0, none⟩ (.int .i64 Q)).setCell ⟨w.heap.size + 1, 1, none⟩ (.slice a' P.length c')) (scl P) (.slice a' P.length c') := by
  intro X hX
  have hbX : Below W.heap.size W X := (oneA W _).trans (hX.below.mono (oneA W _).size)
  obtain ⟨a', c', w4, fp, hr, ho, hw, hf⟩ := txs_copied (P := Try.prog) (w := X) 33 33 9 i0 Try.underlying33 hi0 hz0 hz1 hz2 (plainS W.heap.size 0) (x := x) (c := c) (hP.below hbX) hm
  have hb4 : Below W.heap.size W w4 := hw.below hbX hbX.size (fun _ h => absurd h id)
  have k0 := H.box.below hb4
  have k1 := H.res.below hb4
  have hXs := hbX.size
  have hrl := H.res.lt
  exact ⟨_, w4, hr, a', c', rfl, k0.r2, fun u0 u1 => (k0.wrt (wrt2 w4 (w.heap.size + 1)) (by omega)).r2, k1.at 0 rfl, k1.at 1 rfl, k1.f 0, k1.f 1, fp, Cel.ow_wrt ho (wrt2 w4 (w.heap.size + 1)) (fun b hb e => by have := hf b hb; omega), fun b hb => by have := hf b hb; have := H.below.size; omega, below2 (H.below.trans (hb4.mono H.below.size)) (by omega)⟩

attribute [local irreducible] sv
set_option maxRecDepth 100000 in
set_option maxHeartbeats 3200000 in
theorem lghS_any (F : Int) (a : Option Addr) (cap : Nat) (T : List (List UInt8)) (b0 : Int) (w : World) (hv : TxP w a cap T) (hm : T.length ≤ 1048576) :
    Calls Try.prog 35 #[lgV F a T.length cap, .int .i64 b0] w fun e w' => AnsLg w w' e (shLg (F, T) b0) := by
  have hH := LgH.start w F a T.length cap
  have hK := lgkS_any F a cap T _ (hv.txs.below hH.below) (by unfold maxLen; omega)
  have HH : Hid _ := hH
  have HV : Hid (TxP w a cap T) := hv
  unfold lgV at hK ⊢
  by_cases hok : okLg (F, T)
  · rw [decide_eq_true hok] at hK
    have h1 := hok.1
    have h40 := hok.2.1
    simp only at h1 h40
    obtain ⟨hb1, hb2, hb3⟩ := shN_bound hok b0
    simp only at hb2 hb3
    obtain ⟨k, hk⟩ : ∃ k : Nat, shN (F, T) b0 = (k : Int) := ⟨(shN (F, T) b0).toNat, by omega⟩
    have HZ : Hid (shLg (F, T) b0 = (F + (k : Int), T.drop k)) := by rw [Hid, shLg, if_pos hok, hk]; rfl
    rw [hk] at hb1 hb2 hb3
    unfold shN at hk
    simp only at hk
    have hw0 : wrap64 (max 0 (min b0 2000000) - F) = max 0 (min b0 2000000) - F := by unfold wrap64; omega
    have hw1 : wrap64 (1000000 - F) = 1000000 - F := by unfold wrap64; omega
    have hw2 : wrap64 (F + (k : Int)) = F + (k : Int) := by unfold wrap64; omega
    obtain ⟨i0, hi0, hz0, hz1, hz2⟩ := info_parts9 Try.info9
    have HD : Hid ((T.drop k).length = T.length - k) := List.length_drop
    clear hok hv hH
    go_enter Try.func35, Try.ntmps35
    go_wp2_with (go_at_call 37; refine hK.mono ?_; rintro e w2 ⟨rfl, hg2⟩; have H2 := HH.out.step hg2.1; obtain ⟨x0, x1⟩ := H2.box.r2)
    go_quiet (first | (go_at_call 56; exact (l1Min_any _ _ _).mono (fun e w' h => ⟨h.1, _, h.2⟩)) | (go_at_call 55; exact (l1Max_any _ _ _).mono (fun e w' h => ⟨h.1, _, h.2⟩)))
    go_wp2_with (go_at_call 56; refine (l1Min_any _ _ _).mono ?_; rintro e w' ⟨rfl, hw'⟩; rw [hw']; clear hw')
    have H3 := H2.step (Same.drewN w2 nq).below
    have hT3 := HV.out.below H3.below
    obtain ⟨y0, y1⟩ := H3.box.r2
    obtain ⟨z0, z1⟩ := (H3.box.alloc (.cells #[] 9)).r2
    generalize hW : w2.drewN nq = W at *
    have hwi : IntKind.i64.wrap F = F := by rw [IntKind.wrap_i64]; omega
    have hwk : IntKind.i64.wrap (F + (k : Int)) = F + (k : Int) := by rw [IntKind.wrap_i64]; omega
    have k0 : (0 : Int) ≤ (k : Int) := by omega
    have k1 : (k : Int) ≤ (T.length : Int) := by omega
    have hPl : ∀ P : List (List UInt8), P.length ≤ T.length → P.length ≤ 1048576 := fun P h => by omega
    clear hk hw0 hw1 hb1 hb2 hb3 x0 x1 hK HV HH hW hg2 H2
    rcases hT3 with ⟨rfl, rfl, hpl⟩ | ⟨b, off, rfl, hcl, hcm, hc⟩
    · obtain rfl : k = 0 := by simp at k1; omega
      have hA := fun x c => lgd_app (F := F) (Q := F + ((0 : Nat) : Int)) (c := c) (P := []) (x := x) i0 hi0 hz0 hz1 hz2 H3 (.inl rfl) (Nat.zero_le _)
      simp only [List.length_nil, Int.natCast_zero, Int.add_zero] at *
      clear H3
      cases a with
      | none =>
        go_region_held3 (fun X => X.cell? ⟨w.heap.size, 0, none⟩ = some (.int .i64 F) ∧ X.cell? ⟨w.heap.size, 1, none⟩ = some (.slice none 0 0))
          (first | exact q0 | exact qf _ _ | exact ⟨z0, z1⟩ | exact ⟨y0, y1⟩)
          (first
            | (refine step_append_of (by rfl) _ _ _ _ (by rfl) (.slice (some ⟨W.heap.size, 0, none⟩) 0 0) _ (by rfl) (by rfl) (hA _ _) ⟨rfl, rfl, rfl, rfl⟩ ?_; rintro v' w4 ⟨a', c', rfl, q0, qf, q1, q2, q3, q4, hn⟩))
        all_goals
          (try go_wp2)
          refine bodyPost_ret (v := .agg #[.int .i64 F, .slice a' 0 c']) (by simp [results, Try.results35, go_sem, *]) rfl ?_
          rw [HZ.out]
          exact ⟨a', c', by simp [lgV], by simpa using hn⟩
      | some ad =>
        obtain ⟨b, off, rfl⟩ := hpl ad rfl
        go_region_held3 (fun X => X.cell? ⟨w.heap.size, 0, none⟩ = some (.int .i64 F) ∧ X.cell? ⟨w.heap.size, 1, none⟩ = some (.slice (some ⟨b, off, none⟩) 0 0))
          (first | exact q0 | exact qf _ _ | exact ⟨z0, z1⟩ | exact ⟨y0, y1⟩)
          (first
            | (refine step_append_of (by rfl) _ _ _ _ (by rfl) (.slice (some ⟨W.heap.size, 0, none⟩) 0 0) _ (by rfl) (by rfl) (hA _ _) ⟨rfl, rfl, rfl, rfl⟩ ?_; rintro v' w4 ⟨a', c', rfl, q0, qf, q1, q2, q3, q4, hn⟩))
        all_goals
          (try go_wp2)
          refine bodyPost_ret (v := .agg #[.int .i64 F, .slice a' 0 c']) (by simp [results, Try.results35, go_sem, *]) rfl ?_
          rw [HZ.out]
          exact ⟨a', c', by simp [lgV], by simpa using hn⟩
    · have hTx : TxS W (some ⟨b, off, none⟩) T := .inr ⟨b, off, rfl, hc⟩
      have hcl2 : (T.length : Int) ≤ (cap : Int) := by omega
      have kc : (k : Int) ≤ (cap : Int) := by omega
      by_cases hck : cap = k
      · have hkT : k = T.length := by omega
        have hA := fun x => lgd_app (F := F) (Q := F + (k : Int)) (c := 0) (P := T.drop k) (x := x) i0 hi0 hz0 hz1 hz2 H3 (.inl (by rw [HD.out]; omega)) (hPl _ (by rw [HD.out]; omega))
        rw [HD.out] at hA
        have hc0 : T.length - k = 0 := by omega
        rw [hc0] at hA
        have HZ2 : Hid ((T.drop k).length = 0) := by rw [Hid, HD.out]; exact hc0
        subst hck
        clear H3 hTx hc hkT
        go_region_held3 (fun X => X.cell? ⟨w.heap.size, 0, none⟩ = some (.int .i64 F) ∧ X.cell? ⟨w.heap.size, 1, none⟩ = some (.slice (some ⟨b, off, none⟩) T.length cap))
          (first | exact q0 | exact qf _ _ | exact ⟨z0, z1⟩ | exact ⟨y0, y1⟩)
          (first
            | (refine step_append_of (by rfl) _ _ _ _ (by rfl) (.slice (some ⟨W.heap.size, 0, none⟩) 0 0) _ (by rfl) (by rfl) (hA _) ⟨rfl, rfl, rfl, rfl⟩ ?_; rintro v' w4 ⟨a', c', rfl, q0, qf, q1, q2, q3, q4, hn⟩))
        all_goals
          (try go_wp2)
          refine bodyPost_ret (v := .agg #[.int .i64 (F + (cap : Int)), .slice a' 0 c']) (by simp [results, Try.results35, go_sem, *]) rfl ?_
          rw [HZ.out]
          exact ⟨a', c', by simp only [HZ2.out]; rfl, by simp only [HZ2.out]; exact hn⟩
      · have hck2 : ¬ (cap - k = 0) := by omega
        have hA := lgd_app (F := F) (Q := F + (k : Int)) (c := cap - k) (P := T.drop k) i0 hi0 hz0 hz1 hz2 H3 (hTx.drop k) (hPl _ (by rw [HD.out]; omega))
        rw [HD.out] at hA
        clear H3 hTx hc
        go_region_held3 (fun X => X.cell? ⟨w.heap.size, 0, none⟩ = some (.int .i64 F) ∧ X.cell? ⟨w.heap.size, 1, none⟩ = some (.slice (some ⟨b, off, none⟩) T.length cap))
          (first | exact q0 | exact qf _ _ | exact ⟨z0, z1⟩ | exact ⟨y0, y1⟩)
          (first
            | (refine step_append_of (by rfl) _ _ _ _ (by rfl) (.slice (some ⟨W.heap.size, 0, none⟩) 0 0) _ (by rfl) (by rfl) hA ⟨rfl, rfl, rfl, rfl⟩ ?_; rintro v' w4 ⟨a', c', rfl, q0, qf, q1, q2, q3, q4, hn⟩))
        all_goals
          (try go_wp2)
          refine bodyPost_ret (v := .agg #[.int .i64 (F + (k : Int)), .slice a' (T.length - k) c']) (by simp [results, Try.results35, go_sem, *]) rfl ?_
          rw [HZ.out]
          exact ⟨a', c', by simp only [HD.out]; rfl, by simp only [HD.out]; exact hn⟩
  · rw [decide_eq_false hok] at hK
    have HZ : Hid (shLg (F, T) b0 = zeroLg) := by rw [Hid, shLg, if_neg hok]
    clear hok HV hv hH
    go_enter Try.func35, Try.ntmps35
    go_wp2_with (go_at_call 37; refine hK.mono ?_; rintro e w2 ⟨rfl, hg2⟩; have H2 := HH.out.step hg2.1; obtain ⟨x0, x1⟩ := H2.res.r2; have f0 := H2.res.f 0; have f1 := H2.res.f 1)
    refine bodyPost_ret (v := .agg #[.int .i64 0, .slice none 0 0]) (by simp [results, Try.results35, go_sem, *]) rfl ?_
    rw [HZ.out]
    exact ⟨none, 0, rfl, newO_nil (below2 H2.below (by omega))⟩

set_option maxRecDepth 100000 in
set_option maxHeartbeats 3200000 in
theorem lguS_any (F : Int) (a : Option Addr) (cap : Nat) (T : List (List UInt8)) (b0 : Int) (w : World) (hv : TxP w a cap T) (hm : T.length ≤ 1048576) :
    Calls Try.prog 36 #[lgV F a T.length cap, .int .i64 b0] w fun e w' => AnsLg w w' e (cuLg (F, T) b0) := by
  have hH := LgH.start w F a T.length cap
  have hK := lgkS_any F a cap T _ (hv.txs.below hH.below) (by unfold maxLen; omega)
  have HH : Hid _ := hH
  have HV : Hid (TxP w a cap T) := hv
  unfold lgV at hK ⊢
  by_cases hok : okLg (F, T)
  · rw [decide_eq_true hok] at hK
    have h1 := hok.1
    have h40 := hok.2.1
    simp only at h1 h40
    obtain ⟨hb1, hb2⟩ := cuN_bound hok b0
    simp only at hb2
    obtain ⟨k, hk⟩ : ∃ k : Nat, cuN (F, T) b0 = (k : Int) := ⟨(cuN (F, T) b0).toNat, by omega⟩
    have HZ : Hid (cuLg (F, T) b0 = (F, T.take k)) := by rw [Hid, cuLg, if_pos hok, hk]; rfl
    rw [hk] at hb1 hb2
    unfold cuN at hk
    simp only at hk
    have hw0 : wrap64 (max 0 (min b0 2000000) - F) = max 0 (min b0 2000000) - F := by unfold wrap64; omega
    have hw1 : wrap64 (max 0 (min b0 2000000) - F + 1) = max 0 (min b0 2000000) - F + 1 := by unfold wrap64; omega
    obtain ⟨i0, hi0, hz0, hz1, hz2⟩ := info_parts9 Try.info9
    have HD : Hid ((T.take k).length = k) := by rw [Hid, List.length_take]; omega
    clear hok hv hH
    go_enter Try.func36, Try.ntmps36
    go_wp2_with (go_at_call 37; refine hK.mono ?_; rintro e w2 ⟨rfl, hg2⟩; have H2 := HH.out.step hg2.1; obtain ⟨x0, x1⟩ := H2.box.r2)
    go_quiet (first | (go_at_call 56; exact (l1Min_any _ _ _).mono (fun e w' h => ⟨h.1, _, h.2⟩)) | (go_at_call 55; exact (l1Max_any _ _ _).mono (fun e w' h => ⟨h.1, _, h.2⟩)))
    rw [hk]
    go_wp2_with fail
    have H3 := H2.step (Same.drewN w2 nq).below
    have hT3 := HV.out.below H3.below
    obtain ⟨y0, y1⟩ := H3.box.r2
    obtain ⟨z0, z1⟩ := (H3.box.alloc (.cells #[] 9)).r2
    generalize hW : w2.drewN nq = W at *
    have k0 : (0 : Int) ≤ (k : Int) := by omega
    have k1 : (k : Int) ≤ (T.length : Int) := by omega
    have hPl : k ≤ 1048576 := by omega
    clear hk hw0 hw1 hb1 hb2 x0 x1 hK HV HH hW hg2 H2
    rcases hT3 with ⟨rfl, rfl, hpl⟩ | ⟨b, off, rfl, hcl, hcm, hc⟩
    · obtain rfl : k = 0 := by simp at k1; omega
      have hA := fun x c => lgd_app (F := F) (Q := F) (c := c) (P := []) (x := x) i0 hi0 hz0 hz1 hz2 H3 (.inl rfl) (Nat.zero_le _)
      simp only [List.length_nil, Int.natCast_zero] at *
      clear H3
      cases a with
      | none =>
        go_region_held3 (fun X => X.cell? ⟨w.heap.size, 0, none⟩ = some (.int .i64 F) ∧ X.cell? ⟨w.heap.size, 1, none⟩ = some (.slice none 0 0))
          (first | exact q0 | exact qf _ _ | exact ⟨z0, z1⟩ | exact ⟨y0, y1⟩)
          (first
            | (refine step_append_of (by rfl) _ _ _ _ (by rfl) (.slice (some ⟨W.heap.size, 0, none⟩) 0 0) _ (by rfl) (by rfl) (hA _ _) ⟨rfl, rfl, rfl, rfl⟩ ?_; rintro v' w4 ⟨a', c', rfl, q0, qf, q1, q2, q3, q4, hn⟩))
        all_goals
          (try go_wp2)
          refine bodyPost_ret (v := .agg #[.int .i64 F, .slice a' 0 c']) (by simp [results, Try.results36, go_sem, *]) rfl ?_
          rw [HZ.out]
          exact ⟨a', c', by simp [lgV], by simpa using hn⟩
      | some ad =>
        obtain ⟨b, off, rfl⟩ := hpl ad rfl
        go_region_held3 (fun X => X.cell? ⟨w.heap.size, 0, none⟩ = some (.int .i64 F) ∧ X.cell? ⟨w.heap.size, 1, none⟩ = some (.slice (some ⟨b, off, none⟩) 0 0))
          (first | exact q0 | exact qf _ _ | exact ⟨z0, z1⟩ | exact ⟨y0, y1⟩)
          (first
            | (refine step_append_of (by rfl) _ _ _ _ (by rfl) (.slice (some ⟨W.heap.size, 0, none⟩) 0 0) _ (by rfl) (by rfl) (hA _ _) ⟨rfl, rfl, rfl, rfl⟩ ?_; rintro v' w4 ⟨a', c', rfl, q0, qf, q1, q2, q3, q4, hn⟩))
        all_goals
          (try go_wp2)
          refine bodyPost_ret (v := .agg #[.int .i64 F, .slice a' 0 c']) (by simp [results, Try.results36, go_sem, *]) rfl ?_
          rw [HZ.out]
          exact ⟨a', c', by simp [lgV], by simpa using hn⟩
    · have hTx : TxS W (some ⟨b, off, none⟩) T := .inr ⟨b, off, rfl, hc⟩
      have hcl2 : (T.length : Int) ≤ (cap : Int) := by omega
      have kc : (k : Int) ≤ (cap : Int) := by omega
      have hA := fun c => lgd_app (F := F) (Q := F) (c := c) (P := T.take k) i0 hi0 hz0 hz1 hz2 H3 (hTx.take k) (by rw [HD.out]; exact hPl)
      rw [HD.out] at hA
      clear H3 hTx hc
      go_region_held3 (fun X => X.cell? ⟨w.heap.size, 0, none⟩ = some (.int .i64 F) ∧ X.cell? ⟨w.heap.size, 1, none⟩ = some (.slice (some ⟨b, off, none⟩) T.length cap))
        (first | exact q0 | exact qf _ _ | exact ⟨z0, z1⟩ | exact ⟨y0, y1⟩)
        (first
          | (refine step_append_of (by rfl) _ _ _ _ (by rfl) (.slice (some ⟨W.heap.size, 0, none⟩) 0 0) _ (by rfl) (by rfl) (hA _) ⟨rfl, rfl, rfl, rfl⟩ ?_; rintro v' w4 ⟨a', c', rfl, q0, qf, q1, q2, q3, q4, hn⟩))
      all_goals
        (try go_wp2)
        refine bodyPost_ret (v := .agg #[.int .i64 F, .slice a' k c']) (by simp [results, Try.results36, go_sem, *]) rfl ?_
        rw [HZ.out]
        exact ⟨a', c', by simp only [HD.out]; rfl, by simp only [HD.out]; exact hn⟩
  · rw [decide_eq_false hok] at hK
    have HZ : Hid (cuLg (F, T) b0 = zeroLg) := by rw [Hid, cuLg, if_neg hok]
    clear hok HV hv hH
    go_enter Try.func36, Try.ntmps36
    go_wp2_with (go_at_call 37; refine hK.mono ?_; rintro e w2 ⟨rfl, hg2⟩; have H2 := HH.out.step hg2.1; obtain ⟨x0, x1⟩ := H2.res.r2; have f0 := H2.res.f 0; have f1 := H2.res.f 1)
    refine bodyPost_ret (v := .agg #[.int .i64 0, .slice none 0 0]) (by simp [results, Try.results36, go_sem, *]) rfl ?_
    rw [HZ.out]
    exact ⟨none, 0, rfl, newO_nil (below2 H2.below (by omega))⟩
end Go.Proofs.Ytbnpliobigjapaa
