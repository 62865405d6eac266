/-
  Several texts in one: Edi.
-/
import Derived.Test.YtggieamhbfdmhaaLy
import Derived.Test.YtggieamhbfdmhaaIg
import Derived.Test.YtggieamhbfdmhaaMj
/-
  The program's Trim, Song and Dropped.
-/
namespace Go.Proofs.Ytggieamhbfdmhaa
set_option linter.unusedVariables false
set_option linter.unusedSimpArgs false
open Go.RowKit Go.Sort

set_option maxRecDepth 100000 in
set_option maxHeartbeats 800000 in
theorem trimI_any (a a2 : Option Addr) (n cap c2 : Nat) (H : List (List Int)) (al : List Bool) (w : World) (hv : VV w a n cap H) (hf : FlS w a2 al) (hl2 : al.length ≤ maxLen) :
    Calls Try.prog 30 #[.slice a n cap, .slice a2 al.length c2] w fun e w' => AnsN w w' e (trimL H al) := by
  have hS := stableI_any a a2 n cap c2 H al w hv hf hl2
  have HN : Hid (H.length = n) := hv.n
  have hmL : n ≤ maxLen := Nat.le_trans hv.le hv.mx
  unfold maxLen at hmL
  have h8 : (stL H al).length ≤ 8 := (stL_small H al).1
  by_cases hq : (stL H al).length = n
  · have hq' : (((stL H al).length : Int) != (n : Int)) = false := by rw [hq]; simp
    have HZ : Hid (trimL H al = stL H al) := by rw [Hid, trimL, if_pos (by rw [hq, HN.out])]
    clear hv hf hq
    generalize al.length = nl at *
    go_enter Try.func30, Try.ntmps30
    go_wp2_with fail
    refine hS.mono ?_
    rintro e w1 ⟨g, o, c, rfl, hr⟩
    have HA : Hid (AnsN w w1 (.returned (.slice (some ⟨g, o, none⟩) (stL H al).length c)) (stL H al)) := ⟨g, o, c, rfl, hr⟩
    clear hr hS
    generalize (stL H al).length = m at *
    go_wp2
    go_ret
    rw [HZ.out]
    exact HA.out
  · have hq' : (((stL H al).length : Int) != (n : Int)) = true := by simp; omega
    have HZ : Hid (trimL H al = []) := by rw [Hid, trimL, if_neg (by rw [HN.out]; exact hq)]
    clear hv hf hq
    generalize al.length = nl at *
    go_enter Try.func30, Try.ntmps30
    go_wp2_with fail
    refine hS.mono ?_
    rintro e w1 ⟨g, o, c, rfl, hg, hr, hb⟩
    have HB : Hid (Below w.heap.size w w1) := hb
    clear hr hS hb
    generalize (stL H al).length = m at *
    go_wp2
    go_ret
    rw [HZ.out]
    exact ansN_nil w w1 HB.out
theorem implTrim : ImplTrim := fun a cap H a2 c2 al w hv hf h1 h2 h3 => (trimI_any a a2 H.length cap c2 H al w hv hf (Nat.le_trans h1 h2)).mono (fun e w' h => h.i3)
set_option maxHeartbeats 400000 in
theorem implSong : ImplSong := by
  intro a len cap cs w hv hl hm
  have hW := implWoven a len cap cs w hv hl hm
  clear hv
  go_enter Try.func40, Try.ntmps40
  go_wp2_with fail
  refine hW.mono ?_
  rintro e w1 ⟨Z, hZ, hA⟩
  have HA : Hid (∃ Z, IsWoven cs Z ∧ AnsN w w1 e Z) := ⟨Z, hZ, hA⟩
  obtain ⟨g, o, c, rfl, _⟩ := hA
  clear hZ hW
  generalize Z.length = m at *
  go_wp2
  go_ret
  exact HA.out
theorem twoB_swap (xs ys : List Int) : twoB xs ys = twoB ys xs := by
  rw [Bool.eq_iff_iff]
  constructor
  · intro h; obtain ⟨h1, h2, h3⟩ := twoB_true h; exact okB_two h2 h1 h3.symm
  · intro h; obtain ⟨h1, h2, h3⟩ := twoB_true h; exact okB_two h2 h1 h3.symm
set_option maxRecDepth 100000 in
set_option maxHeartbeats 1600000 in
theorem droppedI_any (a a2 : Option Addr) (n cap L c2 : Nat) (H : List (List Int)) (t : List Int) (w : World) (hv : VV w a n cap H) (ht : Vec w a2 L t) (hl2 : L ≤ c2) (hm2 : c2 ≤ maxLen) :
    Calls Try.prog 44 #[.slice a n cap, .slice a2 L c2] w fun e w' => e = .returned (.int .i64 (drpL H t)) ∧ Below w.heap.size w w' := by
  have HN : Hid (H.length = n) := hv.n
  have hR : ∀ X, Grew w X → Calls Try.prog 75 #[.slice a n cap] X fun e w' => e = .returned (.bool (okFr H)) ∧ Grew X w' := fun X hX => rowsOkI_any a n cap H X (hv.below hX.1)
  have hmL : n ≤ maxLen := Nat.le_trans hv.le hv.mx
  unfold maxLen at hmL
  by_cases hok : okFr H = true
  · rw [hok] at hR
    have h8 := (okFr_iff.1 hok).1
    rw [HN.out] at h8
    have n0 : (0 : Int) < (n : Int) := by omega
    obtain ⟨b, off, rfl, hc⟩ := vv_cells hv (by omega)
    obtain ⟨x0, cx0, hcx, hvx, hlx, hmx⟩ := hc 0 (by omega)
    rw [Nat.add_zero] at hcx
    have hF : ∀ X, Grew w X → Calls Try.prog 56 #[.slice x0 (row H 0).length cx0, .slice a2 L c2] X fun e w' => e = .returned (.bool (twoB (row H 0) t)) ∧ Grew X w' := fun X hX => (fits_any x0 a2 (row H 0).length cx0 L c2 (row H 0) t X (hvx.below hX.1 (Nat.le_refl _)) (ht.below hX.1 (Nat.le_refl _)) hlx hl2 hmx hm2).mono (fun e w' ⟨h1, q, h2⟩ => ⟨h1, by rw [h2]; exact (Grew.refl _).drewN q⟩)
    cases htw : twoB (row H 0) t with
    | true =>
      rw [htw] at hF
      have HZ : Hid (drpL H t = sumB (jnA H (n - 1)) - sumB (pairB min (jnA H (n - 1)) t)) := by rw [Hid, drpL, if_pos ⟨hok, by rw [twoB_swap]; exact htw⟩, HN.out]
      have hjE : foF max H n = jnA H (n - 1) := by rw [jnA_fo hok (n - 1) (by rw [HN.out]; omega), show n - 1 + 1 = n by omega]
      have hJ : ∀ X, Below w.heap.size w X → Calls Try.prog 76 #[.slice (some ⟨b, off, none⟩) n cap, .func (.func 10) #[] #[]] X fun e w' => ∃ g og c, e = .returned (.slice (some ⟨g, og, none⟩) (jnA H (n - 1)).length c) ∧ OI w' g og (jnA H (n - 1)).length c (jnA H (n - 1)) ∧ Below X.heap.size X w' := fun X h => by
        have := folded_any 10 max maxOk (fun _ _ => enters_of Try.func10 (by kernel_rfl) rfl _ _) (fun a a' len cap len' cap' xs ys w => implJoin_any a a' len cap len' cap' xs ys w) (some ⟨b, off, none⟩) n cap H X (hv.below h) h8.2 (okFr_iff.1 hok).2
        rw [if_neg (by omega), hjE] at this
        exact this.mono (fun e w' ⟨g, og, c, h1, _, h2, h3⟩ => ⟨g, og, c, h1, h2, h3⟩)
      obtain ⟨hjk, hjl, _⟩ := jnA_is hok (n - 1) (by rw [HN.out]; omega)
      obtain ⟨_, htk, htl⟩ := twoB_true htw
      have hpk : okB (pairB min (jnA H (n - 1)) t) = true := (pair_ok minOk hjk htk (by rw [hjl, htl])).2.2
      have hjf := ok_fits hjk
      have hpf := ok_fits hpk
      have hjb := sumB_bd hjk
      have hpb := sumB_bd hpk
      have hj8 := okB_len hjk
      have hp8 := okB_len hpk
      have eJ : sumB (jnA H (n - 1)) = sumL (jnA H (n - 1)) := by simp [sumB, hjk]
      have eP : sumB (pairB min (jnA H (n - 1)) t) = sumL (pairB min (jnA H (n - 1)) t) := by simp [sumB, hpk]
      have hS1 : ∀ X g og c, OI X g og (jnA H (n - 1)).length c (jnA H (n - 1)) → Calls Try.prog 59 #[.slice (some ⟨g, og, none⟩) (jnA H (n - 1)).length c] X fun e w' => e = .returned (.int .i64 (sumB (jnA H (n - 1)))) ∧ w' = X := fun X g og c h => by
        rw [eJ]; exact vsum_any g og _ c (jnA H (n - 1)) X rfl hjk (fun i hi => h.cellAt hi)
      have hS2 : ∀ X g c, OwnAt X g c (pairB min (jnA H (n - 1)) t) → Calls Try.prog 59 #[.slice (some ⟨g, 0, none⟩) (pairB min (jnA H (n - 1)) t).length c] X fun e w' => e = .returned (.int .i64 (sumB (pairB min (jnA H (n - 1)) t))) ∧ w' = X := fun X g c h => by
        rw [eP]; exact vsum_any g 0 _ c (pairB min (jnA H (n - 1)) t) X rfl hpk (fun i hi => (OI.own h).cellAt hi)
      have hM : ∀ X g og c, Below w.heap.size w X → OI X g og (jnA H (n - 1)).length c (jnA H (n - 1)) → Calls Try.prog 11 #[.slice (some ⟨g, og, none⟩) (jnA H (n - 1)).length c, .slice a2 L c2] X fun e w' => ∃ g' c', e = .returned (.slice (some ⟨g', 0, none⟩) (pairB min (jnA H (n - 1)) t).length c') ∧ OwnAt w' g' c' (pairB min (jnA H (n - 1)) t) ∧ Below w.heap.size w w' := fun X g og c hb h => (implMeet_any (some ⟨g, og, none⟩) a2 _ c L c2 (jnA H (n - 1)) t X (h.vec hjf) (ht.below hb (Nat.le_refl _)) h.le hl2 h.max hm2).mono (fun e w' ⟨g', c', h1, _, h2, h3⟩ => ⟨g', c', h1, h2, hb.trans (h3.mono hb.size)⟩)
      have hwr := wrapL (a := sumB (jnA H (n - 1))) (b := sumB (pairB min (jnA H (n - 1)) t)) (by omega)
      clear htw hok hv ht hc hvx hjE hjk hjl htk htl hpk hjf hpf eJ eP
      generalize sumB (jnA H (n - 1)) = S1 at *
      generalize sumB (pairB min (jnA H (n - 1)) t) = S2 at *
      generalize (pairB min (jnA H (n - 1)) t) = PA at *
      generalize (jnA H (n - 1)) = JA at *
      generalize (row H 0).length = L0 at *
      generalize hjL : JA.length = lj at *
      generalize hpL : PA.length = lp at *
      clear hjL hpL
      go_enter Try.func44, Try.ntmps44
      go_wp2_with fail
      refine (hR w (Grew.refl _)).mono ?_
      rintro e w1 ⟨rfl, hg1⟩
      have hcx1 := hg1.cell hcx
      have HG0 : Hid (Grew w w1) := hg1
      clear hg1 hcx
      go_wp2_with fail
      refine (hF w1 HG0.out).mono ?_
      rintro e W1 ⟨rfl, hg2⟩
      have HG1 : Hid (Grew w W1) := HG0.out.trans hg2
      clear hg2 hcx1
      have HB1 : Hid (Below w.heap.size w W1) := HG1.out.1
      clear hR hF
      go_wp2_with fail
      refine (hJ _ HB1.out).mono ?_
      rintro e w2 ⟨g, og, c, rfl, ho, hb⟩
      have HB2 : Hid (Below w.heap.size w w2) := HB1.out.trans (hb.mono HB1.out.size)
      have HO : Hid (OI w2 g og lj c JA) := ho
      clear ho hb hJ
      go_wp2_with (first
        | (go_at_call 11; refine (hM _ _ _ _ HB2.out HO.out).mono ?_; rintro e w3 ⟨g3, c3, rfl, ho3, hb3⟩; have HB3 : Hid (Below w.heap.size w w3) := hb3; have HO3 : Hid (OwnAt w3 g3 c3 PA) := ho3; clear ho3 hb3)
        | (go_at_call 59; refine (hS2 _ _ _ HO3.out).mono ?_; rintro e w' ⟨rfl, hw'⟩; rw [hw']; clear hw')
        | (go_at_call 59; refine (hS1 _ _ _ _ HO.out).mono ?_; rintro e w' ⟨rfl, hw'⟩; rw [hw']; clear hw'))
      go_ret
      exact ⟨ret_int (by rw [HZ.out]), HB3.out⟩
    | false =>
      rw [htw] at hF
      have HZ : Hid (drpL H t = -1) := by rw [Hid, drpL, if_neg]; rintro ⟨_, h⟩; rw [twoB_swap, htw] at h; cases h
      clear htw hok hv ht hc hvx
      generalize (row H 0).length = L0 at *
      go_enter Try.func44, Try.ntmps44
      go_wp2_with fail
      refine (hR w (Grew.refl _)).mono ?_
      rintro e w1 ⟨rfl, hg1⟩
      have hcx1 := hg1.cell hcx
      have HG0 : Hid (Grew w w1) := hg1
      clear hg1 hcx
      go_wp2_with fail
      refine (hF w1 HG0.out).mono ?_
      rintro e W1 ⟨rfl, hg2⟩
      have HG1 : Hid (Grew w W1) := HG0.out.trans hg2
      clear hg2 hcx1
      go_wp2
      go_ret
      exact ⟨ret_int (by rw [HZ.out]), HG1.out.1⟩
  · have hok' : okFr H = false := by simpa using hok
    rw [hok'] at hR
    have HZ : Hid (drpL H t = -1) := by rw [Hid, drpL, if_neg]; intro h; exact hok h.1
    clear hok hok' hv ht
    go_enter Try.func44, Try.ntmps44
    go_wp2_with fail
    refine (hR w (Grew.refl _)).mono ?_
    rintro e W1 ⟨rfl, hg1⟩
    have HG1 : Hid (Grew w W1) := hg1
    clear hg1
    go_wp2
    go_ret
    exact ⟨ret_int (by rw [HZ.out]), HG1.out.1⟩
theorem implDropped : ImplDropped := fun a cap H a2 c2 t w hv ht h1 h2 h3 => droppedI_any a a2 H.length cap t.length c2 H t w hv ht h1 h2
end Go.Proofs.Ytggieamhbfdmhaa
