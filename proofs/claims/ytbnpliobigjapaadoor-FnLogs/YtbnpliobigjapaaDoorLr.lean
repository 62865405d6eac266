/-
  Several texts in one: Jlr.
-/
import Derived.Test.YtbnpliobigjapaaDoorLe
import Derived.Test.YtbnpliobigjapaaDoorLl
import Derived.Test.YtbnpliobigjapaaDoorLm
import Derived.Test.YtbnpliobigjapaaDoorLn
/-
  The program's Recovered: frame by frame, no farther than the first one that is not added.
-/
namespace Go.Proofs.YtbnpliobigjapaaDoor
set_option linter.unusedVariables false
set_option linter.unusedSimpArgs false
open Go.RowKit Go.Sort

theorem LB.put {w X u : World} {r o : Nat} {F G : Int} {T P : List (List UInt8)} {ta a7 : Option Addr} {tc c7 : Nat} {fp : Fp} (h : LB w X r o F T ta tc fp) (hN : NewO X u (scl P) (.slice a7 P.length c7)) :
    (u.cell? ⟨o, 0, none⟩ = some (.int .i64 F) ∧ u.cell? ⟨o, 1, none⟩ = some (.slice ta T.length tc) ∧ u.frozen? ⟨o, 0, none⟩ = false ∧ u.frozen? ⟨o, 1, none⟩ = false) ∧ ∃ fp', LB w ((u.setCell ⟨o, 0, none⟩ (.int .i64 G)).setCell ⟨o, 1, none⟩ (.slice a7 P.length c7)) r o G P a7 c7 fp' := by
  obtain ⟨fp7, ho, hf, hb⟩ := hN
  have hU := h.step hb
  have hrl := h.res.lt
  have hol := h.own.lt
  have hs := h.below.size
  have q8 := (hU.own.setC 0 (.int .i64 G)).setC 1 (.slice a7 P.length c7)
  exact ⟨⟨hU.own.at 0 rfl, hU.own.at 1 rfl, hU.own.f 0, hU.own.f 1⟩, fp7, hU.res.wrt (wrt2 u o) h.ne, by simpa using q8, Cel.ow_wrt ho (wrt2 u o) (fun b hb e => by have := hf b hb; omega), fun b hb => by have := hf b hb; exact ⟨by omega, by omega, by omega⟩, h.hr, h.ho, h.ne, below2 hU.below h.ho⟩
theorem lb_startR (w : World) (v : Int) :
    LB w (((w.alloc (.cells #[.int .i64 0, .slice none 0 0] 26)).alloc (.cells #[] 9)).alloc (.cells #[.int .i64 v, .slice (some ⟨w.heap.size + 1, 0, none⟩) 0 0] 26)) w.heap.size (w.heap.size + 1 + 1) v [] (some ⟨w.heap.size + 1, 0, none⟩) 0 (fun _ => False) := by
  have h0 := Bx.new w 26 #[.int .i64 0, .slice none 0 0]
  refine ⟨(h0.alloc _).alloc _, ?_, ow_scl.2 ⟨_, 0, none, rfl, OSo.nil _ _ (plainS _ 0), fun b => by simp⟩, fun b hb => absurd hb id, Nat.le_refl _, by omega, by omega, (((Below.refl _ _).alloc (Nat.le_refl _) _).alloc (by simp) _).alloc (by simp only [World.size_alloc]; omega) _⟩
  have := Bx.new ((w.alloc (.cells #[.int .i64 0, .slice none 0 0] 26)).alloc (.cells #[] 9)) 26 #[.int .i64 v, .slice (some ⟨w.heap.size + 1, 0, none⟩) 0 0]
  simpa using this
theorem frames_no {r : List UInt8} {ts : List (List UInt8)} (h : IsFrames r ts) (hn : ∀ t, ¬ Begins r t) : ts = [] := by
  cases h with
  | stop _ => rfl
  | next h1 hd _ => exact absurd ⟨h1, _, hd.symm⟩ (hn _)
theorem frames_yes {r t : List UInt8} {ts : List (List UInt8)} (h : IsFrames r ts) (hb : Begins r t) : ∃ r2 ts2, ts = t :: ts2 ∧ r = frL t ++ r2 ∧ IsFrames r2 ts2 ∧ t.length ≤ 2000 := by
  cases h with
  | stop hn => exact absurd hb (hn t)
  | next h1 hd hr =>
    rename_i s r2 ts2
    have e : t = s := begins_unique hb ⟨h1, r2, hd.symm⟩
    subst e
    exact ⟨r2, ts2, rfl, hd, hr, h1⟩

attribute [local irreducible] sv
set_option maxRecDepth 100000 in
set_option maxHeartbeats 6400000 in
theorem recI_any (ga : Addr) (d : List UInt8) (first : Int) (ts : List (List UInt8)) (w : World) (hG : GlB ga w) (hf : I64l first) (hd : d.length ≤ 1048576) (hts : IsFrames d ts) :
    Calls Tryd.prog 12 #[.string (sv d), .int .i64 first] w fun e w' => AnsLg w w' e (recLg ts first) := by
  have hL0 := lb_startR w first
  have hTx : TxS (((w.alloc (.cells #[.int .i64 0, .slice none 0 0] 26)).alloc (.cells #[] 9)).alloc (.cells #[.int .i64 first, .slice (some ⟨w.heap.size + 1, 0, none⟩) 0 0] 26)) (some ⟨w.heap.size + 1, 0, none⟩) [] := .inl rfl
  have hK := lgkI_any first (some ⟨w.heap.size + 1, 0, none⟩) 0 [] _ hTx (by unfold maxLen; simp)
  have HL0 : Hid (LB w (((w.alloc (.cells #[.int .i64 0, .slice none 0 0] 26)).alloc (.cells #[] 9)).alloc (.cells #[.int .i64 first, .slice (some ⟨w.heap.size + 1, 0, none⟩) 0 0] 26)) w.heap.size (w.heap.size + 1 + 1) first [] (some ⟨w.heap.size + 1, 0, none⟩) 0 (fun _ => False)) := hL0
  have HG : Hid (GlB ga w) := hG
  have HTS : Hid (IsFrames d ts) := hts
  unfold lgV at hK
  simp only [List.length_nil] at hK
  clear hL0 hTx hG hts
  by_cases hin : 1 ≤ first ∧ first ≤ 1000000
  · have hok : okLg (first, []) := ⟨hin, by simp, fun i hi => by simp at hi⟩
    rw [decide_eq_true hok] at hK
    have HR0 : Hid (recLg ts first = recF (first, []) ts) := by rw [Hid, recLg, if_pos hin]
    have HOK0 : Hid (okLg (first, [])) := hok
    clear hin hok
    go_enter Tryd.func12, Tryd.ntmps12
    go_wp2_with (go_at_call 17; refine hK.mono ?_; rintro e w2 ⟨rfl, hg2⟩)
    have HL2 : Hid (LB w w2 w.heap.size (w.heap.size + 1 + 1) first [] (some ⟨w.heap.size + 1, 0, none⟩) 0 (fun _ => False)) := HL0.out.step hg2.1
    clear hK HL0 hg2
    generalize w.heap.size + 1 + 1 = o at *
    go_loopg [6] ts.length (fun g at6 wr => ∃ (k : Nat) (l : Lg) (ta : Option Addr) (tc : Nat) (fp : Fp) (tt : List (List UInt8)), at6 = .int .i64 (k : Int) ∧ k ≤ d.length ∧ IsFrames (d.drop k) tt ∧ tt.length = g ∧ LB w wr w.heap.size o l.1 l.2 ta tc fp ∧ okLg l ∧ recLg ts first = recF l tt)
    case atStart => exact ⟨0, (first, []), _, 0, _, ts, rfl, Nat.zero_le _, by rw [List.drop_zero]; exact HTS.out, rfl, HL2.out, HOK0.out, HR0.out⟩
    case round =>
      clear HL2 HOK0 HR0 HTS
      obtain ⟨k, l, ta, tc, fp, tt, rfl, hk, hfr, hg, hL, hok, hrec⟩ := hrel
      obtain ⟨lF, lT⟩ := l
      simp only at hL
      have HF : Hid (IsFrames (d.drop k) tt) := hfr
      have HL : Hid (LB w wr w.heap.size o lF lT ta tc fp) := hL
      have HOK : Hid (okLg (lF, lT)) := hok
      have HREC : Hid (recLg ts first = recF (lF, lT) tt) := hrec
      have hA := frameAtB_any ga d k wr hd hk (HG.out.below hL.below)
      clear hfr hL hok hrec
      unfold AtF at hA
      go_wp2_with fail
      refine hA.mono ?_
      rintro e w3 ⟨hcase, hb3⟩
      have HL3 : Hid (LB w w3 w.heap.size o lF lT ta tc fp) := HL.out.step hb3
      clear hA hb3 HL
      rcases hcase with ⟨t, hbg, rfl⟩ | ⟨hno, rfl⟩
      · obtain ⟨r2, tt2, htt, hr2, hfr2, ht2⟩ := frames_yes HF.out hbg
        have HF2 : Hid (IsFrames r2 tt2) := hfr2
        have hE := entI_any t w3 (by omega)
        have hg1 : tt2.length + 1 = gk := by rw [← hg, htt]; rfl
        have hkl : k + (frL t).length ≤ d.length := by
          have := congrArg List.length hr2
          rw [List.length_drop, List.length_append] at this
          omega
        have HD : Hid (d.drop (k + (frL t).length) = r2) := by
          rw [Hid, ← List.drop_drop, hr2, List.drop_left]
        rw [htt] at HREC
        have HREC2 : Hid (recLg ts first = recF (lF, lT) (t :: tt2)) := HREC.out
        clear hbg hfr2 hr2 htt HREC HF
        by_cases hent : EntB t
        · have HS : Hid (recStep (lF, lT) t = addLg (lF, lT) (entL t).1 (entL t).2.1) := recStep_yes hent
          have e3 : (entL t).2.2 = true := by rw [entL, if_pos hent]
          have esl : (entL t).2.1.length ≤ 1048576 := by rw [entL, if_pos hent]; simp only [List.length_drop]; omega
          rw [e3] at hE
          have hl40 := HOK.out.2.1
          simp only at hl40
          have hsT : ShortT lT := fun i hi => by have := HOK.out.2.2 i hi; simp only at this; omega
          have hAd : ∀ X, TxP X ta tc lT → Calls Tryd.prog 8 #[.agg #[.int .i64 lF, .slice ta lT.length tc], .int .i64 (entL t).1, .string (sv (entL t).2.1)] X fun e w' => AnsLb X w' e (recStep (lF, lT) t) := fun X h => by
            rw [HS.out]
            exact adI_any lF ta tc lT _ _ X h (by omega) hsT esl
          have HN : Hid ((recStep (lF, lT) t).2 = false → recLg ts first = (recStep (lF, lT) t).1) := fun h => by
            rw [HREC2.out, recF, if_neg (by rw [h]; simp), recStep_no HOK.out h]
          have HY : Hid ((recStep (lF, lT) t).2 = true → recLg ts first = recF (recStep (lF, lT) t).1 tt2 ∧ okLg (recStep (lF, lT) t).1) := fun h => by
            rw [HREC2.out, recF, if_pos h]
            exact ⟨rfl, recStep_ok HOK.out⟩
          have hFm := fun X h => frame_any t X (by omega) h
          rw [frameL_small ht2] at hFm
          have hfs := sv_size (frL t)
          have hw6 : wrap64 ((k : Int) + ((frL t).length : Int)) = (k : Int) + ((frL t).length : Int) := by unfold wrap64; omega
          unfold AnsLb lgV at hAd
          generalize recStep (lF, lT) t = RR at *
          obtain ⟨⟨RF, RT⟩, ok⟩ := RR
          simp only at hAd HN HY
          generalize (entL t).1 = v at *
          generalize (entL t).2.1 = s at *
          generalize frL t = FR at *
          clear HS HREC2 hent e3
          cases ok with
          | false =>
            have HZ : Hid (recLg ts first = (RF, RT)) := HN.out rfl
            clear HN HY hFm hfs hw6
            go_wp2_with (first
              | (go_at_call 43; refine hE.mono ?_; rintro e w4 ⟨rfl, hg4⟩; have L4 := HL3.out.step hg4.1; obtain ⟨o0, o1⟩ := L4.own.r2)
              | (go_at_call 8; refine (hAd _ (ow_txp L4.txt)).mono ?_; rintro e w5 ⟨a5, c5, rfl, hN5⟩; obtain ⟨⟨z0, z1, z2, z3⟩, fp5, L5⟩ := L4.put (G := RF) hN5; obtain ⟨q0, q1⟩ := L5.own.r2; obtain ⟨r0, r1⟩ := L5.res.r2; have f0 := L5.res.f 0; have f1 := L5.res.f 1; have hA5 := L5.ans))
            refine bodyPost_ret (v := .agg #[.int .i64 RF, .slice a5 RT.length c5]) (by simp [results, Tryd.results12, go_sem, *]) rfl ?_
            rw [HZ.out]
            exact ⟨a5, c5, rfl, hA5⟩
          | true =>
            have HZ2 := HY.out rfl
            have HZ : Hid (recLg ts first = recF (RF, RT) tt2 ∧ okLg (RF, RT)) := HZ2
            clear HN HY HZ2
            go_wp2_with (first
              | (go_at_call 43; refine hE.mono ?_; rintro e w4 ⟨rfl, hg4⟩; have L4 := HL3.out.step hg4.1; obtain ⟨o0, o1⟩ := L4.own.r2)
              | (go_at_call 8; refine (hAd _ (ow_txp L4.txt)).mono ?_; rintro e w5 ⟨a5, c5, rfl, hN5⟩; obtain ⟨⟨z0, z1, z2, z3⟩, fp5, L5⟩ := L4.put (G := RF) hN5))
            have HL5 : Hid (LB w ((w5.setCell ⟨o, 0, none⟩ (.int .i64 RF)).setCell ⟨o, 1, none⟩ (.slice a5 RT.length c5)) w.heap.size o RF RT a5 c5 fp5) := L5
            have hF5 := hFm _ (HG.out.below L5.below).tab
            clear L4 L5 hN5 hg4 z0 z1 z2 z3 o0 o1 hFm hAd hE
            refine hF5.mono ?_
            rintro e w6 ⟨rfl, hg6⟩
            have HL6 : Hid (LB w w6 w.heap.size o RF RT a5 c5 fp5) := HL5.out.step hg6.1
            clear hg6 hF5 HL5
            clear hw6
            go_wp2
            go_roundg tt2.length
            case rel => exact ⟨k + FR.length, (RF, RT), a5, c5, fp5, tt2, by go_num, hkl, by rw [HD.out]; exact HF2.out, rfl, HL6.out, HZ.out.2, HZ.out.1⟩
            case measure => omega
        · have HZ : Hid (recLg ts first = (lF, lT)) := by rw [Hid, HREC2.out, recF, recStep_not HOK.out hent]; rfl
          rw [entL_no hent] at hE
          simp only at hE
          clear hent HREC2
          go_wp2_with (go_at_call 43; refine hE.mono ?_; rintro e w4 ⟨rfl, hg4⟩; have L4 := HL3.out.step hg4.1; obtain ⟨o0, o1⟩ := L4.own.r2; obtain ⟨r0, r1⟩ := L4.res.r2; have f0 := L4.res.f 0; have f1 := L4.res.f 1; have hA4 := L4.ans)
          refine bodyPost_ret (v := .agg #[.int .i64 lF, .slice ta lT.length tc]) (by simp [results, Tryd.results12, go_sem, *]) rfl ?_
          rw [HZ.out]
          exact ⟨ta, tc, rfl, hA4⟩
      · have HZ : Hid (recLg ts first = (lF, lT)) := by rw [Hid, HREC.out, frames_no HF.out hno]; rfl
        obtain ⟨o0, o1⟩ := HL3.out.own.r2
        obtain ⟨r0, r1⟩ := HL3.out.res.r2
        have f0 := HL3.out.res.f 0
        have f1 := HL3.out.res.f 1
        have hA3 := HL3.out.ans
        clear hno HREC
        go_wp2
        refine bodyPost_ret (v := .agg #[.int .i64 lF, .slice ta lT.length tc]) (by simp [results, Tryd.results12, go_sem, *]) rfl ?_
        rw [HZ.out]
        exact ⟨ta, tc, rfl, hA3⟩
  · have hok : ¬ okLg (first, []) := fun h => hin h.1
    rw [decide_eq_false hok] at hK
    have HR0 : Hid (recLg ts first = zeroLg) := by rw [Hid, recLg, if_neg hin]
    clear hin hok
    go_enter Tryd.func12, Tryd.ntmps12
    go_wp2_with (go_at_call 17; refine hK.mono ?_; rintro e w2 ⟨rfl, hg2⟩; have L2 := HL0.out.step hg2.1; obtain ⟨x0, x1⟩ := L2.res.r2; have f0 := L2.res.f 0; have f1 := L2.res.f 1)
    refine bodyPost_ret (v := .agg #[.int .i64 0, .slice none 0 0]) (by simp [results, Tryd.results12, go_sem, *]) rfl ?_
    rw [HR0.out]
    exact ⟨none, 0, rfl, newO_nil (below2 L2.below (Nat.le_refl _))⟩
theorem implRecovered (ga : Addr) (W : World) (hG : GlB ga W) : ImplRecovered W := fun d first ts w hb hf hd hts => recI_any ga d first ts w (hG.below hb) hf hd hts
end Go.Proofs.YtbnpliobigjapaaDoor
