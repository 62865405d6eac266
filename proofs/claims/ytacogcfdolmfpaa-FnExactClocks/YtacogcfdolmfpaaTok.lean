/-
  The contract of the specification's TraceOk.
-/
import Derived.Test.YtacogcfdolmfpaaEv
namespace Go.Proofs.Ytacogcfdolmfpaa
open Go.RowKit Go.Sort

theorem okE_node {es : List Ev} {k : Nat} (h : inB (evAt es k).n 0 7 = false) : okE es k = false := by
  unfold okE; rw [show rangeB (evAt es k).n 0 7 = inB (evAt es k).n 0 7 from rfl, h]; rfl
theorem okE_local {es : List Ev} {k : Nat} (h : inB (evAt es k).n 0 7 = true) (hk : (evAt es k).k = 1) : okE es k = decide ((evAt es k).m = 0) := by
  unfold okE; rw [show rangeB (evAt es k).n 0 7 = inB (evAt es k).n 0 7 from rfl, h, if_pos hk]; rfl
theorem okE_send {es : List Ev} {k : Nat} (h : inB (evAt es k).n 0 7 = true) (hk : (evAt es k).k = 2) : okE es k = (inB (evAt es k).m 1 1000 && (firstS es (evAt es k).m k).isNone) := by
  unfold okE; rw [show rangeB (evAt es k).n 0 7 = inB (evAt es k).n 0 7 from rfl, h, if_neg (by omega), if_pos hk]; rfl
theorem okE_hear {es : List Ev} {k : Nat} (h : inB (evAt es k).n 0 7 = true) (hk : (evAt es k).k = 3) : okE es k = (match firstS es (evAt es k).m k with
        | none => false
        | some s => decide ((evAt es s).n ≠ (evAt es k).n) && !hasE es (evAt es k) k) := by
  unfold okE; rw [show rangeB (evAt es k).n 0 7 = inB (evAt es k).n 0 7 from rfl, h, if_neg (by omega), if_neg (by omega), if_pos hk]; rfl
theorem okE_other {es : List Ev} {k : Nat} (h1 : (evAt es k).k ≠ 1) (h2 : (evAt es k).k ≠ 2) (h3 : (evAt es k).k ≠ 3) : okE es k = false := by
  unfold okE; rw [if_neg h1, if_neg h2, if_neg h3, Bool.and_false]
theorem okT_bad {es : List Ev} {k len : Nat} (h : okE es k = false) (hk : k < len) : okT es len = false := by
  unfold okT; rw [allE_false h hk, Bool.and_false]
theorem allE_next {es : List Ev} {k : Nat} (h : allE es k = true) (hk : okE es k = true) : allE es (k + 1) = true := by
  simp only [allE, h, hk]; rfl
theorem ev_beq {a b : Ev} (h : a ≠ b) : (a.n == b.n && (a.k == b.k && a.m == b.m)) = false := by
  cases a; cases b
  simp at h ⊢
  exact h

set_option maxRecDepth 100000 in
set_option maxHeartbeats 1600000 in
theorem specTok_any (b off len cap : Nat) (es : List Ev) (w : World) (hc : EvsAt w b off len es) (hm : len ≤ maxLen) (hcap : len ≤ cap) :
    Calls Try.prog 38 #[.slice (some ⟨b, off, none⟩) len cap] w fun e w' => e = .returned (.bool (okT es len)) ∧ Grew w w' := by
  unfold maxLen at hm
  by_cases h40 : (40 : Int) < (len : Int)
  · go_enter Try.func38, Try.ntmps38
    go_wp2
    go_ret
    exact ⟨ret_bool (by unfold okT; rw [decide_eq_false (by omega)]; rfl), Grew.refl _⟩
  · have h40' : decide ((40 : Int) < (len : Int)) = false := by simpa using h40
    have hcap' : (len : Int) ≤ (cap : Int) := by omega
    go_enter Try.func38, Try.ntmps38
    go_wp2
    go_loopw [3] (fun i wr => ∃ k : Nat, k ≤ len ∧ i = .int .i64 k ∧ allE es k = true ∧ Grew w wr) (fun i _ => len - (intOf i).toNat)
    case atStart => exact ⟨0, Nat.zero_le _, rfl, rfl, Grew.refl _⟩
    case round =>
      obtain ⟨k, hk, rfl, hall, hgr⟩ := hrel
      have HA : Hid (allE es k = true) := hall
      have HG : Hid (Grew w wr) := hgr
      have HC : Hid (EvsAt wr b off len es) := hc.grew hgr
      clear hall hgr
      by_cases hlt : k < len
      · obtain ⟨c0, c1, c2⟩ := HC.out k hlt
        have hlb := World.block_lt_of_cell? _ _ c0
        simp only at hlb
        have hne : b ≠ wr.heap.size := by omega
        have hkc : (k : Int) ≤ (cap : Int) := by omega
        have hk0 : (0 : Int) ≤ (k : Int) := by omega
        cases hn : inB (evAt es k).n 0 7
        · have HO : Hid (okT es len = false) := okT_bad (okE_node hn) hlt
          go_wp2_with (go_at_call 82; refine (l1In_any _ _ _ _).mono ?_; rintro e w' ⟨rfl, rfl⟩)
          go_ret
          exact ⟨ret_bool (by rw [HO.out]), (HG.out.alloc _)⟩
        · by_cases hk1 : (evAt es k).k = 1
          · have HO : Hid (okE es k = decide ((evAt es k).m = 0)) := okE_local hn hk1
            by_cases hm0 : (evAt es k).m = 0
            · go_wp2_with (go_at_call 82; refine (l1In_any _ _ _ _).mono ?_; rintro e w' ⟨rfl, rfl⟩)
              go_roundw
              case rel => exact ⟨k + 1, by omega, by go_num, allE_next HA.out (by rw [HO.out]; simpa using hm0), HG.out.alloc _⟩
              case measure => simp [intOf]; omega
            · have hmb : ((evAt es k).m != 0) = true := by simpa using hm0
              go_wp2_with (go_at_call 82; refine (l1In_any _ _ _ _).mono ?_; rintro e w' ⟨rfl, rfl⟩)
              go_ret
              exact ⟨ret_bool (by rw [okT_bad (by rw [HO.out]; simpa using hm0) hlt]), HG.out.alloc _⟩
          · have hk1b : ((evAt es k).k == 1) = false := by simpa using hk1
            by_cases hk2 : (evAt es k).k = 2
            · have HO : Hid (okE es k = (inB (evAt es k).m 1 1000 && (firstS es (evAt es k).m k).isNone)) := okE_send hn hk2
              cases hin : inB (evAt es k).m 1 1000
              · clear hk1
                go_wp2_with (go_at_call 82; refine (l1In_any _ _ _ _).mono ?_; rintro e w' ⟨rfl, rfl⟩)
                go_quiet (first | (go_at_call 82; exact (l1In_any _ _ _ _).mono (fun e w' h => ⟨h.1, _, h.2⟩)))
                go_wp2
                go_ret
                exact ⟨ret_bool (by rw [okT_bad (by rw [HO.out, hin]; rfl) hlt]), (HG.out.alloc _).drewN _⟩
              · cases hf : firstS es (evAt es k).m k with
                | none =>
                  have hS : ∀ (X : World), Grew wr X → Calls Try.prog 98 #[.slice (some ⟨b, off, none⟩) k cap, .int .i64 (evAt es k).m] X fun e w' => e = .returned (.int .i64 (-1)) ∧ w' = X := fun X hX =>
                    (l2Send_any b off k cap _ es _ ((HC.out.grew hX).mono (by omega)) (by unfold maxLen; omega)).mono (fun e w' h => by rw [hf] at h; exact h)
                  have HF : Hid (okE es k = true) := by rw [Hid, HO.out, hin, hf]; rfl
                  clear hk1 hf
                  go_wp2_with (go_at_call 82; refine (l1In_any _ _ _ _).mono ?_; rintro e w' ⟨rfl, rfl⟩)
                  go_quiet (first | (go_at_call 82; exact (l1In_any _ _ _ _).mono (fun e w' h => ⟨h.1, _, h.2⟩)) | (go_at_call 98; exact (hS _ (((Grew.refl _).alloc _).drewN _)).mono (fun e w' h => ⟨h.1, _, h.2⟩)))
                  go_wp2
                  go_roundw
                  case rel => exact ⟨k + 1, by omega, by go_num, allE_next HA.out HF.out, (HG.out.alloc _).drewN _⟩
                  case measure => simp [intOf]; omega
                | some s =>
                  have hS : ∀ (X : World), Grew wr X → Calls Try.prog 98 #[.slice (some ⟨b, off, none⟩) k cap, .int .i64 (evAt es k).m] X fun e w' => e = .returned (.int .i64 (s : Int)) ∧ w' = X := fun X hX =>
                    (l2Send_any b off k cap _ es _ ((HC.out.grew hX).mono (by omega)) (by unfold maxLen; omega)).mono (fun e w' h => by rw [hf] at h; exact h)
                  have HF : Hid (okE es k = false) := by rw [Hid, HO.out, hin, hf]; rfl
                  clear hk1 hf
                  go_wp2_with (go_at_call 82; refine (l1In_any _ _ _ _).mono ?_; rintro e w' ⟨rfl, rfl⟩)
                  go_quiet (first | (go_at_call 82; exact (l1In_any _ _ _ _).mono (fun e w' h => ⟨h.1, _, h.2⟩)) | (go_at_call 98; exact (hS _ (((Grew.refl _).alloc _).drewN _)).mono (fun e w' h => ⟨h.1, _, h.2⟩)))
                  go_wp2
                  go_ret
                  exact ⟨ret_bool (by rw [okT_bad HF.out hlt]), (HG.out.alloc _).drewN _⟩
            · have hk2b : ((evAt es k).k == 2) = false := by simpa using hk2
              by_cases hk3 : (evAt es k).k = 3
              · have HO : Hid (okE es k = (match firstS es (evAt es k).m k with
                  | none => false
                  | some s => decide ((evAt es s).n ≠ (evAt es k).n) && !hasE es (evAt es k) k)) := okE_hear hn hk3
                cases hf : firstS es (evAt es k).m k with
                | none =>
                  have hS : ∀ (X : World), Grew wr X → Calls Try.prog 98 #[.slice (some ⟨b, off, none⟩) k cap, .int .i64 (evAt es k).m] X fun e w' => e = .returned (.int .i64 (-1)) ∧ w' = X := fun X hX =>
                    (l2Send_any b off k cap _ es _ ((HC.out.grew hX).mono (by omega)) (by unfold maxLen; omega)).mono (fun e w' h => by rw [hf] at h; exact h)
                  have HF : Hid (okE es k = false) := by rw [Hid, HO.out, hf]
                  clear hk1 hk2 hf
                  go_wp2_with (go_at_call 82; refine (l1In_any _ _ _ _).mono ?_; rintro e w' ⟨rfl, rfl⟩)
                  go_quiet (first | (go_at_call 98; exact (hS _ (((Grew.refl _).alloc _).drewN _)).mono (fun e w' h => ⟨h.1, _, h.2⟩)))
                  go_wp2_with fail
                  go_quiet (fail)
                  go_wp2
                  go_ret
                  exact ⟨ret_bool (by rw [okT_bad HF.out hlt]), ((HG.out.alloc _).drewN _).drewN _⟩
                | some s =>
                  have hS : ∀ (X : World), Grew wr X → Calls Try.prog 98 #[.slice (some ⟨b, off, none⟩) k cap, .int .i64 (evAt es k).m] X fun e w' => e = .returned (.int .i64 (s : Int)) ∧ w' = X := fun X hX =>
                    (l2Send_any b off k cap _ es _ ((HC.out.grew hX).mono (by omega)) (by unfold maxLen; omega)).mono (fun e w' h => by rw [hf] at h; exact h)
                  have hsl := (firstS_some hf).1
                  obtain ⟨s0, _, _⟩ := HC.out s (by omega)
                  have hs1 : (s : Int) < (len : Int) := by omega
                  have hs0 : (0 : Int) ≤ (s : Int) := by omega
                  by_cases hns : (evAt es s).n = (evAt es k).n
                  · have HF : Hid (okE es k = false) := by rw [Hid, HO.out, hf]; simp [hns]
                    have hnb : ((evAt es s).n == (evAt es k).n) = true := by simpa using hns
                    clear hk1 hk2 hf hns
                    go_wp2_with (go_at_call 82; refine (l1In_any _ _ _ _).mono ?_; rintro e w' ⟨rfl, rfl⟩)
                    go_quiet (first | (go_at_call 98; exact (hS _ (((Grew.refl _).alloc _).drewN _)).mono (fun e w' h => ⟨h.1, _, h.2⟩)))
                    go_wp2_with fail
                    go_quiet (fail)
                    go_wp2
                    go_ret
                    exact ⟨ret_bool (by rw [okT_bad HF.out hlt]), ((HG.out.alloc _).drewN _).drewN _⟩
                  · have HF : Hid (okE es k = !hasE es (evAt es k) k) := by rw [Hid, HO.out, hf]; simp [hns]
                    have hnb : ((evAt es s).n == (evAt es k).n) = false := by simpa using hns
                    clear hk1 hk2 hf hns
                    go_wp2_with (go_at_call 82; refine (l1In_any _ _ _ _).mono ?_; rintro e w' ⟨rfl, rfl⟩)
                    go_quiet (first | (go_at_call 98; exact (hS _ (((Grew.refl _).alloc _).drewN _)).mono (fun e w' h => ⟨h.1, _, h.2⟩)))
                    go_wp2_with fail
                    go_quiet (fail)
                    go_wp2
                    go_loopw [6] (fun i wx => ∃ j n : Nat, j ≤ k ∧ i = .int .i64 j ∧ hasE es (evAt es k) j = false ∧ wx = (wr.alloc (Obj.cells #[Value.int IntKind.i64 (evAt es k).n, Value.int IntKind.i64 3, Value.int IntKind.i64 (evAt es k).m] 48)).drewN n) (fun i _ => k - (intOf i).toNat)
                    case atStart => exact ⟨0, _, Nat.zero_le _, rfl, rfl, World.drewN_drewN _ _ _⟩
                    case round =>
                      obtain ⟨j, n, hj, rfl, hno, rfl⟩ := hrel
                      have HN : Hid (hasE es (evAt es k) j = false) := hno
                      clear hno
                      by_cases hjk : j < k
                      · obtain ⟨e0, e1, e2⟩ := HC.out j (by omega)
                        have hj1 : (j : Int) < (len : Int) := by omega
                        have hj0 : (0 : Int) ≤ (j : Int) := by omega
                        by_cases hje : evAt es j = evAt es k
                        · have HF2 : Hid (okE es k = false) := by
                            rw [Hid, HF.out, hasE_iff.2 ⟨j, hjk, hje⟩]; rfl
                          rw [hje, hk3] at e1
                          rw [hje] at e0 e2
                          clear hje
                          go_wp2_with fail
                          go_quiet (fail)
                          go_wp2
                          go_ret
                          exact ⟨ret_bool (by rw [okT_bad HF2.out hlt]), ((HG.out.alloc _).drewN _).drewN _⟩
                        · have HN2 : Hid (hasE es (evAt es k) (j + 1) = false) := by
                            rw [Hid, hasE, HN.out, decide_eq_false hje]; rfl
                          by_cases hp : (evAt es j).n = (evAt es k).n
                          · by_cases hq : (evAt es j).k = 3
                            · have hr : (evAt es j).m ≠ (evAt es k).m := fun h => hje (by
                                cases hx : evAt es j; cases hy : evAt es k
                                simp only [hx, hy] at hp hq hk3 h
                                rw [hp, hq, hk3, h])
                              have hrb : ((evAt es j).m == (evAt es k).m) = false := by simpa using hr
                              rw [hp] at e0
                              rw [hq] at e1
                              clear hje hp hq hr
                              go_wp2_with fail
                              go_quiet (fail)
                              go_wp2
                              go_roundw
                              case rel => exact ⟨j + 1, _, by omega, by go_num, HN2.out, rfl⟩
                              case measure => simp [intOf]; omega
                            · have hqb : ((evAt es j).k == 3) = false := by simpa using hq
                              rw [hp] at e0
                              clear hje hp hq
                              go_wp2_with fail
                              go_quiet (fail)
                              go_wp2
                              go_roundw
                              case rel => exact ⟨j + 1, _, by omega, by go_num, HN2.out, rfl⟩
                              case measure => simp [intOf]; omega
                          · have hpb : ((evAt es j).n == (evAt es k).n) = false := by simpa using hp
                            clear hje hp
                            go_wp2_with fail
                            go_quiet (fail)
                            go_wp2
                            go_roundw
                            case rel => exact ⟨j + 1, _, by omega, by go_num, HN2.out, rfl⟩
                            case measure => simp [intOf]; omega
                      · have hjl : j = k := by omega
                        subst hjl
                        have HF2 : Hid (okE es j = true) := by rw [Hid, HF.out, HN.out]; rfl
                        go_wp2
                        go_roundw
                        case rel => exact ⟨j + 1, by omega, by go_num, allE_next HA.out HF2.out, (HG.out.alloc _).drewN _⟩
                        case measure => simp [intOf]; omega
              · have hk3b : ((evAt es k).k == 3) = false := by simpa using hk3
                have HF : Hid (okE es k = false) := okE_other hk1 hk2 hk3
                clear hk1 hk2 hk3
                go_wp2_with (go_at_call 82; refine (l1In_any _ _ _ _).mono ?_; rintro e w' ⟨rfl, rfl⟩)
                go_ret
                exact ⟨ret_bool (by rw [okT_bad HF.out hlt]), (HG.out.alloc _)⟩
      · have hkl : k = len := by omega
        subst hkl
        go_wp2
        go_ret
        exact ⟨ret_bool (by unfold okT; rw [HA.out, decide_eq_true (by omega)]; rfl), HG.out⟩
end Go.Proofs.Ytacogcfdolmfpaa
