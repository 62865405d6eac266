/-
  Several texts in one: Rtw.
-/
import Derived.Test.YtdniajogojlmdaaJq
import Derived.Test.YtdniajogojlmdaaJo
/-
  The contract of the specification's Turn: the walk.
-/
namespace Go.Proofs.Ytdniajogojlmdaa
set_option linter.unusedVariables false
set_option linter.unusedSimpArgs false
open Go.RowKit Go.Sort

theorem newO_zero {w w' : World} (hb : Below w.heap.size w w') : NewO w w' (iicl []) (.slice none 0 0) :=
  ⟨fun _ => False, ⟨none, 0, [], none, fun _ => False, rfl, OSo.nil _ _ plainN, ⟨rfl, fun _ h => h⟩, fun _ _ h => h, fun b => by simp⟩, fun _ h => absurd h id, hb⟩
theorem turnL_no {N B : Int} {H : List (List Int)} {cs : List Ps} {i : Nat} (hi : i < cs.length) (h : ¬ psOk N H cs i) : turnL N B H cs = (zeroR, false) := by
  rw [turnL, if_neg (fun k => h (k.2 i hi))]

theorem okRow_len {B : Int} {h : List Int} (hk : okRow B h) (hB : B ≤ 12) : h.length ≤ 12 := by
  have hk' := okRow_iff.1 hk
  have h1 := hk'.1
  have hnd : ∀ i, i < h.length → (i : Int) ≤ el h i := by
    intro i
    induction i with
    | zero => intro hi; have := h1 _ (el_mem hi); omega
    | succ i ih =>
      intro hi
      have h2 := ih (by omega)
      have h3 := (rises_pairwise.2 hk'.2) i (by omega)
      omega
  rcases Nat.eq_zero_or_pos h.length with h0 | h0
  · omega
  · have h2 := hnd (h.length - 1) (by omega)
    have h3 := h1 _ (el_mem (show h.length - 1 < h.length by omega))
    omega
theorem outs_ok2 {N B : Int} {H : List (List Int)} {cs : List Ps} (hr : okRel N B H) : ∀ i, (∀ j, j < i → psOk N H cs j) → okRel N B (outs H cs i) := by
  intro i
  induction i with
  | zero => intro _; exact hr
  | succ i ih =>
    intro ht
    obtain ⟨a1, a2, a3, a4, a5⟩ := ih (fun j hj => ht j (by omega))
    obtain ⟨b1, b2, b3, b4⟩ := ht i (by omega)
    have hl : (outs H cs i).length = H.length := outs_len _ _ _
    have h3 := hr.2.2.1
    have htl : (pat cs i).2.1.toNat < (outs H cs i).length := by omega
    have hbq : 0 ≤ (pat cs i).2.2 ∧ (pat cs i).2.2 ≤ B - 1 := (okRow_iff.1 (hr.2.2.2.2 (pat cs i).1.toNat (by omega))).1 _ b3
    obtain ⟨Bn, rfl⟩ : ∃ Bn : Nat, B = (Bn : Int) := ⟨B.toNat, by omega⟩
    refine ⟨a1, a2, by rw [outs, List.length_set]; exact a3, ?_, fun k hk => ?_⟩
    · rw [outs, row_set htl]
      split
      · rename_i e
        rw [← e, putL_same (okRow_iff.1 (a5 0 (by omega))).2 (full_mem (a5 0 (by omega)) (by omega) hbq)]
        exact a4
      · exact a4
    · rw [outs, List.length_set] at hk
      rw [outs, row_set htl]
      split
      · exact putL_ok (a5 _ htl) hbq
      · exact a5 k hk
theorem Same.bx {X w : World} (h : Same X w) {B : Nat} {T : TypeId} {cs : Array Value} (hb : Bx w B T cs) : Bx X B T cs := by unfold Bx; rw [h.heap]; exact hb
theorem Same.cell {X w : World} (h : Same X w) {b o : Nat} {v : Value} (hb : w.cell? ⟨b, o, none⟩ = some v) : X.cell? ⟨b, o, none⟩ = some v := by
  rw [World.cell?_of_block (w := w) (by rw [h.heap])]; exact hb
theorem Same.frozen {X w : World} (h : Same X w) {b o : Nat} (hb : w.frozen? ⟨b, o, none⟩ = false) : X.frozen? ⟨b, o, none⟩ = false := by
  rw [show X.frozen? ⟨b, o, none⟩ = w.frozen? ⟨b, o, none⟩ from by simp only [World.frozen?, h.heap]]; exact hb
theorem Same.more {X w : World} (h : Same X w) (n : Nat) : Same (X.drewN n) w := ⟨h.heap, h.os, h.tape, h.output⟩

set_option maxRecDepth 100000 in
set_option maxHeartbeats 6400000 in
theorem turnS_any (N B : Int) (a : Option Addr) (len cap : Nat) (H : List (List Int)) (ca : Option Addr) (cl cc : Nat) (cs : List Ps) (w : World) (hv : VV w a len cap H) (hp : PsS w ca cl cs) (hcm : cl ≤ 17592186044416) :
    Calls Try.prog 34 #[rlV N B a len cap, .slice ca cl cc] w fun e w' => AnsRl w w' e (turnL N B H cs) := by
  have G0 : Grew w ((w.alloc (.cells #[.int .i64 N, .int .i64 B, .slice a len cap] 35)).alloc (.cells #[.int .i64 0, .int .i64 0, .slice none 0 0] 35)) := ((Grew.refl _).alloc _).alloc _
  have q0 : Bx ((w.alloc (.cells #[.int .i64 N, .int .i64 B, .slice a len cap] 35)).alloc (.cells #[.int .i64 0, .int .i64 0, .slice none 0 0] 35)) w.heap.size 35 #[.int .i64 N, .int .i64 B, .slice a len cap] := (Bx.new _ _ _).alloc _
  have z0 : Bx ((w.alloc (.cells #[.int .i64 N, .int .i64 B, .slice a len cap] 35)).alloc (.cells #[.int .i64 0, .int .i64 0, .slice none 0 0] 35)) (w.heap.size + 1) 35 #[.int .i64 0, .int .i64 0, .slice none 0 0] := by
    have := Bx.new (w.alloc (.cells #[.int .i64 N, .int .i64 B, .slice a len cap] 35)) 35 #[.int .i64 0, .int .i64 0, .slice none 0 0]
    simpa using this
  have hT := rokS_any N B a len cap H _ (hv.grew G0)
  unfold rlV at *
  generalize hW0 : (w.alloc (.cells #[.int .i64 N, .int .i64 B, .slice a len cap] 35)).alloc (.cells #[.int .i64 0, .int .i64 0, .slice none 0 0] 35) = W0 at *
  obtain ⟨c0, c1, c2⟩ := q0.r3
  by_cases hok : okRel N B H
  · rw [decide_eq_true hok] at hT
    have HT1 : Hid (turnOk N H cs → turnL N B H cs = ((N, B, outs H cs cs.length), true)) := fun h => by rw [turnL, if_pos ⟨hok, h⟩]
    have HOK : Hid (okRel N B H) := hok
    obtain ⟨hN, hB, hNl, hBl, hrows⟩ := hok
    obtain ⟨N, rfl⟩ : ∃ n : Nat, N = (n : Int) := ⟨N.toNat, by omega⟩
    have hlen : len = N := by have := hv.n; omega
    subst hlen
    have hHl : H.length = len := hv.n
    have h12 : len ≤ 12 := by omega
    have hcap := hv.le
    have hmx := hv.mx
    have HRW : Hid (∀ k, k < len → (row H k).length ≤ 1000000) := fun k hk => by
      have := okRow_len (hrows k (by omega)) hB.2
      omega
    obtain ⟨i0, hi0, hz0, hz1, hz2⟩ := info_parts2n Try.info2n
    obtain ⟨i1, hi1, hy0, hy1, hy2⟩ := info_parts2n infoSl10
    have HV : Hid (VV w a len cap H) := hv
    have HP : Hid (PsS w ca cl cs) := hp
    clear hNl hBl hrows hv hp
    go_enter Try.func34, Try.ntmps34
    go_wp2_with fail
    refine hT.mono ?_
    rintro e w1 ⟨rfl, hg1⟩
    have q1 := q0.below hg1.1
    have z1 := z0.below hg1.1
    have HB1 : Hid (Below w.heap.size w w1) := (G0.trans hg1).1
    have zl := z1.lt
    have HS : Hid (TSt w (w1.alloc (.cells #[.int .i64 (len : Int), .int .i64 B, .slice none 0 0] 35)) (len : Int) B a len cap w1.heap.size 0 (H.take 0)) :=
      ⟨none, 0, fun _ => False, q1.alloc _, z1.alloc _, Bx.new _ _ _, ⟨none, 0, [], none, fun _ => False, rfl, OSo.nil _ _ plainN, ⟨rfl, fun _ h => h⟩, fun _ _ h => h, fun b => by simp⟩, fun _ h => absurd h id, zl, HB1.out.alloc HB1.out.size _⟩
    obtain ⟨d0, d1, d2⟩ := q1.r3
    clear c0 c1 c2 q0 z0 G0 hT hg1 q1 z1 zl
    go_wp2_with fail
    clear d0 d1 d2
    generalize w1.alloc (.cells #[.int .i64 (len : Int), .int .i64 B, .slice none 0 0] 35) = W2 at *
    generalize w1.heap.size = o at *
    go_loopw [7] (fun i wr => ∃ k : Nat, k ≤ len ∧ i = .int .i64 k ∧ TSt w wr (len : Int) B a len cap o k (H.take k)) (fun i _ => len - (intOf i).toNat)
    case atStart => exact ⟨0, Nat.zero_le _, rfl, HS.out⟩
    case round =>
      obtain ⟨k, hk, rfl, a', c, fp, hr, hz, hob, hO, hfp, hlo, hb⟩ := hrel
      obtain ⟨r0, r1, r2⟩ := hr.r3
      obtain ⟨o0, o1, o2⟩ := hob.r3
      have of2 := hob.f 2
      by_cases hlt : k < len
      · obtain ⟨rb, roff, x, cx, rfl, hcell, hvec, hle, hcx⟩ := (HV.out.below hb).row k hlt
        have hA := tst_row (cx := cx) i0 hi0 hz0 hz1 hz2 i1 hi1 hy0 hy1 hy2 hr hz hob hO hfp hlo hb (by omega) (by omega) hvec (HRW.out k hlt)
        have k1 : (k : Int) < (len : Int) := by omega
        have k0 : (0 : Int) ≤ (k : Int) := by omega
        have r2' := ((Grew.refl wr).alloc (.cells #[] 2)).cell r2
        have o2' := ((Grew.refl wr).alloc (.cells #[] 2)).cell o2
        have hc' := ((Grew.refl wr).alloc (.cells #[] 2)).cell hcell
        clear hr hz hob hO hfp hlo hb hvec
        go_wp2_with fail
        go_region_law
          (first
            | (refine step_append_of (by rfl) (.tmp 28) _ _ _ (by rfl) (.slice a' k c) _ (by rfl) (by rfl) hA2 ⟨rfl, rfl, rfl, rfl⟩ ?_; rintro v' w4 ⟨a2, c2, rfl, y1, y2, hn⟩)
            | (refine step_append_of (by rfl) (.tmp 29) _ _ _ (by rfl) (.slice (some ⟨wr.heap.size, 0, none⟩) 0 0) _ (by rfl) (by rfl) hA ⟨rfl, rfl, rfl, rfl⟩ ?_; rintro v' w2 ⟨a1, c1, rfl, x1, x2, hA2⟩))
        all_goals
          go_wp2
          go_roundw
          case rel => exact ⟨k + 1, by omega, by go_num, hn⟩
          case measure => simp [intOf]; omega
      · have e : len = k := by omega
        subst e
        rw [show H.take len = H by rw [← hHl, List.take_length]] at hO
        have HS2 : Hid (TSt w wr (len : Int) B a len cap o len (outs H cs 0)) := ⟨a', c, fp, hr, hz, hob, hO, hfp, hlo, hb⟩
        clear hlt hob hO hfp hz hb
        go_wp2_with fail
        clear r0 r1 r2 o0 o1 o2 of2 hr HS
        go_loopw [8] (fun i wr => ∃ k : Nat, k ≤ cl ∧ i = .int .i64 k ∧ TSt w wr (len : Int) B a len cap o len (outs H cs k) ∧ ∀ j, j < k → psOk (len : Int) H cs j) (fun i _ => cl - (intOf i).toNat)
        case atStart => exact ⟨0, Nat.zero_le _, rfl, HS2.out, fun j hj => by omega⟩
        case round =>
          clear HS2 hlo hk
          obtain ⟨k, hk, rfl, ⟨a', c, fp, hr, hz, hob, hO, hfp, hlo, hb⟩, hps⟩ := hrel
          have HPS : Hid (∀ j, j < k → psOk (len : Int) H cs j) := hps
          clear hps
          obtain ⟨hcl, hpc⟩ := HP.out.below hb
          have HCL : Hid (cs.length = cl) := hcl
          clear hcl
          by_cases hlt : k < cl
          · rcases hpc with h0 | ⟨pb, poff, rfl, hpc⟩
            · omega
            have hpk := hpc k hlt
            obtain ⟨p0, p1, p2⟩ := hpk
            have HPC : Hid (∀ i, i < cl → wr.cell? ⟨pb, poff + i * 3, none⟩ = some (.int .i64 (pat cs i).1) ∧ wr.cell? ⟨pb, poff + i * 3 + 1, none⟩ = some (.int .i64 (pat cs i).2.1) ∧ wr.cell? ⟨pb, poff + i * 3 + 2, none⟩ = some (.int .i64 (pat cs i).2.2)) := hpc
            clear hpc
            have k1 : (k : Int) < (cl : Int) := by omega
            have k0 : (0 : Int) ≤ (k : Int) := by omega
            have HPK : Hid (psOk (len : Int) H cs k ↔ ((0 ≤ (pat cs k).1 ∧ (pat cs k).1 ≤ (len : Int) - 1) ∧ (0 ≤ (pat cs k).2.1 ∧ (pat cs k).2.1 ≤ (len : Int) - 1) ∧ (pat cs k).2.2 ∈ row H (pat cs k).1.toNat ∧ ∀ j, j < k → (pat cs j).1 ≠ (pat cs k).1 ∧ (pat cs j).2.1 ≠ (pat cs k).2.1)) := Iff.rfl
            have HNX : Hid (outs H cs (k + 1) = (outs H cs k).set (pat cs k).2.1.toNat (putL (row (outs H cs k) (pat cs k).2.1.toNat) (pat cs k).2.2)) := rfl
            have HPT : Hid (∀ j, pat cs j = pat cs j) := fun _ => rfl
            generalize hf : (pat cs k).1 = F at *
            generalize ht : (pat cs k).2.1 = T at *
            generalize hq : (pat cs k).2.2 = Q at *
            clear hf ht hq HPT
            have x3 := Bx.new wr 79 #[.int .i64 F, .int .i64 T, .int .i64 Q]
            have r3 := hr.alloc (.cells #[.int .i64 F, .int .i64 T, .int .i64 Q] 79)
            have z3 := hz.alloc (.cells #[.int .i64 F, .int .i64 T, .int .i64 Q] 79)
            have ob3 := hob.alloc (.cells #[.int .i64 F, .int .i64 T, .int .i64 Q] 79)
            have hb01 : Below wr.heap.size wr (wr.alloc (.cells #[.int .i64 F, .int .i64 T, .int .i64 Q] 79)) := one_alloc10 _ _
            have O3 := Cel.ow_below hO hb01
            have hb3 : Below w.heap.size w (wr.alloc (.cells #[.int .i64 F, .int .i64 T, .int .i64 Q] 79)) := hb.alloc hb.size _
            have HPC3 : Hid (∀ i, i < cl → (wr.alloc (.cells #[.int .i64 F, .int .i64 T, .int .i64 Q] 79)).cell? ⟨pb, poff + i * 3, none⟩ = some (.int .i64 (pat cs i).1) ∧ (wr.alloc (.cells #[.int .i64 F, .int .i64 T, .int .i64 Q] 79)).cell? ⟨pb, poff + i * 3 + 1, none⟩ = some (.int .i64 (pat cs i).2.1)) := fun i hi =>
              ⟨((Grew.refl wr).alloc _).cell (HPC.out i hi).1, ((Grew.refl wr).alloc _).cell (HPC.out i hi).2.1⟩
            clear hr hz hob hO hb HPC
            generalize hW3 : wr.alloc (.cells #[.int .i64 F, .int .i64 T, .int .i64 Q] 79) = W3 at *
            obtain ⟨s0, s1, s2⟩ := x3.r3
            obtain ⟨r0, r1, r2⟩ := r3.r3
            obtain ⟨t0, t1, t2⟩ := z3.r3
            have tf0 := z3.f 0
            have tf1 := z3.f 1
            have tf2 := z3.f 2
            have hmix := mixedR
            have HKC : Hid (k < cs.length) := by rw [Hid, HCL.out]; exact hlt
            have l0 : -9223372036854775808 ≤ (len : Int) - 1 := by omega
            have l1 : (len : Int) - 1 ≤ 9223372036854775807 := by omega
            cases e0 : inB F 0 ((len : Int) - 1) with
            | false =>
              have HZ : Hid (turnL (len : Int) B H cs = (zeroR, false)) := turnL_no HKC.out (fun h => by
                have h1 := (HPK.out.1 h).1
                simp [inB] at e0
                omega)
              go_wp2_with fail
              go_quiet ((go_at_call 73; exact (l1In_any _ _ _ _).mono (fun e w' h => ⟨h.1, _, h.2⟩)))
              go_wp2
              refine bodyPost_ret (v := .tuple #[.agg #[.int .i64 0, .int .i64 0, .slice none 0 0], .bool false]) (by simp [results, Try.results34, go_sem, t0, t1, t2]) rfl ?_
              rw [HZ.out]
              exact ⟨none, 0, rfl, newO_zero (below3 (belowN hb3) (Nat.le_succ _))⟩
            | true =>
              have hF : 0 ≤ F ∧ F ≤ (len : Int) - 1 := by simpa [inB] using e0
              obtain ⟨F, rfl⟩ : ∃ n : Nat, F = (n : Int) := ⟨F.toNat, by omega⟩
              cases e1 : inB T 0 ((len : Int) - 1) with
              | false =>
                have HZ : Hid (turnL (len : Int) B H cs = (zeroR, false)) := turnL_no HKC.out (fun h => by
                  have h1 := (HPK.out.1 h).2.1
                  simp [inB] at e1
                  omega)
                go_wp2_with fail
                go_quiet ((go_at_call 73; exact (l1In_any _ _ _ _).mono (fun e w' h => ⟨h.1, _, h.2⟩)))
                go_wp2
                refine bodyPost_ret (v := .tuple #[.agg #[.int .i64 0, .int .i64 0, .slice none 0 0], .bool false]) (by simp [results, Try.results34, go_sem, t0, t1, t2]) rfl ?_
                rw [HZ.out]
                exact ⟨none, 0, rfl, newO_zero (below3 (belowN hb3) (Nat.le_succ _))⟩
              | true =>
                have hT : 0 ≤ T ∧ T ≤ (len : Int) - 1 := by simpa [inB] using e1
                obtain ⟨T, rfl⟩ : ∃ n : Nat, T = (n : Int) := ⟨T.toNat, by omega⟩
                have hFl : F < len := by omega
                have hTl : T < len := by omega
                obtain ⟨hb', ho', xr, cxr, rfl, hrc, hrv, hrl, hrm⟩ := (HV.out.below hb3).row F hFl
                have hHas := fun q => l1Has_any xr (row H F).length cxr Q (row H F) (W3.drewN q) (hrv.drewN q) (Nat.le_trans hrl hrm)
                have F1 : (F : Int) < (len : Int) := by omega
                have F0 : (0 : Int) ≤ (F : Int) := by omega
                have HPK2 : Hid (psOk (len : Int) H cs k ↔ (Q ∈ row H F ∧ ∀ j, j < k → (pat cs j).1 ≠ (F : Int) ∧ (pat cs j).2.1 ≠ (T : Int))) := by
                  rw [Hid, HPK.out]
                  simp only [Int.toNat_natCast]
                  exact ⟨fun h => h.2.2, fun h => ⟨hF, hT, h⟩⟩
                cases e2 : decide (Q ∈ row H F) with
                | false =>
                  have HZ : Hid (turnL (len : Int) B H cs = (zeroR, false)) := turnL_no HKC.out (fun h => by
                    have h1 := (HPK2.out.1 h).1
                    simp [h1] at e2)
                  rw [e2] at hHas
                  clear e2
                  go_wp2_with fail
                  go_quiet (first | (go_at_call 73; exact (l1In_any _ _ _ _).mono (fun e w' h => ⟨h.1, _, h.2⟩)) | (go_at_call 82; exact (hHas _).mono (fun e w' h => ⟨h.1, _, h.2⟩)))
                  go_wp2
                  refine bodyPost_ret (v := .tuple #[.agg #[.int .i64 0, .int .i64 0, .slice none 0 0], .bool false]) (by simp [results, Try.results34, go_sem, t0, t1, t2]) rfl ?_
                  rw [HZ.out]
                  exact ⟨none, 0, rfl, newO_zero (below3 (belowN hb3) (Nat.le_succ _))⟩
                | true =>
                  have HQ : Hid (Q ∈ row H F) := by rw [Hid]; exact of_decide_eq_true e2
                  rw [e2] at hHas
                  clear e2
                  go_wp2_with fail
                  go_quiet (first | (go_at_call 73; exact (l1In_any _ _ _ _).mono (fun e w' h => ⟨h.1, _, h.2⟩)) | (go_at_call 82; exact (hHas _).mono (fun e w' h => ⟨h.1, _, h.2⟩)))
                  go_wp2_with fail
                  clear e0 e1
                  have HPUT : Hid (∃ g off at' ct, a' = some ⟨g, off, none⟩ ∧ W3.cell? ⟨g, off + T, none⟩ = some (.slice at' (row (outs H cs k) T).length ct) ∧ W3.frozen? ⟨g, off + T, none⟩ = false ∧
                      ((∀ j, j < k → (pat cs j).1 ≠ (F : Int) ∧ (pat cs j).2.1 ≠ (T : Int)) → ∀ X, Same X W3 → Calls Try.prog 83 #[.slice at' (row (outs H cs k) T).length ct, .int .i64 Q] X fun e w4 => ∃ a5 n5 c5, e = .returned (.slice a5 n5 c5) ∧ w4.cell? ⟨g, off + T, none⟩ = some (.slice at' (row (outs H cs k) T).length ct) ∧ w4.frozen? ⟨g, off + T, none⟩ = false ∧ w4.cell? ⟨o, 2, none⟩ = some (.slice a' len c) ∧ Bx w4 wr.heap.size 79 #[.int .i64 (F : Int), .int .i64 (T : Int), .int .i64 Q] ∧
                        TSt w (w4.setCell ⟨g, off + T, none⟩ (.slice a5 n5 c5)) (len : Int) B (some ⟨hb', ho', none⟩) len cap o len (outs H cs (k + 1)) ∧ ∀ j, j < k + 1 → psOk (len : Int) H cs j)) := by
                    obtain ⟨g, off, at', ct, ft, ha', hcl', hfz, hog, hrow, hput⟩ := tst_put (t := T) r3 z3 ob3 O3 hfp hlo hb3 (by rw [outs_len]; exact hHl) hTl
                    refine ⟨g, off, at', ct, ha', hcl', hfz, fun hdis X hX => ?_⟩
                    have hps' : ∀ j, j < k + 1 → psOk (len : Int) H cs j := fun j hj => by
                      rcases Nat.lt_succ_iff_lt_or_eq.1 hj with h | h
                      · exact HPS.out j h
                      · rw [h]; exact HPK2.out.2 ⟨HQ.out, hdis⟩
                    have hokk := outs_ok2 HOK.out k HPS.out
                    have hl12 := okRow_len (hokk.2.2.2.2 T (by rw [outs_len]; omega)) hB.2
                    have hfits : Fits (row (outs H cs k) T) := fun x hx => by
                      have := (okRow_iff.1 (hokk.2.2.2.2 T (by rw [outs_len]; omega))).1 x hx
                      omega
                    have hNX : outs H cs (k + 1) = (outs H cs k).set T (putL (row (outs H cs k) T) Q) := by
                      have := HNX.out
                      simpa using this
                    have hrX := Cel.ow_wrt hrow (hX.wrt (fun _ => False)) (fun _ _ h => h)
                    obtain ⟨a6, c6, e6, hv6, hle6, hmx6⟩ := vw_icl (Cel.ow_vw hrX) hfits
                    cases e6
                    obtain ⟨a7, c7, G7, e7, hs7, _⟩ := ow_icl.1 hrX
                    cases e7
                    refine (putO_any at' ct _ Q X hv6 hs7.none0 hle6 hmx6 (by omega) hs7.plain).mono ?_
                    rintro e w4 (⟨rfl, hsame, rfl⟩ | ⟨g5, o5, c5, rfl, hg5, ho5, hb5⟩)
                    · obtain ⟨y1, y2, y3, y4⟩ := hput w4 (row (outs H cs k) T) _ ft hX.below hrX (fun b hb => .inl hb)
                      refine ⟨_, _, _, rfl, y1, y2, y3, hX.bx x3, ?_, hps'⟩
                      rw [hNX, hsame]
                      exact y4
                    · have hbW : Below W3.heap.size W3 w4 := hX.below.trans (hb5.mono (by rw [hX.size]; exact Nat.le_refl _))
                      obtain ⟨y1, y2, y3, y4⟩ := hput w4 (putL (row (outs H cs k) T) Q) _ (fun b => b = g5) hbW (ow_icl.2 ⟨_, c5, some g5, rfl, OSo.of ho5, fun b => by simp [eq_comm]⟩) (fun b hb => .inr (by rw [hX.size] at hg5; omega))
                      refine ⟨_, _, _, rfl, y1, y2, y3, x3.below hbW, ?_, hps'⟩
                      rw [hNX]
                      exact y4
                  obtain ⟨g, off, at', ct, rfl, gc, gf, hPut⟩ := HPUT.out
                  have HPUT2 : Hid _ := hPut
                  have HD0 : Hid (∀ (m : Nat), m < k → ¬ ((pat cs m).1 ≠ (F : Int) ∧ (pat cs m).2.1 ≠ (T : Int)) → turnL (len : Int) B H cs = (zeroR, false)) := fun m hm hne => turnL_no HKC.out (fun h => hne ((HPK2.out.1 h).2 m hm))
                  obtain ⟨ob0, ob1, ob2⟩ := ob3.r3
                  have HX3 : Hid (Bx W3 wr.heap.size 79 #[.int .i64 (F : Int), .int .i64 (T : Int), .int .i64 Q]) := x3
                  have HOB : Hid (W3.cell? ⟨o, 2, none⟩ = some (.slice (some ⟨g, off, none⟩) len c)) := ob2
                  have HGC : Hid (W3.cell? ⟨g, off + T, none⟩ = some (.slice at' (row (outs H cs k) T).length ct) ∧ W3.frozen? ⟨g, off + T, none⟩ = false) := ⟨gc, gf⟩
                  have HZ3 : Hid (Bx W3 (w.heap.size + 1) 35 #[.int .i64 0, .int .i64 0, .slice none 0 0]) := z3
                  clear HPUT hPut hHas ob0 ob1 ob2 x3 r3 z3 ob3 O3 gc gf s0 s1 s2 r0 r1 r2 t0 t1 t2 tf0 tf1 tf2 hrc hrv p0 p1 p2
                  generalize wr.heap.size = PB at *
                  go_loopw [10] (fun j wx => ∃ m : Nat, m ≤ k ∧ j = .int .i64 m ∧ Same wx W3 ∧ ∀ t, t < m → (pat cs t).1 ≠ (F : Int) ∧ (pat cs t).2.1 ≠ (T : Int)) (fun j _ => k - (intOf j).toNat)
                  case atStart => exact ⟨0, Nat.zero_le _, rfl, Same.drewN _ _, fun t ht => by omega⟩
                  case round =>
                    obtain ⟨m, hm, rfl, hS, hd⟩ := hrel
                    have HD : Hid (∀ t, t < m → (pat cs t).1 ≠ (F : Int) ∧ (pat cs t).2.1 ≠ (T : Int)) := hd
                    have hx3 := hS.bx HX3.out
                    obtain ⟨s0, s1, s2⟩ := hx3.r3
                    by_cases hlt2 : m < k
                    · obtain ⟨u0, u1⟩ := HPC3.out m (by omega)
                      have v0 := hS.cell u0
                      have v1 := hS.cell u1
                      clear u0 u1
                      have hz3 := hS.bx HZ3.out
                      obtain ⟨t0, t1, t2⟩ := hz3.r3
                      have tf0 := hz3.f 0
                      have tf1 := hz3.f 1
                      have tf2 := hz3.f 2
                      have m1 : (m : Int) < (cl : Int) := by omega
                      have m0 : (0 : Int) ≤ (m : Int) := by omega
                      have HNO : Hid (¬ ((pat cs m).1 ≠ (F : Int) ∧ (pat cs m).2.1 ≠ (T : Int)) → turnL (len : Int) B H cs = (zeroR, false)) := HD0.out m hlt2
                      have HYE : Hid ((pat cs m).1 ≠ (F : Int) → (pat cs m).2.1 ≠ (T : Int) → ∀ t, t < m + 1 → (pat cs t).1 ≠ (F : Int) ∧ (pat cs t).2.1 ≠ (T : Int)) := fun h1 h2 t ht => by
                        rcases Nat.lt_succ_iff_lt_or_eq.1 ht with h | h
                        · exact HD.out t h
                        · rw [h]; exact ⟨h1, h2⟩
                      have HBX : Hid (Below w.heap.size w wr) := hb3.trans (hS.below.mono hb3.size)
                      generalize (pat cs m).1 = x at *
                      generalize (pat cs m).2.1 = y at *
                      by_cases hx : x = (F : Int)
                      · have hxb : (x == (F : Int)) = true := by simpa using hx
                        have HZ : Hid (turnL (len : Int) B H cs = (zeroR, false)) := HNO.out (fun h => h.1 hx)
                        clear hx
                        go_wp2_with fail
                        go_quiet (fail)
                        go_wp2
                        refine bodyPost_ret (v := .tuple #[.agg #[.int .i64 0, .int .i64 0, .slice none 0 0], .bool false]) (by simp [results, Try.results34, go_sem, t0, t1, t2]) rfl ?_
                        rw [HZ.out]
                        exact ⟨none, 0, rfl, newO_zero (below3 (belowN HBX.out) (Nat.le_succ _))⟩
                      · have hxb : (x == (F : Int)) = false := by simpa using hx
                        by_cases hy : y = (T : Int)
                        · have hyb : (y == (T : Int)) = true := by simpa using hy
                          have HZ : Hid (turnL (len : Int) B H cs = (zeroR, false)) := HNO.out (fun h => h.2 hy)
                          clear hy hx
                          go_wp2_with fail
                          go_quiet (fail)
                          go_wp2
                          refine bodyPost_ret (v := .tuple #[.agg #[.int .i64 0, .int .i64 0, .slice none 0 0], .bool false]) (by simp [results, Try.results34, go_sem, t0, t1, t2]) rfl ?_
                          rw [HZ.out]
                          exact ⟨none, 0, rfl, newO_zero (below3 (belowN HBX.out) (Nat.le_succ _))⟩
                        · have hyb : (y == (T : Int)) = false := by simpa using hy
                          have HN : Hid (∀ t, t < m + 1 → (pat cs t).1 ≠ (F : Int) ∧ (pat cs t).2.1 ≠ (T : Int)) := HYE.out hx hy
                          clear hy hx HYE HNO
                          go_wp2_with fail
                          go_quiet (fail)
                          go_wp2
                          go_roundw
                          case rel => exact ⟨m + 1, by omega, by go_num, hS.more _, HN.out⟩
                          case measure => simp [intOf]; omega
                    · have e : k = m := by omega
                      subst e
                      have hPut := HPUT2.out HD.out
                      have o2 := hS.cell HOB.out
                      have gc := hS.cell HGC.out.1
                      have gf := hS.frozen HGC.out.2
                      have T1 : (T : Int) < (len : Int) := by omega
                      have T0 : (0 : Int) ≤ (T : Int) := by omega
                      have hPw : ∀ n, Calls Try.prog 83 #[.slice at' (row (outs H cs k) T).length ct, .int .i64 Q] (wr.drewN n) _ := fun n => hPut _ (hS.more n)
                      clear hlt2 HPUT2 hPut
                      generalize (row (outs H cs k) T).length = rl at *
                      go_wp2_with fail
                      refine gt_begin (S := fun X : World => X.cell? ⟨o, 2, none⟩ = some (.slice (some ⟨g, off, none⟩) len c) ∧ X.cell? ⟨PB, 1, none⟩ = some (.int .i64 (T : Int)) ∧ X.cell? ⟨PB, 2, none⟩ = some (.int .i64 Q) ∧ X.cell? ⟨g, off + T, none⟩ = some (.slice at' rl ct)) 14 hmix (by kernel_rfl) ?_
                      have hHeld : (fun X : World => X.cell? ⟨o, 2, none⟩ = some (.slice (some ⟨g, off, none⟩) len c) ∧ X.cell? ⟨PB, 1, none⟩ = some (.int .i64 (T : Int)) ∧ X.cell? ⟨PB, 2, none⟩ = some (.int .i64 Q) ∧ X.cell? ⟨g, off + T, none⟩ = some (.slice at' rl ct)) wr.drew := ⟨o2, s1, s2, gc⟩
                      refine gt_take (i := 0) (v := ?_) rfl (by kernel_rfl) (by kernel_rfl) (by kernel_rfl) (by kernel_rfl) (fun _ _ _ h => h) (Or.inl ⟨by rfl, ?_⟩) hHeld ?_
                      rotate_left
                      · (intro X hSX; (try dsimp only at hSX); obtain ⟨g0, g1, g2, g3⟩ := hSX; go_simp; try with_reducible rfl)
                      try simp only [Act.put, List.setIfInBounds_toArray, List.set_cons_zero, List.set_cons_succ]
                      refine gt_take (i := 1) (v := ?_) rfl (by kernel_rfl) (by kernel_rfl) (by kernel_rfl) (by kernel_rfl) (fun _ _ _ h => h) (Or.inl ⟨by rfl, ?_⟩) hHeld ?_
                      rotate_left
                      · (intro X hSX; (try dsimp only at hSX); obtain ⟨g0, g1, g2, g3⟩ := hSX; go_simp; try with_reducible rfl)
                      try simp only [Act.put, List.setIfInBounds_toArray, List.set_cons_zero, List.set_cons_succ]
                      refine gt_take (i := 2) (v := ?_) rfl (by kernel_rfl) (by kernel_rfl) (by kernel_rfl) (by kernel_rfl) (fun _ _ _ h => h) (Or.inl ⟨by rfl, ?_⟩) hHeld ?_
                      rotate_left
                      · (intro X hSX; (try dsimp only at hSX); obtain ⟨g0, g1, g2, g3⟩ := hSX; go_simp; try with_reducible rfl)
                      try simp only [Act.put, List.setIfInBounds_toArray, List.set_cons_zero, List.set_cons_succ]
                      refine gt_take (i := 3) (v := ?_) rfl (by kernel_rfl) (by kernel_rfl) (by kernel_rfl) (by kernel_rfl) (fun _ _ _ h => h) (Or.inl ⟨by rfl, ?_⟩) hHeld ?_
                      rotate_left
                      · (intro X hSX; (try dsimp only at hSX); obtain ⟨g0, g1, g2, g3⟩ := hSX; go_simp; try with_reducible rfl)
                      try simp only [Act.put, List.setIfInBounds_toArray, List.set_cons_zero, List.set_cons_succ]
                      refine gt_take (i := 4) (v := ?_) rfl (by kernel_rfl) (by kernel_rfl) (by kernel_rfl) (by kernel_rfl) (fun _ _ _ h => h) (Or.inl ⟨by rfl, ?_⟩) hHeld ?_
                      rotate_left
                      · (intro X hSX; (try dsimp only at hSX); obtain ⟨g0, g1, g2, g3⟩ := hSX; go_simp; try with_reducible rfl)
                      try simp only [Act.put, List.setIfInBounds_toArray, List.set_cons_zero, List.set_cons_succ]
                      refine gt_take (i := 5) (v := ?_) rfl (by kernel_rfl) (by kernel_rfl) (by kernel_rfl) (by kernel_rfl) (fun _ _ _ h => h) (Or.inl ⟨by rfl, ?_⟩) hHeld ?_
                      rotate_left
                      · (intro X hSX; (try dsimp only at hSX); obtain ⟨g0, g1, g2, g3⟩ := hSX; go_simp; try with_reducible rfl)
                      try simp only [Act.put, List.setIfInBounds_toArray, List.set_cons_zero, List.set_cons_succ]
                      refine gt_take (i := 6) (v := ?_) rfl (by kernel_rfl) (by kernel_rfl) (by kernel_rfl) (by kernel_rfl) (fun _ _ _ h => h) (Or.inl ⟨by rfl, ?_⟩) hHeld ?_
                      rotate_left
                      · (intro X hSX; (try dsimp only at hSX); obtain ⟨g0, g1, g2, g3⟩ := hSX; go_simp; try with_reducible rfl)
                      try simp only [Act.put, List.setIfInBounds_toArray, List.set_cons_zero, List.set_cons_succ]
                      refine gt_take (i := 7) (v := ?_) rfl (by kernel_rfl) (by kernel_rfl) (by kernel_rfl) (by kernel_rfl) (fun _ _ _ h => h) (Or.inl ⟨by rfl, ?_⟩) hHeld ?_
                      rotate_left
                      · (intro X hSX; (try dsimp only at hSX); obtain ⟨g0, g1, g2, g3⟩ := hSX; go_simp; try with_reducible rfl)
                      try simp only [Act.put, List.setIfInBounds_toArray, List.set_cons_zero, List.set_cons_succ]
                      refine gt_take (i := 8) (v := ?_) rfl (by kernel_rfl) (by kernel_rfl) (by kernel_rfl) (by kernel_rfl) (fun _ _ _ h => h) (Or.inl ⟨by rfl, ?_⟩) hHeld ?_
                      rotate_left
                      · (intro X hSX; (try dsimp only at hSX); obtain ⟨g0, g1, g2, g3⟩ := hSX; go_simp; try with_reducible rfl)
                      try simp only [Act.put, List.setIfInBounds_toArray, List.set_cons_zero, List.set_cons_succ]
                      refine gt_take (i := 9) (v := ?_) rfl (by kernel_rfl) (by kernel_rfl) (by kernel_rfl) (by kernel_rfl) (fun _ _ _ h => h) (Or.inl ⟨by rfl, ?_⟩) hHeld ?_
                      rotate_left
                      · (intro X hSX; (try dsimp only at hSX); obtain ⟨g0, g1, g2, g3⟩ := hSX; go_simp; try with_reducible rfl)
                      try simp only [Act.put, List.setIfInBounds_toArray, List.set_cons_zero, List.set_cons_succ]
                      refine gt_take (i := 10) (v := ?_) rfl (by kernel_rfl) (by kernel_rfl) (by kernel_rfl) (by kernel_rfl) (fun _ _ _ h => h) (Or.inl ⟨by rfl, ?_⟩) hHeld ?_
                      rotate_left
                      · (intro X hSX; (try dsimp only at hSX); obtain ⟨g0, g1, g2, g3⟩ := hSX; go_simp; try with_reducible rfl)
                      try simp only [Act.put, List.setIfInBounds_toArray, List.set_cons_zero, List.set_cons_succ]
                      refine gt_take (i := 11) (v := ?_) rfl (by kernel_rfl) (by kernel_rfl) (by kernel_rfl) (by kernel_rfl) (fun _ _ _ h => h) (Or.inl ⟨by rfl, ?_⟩) hHeld ?_
                      rotate_left
                      · (intro X hSX; (try dsimp only at hSX); obtain ⟨g0, g1, g2, g3⟩ := hSX; go_simp; try with_reducible rfl)
                      try simp only [Act.put, List.setIfInBounds_toArray, List.set_cons_zero, List.set_cons_succ]
                      refine gt_one (i := 12) rfl (by kernel_rfl) (by kernel_rfl) (fun K hK => ?_)
                      go_simp
                      go_at_call 83
                      refine (hPw 1).mono ?_
                      rintro e w4 ⟨a5, n5, c5, rfl, y1, y2, y3, y4, y5, y6⟩
                      obtain ⟨y40, y41, y42⟩ := y4.r3
                      refine hK.out _ _ ⟨y3, y41, y42, y1⟩ (fun hHeld2 => ?_)
                      clear hK hHeld
                      have hHeld := hHeld2
                      try simp only [Act.put, List.setIfInBounds_toArray, List.set_cons_zero, List.set_cons_succ]
                      refine gt_take (i := 13) (v := ?_) rfl (by kernel_rfl) (by kernel_rfl) (by kernel_rfl) (by kernel_rfl) (fun _ _ _ h => h) (Or.inl ⟨by rfl, ?_⟩) hHeld ?_
                      rotate_left
                      · (intro X hSX; (try dsimp only at hSX); obtain ⟨g0, g1, g2, g3⟩ := hSX; go_simp; try with_reducible rfl)
                      try simp only [Act.put, List.setIfInBounds_toArray, List.set_cons_zero, List.set_cons_succ]
                      refine gt_last rfl (by kernel_rfl) (by kernel_rfl) (fun K hK => ?_)
                      go_simp
                      refine hK.out _ _ ?_
                      go_wp2
                      go_roundw
                      case rel => exact ⟨k + 1, by omega, by go_num, y5, y6⟩
                      case measure => simp [intOf]; omega
          · have e : cl = k := by omega
            subst e
            have HT2 : Hid (turnL (len : Int) B H cs = (((len : Int), B, outs H cs cl), true)) := by
              have := HT1.out (fun i hi => HPS.out i (by rw [HCL.out] at hi; exact hi))
              rw [HCL.out] at this
              exact this
            have HOL : Hid ((outs H cs cl).length = len) := by rw [Hid, outs_len]; exact hHl
            obtain ⟨t0, t1, t2⟩ := hz.r3
            have tf0 := hz.f 0
            have tf1 := hz.f 1
            have tf2 := hz.f 2
            obtain ⟨o0, o1, o2⟩ := hob.r3
            have HN : Hid (NewO w (((wr.setCell ⟨w.heap.size + 1, 0, none⟩ (.int .i64 (len : Int))).setCell ⟨w.heap.size + 1, 1, none⟩ (.int .i64 B)).setCell ⟨w.heap.size + 1, 2, none⟩ (.slice a' len c)) (iicl (outs H cs cl)) (.slice a' len c)) := by
              refine ⟨fp, ?_, fun b hb' => by have := hfp b hb'; omega, below3 hb (Nat.le_succ _)⟩
              rw [iicl, HOL.out]
              exact Cel.ow_wrt hO (wrt3 wr (w.heap.size + 1)) (fun b hb' e => by have := hfp b hb'; omega)
            clear hr hz hob hO hfp hb hpc
            go_wp2
            refine bodyPost_ret (v := .tuple #[.agg #[.int .i64 (len : Int), .int .i64 B, .slice a' len c], .bool true]) (by simp [results, Try.results34, go_sem, t0, t1, t2]) rfl ?_
            rw [HT2.out]
            refine ⟨a', c, ?_, ?_⟩
            · simp only [HOL.out]; rfl
            · simp only [HOL.out]; exact HN.out
  · rw [decide_eq_false hok] at hT
    have HZ : Hid (turnL N B H cs = (zeroR, false)) := by rw [Hid, turnL, if_neg (fun h => hok h.1)]
    have HG : Hid (Grew w W0) := G0
    clear hok
    go_enter Try.func34, Try.ntmps34
    go_wp2_with fail
    refine hT.mono ?_
    rintro e w1 ⟨rfl, hg1⟩
    have z1 := z0.below hg1.1
    obtain ⟨t0, t1, t2⟩ := z1.r3
    have tf0 := z1.f 0
    have tf1 := z1.f 1
    have tf2 := z1.f 2
    have HB1 : Hid (Below w.heap.size w w1) := (HG.out.trans hg1).1
    go_wp2
    refine bodyPost_ret (v := .tuple #[.agg #[.int .i64 0, .int .i64 0, .slice none 0 0], .bool false]) (by simp [results, Try.results34, go_sem, t0, t1, t2]) rfl ?_
    rw [HZ.out]
    exact ⟨none, 0, rfl, newO_zero (below3 HB1.out (Nat.le_succ _))⟩
end Go.Proofs.Ytdniajogojlmdaa
