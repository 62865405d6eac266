/-
  Several texts in one: LawRdy.
-/
import Derived.Test.YtmgfcemjoaepiaaIb
import Derived.Test.YtmgfcemjoaepiaaIa
/-
  The walk of the law FnReady: what is ready are the first of all woven ones.
-/
namespace Go.Proofs.Ytmgfcemjoaepiaa
set_option linter.unusedSimpArgs false
set_option linter.unusedVariables false
open Go.RowKit Go.Sort

theorem el_mem7 {xs : List Int} {x : Int} : x ∈ xs ↔ ∃ j, j < xs.length ∧ el xs j = x := by
  constructor
  · intro h
    obtain ⟨j, hj, rfl⟩ := List.getElem_of_mem h
    exact ⟨j, hj, el_eq hj⟩
  · rintro ⟨j, hj, rfl⟩
    exact el_mem hj
theorem rises_el {Z : List Int} (h : Z.Pairwise (· < ·)) : ∀ j, j + 1 < Z.length → el Z j < el Z (j + 1) := fun j hj => by
  rw [el_eq (by omega), el_eq hj]
  exact List.pairwise_iff_getElem.1 h j (j + 1) (by omega) hj (by omega)

set_option maxHeartbeats 400000 in
theorem has7_any (b off len cap : Nat) (x : Int) (xs : List Int) (w : World) (hlen : xs.length = len) (hc : ∀ i, i < len → w.cell? ⟨b, off + i, none⟩ = some (.int .i64 (el xs i))) (hm : len ≤ maxLen) :
    Calls Try.prog 43 #[.slice (some ⟨b, off, none⟩) len cap, .int .i64 x] w fun e w' => e = .returned (.bool (decide (x ∈ xs))) ∧ w' = w := by
  unfold maxLen at hm
  have HL : Hid (xs.length = len) := hlen
  clear hlen
  go_enter Try.func43, Try.ntmps43
  go_wp2
  go_loop [5] (fun i => ∃ k : Nat, k ≤ len ∧ i = .int .i64 k ∧ ∀ j, j < k → el xs j ≠ x) (fun i => len - (intOf i).toNat)
  case atStart => exact ⟨0, Nat.zero_le _, rfl, fun j hj => by omega⟩
  case round =>
    obtain ⟨k, hk, rfl, hno⟩ := hrel
    have HN : Hid (∀ j, j < k → el xs j ≠ x) := hno
    clear hno
    by_cases hlt : k < len
    · have hck := hc k hlt
      by_cases he : el xs k = x
      · have hb : (el xs k == x) = true := by simpa using he
        have HF : Hid (decide (x ∈ xs) = true) := by rw [Hid, decide_eq_true_eq]; exact el_mem7.2 ⟨k, by rw [HL.out]; exact hlt, he⟩
        clear he
        go_wp2
        go_ret
        exact ⟨ret_bool (by rw [HF.out]), rfl⟩
      · have hb : (el xs k == x) = false := by simpa using he
        have HE : Hid (el xs k ≠ x) := he
        clear he
        go_wp2
        go_round
        case rel => exact ⟨k + 1, by omega, by go_num, fun j hj => by
          rcases Nat.lt_succ_iff_lt_or_eq.1 hj with h | h
          · exact HN.out j h
          · rw [h]; exact HE.out⟩
        case measure => simp [intOf]; omega
    · have HF : Hid (decide (x ∈ xs) = false) := by
        rw [Hid, decide_eq_false_iff_not, el_mem7]
        rintro ⟨j, hj, e⟩
        exact HN.out j (by rw [HL.out] at hj; omega) e
      go_wp2
      go_ret
      exact ⟨ret_bool (by rw [HF.out]), rfl⟩

set_option maxHeartbeats 400000 in
theorem rises7_any (b off len cap : Nat) (xs : List Int) (w : World) (hlen : xs.length = len) (hc : ∀ i, i < len → w.cell? ⟨b, off + i, none⟩ = some (.int .i64 (el xs i))) (hm : len ≤ 1000000) (hr : ∀ j, j + 1 < len → el xs j < el xs (j + 1)) :
    Calls Try.prog 42 #[.slice (some ⟨b, off, none⟩) len cap] w fun e w' => e = .returned (.bool true) ∧ ∃ n, w' = w.drewN n := by
  have HR : Hid (∀ j, j + 1 < len → el xs j < el xs (j + 1)) := hr
  clear hr hlen
  go_enter Try.func42, Try.ntmps42
  go_wp2
  go_loopw [3] (fun i wr => ∃ k n : Nat, k ≤ len ∧ i = .int .i64 ((k : Int) + 1) ∧ wr = w.drewN n) (fun i _ => (len + 1) - (intOf i).toNat)
  case atStart => exact ⟨0, 0, Nat.zero_le _, rfl, rfl⟩
  case round =>
    obtain ⟨k, n, hk, rfl, rfl⟩ := hrel
    by_cases hlt : k + 1 < len
    · have c1 := hc (k + 1) hlt
      have c0 := hc k (by omega)
      have hd : decide (el xs (k + 1) ≤ el xs k) = false := by have := HR.out k hlt; simp; omega
      have h1 : (k : Int) + 1 < (len : Int) := by omega
      have h2 : (k : Int) < (len : Int) := by omega
      have h0 : (0 : Int) ≤ (k : Int) + 1 := by omega
      have h3 : (0 : Int) ≤ (k : Int) := by omega
      have e1 : ((k : Int) + 1).toNat = k + 1 := by omega
      go_wp2_with fail
      go_quiet (fail)
      go_wp2
      go_roundw
      case rel => exact ⟨k + 1, _, by omega, by go_num, rfl⟩
      case measure => simp [intOf]; omega
    · have hd : decide ((k : Int) + 1 < (len : Int)) = false := by simp; omega
      go_wp2
      go_ret
      exact ⟨rfl, _, rfl⟩

theorem isWoven_no {cs Z : List Int} (h : IsWoven cs Z) (hb : okCt cs = false ∨ 200 < sumL cs) : Z = [] := by
  rcases h with ⟨h1, h2, _⟩ | ⟨_, h⟩
  · rcases hb with hb | hb
    · rw [h1] at hb; cases hb
    · omega
  · exact h
theorem isWoven_yes {cs Z : List Int} (h : IsWoven cs Z) (h1 : okCt cs = true) (h2 : sumL cs ≤ 200) : IsWov cs Z ∧ (Z.length : Int) = sumL cs := by
  have hw : IsWov cs Z := by
    rcases h with ⟨_, _, h⟩ | ⟨hb, _⟩
    · exact h
    · rcases hb with hb | hb
      · rw [h1] at hb; cases hb
      · omega
  refine ⟨hw, ?_⟩
  obtain ⟨hok, hall⟩ := okCt_all h1
  have hM : ∀ i, i < cs.length → el cs i ≤ ((100000 : Nat) : Int) := fun i hi => (hall i hi).2
  rw [hw.unique (wovs_is (okB_len hok).1 hM)]
  exact wovs_count (fun i hi => ⟨(hall i hi).1, hM i hi⟩)
/-- What the law holds: the code, the counts, what is woven. -/
structure Rk (w0 w : World) (v : Value) (cs : List Int) (g og cg : Nat) (Z : List Int) : Prop where
  below : Below w0.heap.size w0 w
  v : VecQ w v cs
  z : OI w g og Z.length cg Z
theorem Rk.step {w0 w w' : World} {v : Value} {cs : List Int} {g og cg : Nat} {Z : List Int} (h : Rk w0 w v cs g og cg Z) (hb : Below w.heap.size w w') : Rk w0 w' v cs g og cg Z :=
  ⟨h.below.trans (hb.mono h.below.size), h.v.below hb, h.z.below hb h.z.blk⟩

set_option maxRecDepth 100000 in
set_option maxHeartbeats 6400000 in
/-- The law FnReady. -/
theorem lawReadyL (hR : ImplReady) (hW : ImplWoven) (a : Option Addr) (len cap : Nat) (bs : Nat → Int) (w : World) (hv : BVec w a len bs) :
    Calls Try.prog 5 #[.slice a len cap] w fun e w' => e = .returned (.bool true) ∧ Below w.heap.size w w' := by
  by_cases hbig : (4096 : Int) < (len : Int)
  · have hd : decide ((4096 : Int) < (len : Int)) = true := by simpa using hbig
    go_enter Try.func5, Try.ntmps5
    go_wp2_with fail
    refine (big_any a len cap w).mono ?_
    rintro e w1 ⟨rfl, rfl⟩
    go_wp2
    go_ret
    exact ⟨rfl, Below.refl _ _⟩
  · have hd : decide ((4096 : Int) < (len : Int)) = false := by simpa using hbig
    have hl : len ≤ 4096 := by omega
    go_enter Try.func5, Try.ntmps5
    go_wp2_with fail
    refine (big_any a len cap w).mono ?_
    rintro e w0 ⟨rfl, hw0⟩
    have hv0 : BVec w0 a len bs := by rw [hw0]; exact hv
    have B0 : Hid (Below w.heap.size w w0) := by rw [Hid, hw0]; exact Below.refl _ _
    clear hw0 hv
    go_wp2_with fail
    refine (drawReady_any a len cap bs w0 hv0 hl).mono ?_
    rintro e w1 ⟨v, cs, rfl, hV, hb1⟩
    have B1 : Hid (Below w.heap.size w w1) := B0.out.trans (hb1.mono B0.out.size)
    obtain ⟨va, vc, rfl, hv1, vc1, vc2⟩ := hV
    have V1 : Hid (VecQ w1 (.slice va cs.length vc) cs) := ⟨va, vc, rfl, hv1, vc1, vc2⟩
    have hcl : cs.length ≤ maxLen := Nat.le_trans vc1 vc2
    clear hb1 hv0 B0
    go_wp2_with fail
    refine (hR va _ vc cs w1 hv1 vc1 vc2).mono ?_
    rintro e w2 ⟨rfl, hb2⟩
    have B2 : Hid (Below w.heap.size w w2) := B1.out.trans (hb2.mono B1.out.size)
    have V2 : Hid (VecQ w2 (.slice va cs.length vc) cs) := V1.out.below hb2
    have hv2 := hv1.below hb2 (Nat.le_refl _)
    clear hb2 hv1 V1 B1
    go_wp2_with fail
    refine (hW va _ vc cs w2 hv2 vc1 vc2).mono ?_
    rintro e w3 ⟨Z, hZ, g, og, cg, rfl, hg, hO, hb3⟩
    obtain ⟨hz200, hfz⟩ := isWoven_len hZ
    have HZ : Hid (IsWoven cs Z) := hZ
    have K3 : Hid (Rk w w3 (.slice va cs.length vc) cs g og cg Z) := ⟨B2.out.trans (hb3.mono B2.out.size), V2.out.below hb3, hO⟩
    have hv3 := hv2.below hb3 (Nat.le_refl _)
    have hzm : Z.length ≤ maxLen := by unfold maxLen; omega
    have ne1 : (readyL cs != readyL cs) = false := by simp
    clear hb3 hO hZ hg hv2 B2 V2
    go_wp2_with fail
    refine (readyS_any va _ vc cs w3 hv3 hcl).mono ?_
    rintro e w4 ⟨rfl, hw4⟩
    have K4 : Hid (Rk w w4 (.slice va cs.length vc) cs g og cg Z) := by rw [hw4]; exact K3.out
    have hv4 : Vec w4 va cs.length cs := by rw [hw4]; exact hv3
    clear hw4 K3 hv3
    go_wp2_with fail
    refine (wovenS_any va _ vc cs w4 hv4 hcl).mono ?_
    rintro e w5 ⟨Z', hZ', d, od, cd, he5, hd5, hO5, hb5⟩
    have eZ := hZ'.unique HZ.out
    subst eZ
    subst he5
    have K5 : Hid (Rk w w5 (.slice va cs.length vc) cs g og cg Z') := K4.out.step hb5
    have hv5 := hv4.below hb5 (Nat.le_refl _)
    have sm : sameB Z' Z' = true := by simp [sameB]
    have hLk := like_any (some ⟨g, og, none⟩) (some ⟨d, od, none⟩) Z'.length cg Z'.length cd Z' Z' w5 (K5.out.z.vec hfz) (OI.vec hO5 hfz) hzm
    rw [sm] at hLk
    clear hb5 hZ' hd5 hO5 hv4 K4
    go_wp2_with fail
    refine hLk.mono ?_
    rintro e w6 ⟨rfl, n6, hw6⟩
    have bd6 : Below w5.heap.size w5 w6 := by rw [hw6]; exact ((Grew.refl w5).drewN n6).1
    have K6 : Hid (Rk w w6 (.slice va cs.length vc) cs g og cg Z') := K5.out.step bd6
    have hv6 := hv5.below bd6 (Nat.le_refl _)
    have hSm := specSum_any va _ vc cs w6 hv6 hcl
    have hcg := K6.out.z.le
    have hcg2 := K6.out.z.max
    unfold maxLen at hcg2 vc2 hcl
    clear hLk hw6 bd6 hv5 K5
    cases hct : okCt cs with
    | false =>
      have hr : readyL cs = -1 := by rw [readyL, hct]; rfl
      have hz0 : Z' = [] := isWoven_no HZ.out (.inl hct)
      subst hz0
      rw [hr]
      clear hr hct hSm hv6
      go_wp2
      go_ret
      exact ⟨rfl, K6.out.below⟩
    | true =>
      obtain ⟨r0, r1, hready⟩ := readyL_is hct
      obtain ⟨hok, _⟩ := okCt_all hct
      have hsb : sumB cs = sumL cs := by rw [sumB, if_pos hok]
      have sbd := sumL_take hok cs.length (Nat.le_refl _)
      rw [List.take_length] at sbd
      have hc8 := (okB_len hok).2
      rw [hsb] at hSm
      obtain ⟨R, hRR⟩ : ∃ R : Nat, readyL cs = (R : Int) := ⟨(readyL cs).toNat, by omega⟩
      rw [hRR] at hready r1
      rw [Int.toNat_natCast] at hready
      have HRD : Hid (IsReady cs R) := hready
      rw [hRR]
      have dr : decide ((R : Int) < 0) = false := by rw [decide_eq_false_iff_not]; omega
      by_cases h200 : 200 < sumL cs
      · have hz0 : Z' = [] := isWoven_no HZ.out (.inr h200)
        subst hz0
        have ds : decide (200 < sumL cs) = true := by simpa using h200
        clear hct hok hsb hready hRR h200 hv6 r0
        go_wp2_with fail
        refine hSm.mono ?_
        rintro e w7 ⟨rfl, hw7⟩
        have HB : Hid (Below w.heap.size w w7) := by rw [Hid, hw7]; exact K6.out.below
        clear hw7 hSm
        go_wp2
        go_ret
        exact ⟨rfl, HB.out⟩
      · have ds : decide (200 < sumL cs) = false := by simpa using h200
        obtain ⟨hwv, hcnt⟩ := isWoven_yes HZ.out hct (by omega)
        obtain ⟨f1, f2, f3⟩ := wov_first hwv HRD.out
        have HF2 : Hid (∀ i, i < R → el Z' i = (i : Int)) := f2
        have HF3 : Hid ((decide ((R : Int) ∈ Z')) = false) := by rw [Hid, decide_eq_false_iff_not]; exact f3
        have HRI : Hid (∀ j, j + 1 < Z'.length → el Z' j < el Z' (j + 1)) := rises_el hwv.1
        have nec : ((Z'.length : Int) != sumL cs) = false := by rw [hcnt]; simp
        have dgt : decide ((Z'.length : Int) < (R : Int)) = false := by rw [decide_eq_false_iff_not]; omega
        clear hct hok hsb hready hRR h200 r0 hwv f2 f3 hcnt
        generalize hsl : sumL cs = SL at *
        clear hsl
        go_wp2_with fail
        refine hSm.mono ?_
        rintro e w7 ⟨rfl, hw7⟩
        have K7 : Hid (Rk w w7 (.slice va cs.length vc) cs g og cg Z') := by rw [hw7]; exact K6.out
        rw [← hw7] at hSm
        clear hw7 hv6 K6
        go_wp2_with fail
        refine hSm.mono ?_
        rintro e w8 ⟨rfl, hw8⟩
        have K8 : Hid (Rk w w8 (.slice va cs.length vc) cs g og cg Z') := by rw [hw8]; exact K7.out
        clear hw8 hSm K7
        have hRi := rises7_any g og Z'.length cg Z' w8 rfl (fun i hi => K8.out.z.cellAt hi) (by omega) HRI.out
        go_wp2_with fail
        refine hRi.mono ?_
        rintro e w9 ⟨rfl, n9, hw9⟩
        have K9 : Hid (Rk w w9 (.slice va cs.length vc) cs g og cg Z') := by rw [hw9]; exact K8.out.step ((Grew.refl w8).drewN n9).1
        clear hw9 hRi K8
        go_wp2
        go_loop [6] (fun i => ∃ k : Nat, k ≤ R ∧ i = .int .i64 k) (fun i => R - (intOf i).toNat)
        case atStart => exact ⟨0, Nat.zero_le _, rfl⟩
        case round =>
          obtain ⟨k, hk, rfl⟩ := hrel
          by_cases hlt : k < R
          · have ck := K9.out.z.cellAt (i := k) (by omega)
            rw [HF2.out k hlt] at ck
            have k1 : (k : Int) < (R : Int) := by omega
            have k0 : (0 : Int) ≤ (k : Int) := by omega
            have k2 : (k : Int) < (Z'.length : Int) := by omega
            have nek : ((k : Int) != (k : Int)) = false := by simp
            go_wp2
            go_round
            case rel => exact ⟨k + 1, by omega, by go_num⟩
            case measure => simp [intOf]; omega
          · have hkR : k = R := by omega
            subst hkR
            have hHs := has7_any g og Z'.length cg (k : Int) Z' w9 rfl (fun i hi => K9.out.z.cellAt hi) hzm
            rw [HF3.out] at hHs
            go_wp2_with fail
            refine hHs.mono ?_
            rintro e w10 ⟨rfl, hw10⟩
            have HB : Hid (Below w.heap.size w w10) := by rw [Hid, hw10]; exact K9.out.below
            clear hw10 hHs
            go_wp2
            go_ret
            exact ⟨rfl, HB.out⟩
end Go.Proofs.Ytmgfcemjoaepiaa
