/-
  Several texts in one: Rns Rwo.
-/
import Derived.Test.YtggieamhbfdmhaaHy
import Derived.Test.YtggieamhbfdmhaaGb
import Derived.Test.YtggieamhbfdmhaaHh
/-
  The contracts of the specification's SeqOf, SenderOf, IndexOf, l7Counts and Ready.
-/
namespace Go.Proofs.Ytggieamhbfdmhaa
set_option linter.unusedVariables false
set_option linter.unusedSimpArgs false
open Go.RowKit Go.Sort

theorem okCt_all {cs : List Int} (h : okCt cs = true) : okB cs = true ∧ ∀ i, i < cs.length → 0 ≤ el cs i ∧ el cs i ≤ 100000 := by
  simp only [okCt, Bool.and_eq_true, List.all_eq_true, decide_eq_true_eq] at h
  exact ⟨h.1, fun i hi => ⟨(okB_el h.1 hi).1, h.2 _ (el_mem hi)⟩⟩
theorem okCt_of {cs : List Int} (h : okB cs = true) (hc : ∀ i, i < cs.length → el cs i ≤ 100000) : okCt cs = true := by
  simp only [okCt, Bool.and_eq_true, List.all_eq_true, decide_eq_true_eq]
  refine ⟨h, fun c hm => ?_⟩
  obtain ⟨i, hi, rfl⟩ := List.getElem_of_mem hm
  have := hc i hi
  rwa [el_eq hi] at this
theorem okCt_not {cs : List Int} {k : Nat} (hk : k < cs.length) (h : 100000 < el cs k) : okCt cs = false := by
  rw [← Bool.not_eq_true]
  intro h2
  have := ((okCt_all h2).2 k hk).2
  omega

set_option maxRecDepth 100000 in
set_option maxHeartbeats 800000 in
theorem counts_any (a : Option Addr) (len cap : Nat) (cs : List Int) (w : World) (hv : Vec w a len cs) (hm : len ≤ maxLen) :
    Calls Try.prog 69 #[.slice a len cap] w fun e w' => e = .returned (.bool (okCt cs)) ∧ w' = w := by
  have hV := specOk_any a len cap cs w hv hm
  unfold maxLen at hm
  cases hb : okB cs with
  | false =>
    rw [hb] at hV
    have HZ : Hid (okCt cs = false) := by rw [Hid, okCt, hb]; rfl
    clear hb
    go_enter Try.func69, Try.ntmps69
    go_wp2_with fail
    refine hV.mono ?_
    rintro e w1 ⟨rfl, rfl⟩
    go_wp2
    go_ret
    exact ⟨ret_bool (by rw [HZ.out]), rfl⟩
  | true =>
    rw [hb] at hV
    have HL : Hid (cs.length = len) := hv.1
    have HO : Hid (okB cs = true) := hb
    have hcs := hv.2.2
    clear hb hv
    go_enter Try.func69, Try.ntmps69
    go_wp2_with fail
    refine hV.mono ?_
    rintro e w1 ⟨rfl, rfl⟩
    clear hV
    go_wp2
    go_loop [3] (fun i => ∃ k : Nat, k ≤ len ∧ i = .int .i64 k ∧ ∀ j, j < k → el cs j ≤ 100000) (fun i => len - (intOf i).toNat)
    case atStart => exact ⟨0, Nat.zero_le _, rfl, fun j hj => by omega⟩
    case round =>
      obtain ⟨k, hk, rfl, hall⟩ := hrel
      have HA : Hid (∀ j, j < k → el cs j ≤ 100000) := hall
      clear hall
      by_cases hlt : k < len
      · rcases hcs with h0 | ⟨b, off, rfl, hc⟩
        · omega
        · have ck := hc k hlt
          clear hc
          have k1 : (k : Int) < (len : Int) := by omega
          have k0 : (0 : Int) ≤ (k : Int) := by omega
          have HN : Hid (100000 < el cs k → okCt cs = false) := fun h => okCt_not (by rw [HL.out]; exact hlt) h
          have HP : Hid (el cs k ≤ 100000 → ∀ j, j < k + 1 → el cs j ≤ 100000) := fun h j hj => by
            by_cases e : j = k
            · subst e; exact h
            · exact HA.out j (by omega)
          generalize el cs k = x at *
          by_cases hx : (100000 : Int) < x
          · have HN' : Hid (okCt cs = false) := HN.out hx
            go_wp2
            go_ret
            exact ⟨ret_bool (by rw [HN'.out]), rfl⟩
          · have HP' : Hid (∀ j, j < k + 1 → el cs j ≤ 100000) := HP.out (by omega)
            have hd : decide ((100000 : Int) < x) = false := by simpa using hx
            clear hx
            go_wp2
            go_round
            case rel => exact ⟨k + 1, by omega, by go_num, HP'.out⟩
            case measure => simp [intOf]; omega
      · have hkl : k = len := by omega
        subst hkl
        have HZ : Hid (okCt cs = true) := okCt_of HO.out (by rw [HL.out]; exact HA.out)
        go_wp2
        go_ret
        exact ⟨ret_bool (by rw [HZ.out]), rfl⟩
/-- What Ready answers. -/
def readyL (cs : List Int) : Int := if okCt cs then rdy cs cs.length ((cs.length : Int) * el cs 0) else -1

set_option maxRecDepth 100000 in
set_option maxHeartbeats 1600000 in
theorem readyS_any (a : Option Addr) (len cap : Nat) (cs : List Int) (w : World) (hv : Vec w a len cs) (hm : len ≤ maxLen) :
    Calls Try.prog 70 #[.slice a len cap] w fun e w' => e = .returned (.int .i64 (readyL cs)) ∧ w' = w := by
  have hC := counts_any a len cap cs w hv hm
  cases hb : okCt cs with
  | false =>
    rw [hb] at hC
    have HZ : Hid (readyL cs = -1) := by rw [Hid, readyL, hb]; rfl
    clear hb
    go_enter Try.func70, Try.ntmps70
    go_wp2_with fail
    refine hC.mono ?_
    rintro e w1 ⟨rfl, rfl⟩
    go_wp2
    go_ret
    exact ⟨ret_int (by rw [HZ.out]), rfl⟩
  | true =>
    rw [hb] at hC
    obtain ⟨hok, hall⟩ := okCt_all hb
    have HZ : Hid (readyL cs = rdy cs cs.length ((cs.length : Int) * el cs 0)) := by rw [Hid, readyL, hb]; rfl
    have h18 := okB_len hok
    have hl := hv.1
    rw [hl] at h18
    obtain ⟨b, off, rfl, hc⟩ := hv.cells (by omega)
    have c0 := hc 0 (by omega)
    simp only [Nat.add_zero] at c0
    have hc0 := hall 0 (by omega)
    have m0 : 0 ≤ (cs.length : Int) * el cs 0 := Int.mul_nonneg (by omega) hc0.1
    have m1 : (cs.length : Int) * el cs 0 ≤ 8 * 100000 := Int.mul_le_mul (by omega) hc0.2 hc0.1 (by omega)
    have HB : Hid (∀ k, k ≤ cs.length → 0 ≤ rdy cs k ((cs.length : Int) * el cs 0) ∧ rdy cs k ((cs.length : Int) * el cs 0) ≤ 800000) := rdy_bd hall (by omega) ⟨m0, by omega⟩
    have HM : Hid (∀ k, k < len → 0 ≤ (len : Int) * el cs k ∧ (len : Int) * el cs k ≤ 800000) := fun k hk => by
      have h := hall k (by omega)
      exact ⟨Int.mul_nonneg (by omega) h.1, Int.le_trans (Int.mul_le_mul (b := el cs k) (show (len : Int) ≤ 8 by omega) h.2 h.1 (by omega)) (by omega)⟩
    have HS : Hid (∀ k, rdy cs (k + 1) ((len : Int) * el cs 0) = min (rdy cs k ((len : Int) * el cs 0)) ((len : Int) * el cs k + (k : Int))) := fun k => by rw [rdy_succ, hl]
    rw [hl] at HB HZ m0 m1
    have l1 : (1 : Int) ≤ (len : Int) := by omega
    have l8 : (len : Int) ≤ 8 := by omega
    have HC : Hid (∀ i, i < len → w.cell? ⟨b, off + i, none⟩ = some (.int .i64 (el cs i))) := hc
    clear hb hok hall hv hl h18 hm hc hc0
    generalize hB0 : (len : Int) * el cs 0 = B0 at *
    generalize el cs 0 = x0 at *
    go_enter Try.func70, Try.ntmps70
    go_wp2_with fail
    refine hC.mono ?_
    rintro e w1 ⟨rfl, hw⟩
    subst hw
    clear hC
    go_wp2
    go_loop [4, 5] (fun m i => ∃ k : Nat, k ≤ len ∧ i = .int .i64 k ∧ m = .int .i64 (rdy cs k B0)) (fun _ i => len - (intOf i).toNat)
    case atStart => exact ⟨0, Nat.zero_le _, rfl, rfl⟩
    case round =>
      obtain ⟨k, hk, rfl, rfl⟩ := hrel
      by_cases hlt : k < len
      · have ck := HC.out k hlt
        have hmk := HM.out k hlt
        have hsk := HS.out k
        have hbk := HB.out k hk
        have k1 : (k : Int) < (len : Int) := by omega
        have k0 : (0 : Int) ≤ (k : Int) := by omega
        have HS' : Hid (rdy cs (k + 1) B0 = min (rdy cs k B0) ((len : Int) * el cs k + (k : Int))) := hsk
        clear hsk
        generalize rdy cs k B0 = R at *
        generalize hmm : (len : Int) * el cs k = m at *
        generalize el cs k = x at *
        go_wp2_with (go_at_call 55; refine (l1Min_any _ _ _).mono ?_; rintro e w' ⟨rfl, rfl⟩)
        go_round
        case rel => exact ⟨k + 1, by omega, by go_num, by rw [HS'.out]⟩
        case measure => simp [intOf]; omega
      · have hkl : k = len := by omega
        subst hkl
        go_wp2
        go_ret
        exact ⟨ret_int (by rw [HZ.out]), rfl⟩
end Go.Proofs.Ytggieamhbfdmhaa

/-
  The contract of the specification's Woven.
-/
namespace Go.Proofs.Ytggieamhbfdmhaa
set_option linter.unusedVariables false
set_option linter.unusedSimpArgs false
open Go.RowKit Go.Sort

theorem wrow_le (cs : List Int) (k j : Nat) : (wrow cs k j).length ≤ j := by
  unfold wrow
  rw [List.length_map]
  exact Nat.le_trans (List.length_filter_le _ _) (by simp)
theorem wovs_le (cs : List Int) (M : Nat) : (wovs cs M).length ≤ M * cs.length := by
  induction M with
  | zero => simp [wovs]
  | succ M ih =>
    rw [wovs_succ, List.length_append, Nat.succ_mul]
    have := wrow_le cs M cs.length
    omega
/-- The greatest count. -/
def mst (cs : List Int) (k : Nat) : Int := hiL 0 (cs.take k)
theorem mst_succ {cs : List Int} {k : Nat} (h : k < cs.length) : mst cs (k + 1) = max (mst cs k) (el cs k) := by
  unfold mst
  rw [List.take_succ_eq_append_getElem h, hiL_snoc, el_eq h]
theorem mst_bd {cs : List Int} (hc : ∀ i, i < cs.length → 0 ≤ el cs i ∧ el cs i ≤ 100000) : ∀ k, k ≤ cs.length → 0 ≤ mst cs k ∧ mst cs k ≤ 100000 ∧ ∀ i, i < k → el cs i ≤ mst cs k := by
  intro k
  induction k with
  | zero => intro _; exact ⟨by simp [mst, hiL], by simp [mst, hiL], fun i hi => by omega⟩
  | succ k ih =>
    intro hk
    obtain ⟨h1, h2, h3⟩ := ih (by omega)
    have h4 := hc k (by omega)
    rw [mst_succ (by omega)]
    refine ⟨by omega, by omega, fun i hi => ?_⟩
    by_cases e : i = k
    · subst e; omega
    · have := h3 i (by omega); omega
/-- What Woven answers. -/
def IsWoven (cs Z : List Int) : Prop := (okCt cs = true ∧ sumL cs ≤ 200 ∧ IsWov cs Z) ∨ ((okCt cs = false ∨ 200 < sumL cs) ∧ Z = [])
theorem IsWoven.unique {cs Z Y : List Int} (h : IsWoven cs Z) (k : IsWoven cs Y) : Z = Y := by
  rcases h with ⟨h1, h2, h3⟩ | ⟨h1, h2⟩ <;> rcases k with ⟨k1, k2, k3⟩ | ⟨k1, k2⟩
  · exact h3.unique k3
  · rcases k1 with k1 | k1
    · rw [h1] at k1; cases k1
    · omega
  · rcases h1 with h1 | h1
    · rw [k1] at h1; cases h1
    · omega
  · rw [h2, k2]
theorem wovs_fits {cs : List Int} {M : Nat} (hl : cs.length ≤ 8) (hM : M ≤ 100000) : Fits (wovs cs M) := fun q hq => by
  obtain ⟨k, i, hk, hi, _, rfl⟩ := mem_wovs.1 hq
  have h1 : (cs.length : Int) * (k : Int) ≤ 8 * 100000 := Int.mul_le_mul (by omega) (by omega) (by omega) (by omega)
  have h0 : 0 ≤ (cs.length : Int) * (k : Int) := Int.mul_nonneg (by omega) (by omega)
  omega

set_option maxRecDepth 100000 in
set_option maxHeartbeats 3200000 in
theorem l7Woven_any (b off cap : Nat) (cs : List Int) (len : Nat) (w : World) (hl : cs.length = len) (hlen : len ≤ 8) (hc : ∀ i, i < len → w.cell? ⟨b, off + i, none⟩ = some (.int .i64 (el cs i))) (hall : ∀ i, i < cs.length → 0 ≤ el cs i ∧ el cs i ≤ 100000) :
    Calls Try.prog 80 #[.slice (some ⟨b, off, none⟩) len cap] w fun e w' => AnsN w w' e (wovs cs (mst cs len).toNat) := by
  obtain ⟨i0, hi0, hz0, hz1, hz2⟩ := info_parts2n Try.info2n
  have HL : Hid (cs.length = len) := hl
  have HC : Hid (∀ X, Below w.heap.size w X → ∀ i, i < len → X.cell? ⟨b, off + i, none⟩ = some (.int .i64 (el cs i))) := fun X hX i hi => (hX.cell (World.block_lt_of_cell? _ _ (hc i hi))).trans (hc i hi)
  have HMB : Hid (∀ k, k ≤ len → 0 ≤ mst cs k ∧ mst cs k ≤ 100000) := fun k hk => by have := mst_bd hall k (by omega); exact ⟨this.1, this.2.1⟩
  have B0 : Hid (Below w.heap.size w (w.alloc (.cells #[] 2))) := (Below.refl _ _).alloc (Nat.le_refl _) _
  have HMS : Hid (∀ k, k < len → mst cs (k + 1) = max (mst cs k) (el cs k)) := fun k hk => mst_succ (by omega)
  clear hc hall hl
  go_enter Try.func80, Try.ntmps80
  go_wp2
  go_loop [5, 6] (fun m i => ∃ k : Nat, k ≤ len ∧ i = .int .i64 k ∧ m = .int .i64 (mst cs k)) (fun _ i => len - (intOf i).toNat)
  case atStart => exact ⟨0, Nat.zero_le _, rfl, rfl⟩
  case round =>
    obtain ⟨k, hk, rfl, rfl⟩ := hrel
    by_cases hlt : k < len
    · have ck := HC.out _ B0.out k hlt
      have HS' : Hid (mst cs (k + 1) = max (mst cs k) (el cs k)) := HMS.out k hlt
      have k1 : (k : Int) < (len : Int) := by omega
      have k0 : (0 : Int) ≤ (k : Int) := by omega
      generalize mst cs k = R at *
      generalize el cs k = x at *
      go_wp2_with (go_at_call 54; refine (l1Max_any _ _ _).mono ?_; rintro e w' ⟨rfl, rfl⟩)
      go_round
      case rel => exact ⟨k + 1, by omega, by go_num, by rw [HS'.out]⟩
      case measure => simp [intOf]; omega
    · have hkl : k = len := by omega
      subst hkl
      obtain ⟨hm0, hm1⟩ := HMB.out k (Nat.le_refl _)
      obtain ⟨M, hM⟩ : ∃ M : Nat, mst cs k = (M : Int) := ⟨(mst cs k).toNat, by omega⟩
      have HM : Hid ((mst cs k).toNat = M) := by rw [Hid, hM]; simp
      have hM1 : M ≤ 100000 := by omega
      rw [hM]
      clear hM hm0 hm1 hlt
      go_wp2
      go_loopw [3, 7] (fun v i wr => ∃ (p g og cg : Nat), p ≤ M ∧ i = .int .i64 p ∧ v = .slice (some ⟨g, og, none⟩) (wovs cs p).length cg ∧ w.heap.size ≤ g ∧ OI wr g og (wovs cs p).length cg (wovs cs p) ∧ Below w.heap.size w wr) (fun _ i _ => M - (intOf i).toNat)
      case atStart => exact ⟨0, w.heap.size, 0, 0, Nat.zero_le _, rfl, rfl, Nat.le_refl _, num_empty w 2, B0.out⟩
      case round =>
        obtain ⟨p, g, og, cg, hp, rfl, rfl, hg, hO, hB⟩ := hrel
        have KO : Hid (OI wr g og (wovs cs p).length cg (wovs cs p)) := hO
        have KB : Hid (Below w.heap.size w wr) := hB
        have KG : Hid (w.heap.size ≤ g) := hg
        clear hO hB hg
        by_cases hpl : p < M
        · have p1 : (p : Int) < (M : Int) := by omega
          go_wp2
          go_loopw [3, 8] (fun v i wx => ∃ (j g og cg : Nat), j ≤ k ∧ i = .int .i64 j ∧ v = .slice (some ⟨g, og, none⟩) (wovs cs p ++ wrow cs p j).length cg ∧ w.heap.size ≤ g ∧ OI wx g og (wovs cs p ++ wrow cs p j).length cg (wovs cs p ++ wrow cs p j) ∧ Below w.heap.size w wx) (fun _ i _ => k - (intOf i).toNat)
          case atStart => exact ⟨0, g, og, cg, Nat.zero_le _, rfl, by simp [wrow], KG.out, by simpa [wrow] using KO.out, KB.out⟩
          case round =>
            obtain ⟨j, g, og, cg, hj, rfl, rfl, hg, hO, hB⟩ := hrel
            have LO : Hid (OI wr g og (wovs cs p ++ wrow cs p j).length cg (wovs cs p ++ wrow cs p j)) := hO
            have LB : Hid (Below w.heap.size w wr) := hB
            have LG : Hid (w.heap.size ≤ g) := hg
            have LLE : (wovs cs p ++ wrow cs p j).length ≤ 1000000 := by
              rw [List.length_append]
              have h1 := wovs_le cs p
              have h2 := wrow_le cs p j
              rw [HL.out] at h1
              have h3 : p * k ≤ 100000 * 8 := Nat.mul_le_mul (by omega) hlen
              omega
            clear hO hg KO KB KG
            by_cases hjl : j < k
            · have cj := HC.out _ hB j hjl
              have j1 : (j : Int) < (k : Int) := by omega
              have j0 : (0 : Int) ≤ (j : Int) := by omega
              have HR : Hid (wovs cs p ++ wrow cs p (j + 1) = (wovs cs p ++ wrow cs p j) ++ (if (p : Int) < el cs j then [(k : Int) * (p : Int) + (j : Int)] else [])) := by rw [Hid, wrow_succ, List.append_assoc, HL.out]
              have m0 : 0 ≤ (k : Int) * (p : Int) := Int.mul_nonneg (by omega) (by omega)
              have m1 : (k : Int) * (p : Int) ≤ 8 * 100000 := Int.mul_le_mul (by omega) (by omega) (by omega) (by omega)
              clear hB
              generalize hW : wovs cs p ++ wrow cs p (j + 1) = W1 at *
              generalize wovs cs p ++ wrow cs p j = W0 at *
              generalize el cs j = x at *
              by_cases hx : (p : Int) < x
              · rw [if_pos hx] at HR
                generalize hmm : (k : Int) * (p : Int) = m at *
                have hO2 : OSl (wr.alloc (.cells #[.int .i64 (m + (j : Int))] 2)) 1 g og W0.length cg (W0.map (Value.int .i64)) := OSl.below LO.out ((Below.refl _ _).alloc (Nat.le_refl _) _) LO.out.blk
                go_wp2_with (at_builtin; refine wpList_append_os _ rfl _ _ _ rfl 2 i0 _ 1 8 Try.underlying24 hi0 hz0 hz1 hz2 rfl (by omega) g og W0.length cg _ rfl hO2 ⟨wr.heap.size, 0, none⟩ 1 1 [.int .i64 (m + (j : Int))] rfl rfl (World.news_of_block (cs := #[.int .i64 (m + (j : Int))]) (t := 2) (fr := (0, 0)) (heap_alloc_new _ _)) (by simp [Value.oneCell']) (by unfold maxLen; omega) (by omega) ?_; intro g6 o6 c6 w6 hO6 hg6 hat6)
                have NG : Hid (w.heap.size ≤ g6) := by
                  rcases hat6 with h | h
                  · rw [h]; exact LG.out
                  · rw [h]; exact Nat.le_trans LB.out.size (by simp)
                have NL : Hid (W1.length = W0.length + 1) := by rw [Hid, HR.out]; simp
                have NO : Hid (OI w6 g6 o6 W1.length c6 W1) := by
                  rw [Hid, NL.out, HR.out, OI, List.map_append]; exact hO6
                have NB : Hid (Below w.heap.size w w6) := below_grown6 (LB.out.alloc LB.out.size _) hg6 LG.out (Nat.le_trans LB.out.size (by simp))
                clear hO6 hg6 hat6 hO2
                go_wp2
                go_roundw
                case rel => exact ⟨j + 1, g6, o6, c6, by omega, by go_num, by rw [hW, NL.out], NG.out, by rw [hW]; exact NO.out, NB.out⟩
                case measure => simp [intOf]; omega
              · rw [if_neg hx, List.append_nil] at HR
                have hd : decide ((p : Int) < x) = false := by simpa using hx
                clear hx
                go_wp2
                go_roundw
                case rel => exact ⟨j + 1, g, og, cg, by omega, by go_num, by rw [hW, HR.out], LG.out, by rw [hW, HR.out]; exact LO.out, LB.out⟩
                case measure => simp [intOf]; omega
            · have hjk : j = k := by omega
              subst hjk
              have HE : Hid (wovs cs (p + 1) = wovs cs p ++ wrow cs p j) := by rw [Hid, wovs_succ, HL.out]
              clear hB
              go_wp2
              go_roundw
              case rel => exact ⟨p + 1, g, og, cg, by omega, by go_num, by rw [HE.out], LG.out, by rw [HE.out]; exact LO.out, LB.out⟩
              case measure => simp [intOf]; omega
        · have hpM : p = M := by omega
          subst hpM
          go_wp2
          go_ret
          rw [HM.out]
          exact ⟨g, og, cg, rfl, KG.out, KO.out, KB.out⟩

set_option maxRecDepth 100000 in
set_option maxHeartbeats 1600000 in
theorem wovenS_any (a : Option Addr) (len cap : Nat) (cs : List Int) (w : World) (hv : Vec w a len cs) (hm : len ≤ maxLen) :
    Calls Try.prog 67 #[.slice a len cap] w fun e w' => ∃ Z, IsWoven cs Z ∧ AnsN w w' e Z := by
  have hC := counts_any a len cap cs w hv hm
  have hS := specSum_any a len cap cs w hv hm
  cases hb : okCt cs with
  | false =>
    rw [hb] at hC
    have HZ : Hid (IsWoven cs []) := .inr ⟨.inl hb, rfl⟩
    clear hb
    go_enter Try.func67, Try.ntmps67
    go_wp2_with fail
    refine hC.mono ?_
    rintro e w1 ⟨rfl, rfl⟩
    go_wp2
    go_ret
    exact ⟨[], HZ.out, _, 0, 0, rfl, Nat.le_refl _, num_empty _ 2, (Below.refl _ _).alloc (Nat.le_refl _) _⟩
  | true =>
    rw [hb] at hC
    obtain ⟨hok, hall⟩ := okCt_all hb
    have hsb : sumB cs = sumL cs := by rw [sumB, if_pos hok]
    rw [hsb] at hS
    by_cases h200 : (200 : Int) < sumL cs
    · have HZ : Hid (IsWoven cs []) := .inr ⟨.inr h200, rfl⟩
      clear hb hsb hall
      go_enter Try.func67, Try.ntmps67
      go_wp2_with fail
      refine hC.mono ?_
      rintro e w1 ⟨rfl, hw1⟩
      rw [← hw1] at hS
      have HW : Hid (w1 = w) := hw1
      clear hw1
      go_wp2_with fail
      refine hS.mono ?_
      rintro e w2 ⟨rfl, hw2⟩
      have HW2 : Hid (w2 = w) := by rw [Hid, hw2, HW.out]
      clear hw2
      go_wp2
      go_ret
      rw [HW2.out]
      exact ⟨[], HZ.out, _, 0, 0, rfl, Nat.le_refl _, num_empty _ 2, (Below.refl _ _).alloc (Nat.le_refl _) _⟩
    · have h18 := okB_len hok
      have hl := hv.1
      obtain ⟨b, off, rfl, hc⟩ := hv.cells (by omega)
      have hW := fun X (hX : X = w) => l7Woven_any b off cap cs len X hl (by omega) (by rw [hX]; exact hc) hall
      have HZ : Hid (IsWoven cs (wovs cs (mst cs len).toNat)) := by
        have hb2 := mst_bd hall len (by omega)
        refine .inl ⟨hb, by omega, wovs_is h18.1 (fun i hi => ?_)⟩
        have := hb2.2.2 i (by omega)
        have := hb2.1
        omega
      have hd : decide ((200 : Int) < sumL cs) = false := by simpa using h200
      clear hb hsb hall hok hc h18 hl h200 hv
      go_enter Try.func67, Try.ntmps67
      go_wp2_with fail
      refine hC.mono ?_
      rintro e w1 ⟨rfl, hw1⟩
      rw [← hw1] at hS
      have HW : Hid (w1 = w) := hw1
      clear hw1
      go_wp2_with fail
      refine hS.mono ?_
      rintro e w2 ⟨rfl, hw2⟩
      have HW2 : Hid (w2 = w) := by rw [Hid, hw2, HW.out]
      have hW2 := hW w2 HW2.out
      clear hw2 hW
      go_wp2_with fail
      refine hW2.mono ?_
      rintro e w3 ⟨g, og, c, rfl, hg, ho, hb⟩
      have HF : Hid (AnsN w w3 (.returned (.slice (some ⟨g, og, none⟩) (wovs cs (mst cs len).toNat).length c)) (wovs cs (mst cs len).toNat)) := by
        rw [Hid, ← HW2.out]; exact ⟨g, og, c, rfl, hg, ho, hb⟩
      clear hW2 hg ho hb
      go_wp2
      go_ret
      exact ⟨_, HZ.out, HF.out⟩
end Go.Proofs.Ytggieamhbfdmhaa
