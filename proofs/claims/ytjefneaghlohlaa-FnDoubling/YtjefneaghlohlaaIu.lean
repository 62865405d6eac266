/-
  Several texts in one: LawTre.
-/
import Derived.Test.YtjefneaghlohlaaIr
/-
  The law FnTrees FROM what the program's functions of the tree answer.
-/
namespace Go.Proofs.Ytjefneaghlohlaa
set_option linter.unusedVariables false
set_option linter.unusedSimpArgs false
open Go.RowKit Go.Sort

theorem chlL_child {n m q : Int} (h : q ∈ chlL n m) : parL q = m ∧ q < n ∧ I64t q := by
  unfold chlL at h
  by_cases hb : (inB n 1 1000 && inB m 0 (n - 1)) = true
  · rw [if_pos hb] at h
    simp only [Bool.and_eq_true, inB7] at hb
    obtain ⟨i, rfl, h1, h2, h3⟩ := mem_chl.1 h
    refine ⟨?_, by omega, ⟨by omega, by omega⟩⟩
    rw [parL, if_pos (inB7.2 ⟨by omega, by omega⟩), Int.toNat_natCast, h3]
    omega
  · rw [if_neg hb] at h; cases h
theorem chlL_rises (n m : Int) : (chlL n m).Pairwise (· < ·) := by
  unfold chlL
  by_cases hb : (inB n 1 1000 && inB m 0 (n - 1)) = true
  · rw [if_pos hb]; exact chl_rises _ _
  · rw [if_neg hb]; exact List.Pairwise.nil
theorem chlL_has {K : Nat} (h1 : 1 ≤ K) (h2 : K ≤ 999) : (K : Int) ∈ chlL ((K : Int) + 1) (parL (K : Int)) := by
  have hp : parL (K : Int) = (par K : Int) := by rw [parL, if_pos (inB7.2 ⟨by omega, by omega⟩), Int.toNat_natCast]
  have hl := par_lt h1
  rw [hp, chlL, if_pos (by simp only [Bool.and_eq_true, inB7]; omega)]
  exact mem_chl.2 ⟨K, rfl, by omega, h1, by simp⟩
theorem rnd_depL {n : Int} (h1 : 1 ≤ n) (h2 : n ≤ 1000) : ¬ (rndL n < depL (n - 1)) := by
  obtain ⟨N, rfl⟩ : ∃ N : Nat, n = (N : Int) := ⟨n.toNat, by omega⟩
  rw [rndL, if_pos (inB7.2 ⟨h1, h2⟩), depL, if_pos (inB7.2 ⟨by omega, by omega⟩), Int.toNat_natCast, show ((N : Int) - 1).toNat = N - 1 by omega]
  have := dep_rnd (n := N) (by omega)
  omega
theorem depL_bd (k : Int) : -1 ≤ depL k ∧ depL k ≤ 1000 := by
  unfold depL
  by_cases h : inB k 0 999 = true
  · rw [if_pos h]
    have hk := inB7.1 h
    rcases Nat.eq_zero_or_pos k.toNat with h0 | h0
    · rw [h0, dep_zero]; omega
    · have h1 := dep_rnd (n := k.toNat + 1) (by omega)
      have h2 : rnd (k.toNat + 1) ≤ 10 := by
        rcases Nat.lt_or_ge 10 (rnd (k.toNat + 1)) with h3 | h3
        · have h4 := rnd_lt h3
          have e : (2 : Nat) ^ 10 = 1024 := rfl
          omega
        · exact h3
      have h5 : dep (k.toNat + 1 - 1) = dep k.toNat := by rw [Nat.add_sub_cancel]
      omega
  · rw [if_neg h]; omega
theorem rndL_bd (k : Int) : -1 ≤ rndL k ∧ rndL k ≤ 1000 := by
  unfold rndL
  by_cases h : inB k 1 1000 = true
  · rw [if_pos h]
    have hk := inB7.1 h
    have h2 : rnd k.toNat ≤ 10 := by
      rcases Nat.lt_or_ge 10 (rnd k.toNat) with h3 | h3
      · have h4 := rnd_lt h3
        have e : (2 : Nat) ^ 10 = 1024 := rfl
        omega
      · exact h3
    omega
  · rw [if_neg h]; omega

set_option maxRecDepth 100000 in
set_option maxHeartbeats 6400000 in
/-- The law FnTrees. -/
theorem lawFnTrees (hR : ImplRounds) (hP : ImplParent) (hC : ImplChildren) (hD : ImplDepth) (a : Option Addr) (len cap : Nat) (bs : Nat → Int) (w : World) (hv : BVec w a len bs) :
    Calls Try.prog 4 #[.slice a len cap] w fun e w' => e = .returned (.bool true) ∧ Below w.heap.size w w' := by
  by_cases hbig : (4096 : Int) < (len : Int)
  · have hB := big_any a len cap w
    rw [decide_eq_true hbig] at hB
    go_enter Try.func4, Try.ntmps4
    go_wp2_with fail
    refine hB.mono ?_
    rintro e w1 ⟨rfl, hw1⟩
    have HW : Hid (w1 = w) := hw1
    clear hw1
    go_wp2
    go_ret
    exact ⟨rfl, by rw [HW.out]; exact Below.refl _ _⟩
  · have hB := big_any a len cap w
    rw [decide_eq_false hbig] at hB
    have hl : len ≤ 4096 := by omega
    go_enter Try.func4, Try.ntmps4
    go_wp2_with fail
    refine hB.mono ?_
    rintro e w0 ⟨rfl, hw0⟩
    have B0 : Below w.heap.size w w0 := by rw [hw0]; exact Below.refl _ _
    clear hw0 hB
    go_wp2_with fail
    refine (drawParent_any a len cap bs w0 (hv.below B0 (Nat.le_refl _)) hl).mono ?_
    rintro e w1 ⟨k, rfl, hk, hb1⟩
    have B1 : Below w.heap.size w w1 := B0.trans (hb1.mono B0.size)
    go_wp2_with fail
    refine (hP k w1 hk).mono ?_
    rintro e w2 ⟨rfl, hb2⟩
    have B2 : Below w.heap.size w w2 := B1.trans (hb2.mono B1.size)
    go_wp2_with fail
    refine (drawChildren_any a len cap bs w2 (hv.below B2 (Nat.le_refl _)) hl).mono ?_
    rintro e w3 ⟨n, m, rfl, hn, hm, hb3⟩
    have B3 : Below w.heap.size w w3 := B2.trans (hb3.mono B2.size)
    have hm64 : I64t m := ⟨by omega, by omega⟩
    go_wp2_with fail
    refine (hC n m w3 hn hm64).mono ?_
    rintro e w4 ⟨g, og, cg, rfl, hg, hO4, hb4⟩
    have B4 : Below w.heap.size w w4 := B3.trans (hb4.mono B3.size)
    go_wp2_with fail
    refine (drawDepth_any a len cap bs w4 (hv.below B4 (Nat.le_refl _)) hl).mono ?_
    rintro e w5 ⟨d, rfl, hd, hb5⟩
    have B5 : Below w.heap.size w w5 := B4.trans (hb5.mono B4.size)
    have hO5 := hO4.below hb5 hO4.blk
    obtain ⟨hfz, hz8⟩ := chlL_ok n m
    have HCH : Hid (∀ q ∈ chlL n m, parL q = m ∧ q < n ∧ I64t q) := fun q hq => chlL_child hq
    have HRI : Hid (∀ j, j + 1 < (chlL n m).length → el (chlL n m) j < el (chlL n m) (j + 1)) := rises_el9 (chlL_rises n m)
    have hS := fun X => chlS_any n m hn X
    have hzm : (chlL n m).length ≤ maxLen := by unfold maxLen; omega
    generalize chlL n m = Z at *
    clear hb1 hb2 hb3 hb4 hb5 hO4 hg
    have np : (parL k != parL k) = false := by simp
    have nd : (depL d != depL d) = false := by simp
    go_wp2_with fail
    refine (parS_any k w5).mono ?_
    rintro e w5' ⟨rfl, hw5⟩
    rw [hw5]
    clear hw5
    go_wp2_with fail
    refine (hS w5).mono ?_
    rintro e w6 ⟨g6, o6, c6, rfl, hg6, hO6, hb6⟩
    have B6 : Below w.heap.size w w6 := B5.trans (hb6.mono B5.size)
    have Z6 := hO5.below hb6 hO5.blk
    go_wp2_with fail
    refine (like_any _ _ _ _ _ _ Z Z w6 (Z6.vec hfz) (hO6.vec hfz) hzm).mono ?_
    rintro e w7 ⟨rfl, n7, rfl⟩
    rw [sameB_self]
    have B7 : Below w.heap.size w (w6.drewN n7) := belowN B6
    go_wp2_with fail
    refine (hD d _ hd).mono ?_
    rintro e w8 ⟨rfl, hb8⟩
    have B8 : Below w.heap.size w w8 := B7.trans (hb8.mono B7.size)
    have Z8 := (Z6.drewN n7).below hb8 Z6.blk
    go_wp2_with fail
    refine (depS_any d w8).mono ?_
    rintro e w8' ⟨rfl, hw8⟩
    rw [hw8]
    clear hw8
    go_wp2_with fail
    refine (rises9_any g og _ cg Z w8 Z8.length (fun i hi => Z8.cellAt hi) (by omega) HRI.out).mono ?_
    rintro e w9 ⟨rfl, n9, rfl⟩
    have B9 : Below w.heap.size w (w8.drewN n9) := belowN B8
    have Z9 := Z8.drewN n9
    generalize w8.drewN n9 = W9 at *
    clear hO5 hO6 hb6 Z6 hb8 Z8 B7 hS np nd hg6 B0 B1 B2 B3 B4 B5 B6 B8
    -- the loop over the children
    go_wp2_with fail
    go_loopw [9] (fun i wr => ∃ j : Nat, j ≤ Z.length ∧ i = .int .i64 (j : Int) ∧ OI wr g og Z.length cg Z ∧ Below w.heap.size w wr) (fun i _ => Z.length - (intOf i).toNat)
    case atStart => exact ⟨0, Nat.zero_le _, rfl, Z9, B9⟩
    case round =>
      obtain ⟨j, hj, rfl, hOr, hBr⟩ := hrel
      clear Z9 B9
      by_cases hlt : j < Z.length
      · obtain ⟨h1, h2, h3⟩ := HCH.out _ (el_mem hlt)
        have hPq := hP (el Z j) wr h3
        rw [h1] at hPq
        have c0 := hOr.cellAt hlt
        have j1 : (j : Int) < (Z.length : Int) := by omega
        have j0 : (0 : Int) ≤ (j : Int) := by omega
        have nm : (m != m) = false := by simp
        have ng : decide (n ≤ el Z j) = false := by simp; omega
        have HCE : Hid (∀ X, OI X g og Z.length cg Z → X.cell? ⟨g, og + j, none⟩ = some (.int .i64 (el Z j))) := fun X h => h.cellAt hlt
        clear h1 h2 h3
        generalize el Z j = q at *
        go_wp2_with fail
        refine hPq.mono ?_
        rintro e wq ⟨rfl, hbq⟩
        have Oq := hOr.below hbq hOr.blk
        have cq := HCE.out wq Oq
        have Bq : Below w.heap.size w wq := hBr.trans (hbq.mono hBr.size)
        clear c0 hOr hbq hPq hBr
        go_wp2
        go_roundw
        case rel => exact ⟨j + 1, by omega, by go_num, Oq, Bq⟩
        case measure => simp [intOf]; omega
      · have hjz : j = Z.length := by omega
        subst hjz
        clear hOr
        by_cases hnr : 1 ≤ n ∧ n ≤ 1000
        · have hRn := hR n wr hn
          have hDn := fun X => hD (n - 1) X ⟨by omega, by omega⟩
          have hno := rnd_depL hnr.1 hnr.2
          have hnd : decide (rndL n < depL (n - 1)) = false := by simpa using hno
          have n1 := hnr.1
          have n2 := hnr.2
          clear hno hnr
          generalize rndL n = ra at *
          generalize depL (n - 1) = rb at *
          go_wp2_with fail
          refine hRn.mono ?_
          rintro e w10 ⟨rfl, hb10⟩
          have B10 : Below w.heap.size w w10 := hBr.trans (hb10.mono hBr.size)
          go_wp2_with fail
          refine (hDn w10).mono ?_
          rintro e w11 ⟨rfl, hb11⟩
          have B11 : Below w.heap.size w w11 := B10.trans (hb11.mono B10.size)
          clear hRn hDn hb10 hb11 hBr B10
          by_cases hkr : 1 ≤ k ∧ k ≤ 999
          · obtain ⟨K, rfl⟩ : ∃ K : Nat, k = (K : Int) := ⟨k.toNat, by omega⟩
            have hK1 : 1 ≤ K := by omega
            have hK9 : K ≤ 999 := by omega
            have hpk : parL (K : Int) = (par K : Int) := by rw [parL, if_pos (inB7.2 ⟨by omega, by omega⟩), Int.toNat_natCast]
            have hdk : depL (K : Int) = (ones K : Int) := by rw [depL, if_pos (inB7.2 ⟨by omega, by omega⟩), Int.toNat_natCast, dep_ones]
            have hlt := par_lt hK1
            have hdp : depL (par K : Int) + 1 = (ones K : Int) := by rw [depL, if_pos (inB7.2 ⟨by omega, by omega⟩), Int.toNat_natCast, ← dep_ones, dep_succ hK1]; omega
            have hin := chlL_has hK1 hK9
            have hbK := depL_bd (K : Int)
            rw [hpk] at hin ⊢
            rw [hdk] at hbK
            have HDK : Hid (∀ X, Calls Try.prog 36 #[.int .i64 (K : Int)] X fun e w' => e = .returned (.int .i64 (ones K : Int)) ∧ Below X.heap.size X w') := fun X => by have := hD (K : Int) X hk; rwa [hdk] at this
            have HDP : Hid (∀ X, Calls Try.prog 36 #[.int .i64 (par K : Int)] X fun e w' => e = .returned (.int .i64 ((ones K : Int) - 1)) ∧ Below X.heap.size X w') := fun X => by have := hD (par K : Int) X ⟨by omega, by omega⟩; rwa [show depL (par K : Int) = (ones K : Int) - 1 by omega] at this
            have HCK : Hid (∀ X, Calls Try.prog 32 #[.int .i64 ((K : Int) + 1), .int .i64 (par K : Int)] X fun e w' => AnsN X w' e (chlL ((K : Int) + 1) (par K : Int))) := fun X => hC ((K : Int) + 1) (par K : Int) X ⟨by omega, by omega⟩ ⟨by omega, by omega⟩
            have HIN : Hid ((K : Int) ∈ chlL ((K : Int) + 1) (par K : Int)) := hin
            obtain ⟨hfc, hc8⟩ := chlL_ok ((K : Int) + 1) (par K : Int)
            generalize chlL ((K : Int) + 1) (par K : Int) = V at *
            have hp0 : ¬ ((par K : Int) < 0) := by omega
            have hlt2 : (par K : Int) < (K : Int) := by omega
            clear hpk hdk hdp hin hkr
            generalize par K = q at *
            go_wp2
            go_loop [10, 11] (fun b x => ∃ t o : Nat, t ≤ K ∧ o + ones t = ones K ∧ x = .int .i64 (t : Int) ∧ b = .int .i64 (o : Int)) (fun _ x => (intOf x).toNat)
            case atStart => exact ⟨K, 0, Nat.le_refl _, by omega, rfl, rfl⟩
            case round =>
              obtain ⟨t, o, ht, ho, rfl, rfl⟩ := hrel
              rcases Nat.eq_zero_or_pos t with h0 | h0
              · subst h0
                rw [show ones 0 = 0 by simp [ones]] at ho
                have HO : Hid (ones K = o) := by rw [Hid]; omega
                have HDK2 : Hid (∀ X, Calls Try.prog 36 #[.int .i64 (K : Int)] X fun e w' => e = .returned (.int .i64 (o : Int)) ∧ Below X.heap.size X w') := fun X => by have := HDK.out X; rwa [HO.out] at this
                have HDP2 : Hid (∀ X, Calls Try.prog 36 #[.int .i64 (q : Int)] X fun e w' => e = .returned (.int .i64 ((o : Int) - 1)) ∧ Below X.heap.size X w') := fun X => by have := HDP.out X; rwa [HO.out] at this
                have ho1 : (o : Int) ≤ 1000 := by have := HO.out; omega
                have eo : ((o : Int) == (o : Int) - 1 + 1) = true := by simp
                have eo2 : ((o : Int) == (o : Int)) = true := by simp
                clear HDK HDP ho hbK
                go_wp2_with fail
                refine (HDK2.out _).mono ?_
                rintro e w20 ⟨rfl, hb20⟩
                have B20 : Below w.heap.size w w20 := B11.trans (hb20.mono B11.size)
                go_wp2_with fail
                refine (HDP2.out _).mono ?_
                rintro e w21 ⟨rfl, hb21⟩
                have B21 : Below w.heap.size w w21 := B20.trans (hb21.mono B20.size)
                go_wp2_with fail
                refine (HDK2.out _).mono ?_
                rintro e w22 ⟨rfl, hb22⟩
                have B22 : Below w.heap.size w w22 := B21.trans (hb22.mono B21.size)
                go_wp2_with fail
                refine (HCK.out _).mono ?_
                rintro e w23 ⟨g2, o2, c2, rfl, hg2, hO2, hb23⟩
                have B23 : Below w.heap.size w w23 := B22.trans (hb23.mono B22.size)
                have hH := has9_any g2 o2 _ c2 (K : Int) V w23 hO2.length (fun i hi => hO2.cellAt hi) (by unfold maxLen; omega)
                rw [decide_eq_true HIN.out] at hH
                go_wp2_with fail
                refine hH.mono ?_
                rintro e w24 ⟨rfl, hw24⟩
                have HB : Hid (Below w.heap.size w w24) := by rw [Hid, hw24]; exact B23
                clear hw24
                go_wp2
                go_ret
                exact ⟨rfl, HB.out⟩
              · have HS := ones_step t
                have HS2 : Hid (ones t = t % 2 + ones (t / 2)) := HS
                clear HS
                have t0 : (0 : Int) < (t : Int) := by omega
                have hm2 : ((t : Int)).tmod 2 = ((t % 2 : Nat) : Int) := by rw [Int.tmod_eq_emod_of_nonneg (by omega)]; omega
                have hd2 : ((t : Int)).tdiv 2 = ((t / 2 : Nat) : Int) := by rw [Int.tdiv_eq_ediv_of_nonneg (by omega)]; omega
                have ho1 : (o : Int) ≤ 1000 := by omega
                have HO : Hid (o + ones t = ones K) := ho
                clear ho
                go_wp2
                go_round
                case rel => exact ⟨t / 2, o + t % 2, by omega, by have h1 := HS2.out; have h2 := HO.out; omega, by go_num, by go_num⟩
                case measure => simp [intOf]; omega
          · have hpk : parL k = -1 := by
              rw [parL, if_neg]
              intro h
              have := inB7.1 h
              omega
            rw [hpk]
            clear hpk
            go_wp2
            go_ret
            exact ⟨rfl, B11⟩
        · by_cases n1 : 1 ≤ n
          · have n2 : ¬ (n ≤ 1000) := by omega
            clear hnr
            by_cases hkr : 1 ≤ k ∧ k ≤ 999
            · obtain ⟨K, rfl⟩ : ∃ K : Nat, k = (K : Int) := ⟨k.toNat, by omega⟩
              have hK1 : 1 ≤ K := by omega
              have hK9 : K ≤ 999 := by omega
              have hpk : parL (K : Int) = (par K : Int) := by rw [parL, if_pos (inB7.2 ⟨by omega, by omega⟩), Int.toNat_natCast]
              have hdk : depL (K : Int) = (ones K : Int) := by rw [depL, if_pos (inB7.2 ⟨by omega, by omega⟩), Int.toNat_natCast, dep_ones]
              have hlt := par_lt hK1
              have hdp : depL (par K : Int) + 1 = (ones K : Int) := by rw [depL, if_pos (inB7.2 ⟨by omega, by omega⟩), Int.toNat_natCast, ← dep_ones, dep_succ hK1]; omega
              have hin := chlL_has hK1 hK9
              have hbK := depL_bd (K : Int)
              rw [hpk] at hin ⊢
              rw [hdk] at hbK
              have HDK : Hid (∀ X, Calls Try.prog 36 #[.int .i64 (K : Int)] X fun e w' => e = .returned (.int .i64 (ones K : Int)) ∧ Below X.heap.size X w') := fun X => by have := hD (K : Int) X hk; rwa [hdk] at this
              have HDP : Hid (∀ X, Calls Try.prog 36 #[.int .i64 (par K : Int)] X fun e w' => e = .returned (.int .i64 ((ones K : Int) - 1)) ∧ Below X.heap.size X w') := fun X => by have := hD (par K : Int) X ⟨by omega, by omega⟩; rwa [show depL (par K : Int) = (ones K : Int) - 1 by omega] at this
              have HCK : Hid (∀ X, Calls Try.prog 32 #[.int .i64 ((K : Int) + 1), .int .i64 (par K : Int)] X fun e w' => AnsN X w' e (chlL ((K : Int) + 1) (par K : Int))) := fun X => hC ((K : Int) + 1) (par K : Int) X ⟨by omega, by omega⟩ ⟨by omega, by omega⟩
              have HIN : Hid ((K : Int) ∈ chlL ((K : Int) + 1) (par K : Int)) := hin
              obtain ⟨hfc, hc8⟩ := chlL_ok ((K : Int) + 1) (par K : Int)
              generalize chlL ((K : Int) + 1) (par K : Int) = V at *
              have hp0 : ¬ ((par K : Int) < 0) := by omega
              have hlt2 : (par K : Int) < (K : Int) := by omega
              clear hpk hdk hdp hin hkr
              generalize par K = q at *
              go_wp2
              go_loop [10, 11] (fun b x => ∃ t o : Nat, t ≤ K ∧ o + ones t = ones K ∧ x = .int .i64 (t : Int) ∧ b = .int .i64 (o : Int)) (fun _ x => (intOf x).toNat)
              case atStart => exact ⟨K, 0, Nat.le_refl _, by omega, rfl, rfl⟩
              case round =>
                obtain ⟨t, o, ht, ho, rfl, rfl⟩ := hrel
                rcases Nat.eq_zero_or_pos t with h0 | h0
                · subst h0
                  rw [show ones 0 = 0 by simp [ones]] at ho
                  have HO : Hid (ones K = o) := by rw [Hid]; omega
                  have HDK2 : Hid (∀ X, Calls Try.prog 36 #[.int .i64 (K : Int)] X fun e w' => e = .returned (.int .i64 (o : Int)) ∧ Below X.heap.size X w') := fun X => by have := HDK.out X; rwa [HO.out] at this
                  have HDP2 : Hid (∀ X, Calls Try.prog 36 #[.int .i64 (q : Int)] X fun e w' => e = .returned (.int .i64 ((o : Int) - 1)) ∧ Below X.heap.size X w') := fun X => by have := HDP.out X; rwa [HO.out] at this
                  have ho1 : (o : Int) ≤ 1000 := by have := HO.out; omega
                  have eo : ((o : Int) == (o : Int) - 1 + 1) = true := by simp
                  have eo2 : ((o : Int) == (o : Int)) = true := by simp
                  clear HDK HDP ho hbK
                  go_wp2_with fail
                  refine (HDK2.out _).mono ?_
                  rintro e w20 ⟨rfl, hb20⟩
                  have B20 : Below w.heap.size w w20 := hBr.trans (hb20.mono hBr.size)
                  go_wp2_with fail
                  refine (HDP2.out _).mono ?_
                  rintro e w21 ⟨rfl, hb21⟩
                  have B21 : Below w.heap.size w w21 := B20.trans (hb21.mono B20.size)
                  go_wp2_with fail
                  refine (HDK2.out _).mono ?_
                  rintro e w22 ⟨rfl, hb22⟩
                  have B22 : Below w.heap.size w w22 := B21.trans (hb22.mono B21.size)
                  go_wp2_with fail
                  refine (HCK.out _).mono ?_
                  rintro e w23 ⟨g2, o2, c2, rfl, hg2, hO2, hb23⟩
                  have B23 : Below w.heap.size w w23 := B22.trans (hb23.mono B22.size)
                  have hH := has9_any g2 o2 _ c2 (K : Int) V w23 hO2.length (fun i hi => hO2.cellAt hi) (by unfold maxLen; omega)
                  rw [decide_eq_true HIN.out] at hH
                  go_wp2_with fail
                  refine hH.mono ?_
                  rintro e w24 ⟨rfl, hw24⟩
                  have HB : Hid (Below w.heap.size w w24) := by rw [Hid, hw24]; exact B23
                  clear hw24
                  go_wp2
                  go_ret
                  exact ⟨rfl, HB.out⟩
                · have HS := ones_step t
                  have HS2 : Hid (ones t = t % 2 + ones (t / 2)) := HS
                  clear HS
                  have t0 : (0 : Int) < (t : Int) := by omega
                  have hm2 : ((t : Int)).tmod 2 = ((t % 2 : Nat) : Int) := by rw [Int.tmod_eq_emod_of_nonneg (by omega)]; omega
                  have hd2 : ((t : Int)).tdiv 2 = ((t / 2 : Nat) : Int) := by rw [Int.tdiv_eq_ediv_of_nonneg (by omega)]; omega
                  have ho1 : (o : Int) ≤ 1000 := by omega
                  have HO : Hid (o + ones t = ones K) := ho
                  clear ho
                  go_wp2
                  go_round
                  case rel => exact ⟨t / 2, o + t % 2, by omega, by have h1 := HS2.out; have h2 := HO.out; omega, by go_num, by go_num⟩
                  case measure => simp [intOf]; omega
            · have hpk : parL k = -1 := by
                rw [parL, if_neg]
                intro h
                have := inB7.1 h
                omega
              rw [hpk]
              clear hpk
              go_wp2
              go_ret
              exact ⟨rfl, hBr⟩
          · clear hnr
            by_cases hkr : 1 ≤ k ∧ k ≤ 999
            · obtain ⟨K, rfl⟩ : ∃ K : Nat, k = (K : Int) := ⟨k.toNat, by omega⟩
              have hK1 : 1 ≤ K := by omega
              have hK9 : K ≤ 999 := by omega
              have hpk : parL (K : Int) = (par K : Int) := by rw [parL, if_pos (inB7.2 ⟨by omega, by omega⟩), Int.toNat_natCast]
              have hdk : depL (K : Int) = (ones K : Int) := by rw [depL, if_pos (inB7.2 ⟨by omega, by omega⟩), Int.toNat_natCast, dep_ones]
              have hlt := par_lt hK1
              have hdp : depL (par K : Int) + 1 = (ones K : Int) := by rw [depL, if_pos (inB7.2 ⟨by omega, by omega⟩), Int.toNat_natCast, ← dep_ones, dep_succ hK1]; omega
              have hin := chlL_has hK1 hK9
              have hbK := depL_bd (K : Int)
              rw [hpk] at hin ⊢
              rw [hdk] at hbK
              have HDK : Hid (∀ X, Calls Try.prog 36 #[.int .i64 (K : Int)] X fun e w' => e = .returned (.int .i64 (ones K : Int)) ∧ Below X.heap.size X w') := fun X => by have := hD (K : Int) X hk; rwa [hdk] at this
              have HDP : Hid (∀ X, Calls Try.prog 36 #[.int .i64 (par K : Int)] X fun e w' => e = .returned (.int .i64 ((ones K : Int) - 1)) ∧ Below X.heap.size X w') := fun X => by have := hD (par K : Int) X ⟨by omega, by omega⟩; rwa [show depL (par K : Int) = (ones K : Int) - 1 by omega] at this
              have HCK : Hid (∀ X, Calls Try.prog 32 #[.int .i64 ((K : Int) + 1), .int .i64 (par K : Int)] X fun e w' => AnsN X w' e (chlL ((K : Int) + 1) (par K : Int))) := fun X => hC ((K : Int) + 1) (par K : Int) X ⟨by omega, by omega⟩ ⟨by omega, by omega⟩
              have HIN : Hid ((K : Int) ∈ chlL ((K : Int) + 1) (par K : Int)) := hin
              obtain ⟨hfc, hc8⟩ := chlL_ok ((K : Int) + 1) (par K : Int)
              generalize chlL ((K : Int) + 1) (par K : Int) = V at *
              have hp0 : ¬ ((par K : Int) < 0) := by omega
              have hlt2 : (par K : Int) < (K : Int) := by omega
              clear hpk hdk hdp hin hkr
              generalize par K = q at *
              go_wp2
              go_loop [10, 11] (fun b x => ∃ t o : Nat, t ≤ K ∧ o + ones t = ones K ∧ x = .int .i64 (t : Int) ∧ b = .int .i64 (o : Int)) (fun _ x => (intOf x).toNat)
              case atStart => exact ⟨K, 0, Nat.le_refl _, by omega, rfl, rfl⟩
              case round =>
                obtain ⟨t, o, ht, ho, rfl, rfl⟩ := hrel
                rcases Nat.eq_zero_or_pos t with h0 | h0
                · subst h0
                  rw [show ones 0 = 0 by simp [ones]] at ho
                  have HO : Hid (ones K = o) := by rw [Hid]; omega
                  have HDK2 : Hid (∀ X, Calls Try.prog 36 #[.int .i64 (K : Int)] X fun e w' => e = .returned (.int .i64 (o : Int)) ∧ Below X.heap.size X w') := fun X => by have := HDK.out X; rwa [HO.out] at this
                  have HDP2 : Hid (∀ X, Calls Try.prog 36 #[.int .i64 (q : Int)] X fun e w' => e = .returned (.int .i64 ((o : Int) - 1)) ∧ Below X.heap.size X w') := fun X => by have := HDP.out X; rwa [HO.out] at this
                  have ho1 : (o : Int) ≤ 1000 := by have := HO.out; omega
                  have eo : ((o : Int) == (o : Int) - 1 + 1) = true := by simp
                  have eo2 : ((o : Int) == (o : Int)) = true := by simp
                  clear HDK HDP ho hbK
                  go_wp2_with fail
                  refine (HDK2.out _).mono ?_
                  rintro e w20 ⟨rfl, hb20⟩
                  have B20 : Below w.heap.size w w20 := hBr.trans (hb20.mono hBr.size)
                  go_wp2_with fail
                  refine (HDP2.out _).mono ?_
                  rintro e w21 ⟨rfl, hb21⟩
                  have B21 : Below w.heap.size w w21 := B20.trans (hb21.mono B20.size)
                  go_wp2_with fail
                  refine (HDK2.out _).mono ?_
                  rintro e w22 ⟨rfl, hb22⟩
                  have B22 : Below w.heap.size w w22 := B21.trans (hb22.mono B21.size)
                  go_wp2_with fail
                  refine (HCK.out _).mono ?_
                  rintro e w23 ⟨g2, o2, c2, rfl, hg2, hO2, hb23⟩
                  have B23 : Below w.heap.size w w23 := B22.trans (hb23.mono B22.size)
                  have hH := has9_any g2 o2 _ c2 (K : Int) V w23 hO2.length (fun i hi => hO2.cellAt hi) (by unfold maxLen; omega)
                  rw [decide_eq_true HIN.out] at hH
                  go_wp2_with fail
                  refine hH.mono ?_
                  rintro e w24 ⟨rfl, hw24⟩
                  have HB : Hid (Below w.heap.size w w24) := by rw [Hid, hw24]; exact B23
                  clear hw24
                  go_wp2
                  go_ret
                  exact ⟨rfl, HB.out⟩
                · have HS := ones_step t
                  have HS2 : Hid (ones t = t % 2 + ones (t / 2)) := HS
                  clear HS
                  have t0 : (0 : Int) < (t : Int) := by omega
                  have hm2 : ((t : Int)).tmod 2 = ((t % 2 : Nat) : Int) := by rw [Int.tmod_eq_emod_of_nonneg (by omega)]; omega
                  have hd2 : ((t : Int)).tdiv 2 = ((t / 2 : Nat) : Int) := by rw [Int.tdiv_eq_ediv_of_nonneg (by omega)]; omega
                  have ho1 : (o : Int) ≤ 1000 := by omega
                  have HO : Hid (o + ones t = ones K) := ho
                  clear ho
                  go_wp2
                  go_round
                  case rel => exact ⟨t / 2, o + t % 2, by omega, by have h1 := HS2.out; have h2 := HO.out; omega, by go_num, by go_num⟩
                  case measure => simp [intOf]; omega
            · have hpk : parL k = -1 := by
                rw [parL, if_neg]
                intro h
                have := inB7.1 h
                omega
              rw [hpk]
              clear hpk
              go_wp2
              go_ret
              exact ⟨rfl, hBr⟩
end Go.Proofs.Ytjefneaghlohlaa
