/-
  Several texts in one: LawSt.
-/
import Derived.Test.YtfkgkdjnlpihaaaLv
import Derived.Test.YtfkgkdjnlpihaaaGb
import Derived.BigQuiet
/-
  The law FnStable FROM what the program's functions of frontiers answer.
-/
namespace Go.Proofs.Ytfkgkdjnlpihaaa
set_option linter.unusedVariables false
set_option linter.unusedSimpArgs false
open Go.RowKit Go.Sort

theorem ans_i3 {w w' : World} {e : Ending} {Z : List Int} (hf : Fits Z) (h : AnsI3 w w' e Z) : ∃ a c, e = .returned (.slice a Z.length c) ∧ Vec w' a Z.length Z ∧ (Z.length ≤ c ∧ c ≤ maxLen) ∧ Below w.heap.size w w' := by
  obtain ⟨a, c, he, hN⟩ := h
  obtain ⟨x, cx, e, hv, h1, h2⟩ := vw_icl (It.vw1 (It.of_newO hN)) hf
  cases e
  exact ⟨a, c, he, hv, ⟨h1, h2⟩, hN.choose_spec.2.2⟩
/-- Has one of the first k that are alive this number there? -/
def metB (H : List (List Int)) (al : List Bool) (Z : List Int) (i : Nat) : Nat → Bool
  | 0 => false
  | k + 1 => metB H al Z i k || (fl al k && el (row H k) i == el Z i)
theorem metB_of {H : List (List Int)} {al : List Bool} {Z : List Int} {i m : Nat} (hf : fl al m = true) (he : el (row H m) i = el Z i) : ∀ {k}, m < k → metB H al Z i k = true
  | k + 1, hk => by
    unfold metB
    by_cases e : m = k
    · subst e; simp [hf, he]
    · rw [metB_of hf he (k := k) (by omega)]; rfl
theorem fl_set {al : List Bool} {x i : Nat} (h : fl al i = true) : fl (al.set x true) i = true := by
  unfold fl at h ⊢
  rw [List.getD_eq_getElem?_getD] at h ⊢
  rw [List.getElem?_set]
  by_cases e : x = i
  · subst e
    by_cases h2 : x < al.length
    · simp [h2]
    · simp [List.getElem?_eq_none (by omega : al.length ≤ x)] at h
  · rw [if_neg e]; exact h
theorem flag_news {w : World} {b off : Nat} {al : List Bool} (h : ∀ i, i < al.length → w.cell? ⟨b, off + i, none⟩ = some (.bool (fl al i))) (j : Nat) (u : Value) (hu : (bov al)[j]? = some u) : w.cell? ((⟨b, off, none⟩ : Addr).add j) = some u := by
  have hj : j < al.length := by
    have := (List.getElem?_eq_some_iff.1 hu).1
    simpa [bov] using this
  rw [add_lit0, h j hj, ← bov_get hj]
  exact hu
set_option maxRecDepth 100000 in
set_option maxHeartbeats 6400000 in
/-- The law FnStable. -/
theorem lawFnStable (hRo : ImplRowsOk) (hSt : ImplStable) (hCo : ImplColumn) (hLg : ImplLag) (a : Option Addr) (len cap : Nat) (bs : Nat → Int) (w : World) (hv : BVec w a len bs) :
    Calls Try.prog 4 #[.slice a len cap] w fun e w' => e = .returned (.bool true) ∧ Below w.heap.size w w' := by
  have hmix := mixed13
  by_cases hbig : (4096 : Int) < (len : Int)
  · have hB := big_any a len cap w
    rw [decide_eq_true hbig] at hB
    go_enter Try.func4, Try.ntmps4
    go_wp2_with fail
    refine hB.mono ?_
    rintro e w1 ⟨rfl, hw1⟩
    have HW : Hid (w1 = w) := hw1
    clear hw1
    go_wp2
    go_ret
    exact ⟨rfl, by rw [HW.out]; exact Below.refl _ _⟩
  · have hB := big_any a len cap w
    rw [decide_eq_false hbig] at hB
    have hl : len ≤ 4096 := by omega
    obtain ⟨i0, hi0, hz0, hz1, hz2⟩ := info_parts2n Try.info4b
    go_enter Try.func4, Try.ntmps4
    go_wp2_with fail
    refine hB.mono ?_
    rintro e w0 ⟨rfl, hw0⟩
    have B0 : Below w.heap.size w w0 := by rw [hw0]; exact Below.refl _ _
    clear hw0 hB
    go_wp2_with fail
    refine (drawSt_any a len cap bs w0 (hv.below B0 (Nat.le_refl _)) hl).mono ?_
    rintro e w1 ⟨H, a1, c1, al, a2, c2, rfl, ⟨hV1, hSm⟩, ⟨hF1, hac, hcm, ha5⟩, hb1⟩
    have B1 : Below w.heap.size w w1 := B0.trans (hb1.mono B0.size)
    obtain ⟨hZf, hZ8⟩ := stL_fits H al
    have hS1 : ∀ X, Below w1.heap.size w1 X → Calls Try.prog 28 #[.slice a1 H.length c1, .slice a2 al.length c2] X fun e w' => ∃ a c, e = .returned (.slice a (stL H al).length c) ∧ Vec w' a (stL H al).length (stL H al) ∧ ((stL H al).length ≤ c ∧ c ≤ maxLen) ∧ Below X.heap.size X w' := fun X h => (hSt a1 c1 H a2 c2 al X (hV1.below h) (hF1.below h) hac hcm (by omega)).mono (fun e w' h => ans_i3 hZf h)
    have hS2 : ∀ X, Below w1.heap.size w1 X → Calls Try.prog 30 #[.slice a1 H.length c1, .slice a2 al.length c2] X fun e w' => ∃ a c, e = .returned (.slice a (stL H al).length c) ∧ Vec w' a (stL H al).length (stL H al) ∧ ((stL H al).length ≤ c ∧ c ≤ maxLen) ∧ Below X.heap.size X w' := fun X h => (stbS_any a1 a2 H.length c1 c2 H al X (hV1.below h) (hF1.below h) (by unfold maxLen; omega)).mono (fun e w' h => ans_i3 hZf h.i3)
    have HMORE : Hid (∀ x, stL H al ≠ [] → underB (stL H (al.set x true)) (stL H al) = true) := fun x hne => stL_more (by rw [List.length_set]) (fun i hi => fl_set hi) hne
    have HNE : Hid (stL H al ≠ [] → okFr H = true ∧ al.length = H.length) := stL_ne
    have HIS : Hid (okFr H = true → al.length = H.length → IsSt H al H.length (stL H al)) := fun h1 h2 => stL_is h1 h2
    have HLP : Hid (∀ (who : Int), okFr H = true → 0 ≤ who → who < (H.length : Int) → 0 ≤ lagL H who) := fun who h1 h2 h3 => lagL_pos h1 h2 h3
    generalize hZZ : stL H al = Z at *
    clear hZZ hb1
    go_wp2_with fail
    refine (hS1 w1 (Below.refl _ _)).mono ?_
    rintro e w2 ⟨sa, sc, rfl, hVs, hsc, hb2⟩
    have B2 : Below w.heap.size w w2 := B1.trans (hb2.mono B1.size)
    go_wp2_with fail
    refine (drawCo_any a len cap bs w2 (hv.below B2 (Nat.le_refl _)) hl).mono ?_
    rintro e w3 ⟨C, ca, cc, k, rfl, ⟨hVC, hSmC⟩, hkb, hb3⟩
    have B3 : Below w.heap.size w w3 := B2.trans (hb3.mono B2.size)
    have D13' : Below w1.heap.size w1 w3 := hb2.trans (hb3.mono hb2.size)
    have hVs3 := hVs.below hb3 (Nat.le_refl _)
    have hk64 : I64f k := ⟨by omega, by omega⟩
    obtain ⟨hQf, hQ8⟩ := colL_fits C k
    have hC1 : ∀ X, Below w3.heap.size w3 X → Calls Try.prog 31 #[.slice ca C.length cc, .int .i64 k] X fun e w' => ∃ a c, e = .returned (.slice a (colL C k).length c) ∧ Vec w' a (colL C k).length (colL C k) ∧ ((colL C k).length ≤ c ∧ c ≤ maxLen) ∧ Below X.heap.size X w' := fun X h => (hCo ca cc C k X (hVC.below h) hk64).mono (fun e w' h => ans_i3 hQf h)
    have hC2 : ∀ X, Below w3.heap.size w3 X → Calls Try.prog 32 #[.slice ca C.length cc, .int .i64 k] X fun e w' => ∃ a c, e = .returned (.slice a (colL C k).length c) ∧ Vec w' a (colL C k).length (colL C k) ∧ ((colL C k).length ≤ c ∧ c ≤ maxLen) ∧ Below X.heap.size X w' := fun X h => (colS_any ca C.length cc C k X (hVC.below h) hk64).mono (fun e w' h => ans_i3 hQf h.i3)
    have hL1 : ∀ X, Below w3.heap.size w3 X → Calls Try.prog 33 #[.slice ca C.length cc, .int .i64 k] X fun e w' => e = .returned (.int .i64 (lagL C k)) ∧ Below X.heap.size X w' := fun X h => hLg ca cc C k X (hVC.below h) hk64
    have hL2 : ∀ X, Below w3.heap.size w3 X → Calls Try.prog 34 #[.slice ca C.length cc, .int .i64 k] X fun e w' => e = .returned (.int .i64 (lagL C k)) ∧ Below X.heap.size X w' := fun X h => lagS_any ca C.length cc C k X (hVC.below h) hk64
    have hR1 : ∀ X, Below w1.heap.size w1 X → Calls Try.prog 35 #[.slice a1 H.length c1] X fun e w' => e = .returned (.bool (okFr H)) ∧ Below X.heap.size X w' := fun X h => hRo a1 c1 H X (hV1.below h)
    have hR2 : ∀ X, Below w1.heap.size w1 X → Calls Try.prog 36 #[.slice a1 H.length c1] X fun e w' => e = .returned (.bool (okFr H)) ∧ Below X.heap.size X w' := fun X h => (froS_any a1 H.length c1 H X (hV1.below h)).mono (fun e w' ⟨h1, q, h2⟩ => ⟨h1, by rw [h2]; exact belowN (Below.refl _ _)⟩)
    have hLike : ∀ (X : World) (x1 x2 : Option Addr) (y1 y2 : Nat) (Q : List Int), Vec X x1 Q.length Q → Vec X x2 Q.length Q → Q.length ≤ 8 → Calls Try.prog 15 #[.slice x1 Q.length y1, .slice x2 Q.length y2] X fun e w' => e = .returned (.bool true) ∧ Below X.heap.size X w' := fun X x1 x2 y1 y2 Q h1 h2 h3 => (like_any x1 x2 Q.length y1 Q.length y2 Q Q X h1 h2 (by unfold maxLen; omega)).mono (fun e w' ⟨e1, q, e2⟩ => ⟨by rw [e1, sameB_self], by rw [e2]; exact belowN (Below.refl _ _)⟩)
    generalize colL C k = Q at *
    generalize lagL C k = LG at *
    have hlq : (LG != LG) = false := by simp
    have hoq : (okFr H != okFr H) = false := by simp
    clear hb2 hVs
    go_wp2_with fail
    refine (hS2 w3 D13').mono ?_
    rintro e w4 ⟨xa, xc, rfl, hVx, hxc, hb4⟩
    go_wp2_with fail
    refine (hLike w4 sa xa sc xc Z (hVs3.below hb4 (Nat.le_refl _)) hVx hZ8).mono ?_
    rintro e w5 ⟨rfl, hb5⟩
    have E5 : Below w3.heap.size w3 w5 := hb4.trans (hb5.mono hb4.size)
    clear hVx
    go_wp2_with fail
    refine (hC1 w5 E5).mono ?_
    rintro e w6 ⟨ya, yc, rfl, hVy, hyc, hb6⟩
    have E6 : Below w3.heap.size w3 w6 := E5.trans (hb6.mono E5.size)
    go_wp2_with fail
    refine (hC2 w6 E6).mono ?_
    rintro e w7 ⟨za, zc, rfl, hVz, hzc, hb7⟩
    have E7 : Below w3.heap.size w3 w7 := E6.trans (hb7.mono E6.size)
    go_wp2_with fail
    refine (hLike w7 ya za yc zc Q (hVy.below hb7 (Nat.le_refl _)) hVz hQ8).mono ?_
    rintro e w8 ⟨rfl, hb8⟩
    have E8 : Below w3.heap.size w3 w8 := E7.trans (hb8.mono E7.size)
    clear hVy hVz hb4 hb5 hb6 hb7 hb8 E5 E6 E7
    go_wp2_with fail
    refine (hL1 w8 E8).mono ?_
    rintro e w9 ⟨rfl, hb9⟩
    have E9 : Below w3.heap.size w3 w9 := E8.trans (hb9.mono E8.size)
    go_wp2_with fail
    refine (hL2 w9 E9).mono ?_
    rintro e wA ⟨rfl, hbA⟩
    have EA : Below w3.heap.size w3 wA := E9.trans (hbA.mono E9.size)
    have FA : Below w1.heap.size w1 wA := D13'.trans (EA.mono D13'.size)
    go_wp2_with fail
    refine (hR1 wA FA).mono ?_
    rintro e wB ⟨rfl, hbB⟩
    have FB : Below w1.heap.size w1 wB := FA.trans (hbB.mono FA.size)
    have EB : Below w3.heap.size w3 wB := EA.trans (hbB.mono EA.size)
    go_wp2_with fail
    refine (hR2 wB FB).mono ?_
    rintro e wC ⟨rfl, hbC⟩
    have FC : Below w1.heap.size w1 wC := FB.trans (hbC.mono FB.size)
    have EC : Below w3.heap.size w3 wC := EB.trans (hbC.mono EB.size)
    have BC : Below w.heap.size w wC := B3.trans (EC.mono B3.size)
    have VC := hVs3.below EC (Nat.le_refl _)
    have RC := hV1.below FC
    have PC := hF1.below FC
    clear E8 E9 EA EB FA FB hb9 hbA hbB hbC hC1 hC2 hL1 hL2 hR1 hR2 hS2 hlq hoq hVs3
    by_cases hZ0 : Z = []
    · subst hZ0
      have HB : Hid (Below w.heap.size w wC) := BC
      clear BC VC RC PC
      go_wp2
      go_ret
      exact ⟨rfl, HB.out⟩
    · obtain ⟨hok, hal⟩ := HNE.out hZ0
      have hZn : ((Z.length : Int) == 0) = false := by
        have : Z.length ≠ 0 := fun h => hZ0 (List.eq_nil_of_length_eq_zero h)
        simp; omega
      have h8 := (okFr_iff.1 hok).1
      obtain ⟨b2, o2, rfl, hfc⟩ : ∃ b off, a2 = some ⟨b, off, none⟩ ∧ ∀ i, i < al.length → wC.cell? ⟨b, off + i, none⟩ = some (.bool (fl al i)) := by
        rcases PC with h | h
        · omega
        · exact h
      obtain ⟨z1, z2, z3, z4⟩ : Z.length = (row H 0).length ∧ okB Z = true ∧ (∀ i, i < H.length → fl al i = true → ∀ j, j < Z.length → el Z j ≤ el (row H i) j) ∧ ∀ j, j < Z.length → ∃ i, i < H.length ∧ fl al i = true ∧ el (row H i) j = el Z j := by
        rcases HIS.out hok hal with ⟨h, _⟩ | h
        · exact absurd h hZ0
        · exact h
      have HZ3 : Hid (∀ i, i < H.length → fl al i = true → ∀ j, j < Z.length → el Z j ≤ el (row H i) j) := z3
      have HZ4 : Hid (∀ j, j < Z.length → ∃ i, i < H.length ∧ fl al i = true ∧ el (row H i) j = el Z j) := z4
      have HRL : Hid (∀ m, m < H.length → (row H m).length = Z.length) := fun m hm => by rw [((okFr_iff.1 hok).2 m hm).2, z1]
      have hZ1 := (okB_len z2).1
      obtain ⟨b, off, rfl, hrc⟩ := vv_cells RC (by omega)
      have HRC : Hid (RwC wC b off H.length H) := hrc
      obtain ⟨bz, oz, rfl, hzcell⟩ := VC.cells hZ1
      have HZC : Hid (∀ i, i < Z.length → wC.cell? ⟨bz, oz + i, none⟩ = some (.int .i64 (el Z i))) := hzcell
      have HFC : Hid (∀ i, i < al.length → wC.cell? ⟨b2, o2 + i, none⟩ = some (.bool (fl al i))) := hfc
      have HAL : Hid (al.length = H.length) := hal
      have HVC : Hid (Vec wC (some ⟨bz, oz, none⟩) Z.length Z) := VC
      have HPC : Hid (FlS wC (some ⟨b2, o2, none⟩) al) := PC
      have HOK : Hid (okFr H = true) := hok
      have HBC : Hid (Below w.heap.size w wC) := BC
      have HZ0 : Hid (Z ≠ []) := hZ0
      have hal1 : 1 ≤ al.length := by omega
      clear z1 z2 z3 z4 hrc hzcell hfc VC RC PC hok BC hZ0 hal HIS HNE hS1 hRo hCo
      go_wp2_with fail
      go_loopw [8] (fun i wr => ∃ j q : Nat, j ≤ Z.length ∧ i = .int .i64 (j : Int) ∧ wr = wC.drewN q) (fun i _ => Z.length - (intOf i).toNat)
      case atStart => exact ⟨0, 0, Nat.zero_le _, rfl, rfl⟩
      case round =>
        obtain ⟨j, q, hj, rfl, rfl⟩ := hrel
        by_cases hjl : j < Z.length
        · have j1 : (j : Int) < (Z.length : Int) := by omega
          have j0 : (0 : Int) ≤ (j : Int) := by omega
          have hcz := HZC.out j hjl
          have HMET : Hid (metB H al Z j H.length = true) := by
            obtain ⟨m, h1, h2, h3⟩ := HZ4.out j hjl
            exact metB_of h2 h3 h1
          go_wp2_with fail
          go_loopw [9, 10] (fun f i wr => ∃ m q2 : Nat, m ≤ H.length ∧ i = .int .i64 (m : Int) ∧ f = .bool (metB H al Z j m) ∧ wr = wC.drewN q2) (fun _ i _ => H.length - (intOf i).toNat)
          case atStart => exact ⟨0, q, Nat.zero_le _, rfl, rfl, rfl⟩
          case round =>
            obtain ⟨m, q2, hm, rfl, rfl, rfl⟩ := hrel
            by_cases hml : m < H.length
            · have m1 : (m : Int) < (H.length : Int) := by omega
              have m2 : (m : Int) < (al.length : Int) := by have := HAL.out; omega
              have m0 : (0 : Int) ≤ (m : Int) := by omega
              have hcf := HFC.out m (by have := HAL.out; omega)
              obtain ⟨x, cx, hcx, hvx, hlx, hmx⟩ := HRC.out m hml
              rw [HRL.out m hml] at hcx hvx
              obtain ⟨bx, ox, rfl, hxc⟩ := hvx.cells hZ1
              have hcE := hxc j hjl
              have HST : Hid (metB H al Z j (m + 1) = (metB H al Z j m || (fl al m && el (row H m) j == el Z j))) := rfl
              have HLE : Hid (fl al m = true → el Z j ≤ el (row H m) j) := fun h => HZ3.out m hml h j hjl
              generalize hM1 : metB H al Z j (m + 1) = M1 at *
              generalize metB H al Z j m = M0 at *
              generalize el (row H m) j = E at *
              generalize el Z j = EZ at *
              clear hvx hxc hlx
              cases hfl : fl al m with
              | false =>
                rw [hfl] at hcf
                cases M0 with
                | true =>
                  have HN : Hid (M1 = true) := by rw [Hid, HST.out]; rfl
                  go_wp2_with fail
                  go_quiet (fail)
                  go_wp2_with fail
                  go_quiet (fail)
                  go_wp2
                  go_roundw
                  case rel => exact ⟨m + 1, _, by omega, by go_num, by rw [hM1, HN.out], rfl⟩
                  case measure => simp [intOf]; omega
                | false =>
                  have HN : Hid (M1 = false) := by rw [Hid, HST.out, hfl]; rfl
                  go_wp2_with fail
                  go_quiet (fail)
                  go_wp2_with fail
                  go_quiet (fail)
                  go_wp2
                  go_roundw
                  case rel => exact ⟨m + 1, _, by omega, by go_num, by rw [hM1, HN.out], rfl⟩
                  case measure => simp [intOf]; omega
              | true =>
                have hle := HLE.out hfl
                have hdl : decide (E < EZ) = false := by simp; omega
                rw [hfl] at hcf
                cases M0 with
                | true =>
                  have HN : Hid (M1 = true) := by rw [Hid, HST.out]; rfl
                  clear hle
                  go_wp2_with fail
                  go_quiet (fail)
                  go_wp2_with fail
                  go_quiet (fail)
                  go_wp2
                  go_roundw
                  case rel => exact ⟨m + 1, _, by omega, by go_num, by rw [hM1, HN.out], rfl⟩
                  case measure => simp [intOf]; omega
                | false =>
                  have HN : Hid (M1 = (E == EZ)) := by rw [Hid, HST.out, hfl]; simp
                  clear hle
                  go_wp2_with fail
                  go_quiet (fail)
                  go_wp2_with fail
                  go_quiet (fail)
                  go_wp2
                  go_roundw
                  case rel => exact ⟨m + 1, _, by omega, by go_num, by rw [hM1, HN.out], rfl⟩
                  case measure => simp [intOf]; omega
            · have m1 : ¬ ((m : Int) < (H.length : Int)) := by omega
              obtain rfl : m = H.length := by omega
              rw [HMET.out]
              go_wp2
              go_roundw
              case rel => exact ⟨j + 1, _, by omega, by go_num, rfl⟩
              case measure => simp [intOf]; omega
        · have j1 : ¬ ((j : Int) < (Z.length : Int)) := by omega
          obtain ⟨W, hW⟩ : ∃ W, wC.drewN q = W := ⟨_, rfl⟩
          have BW : Below wC.heap.size wC W := by rw [← hW]; exact belowN (Below.refl _ _)
          rw [hW]
          clear hW HRC HZC HZ3 HZ4 HRL
          have hsW := BW.size
          have hfW : ∀ i, i < al.length → W.cell? ⟨b2, o2 + i, none⟩ = some (.bool (fl al i)) := fun i hi => (BW.cell (World.block_lt_of_cell? _ _ (HFC.out i hi))).trans (HFC.out i hi)
          have hfW1 : ∀ i, i < al.length → (W.alloc (.cells #[] 4)).cell? ⟨b2, o2 + i, none⟩ = some (.bool (fl al i)) := fun i hi => ((one_alloc10 W (.cells #[] 4)).cell (World.block_lt_of_cell? _ _ (hfW i hi))).trans (hfW i hi)
          have LO2 : OSl (W.alloc (.cells #[] 4)) 1 W.heap.size 0 0 0 [] := ⟨rfl, Nat.le_refl _, Nat.zero_le _, by simp, fun i hi => by simp at hi, fun i hi => by simp at hi, fun i hi => by simp at hi⟩
          have hnews := flag_news hfW1
          have hln : (bov al).length = al.length * 1 := by simp [bov]
          have hone : ∀ u ∈ bov al, u.oneCell' = true := fun u hu => by
            simp only [bov, List.mem_map] at hu
            obtain ⟨x, _, rfl⟩ := hu
            rfl
          clear hfW hfW1 HFC
          go_wp2_with (at_builtin; refine wpList_append_os _ rfl _ _ _ rfl 4 i0 _ 1 1 Try.underlying34 hi0 hz0 hz1 hz2 rfl (by omega) W.heap.size 0 0 0 _ rfl LO2 ⟨b2, o2, none⟩ al.length c2 (bov al) rfl hln hnews hone (by unfold maxLen; omega) (by omega) ?_; intro g6 o6 c6 w6 hO6 hg6 hat6)
          rw [Nat.zero_add] at hO6
          have hO6' : OF w6 g6 o6 al.length c6 al := hO6
          have G6 : wC.heap.size ≤ g6 := by
            rcases hat6 with h | h
            · rw [h]; exact hsW
            · rw [h]; exact Nat.le_trans hsW (by simp)
          have B6 : Below wC.heap.size wC w6 := below_grown6 (BW.alloc BW.size _) hg6 hsW (Nat.le_trans hsW (by simp))
          clear hO6 hg6 hat6 hnews hln hone LO2
          have hH4 := hSm.2.1
          have hPk := pick_any a len cap bs 1 (H.length : Int) w6 (hv.below (HBC.out.trans (B6.mono HBC.out.size)) (Nat.le_refl _)) hl (by omega) (by omega) (by omega) (by omega)
          refine hPk.mono ?_
          rintro e w7 ⟨x, rfl, hx0, hx1, hw7⟩
          rw [hw7]
          clear hw7 hPk
          obtain ⟨X, rfl⟩ : ∃ X : Nat, x = (X : Int) := ⟨x.toNat, by omega⟩
          have hXl : X < al.length := by have := HAL.out; omega
          have X1 : (X : Int) < (al.length : Int) := by omega
          have hc9 := hO6'.cellAt hXl
          have hf9 := hO6'.free X (by have := hO6'.le; omega)
          have O8 : OF (w6.setCell ⟨g6, o6 + X, none⟩ (.bool true)) g6 o6 al.length c6 (al.set X true) := hO6'.set hXl true
          have B8 : Below wC.heap.size wC (w6.setCell ⟨g6, o6 + X, none⟩ (.bool true)) := B6.setCell (p := ⟨g6, o6 + X, none⟩) G6 _
          have hle9 := hO6'.le
          have hmx9 := hO6'.max
          go_wp2_with fail
          generalize hW8 : w6.setCell ⟨g6, o6 + X, none⟩ (.bool true) = W8 at *
          clear hc9 hf9 hO6' B6
          go_loopw [12, 13] (fun z i wr => ∃ j : Nat, j ≤ H.length ∧ i = .int .i64 (j : Int) ∧ z = .bool false ∧ Below W8.heap.size W8 wr) (fun _ i _ => H.length - (intOf i).toNat)
          case atStart => exact ⟨0, Nat.zero_le _, rfl, rfl, Below.refl _ _⟩
          case round =>
            obtain ⟨y, hy, rfl, rfl, hB9⟩ := hrel
            have C9 : Below wC.heap.size wC wr := B8.trans (hB9.mono B8.size)
            have HF9 := FC.trans (C9.mono FC.size)
            by_cases hyl : y < H.length
            · have y1 : (y : Int) < (H.length : Int) := by omega
              have hL := hLg (some ⟨b, off, none⟩) c1 H (y : Int) wr (hV1.below HF9) ⟨by omega, by omega⟩
              have hp := HLP.out (y : Int) HOK.out (by omega) y1
              have hpn : decide (lagL H (y : Int) < 0) = false := by simp; omega
              clear C9 HF9 hp
              generalize lagL H (y : Int) = LL at *
              go_wp2_with fail
              refine hL.mono ?_
              rintro e wD ⟨rfl, hbD⟩
              have ND : Hid (Below W8.heap.size W8 wD) := hB9.trans (hbD.mono hB9.size)
              clear hL hbD hB9
              go_wp2
              go_roundw
              case rel => exact ⟨y + 1, by omega, by go_num, rfl, ND.out⟩
              case measure => simp [intOf]; omega
            · have y1 : ¬ ((y : Int) < (H.length : Int)) := by omega
              have O9 : OF wr g6 o6 al.length c6 (al.set X true) := OSl.below O8 hB9 O8.blk
              have F9 : FlS wr (some ⟨g6, o6, none⟩) (al.set X true) := by
                have : OF wr g6 o6 (al.set X true).length c6 (al.set X true) := by rw [List.length_set]; exact O9
                exact this.fls
              obtain ⟨hMf, hM8⟩ := stL_fits H (al.set X true)
              have hS9 := (hSt (some ⟨b, off, none⟩) c1 H (some ⟨g6, o6, none⟩) c6 (al.set X true) wr (hV1.below HF9) F9 (by rw [List.length_set]; exact hle9) hmx9 (by rw [List.length_set]; omega)).mono (fun e w' h => ans_i3 hMf h)
              rw [List.length_set] at hS9
              have HU : Hid (underB (stL H (al.set X true)) Z = true) := HMORE.out X HZ0.out
              generalize stL H (al.set X true) = MS at *
              have HC9 : Hid (Below wC.heap.size wC wr) := C9
              have HV9 : Hid (Vec wr (some ⟨bz, oz, none⟩) Z.length Z) := HVC.out.below C9 (Nat.le_refl _)
              clear C9 HF9 O9 F9 hB9
              go_wp2_with fail
              refine hS9.mono ?_
              rintro e wD ⟨ma, mcp, rfl, hVm, hmc, hbD⟩
              have hU := implUnder_any ma (some ⟨bz, oz, none⟩) MS.length mcp Z.length sc MS Z wD hVm (HV9.out.below hbD (Nat.le_refl _)) hmc.1 hsc.1 hmc.2 hsc.2
              rw [HU.out] at hU
              have HBD : Hid (Below w.heap.size w wD) := HBC.out.trans ((HC9.out.trans (hbD.mono HC9.out.size)).mono HBC.out.size)
              clear hVm hbD hS9
              go_wp2_with fail
              refine hU.mono ?_
              rintro e wE ⟨rfl, q9, hwE⟩
              have HBE : Hid (Below w.heap.size w wE) := by rw [hwE]; exact belowN HBD.out
              clear hwE hU
              go_wp2
              go_ret
              exact ⟨rfl, HBE.out⟩
end Go.Proofs.Ytfkgkdjnlpihaaa
