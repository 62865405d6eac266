/-
  Several texts in one: LawAny.
-/
import Derived.Test.YtbgkfiijfocgiaaHx
import Derived.Test.YtbgkfiijfocgiaaHu
/-
  The walk of the law FnAnyRule: in whatever order rules are fired it comes to the same, and no rule goes above it.
-/
namespace Go.Proofs.Ytbgkfiijfocgiaa
set_option linter.unusedSimpArgs false
set_option linter.unusedVariables false
open Go.RowKit Go.Sort

theorem fired_told {x : List Int} {rs : List Ru} {r : Ru} (hx : Ok8 x) (hr : okRu r = true) : firedL x r = fire x r := by
  unfold firedL
  rw [if_pos (told_iff.2 ⟨hx, by rw [okRs_one]; exact hr⟩)]

set_option maxRecDepth 100000 in
set_option maxHeartbeats 6400000 in
/-- The law FnAnyRule. -/
theorem lawAnyRule (hSe : ImplSettled) (hSt : ImplSteady) (hFi : ImplFired) (a : Option Addr) (len cap : Nat) (bs : Nat → Int) (w : World) (hv : BVec w a len bs) :
    Calls Try.prog 5 #[.slice a len cap] w fun e w' => e = .returned (.bool true) ∧ Below w.heap.size w w' := by
  obtain ⟨i0, hi0, hz0, hz1, hz2⟩ := info_parts2n Try.info2n
  by_cases hbig : (4096 : Int) < (len : Int)
  · have hd : decide ((4096 : Int) < (len : Int)) = true := by simpa using hbig
    go_enter Try.func5, Try.ntmps5
    go_wp2_with fail
    refine (big_any a len cap w).mono ?_
    rintro e w1 ⟨rfl, rfl⟩
    go_wp2
    go_ret
    exact ⟨rfl, Below.refl _ _⟩
  · have hd : decide ((4096 : Int) < (len : Int)) = false := by simpa using hbig
    have hl : len ≤ 4096 := by omega
    go_enter Try.func5, Try.ntmps5
    go_wp2_with fail
    refine (big_any a len cap w).mono ?_
    rintro e w0 ⟨rfl, hw0⟩
    have hv0 : BVec w0 a len bs := by rw [hw0]; exact hv
    have hb0 : Below w.heap.size w w0 := by rw [hw0]; exact Below.refl _ _
    clear hw0 hv
    go_wp2_with fail
    refine (drawSettled_any a len cap bs w0 hv0 hl).mono ?_
    rintro e w1 ⟨v, r, zs, rs, rfl, hV, hR, _, hr30, hb1, _⟩
    have B1 : Hid (Below w.heap.size w w1) := hb0.trans (hb1.mono hb0.size)
    have C1 : Hid (BVec w1 a len bs) := hv0.below hb1 (Nat.le_refl _)
    clear hb1 hv0 hb0
    go_wp2_with fail
    refine (setS v r zs rs w1 hV hR).mono ?_
    rintro e w2 ⟨s, Z, rfl, hZ, hVZ, hb2⟩
    have K2 : Hid (Tk w w2 a len bs v r s zs rs Z) := ⟨B1.out.trans (hb2.mono B1.out.size), C1.out.below hb2 (Nat.le_refl _), hV.below hb2, hR.below hb2, hVZ⟩
    have HZ : Hid (IsSettled zs rs Z) := hZ
    clear hb2 hV hR hVZ hZ B1 C1
    go_wp2_with fail
    refine (drawFired_any a len cap bs w2 K2.out.code hl).mono ?_
    rintro e w3 ⟨x, xs, q, rfl, hX, hb3⟩
    have K3 : Hid (Tk w w3 a len bs v r s zs rs Z) := K2.out.step hb3
    have hc0 : (w3.alloc (.cells #[.int .i64 q.to, .int .i64 q.fr, .int .i64 q.pl, .int .i64 q.mo] 40)).cell? ⟨w3.heap.size, 0, none⟩ = some (.int .i64 q.to) := by simp
    have hc1 : (w3.alloc (.cells #[.int .i64 q.to, .int .i64 q.fr, .int .i64 q.pl, .int .i64 q.mo] 40)).cell? ⟨w3.heap.size, 1, none⟩ = some (.int .i64 q.fr) := by simp
    have hc2 : (w3.alloc (.cells #[.int .i64 q.to, .int .i64 q.fr, .int .i64 q.pl, .int .i64 q.mo] 40)).cell? ⟨w3.heap.size, 2, none⟩ = some (.int .i64 q.pl) := by simp
    have hc3 : (w3.alloc (.cells #[.int .i64 q.to, .int .i64 q.fr, .int .i64 q.pl, .int .i64 q.mo] 40)).cell? ⟨w3.heap.size, 3, none⟩ = some (.int .i64 q.mo) := by simp
    have G3 : Below w3.heap.size w3 (w3.alloc (.cells #[.int .i64 q.to, .int .i64 q.fr, .int .i64 q.pl, .int .i64 q.mo] 40)) := (Below.refl _ _).alloc (Nat.le_refl _) _
    obtain ⟨W, hW⟩ : ∃ W, w3.alloc (.cells #[.int .i64 q.to, .int .i64 q.fr, .int .i64 q.pl, .int .i64 q.mo] 40) = W := ⟨_, rfl⟩
    rw [hW] at hc0 hc1 hc2 hc3 G3
    have K4 : Hid (Tk w W a len bs v r s zs rs Z) := K3.out.step G3
    have X4 : VecV W x xs := hX.below G3
    have cB : ∀ (X : World) (x : Addr) (v : Value), W.cell? x = some v → Below W.heap.size W X → X.cell? x = some v := fun X x v h hb => (hb.cell (World.block_lt_of_cell? _ _ h)).trans h
    have KC : ∀ X, Below W.heap.size W X → X.cell? ⟨w3.heap.size, 0, none⟩ = some (.int .i64 q.to) ∧ X.cell? ⟨w3.heap.size, 1, none⟩ = some (.int .i64 q.fr) ∧ X.cell? ⟨w3.heap.size, 2, none⟩ = some (.int .i64 q.pl) ∧ X.cell? ⟨w3.heap.size, 3, none⟩ = some (.int .i64 q.mo) := fun X hX => ⟨cB X _ _ hc0 hX, cB X _ _ hc1 hX, cB X _ _ hc2 hX, cB X _ _ hc3 hX⟩
    have bd : Below W.heap.size W (W.drewN 1) := ((Grew.refl W).drewN 1).1
    have hFI := fun X (hX : VecV X x xs) => firI hFi x xs q X hX
    have hFS := fun X (hX : VecV X x xs) => firS x xs q X hX
    have sm : sameB (firedL xs q) (firedL xs q) = true := same_self _
    unfold ruV at *
    clear K2 K3 hb3 hX cB hc0 hc1 hc2 hc3 G3
    go_wp2_with fail
    have hmix := mixedR
    go_region_held3 (fun X => X.cell? ⟨w3.heap.size, 0, none⟩ = some (.int .i64 q.to) ∧ X.cell? ⟨w3.heap.size, 1, none⟩ = some (.int .i64 q.fr) ∧ X.cell? ⟨w3.heap.size, 2, none⟩ = some (.int .i64 q.pl) ∧ X.cell? ⟨w3.heap.size, 3, none⟩ = some (.int .i64 q.mo))
      (first
        | exact KC _ bC
        | exact KC _ bB
        | exact KC _ bA
        | exact KC _ bd)
      (first
        | (go_at_call 37; refine (hFI _ (X4.below bd)).mono ?_; rintro e wA ⟨ua, rfl, hVa, hbA⟩; have bA : Below W.heap.size W wA := bd.trans (hbA.mono bd.size))
        | (go_at_call 38; refine (hFS wA (X4.below bA)).mono ?_; rintro e wB ⟨ub, rfl, hVb, hbB⟩; have bB : Below W.heap.size W wB := bA.trans (hbB.mono bA.size))
        | (go_at_call 16; refine (likeV ua ub _ _ wB (hVa.below hbB) hVb).mono ?_; rw [sm]; rintro e wC ⟨rfl, hbC⟩; have bC : Below W.heap.size W wC := bB.trans (hbC.mono bB.size)))
    have K5 : Hid (Tk w wC a len bs v r s zs rs Z) := K4.out.step bC
    clear hVa hVb hbA hbB hbC bA bB bC bd X4 hFI hFS sm K4 KC hW
    obtain ⟨sa, sc, rfl, _, sc1, sc2⟩ := K5.out.s
    obtain ⟨ra, rc, rfl, hRS, rc1, rc2⟩ := K5.out.r
    obtain ⟨va, vc, rfl, hVV, vc1, vc2⟩ := K5.out.v
    have HK : Hid (∀ X, Below wC.heap.size wC X → Below w.heap.size w X) := fun X hX => K5.out.below.trans (hX.mono K5.out.below.size)
    unfold maxLen at sc2 rc2 vc2
    by_cases hzl : Z.length = 0
    · have b1 : ((Z.length : Int) == 0) = true := by rw [beq_iff_eq]; omega
      clear hzl
      go_wp2_with fail
      refine (setI hSe _ _ zs rs wC K5.out.v K5.out.r).mono ?_
      rintro e wD ⟨u, U, rfl, hU, hVU, hbD⟩
      have hUZ : U = Z := hU.unique HZ.out
      subst hUZ
      obtain ⟨ua', uc, rfl, _, uc1, uc2⟩ := hVU
      have HBD : Hid (Below w.heap.size w wD) := HK.out wD hbD
      have b3 : ((U.length : Int) == (U.length : Int)) = true := by simp
      clear hbD hU
      go_wp2
      go_ret
      exact ⟨rfl, HBD.out⟩
    · have b1 : ((Z.length : Int) == 0) = false := by rw [beq_eq_false_iff_ne]; omega
      by_cases hr0 : rs.length = 0
      · have b2 : ((rs.length : Int) == 0) = true := by rw [beq_iff_eq]; omega
        clear hr0
        go_wp2_with fail
        refine (setI hSe _ _ zs rs wC K5.out.v K5.out.r).mono ?_
        rintro e wD ⟨u, U, rfl, hU, hVU, hbD⟩
        have hUZ : U = Z := hU.unique HZ.out
        subst hUZ
        obtain ⟨ua', uc, rfl, _, uc1, uc2⟩ := hVU
        have HBD : Hid (Below w.heap.size w wD) := HK.out wD hbD
        have b3 : ((U.length : Int) == (U.length : Int)) = true := by simp
        clear hbD hU hzl
        go_wp2
        go_ret
        exact ⟨rfl, HBD.out⟩
      · have b2 : ((rs.length : Int) == 0) = false := by rw [beq_eq_false_iff_ne]; omega
        obtain ⟨ht, hset⟩ := told_ok HZ.out (fun h => hzl (by rw [h]; rfl))
        obtain ⟨hzs, hrs⟩ := told_iff.1 ht
        have HSET : Hid (IsSet zs rs Z) := hset
        have HZS : Hid (Ok8 zs) := hzs
        have HRS : Hid (okRs rs = true) := hrs
        have hz8 : zs.length = 8 := hzs.1
        have hZ8 : Z.length = 8 := hset.1.1.1
        have HFIN : Hid (∀ X, Low zs rs X → stdB X rs = true → X = Z) := fun X hX hs => (hX.done ((std_of (told_iff.2 ⟨hX.1, hrs⟩)).1 hs)).unique hset
        have HUND : Hid (∀ X, Low zs rs X → ∀ q ∈ rs, firedL X q = fire X q ∧ Low zs rs (fire X q) ∧ underB X (fire X q) = true ∧ underB (fire X q) Z = true) := fun X hX q hq => by
          have hok := okRs_mem hrs hq
          have hL := hX.fire hrs hq
          exact ⟨fired_told (rs := rs) hX.1 hok, hL, under8 hX.1 hL.1 (fire_up hX.1.1 hok), under8 hL.1 hset.1.1 (hL.2.2 Z hset.1.1 hset.1.2.1 hset.2)⟩
        rw [hz8] at hVV
        obtain ⟨vb, vo, rfl, hV8⟩ := v8_of hVV
        have HX1 : Hid (∀ i, i < zs.length → (wC.alloc (.cells #[] 2)).cell? ⟨vb, vo + i, none⟩ = some (.int .i64 (el zs i))) := fun i hi => cellB' (hV8 i (by omega)) _
        have K6 : Hid (Tk w wC a len bs (.slice (some ⟨vb, vo, none⟩) zs.length vc) (.slice ra rs.length rc) (.slice sa Z.length sc) zs rs Z) := K5.out
        have hrl : rs.length ≤ 20 := okRs_len hrs
        have hz8' : zs.length ≤ 8 := by omega
        clear ht hset hzs hrs hVV hV8 HK hRS hz8 hZ8
        go_wp2_with (at_builtin; refine wpList_append_os _ rfl _ _ _ rfl 2 i0 _ 1 8 Try.underlying24 hi0 hz0 hz1 hz2 rfl (by omega) wC.heap.size 0 0 0 (([] : List Int).map (Value.int .i64)) rfl (num_empty wC 2) ⟨vb, vo, none⟩ zs.length vc (zs.map (Value.int .i64)) rfl (by simp) (num_news HX1.out) (by simp [Value.oneCell']) (by unfold maxLen; omega) (by omega) ?_; intro gA fA cA wA hoA hgA hatA)
        have BA : Below wC.heap.size wC wA := below_grown6 ((Below.refl _ _).alloc (Nat.le_refl _) _) hgA (Nat.le_refl _) (by simp)
        have HVX : Hid (VecV wA (.slice (some ⟨gA, fA, none⟩) zs.length cA) zs) := by
          have h := hoA
          simp only [List.map_nil, List.nil_append, Nat.zero_add] at h
          have h' : OI wA gA fA zs.length cA zs := h
          exact ⟨_, cA, rfl, OI.vec h' HZS.out.fits, h'.le, h'.max⟩
        have K7 : Hid (Tk w wA a len bs (.slice (some ⟨vb, vo, none⟩) zs.length vc) (.slice ra rs.length rc) (.slice sa Z.length sc) zs rs Z) := K6.out.step BA
        clear hoA hgA hatA BA HX1 K5 K6
        go_wp2
        go_loopw [8, 9] (fun xv i wr => ∃ (k : Nat) (X : List Int), k ≤ 300 ∧ i = .int .i64 k ∧ Low zs rs X ∧ VecV wr xv X ∧ Tk w wr a len bs (.slice (some ⟨vb, vo, none⟩) zs.length vc) (.slice ra rs.length rc) (.slice sa Z.length sc) zs rs Z) (fun _ i _ => 300 - (intOf i).toNat)
        case atStart => exact ⟨0, zs, by omega, rfl, Low.start rs HZS.out, HVX.out, K7.out⟩
        case round =>
          obtain ⟨k, X, hk, rfl, hLow, hVX, hTk⟩ := hrel
          have LL : Hid (Low zs rs X) := hLow
          have LT : Hid (Tk w wr a len bs (.slice (some ⟨vb, vo, none⟩) zs.length vc) (.slice ra rs.length rc) (.slice sa Z.length sc) zs rs Z) := hTk
          have hX8 : X.length ≤ 8 := by rw [hLow.1.1]; exact Nat.le_refl _
          obtain ⟨xa, xc, rfl, hxv, xc1, xc2⟩ := hVX
          have LX : Hid (VecV wr (.slice xa X.length xc) X) := ⟨xa, xc, rfl, hxv, xc1, xc2⟩
          unfold maxLen at xc2
          clear hLow hTk K7 HVX hxv
          by_cases hlt : k < 300
          · have k1 : (k : Int) < 300 := by omega
            have hS1 := stdI hSt _ _ X rs wr LX.out LT.out.r
            cases hsd : stdB X rs with
            | true =>
              rw [hsd] at hS1
              have HXZ : Hid (sameB X Z = true) := by rw [Hid, HFIN.out X LL.out hsd]; exact same_self _
              go_wp2_with fail
              refine hS1.mono ?_
              rintro e y1 ⟨rfl, hby1⟩
              have LT1 : Hid (Tk w y1 a len bs (.slice (some ⟨vb, vo, none⟩) zs.length vc) (.slice ra rs.length rc) (.slice sa Z.length sc) zs rs Z) := LT.out.step hby1
              have LX1 : Hid (VecV y1 (.slice xa X.length xc) X) := LX.out.below hby1
              have hS2 := stdI hSt _ _ X rs y1 LX1.out LT1.out.r
              rw [hsd] at hS2
              clear hS1 hby1 LX
              go_wp2_with fail
              refine hS2.mono ?_
              rintro e y2 ⟨rfl, hby2⟩
              have LT2 : Hid (Tk w y2 a len bs (.slice (some ⟨vb, vo, none⟩) zs.length vc) (.slice ra rs.length rc) (.slice sa Z.length sc) zs rs Z) := LT1.out.step hby2
              have hLk := likeV _ _ X Z y2 (LX1.out.below hby2) LT2.out.s
              rw [HXZ.out] at hLk
              clear hS2 hby2 LX1 LT1
              go_wp2_with fail
              refine hLk.mono ?_
              rintro e y3 ⟨rfl, hby3⟩
              have HB : Hid (Below w.heap.size w y3) := (LT2.out.step hby3).below
              clear hby3 hLk
              go_wp2
              go_ret
              exact ⟨rfl, HB.out⟩
            | false =>
              rw [hsd] at hS1
              go_wp2_with fail
              refine hS1.mono ?_
              rintro e y1 ⟨rfl, hby1⟩
              have LT1 : Hid (Tk w y1 a len bs (.slice (some ⟨vb, vo, none⟩) zs.length vc) (.slice ra rs.length rc) (.slice sa Z.length sc) zs rs Z) := LT.out.step hby1
              have LX1 : Hid (VecV y1 (.slice xa X.length xc) X) := LX.out.below hby1
              have hPk := pick_any a len cap bs (k : Int) (rs.length : Int) y1 LT1.out.code hl (by omega) (by omega) (by omega) (by omega)
              clear hS1 hby1 LX LT
              go_wp2_with fail
              refine hPk.mono ?_
              rintro e y2 ⟨pk, rfl, hp0, hp1, hy2⟩
              obtain ⟨Y, rfl⟩ : ∃ Y : Nat, pk = (Y : Int) := ⟨pk.toNat, by omega⟩
              have hYl : Y < rs.length := by omega
              have LT2 : Hid (Tk w y2 a len bs (.slice (some ⟨vb, vo, none⟩) zs.length vc) (.slice ra rs.length rc) (.slice sa Z.length sc) zs rs Z) := by rw [hy2]; exact LT1.out
              have LX2 : Hid (VecV y2 (.slice xa X.length xc) X) := by rw [hy2]; exact LX1.out
              obtain ⟨ra', rc', hre, hRS, _, _⟩ := LT2.out.r
              simp only [Value.slice.injEq] at hre
              obtain ⟨rfl, _, rfl⟩ := hre
              rcases hRS.2 with h0 | ⟨rb, ro, hra, hcells⟩
              · omega
              · obtain ⟨c0, c1, c2, c3⟩ := hcells Y hYl
                subst hra
                obtain ⟨hfe, hfl, hu1, hu2⟩ := HUND.out X LL.out (ruAt rs Y) (ruAt_mem hYl)
                have hF := firI hFi _ X (ruAt rs Y) y2 LX2.out
                rw [hfe] at hF
                have LF : Hid (Low zs rs (fire X (ruAt rs Y))) := hfl
                unfold ruV at hF
                clear hPk LT1 LX1 hRS hcells hfl hfe hy2
                generalize fire X (ruAt rs Y) = FX at *
                go_wp2_with fail
                refine hF.mono ?_
                rintro e y3 ⟨fu, rfl, hVf, hby3⟩
                have LT3 : Hid (Tk w y3 a len bs (.slice (some ⟨vb, vo, none⟩) zs.length vc) (.slice (some ⟨rb, ro, none⟩) rs.length rc) (.slice sa Z.length sc) zs rs Z) := LT2.out.step hby3
                have hU1 := undI _ fu X FX y3 (LX2.out.below hby3) hVf
                rw [hu1] at hU1
                clear hF hby3 LT2 LX2 c0 c1 c2 c3
                go_wp2_with fail
                refine hU1.mono ?_
                rintro e y4 ⟨rfl, hby4⟩
                have LT4 : Hid (Tk w y4 a len bs (.slice (some ⟨vb, vo, none⟩) zs.length vc) (.slice (some ⟨rb, ro, none⟩) rs.length rc) (.slice sa Z.length sc) zs rs Z) := LT3.out.step hby4
                have LF4 : Hid (VecV y4 fu FX) := hVf.below hby4
                have hU2 := undI fu _ FX Z y4 LF4.out LT4.out.s
                rw [hu2] at hU2
                clear hU1 hby4 hVf LT3
                go_wp2_with fail
                refine hU2.mono ?_
                rintro e y5 ⟨rfl, hby5⟩
                have LT5 : Hid (Tk w y5 a len bs (.slice (some ⟨vb, vo, none⟩) zs.length vc) (.slice (some ⟨rb, ro, none⟩) rs.length rc) (.slice sa Z.length sc) zs rs Z) := LT4.out.step hby5
                have LF5 : Hid (VecV y5 fu FX) := LF4.out.below hby5
                clear hU2 hby5 LT4 LF4
                go_wp2
                go_roundw
                case rel => exact ⟨k + 1, FX, by omega, by go_num, LF.out, LF5.out, LT5.out⟩
                case measure => simp [intOf]; omega
          · have hk3 : k = 300 := by omega
            subst hk3
            have hS1 := stdI hSt _ _ X rs wr LX.out LT.out.r
            cases hsd : stdB X rs with
            | true =>
              rw [hsd] at hS1
              have HXZ : Hid (sameB X Z = true) := by rw [Hid, HFIN.out X LL.out hsd]; exact same_self _
              go_wp2_with fail
              refine hS1.mono ?_
              rintro e y2 ⟨rfl, hby2⟩
              have LT2 : Hid (Tk w y2 a len bs (.slice (some ⟨vb, vo, none⟩) zs.length vc) (.slice ra rs.length rc) (.slice sa Z.length sc) zs rs Z) := LT.out.step hby2
              have hLk := likeV _ _ X Z y2 (LX.out.below hby2) LT2.out.s
              rw [HXZ.out] at hLk
              clear hS1 hby2 LX LT
              go_wp2_with fail
              refine hLk.mono ?_
              rintro e y3 ⟨rfl, hby3⟩
              have HB : Hid (Below w.heap.size w y3) := (LT2.out.step hby3).below
              clear hby3 hLk
              go_wp2
              go_ret
              exact ⟨rfl, HB.out⟩
            | false =>
              rw [hsd] at hS1
              go_wp2_with fail
              refine hS1.mono ?_
              rintro e y2 ⟨rfl, hby2⟩
              have HB : Hid (Below w.heap.size w y2) := (LT.out.step hby2).below
              clear hS1 hby2
              go_wp2
              go_ret
              exact ⟨rfl, HB.out⟩
end Go.Proofs.Ytbgkfiijfocgiaa
