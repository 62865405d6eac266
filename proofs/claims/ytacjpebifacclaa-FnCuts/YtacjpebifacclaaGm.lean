/-
  Several texts in one: LawWi.
-/
import Derived.Test.YtacjpebifacclaaGl
import Derived.Test.YtacjpebifacclaaGi
import Derived.Test.YtacjpebifacclaaGg
/-
  The walk of the law FnWithin, from what the program's functions answer.
-/
namespace Go.Proofs.Ytacjpebifacclaa
set_option linter.unusedSimpArgs false
set_option linter.unusedVariables false
open Go.RowKit Go.Sort

theorem ckN_t {es : List Ev} {n : Nat} (h : okT es n = true) : ckN es n = n := by unfold ckN; rw [if_pos h]
theorem VR.row8' {w : World} {Bs g off n cap k : Nat} {r : Nat → Nat × Nat × Nat} {es : List Ev} (h : VR w Bs g off n cap k r (cl es)) {i : Nat} (hi : i < k) : OI w (r i).1 (r i).2.1 8 (r i).2.2 (cl es i) := by
  have := h.row i hi
  rwa [cl_len] at this
theorem under8 {es : List Ev} {n : Nat} {a b : List Int} (ha : IsCut es n a) (hb : IsCut es n b) : underB a b = true ↔ ∀ p, p < 8 → el a p ≤ el b p := by
  have hk : ∀ {c : List Int}, IsCut es n c → okB c = true := fun h => ok8 h.len (fun j hj => by
    have := h.lo j hj
    have := h.hi j hj
    have := num_leK es (j : Int) n
    have := h.le40
    omega)
  unfold underB twoB leB
  rw [hk ha, hk hb, ha.len, hb.len]
  simp only [decide_true, Bool.and_self, Bool.true_and, List.all_eq_true, List.mem_range, decide_eq_true_eq]
theorem okC_same {es : List Ev} {n : Nat} {a r : List Int} (ha : IsCut es n a) (h : IsWithin es n a r) : okC es n a = sameB r a := by
  rw [Bool.eq_iff_iff, okC_iff]
  unfold sameB
  rw [decide_eq_true_eq]
  constructor
  · rintro ⟨_, hc⟩
    exact eq8 h.cut.len ha.len (fun p hp => by
      have h1 := h.under p hp
      have h2 := h.great a ha hc (fun _ _ => Int.le_refl _) p hp
      omega)
  · intro e
    rw [← e]
    exact ⟨h.cut, h.cons⟩
theorem okC_same' {es : List Ev} {n : Nat} {a r : List Int} (ha : IsCut es n a) (h : IsAround es n a r) : okC es n a = sameB r a := by
  rw [Bool.eq_iff_iff, okC_iff]
  unfold sameB
  rw [decide_eq_true_eq]
  constructor
  · rintro ⟨_, hc⟩
    exact eq8 h.cut.len ha.len (fun p hp => by
      have h1 := h.above p hp
      have h2 := h.least a ha hc (fun _ _ => Int.le_refl _) p hp
      omega)
  · intro e
    rw [← e]
    exact ⟨h.cut, h.cons⟩
/-- What the law FnWithin holds as the world goes on. -/
structure Wst (w1 cur : World) (gz fz cz : Nat) (xs : List Int) (gw fw cw : Nat) (Z : List Int) (gr fr cr : Nat) (R : List Int) : Prop where
  below : Below w1.heap.size w1 cur
  a : OI cur gz fz xs.length cz xs
  wz : OI cur gw fw Z.length cw Z
  rz : OI cur gr fr R.length cr R
theorem Wst.step {w1 cur next : World} {gz fz cz : Nat} {xs : List Int} {gw fw cw : Nat} {Z : List Int} {gr fr cr : Nat} {R : List Int} (h : Wst w1 cur gz fz cz xs gw fw cw Z gr fr cr R) (hb : Below cur.heap.size cur next) : Wst w1 next gz fz cz xs gw fw cw Z gr fr cr R :=
  ⟨h.below.trans (hb.mono h.below.size), h.a.below hb h.a.blk, h.wz.below hb h.wz.blk, h.rz.below hb h.rz.blk⟩
theorem Wst.drewN {w1 cur : World} {gz fz cz : Nat} {xs : List Int} {gw fw cw : Nat} {Z : List Int} {gr fr cr : Nat} {R : List Int} (h : Wst w1 cur gz fz cz xs gw fw cw Z gr fr cr R) (k : Nat) : Wst w1 (cur.drewN k) gz fz cz xs gw fw cw Z gr fr cr R := h.step (belowN (Below.refl _ _))

/-- The same, each of eight numbers. -/
structure W8 (w1 cur : World) (gz fz cz : Nat) (xs : List Int) (gw fw cw : Nat) (Z : List Int) (gr fr cr : Nat) (R : List Int) : Prop where
  below : Below w1.heap.size w1 cur
  a : OI cur gz fz 8 cz xs
  wz : OI cur gw fw 8 cw Z
  rz : OI cur gr fr 8 cr R
theorem W8.step {w1 cur next : World} {gz fz cz : Nat} {xs : List Int} {gw fw cw : Nat} {Z : List Int} {gr fr cr : Nat} {R : List Int} (h : W8 w1 cur gz fz cz xs gw fw cw Z gr fr cr R) (hb : Below cur.heap.size cur next) : W8 w1 next gz fz cz xs gw fw cw Z gr fr cr R :=
  ⟨h.below.trans (hb.mono h.below.size), h.a.below hb h.a.blk, h.wz.below hb h.wz.blk, h.rz.below hb h.rz.blk⟩
theorem W8.drewN {w1 cur : World} {gz fz cz : Nat} {xs : List Int} {gw fw cw : Nat} {Z : List Int} {gr fr cr : Nat} {R : List Int} (h : W8 w1 cur gz fz cz xs gw fw cw Z gr fr cr R) (k : Nat) : W8 w1 (cur.drewN k) gz fz cz xs gw fw cw Z gr fr cr R := h.step (belowN (Below.refl _ _))

set_option maxRecDepth 100000 in
set_option maxHeartbeats 3200000 in
/-- The law FnWithin. -/
theorem lawFnWithin (hW : ImplWithin) (hR : ImplAround) (hC : ImplCutOk) (a : Option Addr) (len cap : Nat) (bs : Nat → Int) (w : World) (hv : BVec w a len bs) :
    Calls Try.prog 7 #[.slice a len cap] w fun e w' => e = .returned (.bool true) ∧ Below w.heap.size w w' := by
  by_cases hbig : (4096 : Int) < (len : Int)
  · have hB := big_any a len cap w
    rw [decide_eq_true hbig] at hB
    go_enter Try.func7, Try.ntmps7
    go_wp2_with fail
    refine hB.mono ?_
    rintro e w1 ⟨rfl, hw1⟩
    have HW : Hid (w1 = w) := hw1
    clear hw1
    go_wp2
    go_ret
    exact ⟨rfl, by rw [HW.out]; exact Below.refl _ _⟩
  · have hB := big_any a len cap w
    rw [decide_eq_false hbig] at hB
    have hl : len ≤ 4096 := by omega
    go_enter Try.func7, Try.ntmps7
    go_wp2_with fail
    refine hB.mono ?_
    rintro e w0 ⟨rfl, hw0⟩
    have hv0 : BVec w0 a len bs := by rw [hw0]; exact hv
    have B0 : Below w.heap.size w w0 := by rw [hw0]; exact Below.refl _ _
    clear hw0 hB
    go_wp2_with fail
    refine (drawWithin_any a len cap bs w0 hv0 hl).mono ?_
    rintro e w1 ⟨g, f, c, es, gz, fz, cz, xs, rfl, hG⟩
    have B1 : Hid (Below w.heap.size w w1) := B0.trans (hG.below.mono B0.size)
    have hv1 : BVec w1 a len bs := hv0.below hG.below (Nat.le_refl _)
    have KV : Hid (∀ X, Below w1.heap.size w1 X → BVec X a len bs) := fun X hX => hv1.below hX (Nat.le_refl _)
    have hnc := hG.evs.le
    have hn14 := hG.le14
    have hx8 := hG.le8
    have hnm : es.length ≤ maxLen := by unfold maxLen; omega
    have hxf := hG.fits
    have hxc := hG.out.le
    have hxm := hG.out.max
    have KE : Hid (∀ X, Below w1.heap.size w1 X → EvsAt X g f es.length es) := fun X hX => evs_below hG.evs.at hX (Nat.le_refl _)
    have o1 := hG.out
    clear hv0 B0 hG
    generalize es.length = n at *
    go_wp2_with fail
    refine (hW g f n c es _ _ _ xs w1 (KE.out w1 (Below.refl _ _)) hnm hnc (o1.vec hxf) hxc hxm).mono ?_
    rintro e w2 ⟨Z, hZ, gw, fw, cw, rfl, _, oz2, hb2⟩
    have o2 := o1.below hb2 o1.blk
    go_wp2_with fail
    refine (hR g f n c es _ _ _ xs w2 (KE.out w2 hb2) hnm hnc (o2.vec hxf) hxc hxm).mono ?_
    rintro e w3 ⟨R, hAr, gr, fr, cr, rfl, _, or3, hb3⟩
    have S3 : Wst w1 w3 gz fz cz xs gw fw cw Z gr fr cr R := ⟨hb2.trans (hb3.mono hb2.size), o2.below hb3 o2.blk, oz2.below hb3 oz2.blk, or3⟩
    have hzs := hZ.small
    have hrs := hAr.small
    clear oz2 or3 o2 o1 hb2 hb3
    go_wp2_with fail
    refine (specWithin_any g f n c es _ _ _ xs w3 (KE.out w3 S3.below) hnm hnc (S3.a.vec hxf) (by unfold maxLen; omega)).mono ?_
    rintro e w4 ⟨Z', hZ', g4, f4, c4, he, _, o4, hb4⟩
    rw [hZ'.unique hZ] at he o4
    subst he
    have S4 := S3.step hb4
    have hsame := sameB_self Z
    go_wp2_with fail
    refine (like_any _ _ _ _ _ _ Z Z w4 (S4.wz.vec hzs.2) (o4.vec hzs.2) (by unfold maxLen; omega)).mono ?_
    rintro e w5 ⟨rfl, n5, rfl⟩
    have S5 := S4.drewN n5
    clear S3 S4 o4 hb4 hZ'
    go_wp2_with fail
    refine (specAround_any g f n c es _ _ _ xs _ (KE.out _ S5.below) hnm hnc (S5.a.vec hxf) (by unfold maxLen; omega)).mono ?_
    rintro e w6 ⟨R', hR', g6, f6, c6, he, _, o6, hb6⟩
    rw [hR'.unique hAr] at he o6
    subst he
    have S6 := S5.step hb6
    have hsame2 := sameB_self R
    go_wp2_with fail
    refine (like_any _ _ _ _ _ _ R R w6 (S6.rz.vec hrs.2) (o6.vec hrs.2) (by unfold maxLen; omega)).mono ?_
    rintro e w7 ⟨rfl, n7, rfl⟩
    have S7 := S6.drewN n7
    clear S5 S6 o6 hb6 hR'
    rcases hZ with ⟨hno, rfl⟩ | ⟨hyes, hZw⟩
    · have hR0 : R = [] := by
        rcases hAr with ⟨_, h⟩ | ⟨h, _⟩
        · exact h
        · rw [hno] at h; cases h
      subst hR0
      have HB7 : Hid (Below w.heap.size w (w6.drewN n7)) := B1.out.trans (S7.below.mono B1.out.size)
      clear S7
      go_wp2
      go_ret
      exact ⟨rfl, HB7.out⟩
    · have hRw : IsAround es n xs R := by
        rcases hAr with ⟨h, _⟩ | ⟨_, h⟩
        · rw [hyes] at h; cases h
        · exact h
      have hX := cutB_iff.1 hyes
      have hok := hX.ok
      have hxl := hX.len
      have hzl := hZw.cut.len
      have hrl := hRw.cut.len
      have T7 : W8 w1 (w6.drewN n7) gz fz cz xs gw fw cw Z gr fr cr R := ⟨S7.below, by have h := S7.a; rwa [hxl] at h, by have h := S7.wz; rwa [hzl] at h, by have h := S7.rz; rwa [hrl] at h⟩
      have hfZ : Fits Z := hzs.2
      have hfR : Fits R := hrs.2
      have oZ : okC es n Z = true := okC_iff.2 ⟨hZw.cut, hZw.cons⟩
      have oR : okC es n R = true := okC_iff.2 ⟨hRw.cut, hRw.cons⟩
      have uZ : underB Z xs = true := (under8 hZw.cut hX).2 hZw.under
      have uR : underB xs R = true := (under8 hX hRw.cut).2 hRw.above
      have eZ := okC_same hX hZw
      have eR := okC_same' hX hRw
      have HZW : Hid (IsWithin es n xs Z) := hZw
      have HRW : Hid (IsAround es n xs R) := hRw
      have HXC : Hid (IsCut es n xs) := hX
      have HOK : Hid (okT es n = true) := hok
      have h40 := hX.le40
      have zc := T7.wz.le
      have zm := T7.wz.max
      have rc := T7.rz.le
      have rm := T7.rz.max
      have hxc8 : 8 ≤ cz := T7.a.le
      have hC1 := fun X (hX : W8 w1 X gz fz cz xs gw fw cw Z gr fr cr R) => hC g f n c es (some ⟨gw, fw, none⟩) 8 cw Z X (KE.out X hX.below) hnm hnc (hX.wz.vec hfZ) zc zm
      have hC2 := fun X (hX : W8 w1 X gz fz cz xs gw fw cw Z gr fr cr R) => hC g f n c es (some ⟨gr, fr, none⟩) 8 cr R X (KE.out X hX.below) hnm hnc (hX.rz.vec hfR) rc rm
      have hC3 := fun X (hX : W8 w1 X gz fz cz xs gw fw cw Z gr fr cr R) => hC g f n c es (some ⟨gz, fz, none⟩) 8 cz xs X (KE.out X hX.below) hnm hnc (hX.a.vec hxf) hxc8 hxm
      have hU1 := fun X (hX : W8 w1 X gz fz cz xs gw fw cw Z gr fr cr R) => implUnder_any (some ⟨gw, fw, none⟩) (some ⟨gz, fz, none⟩) 8 cw 8 cz Z xs X (hX.wz.vec hfZ) (hX.a.vec hxf) zc hxc8 zm hxm
      have hU2 := fun X (hX : W8 w1 X gz fz cz xs gw fw cw Z gr fr cr R) => implUnder_any (some ⟨gz, fz, none⟩) (some ⟨gr, fr, none⟩) 8 cz 8 cr xs R X (hX.a.vec hxf) (hX.rz.vec hfR) hxc8 rc hxm rm
      have hCl := fun X (hX : EvsAt X g f n es) => specClocks_any g f n c es X hX hnm hnc
      rw [oZ] at hC1
      rw [oR] at hC2
      rw [uZ] at hU1
      rw [uR] at hU2
      rw [ckN_t HOK.out] at hCl
      rw [hxl, hzl, hrl]
      clear S7 hAr hZw hRw hX hok oZ oR uZ uR hzs hrs hyes hxl hzl hrl hx8 hxc
      go_wp2_with fail
      refine (hC1 _ T7).mono ?_
      rintro e w8 ⟨rfl, hb8⟩
      have T8 := T7.step hb8
      go_wp2_with fail
      refine (hC2 _ T8).mono ?_
      rintro e w9 ⟨rfl, hb9⟩
      have T9 := T8.step hb9
      go_wp2_with fail
      refine (hU1 _ T9).mono ?_
      rintro e wA ⟨rfl, n9, hwA⟩
      have T10 : W8 w1 wA gz fz cz xs gw fw cw Z gr fr cr R := by rw [hwA]; exact T9.drewN n9
      clear T7 T8 T9 hb8 hb9 hwA
      go_wp2_with fail
      refine (hU2 _ T10).mono ?_
      rintro e wB ⟨rfl, n10, hwB⟩
      have T11 : W8 w1 wB gz fz cz xs gw fw cw Z gr fr cr R := by rw [hwB]; exact T10.drewN n10
      clear T10 hC1 hC2 hU1 hU2 hwB
      go_wp2_with fail
      refine (hCl _ (KE.out _ T11.below)).mono ?_
      rintro e w12 ⟨gc, fc, cc, rk, rfl, _, V12, hb12⟩
      have T12 : Hid (W8 w1 w12 gz fz cz xs gw fw cw Z gr fr cr R) := T11.step hb12
      generalize hB12 : wB.heap.size = Bv at V12
      have HV12 : Hid (VR w12 Bv gc fc n cc n rk (cl es)) := V12
      clear T11 hb12 hB12 V12 hCl
      go_wp2
      go_loopw [8] (fun i wr => ∃ j : Nat, j ≤ n ∧ i = .int .i64 j ∧ VR wr Bv gc fc n cc n rk (cl es) ∧ W8 w1 wr gz fz cz xs gw fw cw Z gr fr cr R) (fun i _ => n - (intOf i).toNat)
      case atStart => exact ⟨0, Nat.zero_le _, rfl, HV12.out, T12.out⟩
      case round =>
        obtain ⟨j, hj, rfl, hvr, hw8⟩ := hrel
        have KR : Hid (VR wr Bv gc fc n cc n rk (cl es)) := hvr
        have K8 : Hid (W8 w1 wr gz fz cz xs gw fw cw Z gr fr cr R) := hw8
        clear hvr hw8 HV12 T12
        by_cases hlt : j < n
        · have x1 := KR.out.cell8 hlt hlt
          have j1 : (j : Int) < (n : Int) := by omega
          have j0 : (0 : Int) ≤ (j : Int) := by omega
          go_wp2_with fail
          refine (pick_any a len cap bs (j : Int) (n : Int) wr (KV.out wr K8.out.below) hl (by omega) (by omega) (by omega) (by omega)).mono ?_
          rintro e w13 ⟨y, rfl, hy0, hy1, hw13⟩
          replace hw13 := hw13.symm
          subst hw13
          by_cases hy : (0 : Int) < y
          · obtain ⟨k, hk⟩ : ∃ k : Nat, y = (k : Int) := ⟨y.toNat, by omega⟩
            subst hk
            have hkn : k < n := by omega
            have x2 := KR.out.cell8 hkn hkn
            have hcj := cons_cl HOK.out hlt
            have hck := cons_cl HOK.out hkn
            have HXX : Hid (IsCut es n (jn max (cl es j) (cl es k) 8) ∧ Cons es n (jn max (cl es j) (cl es k) 8)) := cons_join hcj.1 hck.1 hcj.2 hck.2
            have hfX : Fits (jn max (cl es j) (cl es k) 8) := (cut_small HXX.out.1).2
            have r1 := KR.out.row8' hlt
            have r2 := KR.out.row8' hkn
            have hJ := specJoin8 (some ⟨(rk j).1, (rk j).2.1, none⟩) (some ⟨(rk k).1, (rk k).2.1, none⟩) (rk j).2.2 (rk k).2.2 (cl es j) (cl es k) wr (r1.vec (cut_small hcj.1).2) (r2.vec (cut_small hck.1).2) (fun i hi => by have := cl_bound es j i hi; omega) (fun i hi => by have := cl_bound es k i hi; omega)
            clear r1 r2 hcj hck
            go_wp2_with fail
            refine hJ.mono ?_
            rintro e wJ ⟨gx, cx, rfl, _, ox, hbJ⟩
            have OX : Hid (OI wJ gx 0 8 cx (jn max (cl es j) (cl es k) 8)) := ox
            have S14 : Hid (W8 w1 wJ gz fz cz xs gw fw cw Z gr fr cr R) := K8.out.step hbJ
            have V14 : Hid (VR wJ Bv gc fc n cc n rk (cl es)) := KR.out.below hbJ
            clear ox hbJ hJ x1 x2
            have xc := OX.out.le
            have xm := OX.out.max
            have hD1 := fun q => implUnder_any (some ⟨gx, 0, none⟩) (some ⟨gz, fz, none⟩) 8 cx 8 cz (jn max (cl es j) (cl es k) 8) xs (wJ.drewN q) ((OX.out.vec hfX).drewN q) (((S14.out.a).vec hxf).drewN q) xc hxc8 xm hxm
            have hD2 := fun q => implUnder_any (some ⟨gx, 0, none⟩) (some ⟨gw, fw, none⟩) 8 cx 8 cw (jn max (cl es j) (cl es k) 8) Z (wJ.drewN q) ((OX.out.vec hfX).drewN q) (((S14.out.wz).vec hfZ).drewN q) xc zc xm zm
            have hD3 := fun q => implUnder_any (some ⟨gz, fz, none⟩) (some ⟨gx, 0, none⟩) 8 cz 8 cx xs (jn max (cl es j) (cl es k) 8) (wJ.drewN q) (((S14.out.a).vec hxf).drewN q) ((OX.out.vec hfX).drewN q) hxc8 xc hxm xm
            have hD4 := fun q => implUnder_any (some ⟨gr, fr, none⟩) (some ⟨gx, 0, none⟩) 8 cr 8 cx R (jn max (cl es j) (cl es k) 8) (wJ.drewN q) (((S14.out.rz).vec hfR).drewN q) ((OX.out.vec hfX).drewN q) rc xc rm xm
            have HI1 : Hid (underB (jn max (cl es j) (cl es k) 8) xs = true → underB (jn max (cl es j) (cl es k) 8) Z = true) := fun h => (under8 HXX.out.1 HZW.out.cut).2 (HZW.out.great _ HXX.out.1 HXX.out.2 ((under8 HXX.out.1 HXC.out).1 h))
            have HI2 : Hid (underB xs (jn max (cl es j) (cl es k) 8) = true → underB R (jn max (cl es j) (cl es k) 8) = true) := fun h => (under8 HRW.out.cut HXX.out.1).2 (HRW.out.least _ HXX.out.1 HXX.out.2 ((under8 HXC.out HXX.out.1).1 h))
            generalize underB (jn max (cl es j) (cl es k) 8) xs = U1 at *
            generalize underB (jn max (cl es j) (cl es k) 8) Z = U2 at *
            generalize underB xs (jn max (cl es j) (cl es k) 8) = U3 at *
            generalize underB R (jn max (cl es j) (cl es k) 8) = U4 at *
            clear xc xm
            cases U1
            · cases U3
              · go_wp2_with fail
                refine (hD1 0).mono ?_
                rintro e w14 ⟨rfl, n14, rfl⟩
                rw [World.drewN_drewN]
                go_wp2_with fail
                refine (hD3 _).mono ?_
                rintro e w16 ⟨rfl, n16, rfl⟩
                rw [World.drewN_drewN]
                go_wp2
                go_roundw
                case rel => exact ⟨j + 1, by omega, by go_num, V14.out.drewN _, S14.out.drewN _⟩
                case measure => simp [intOf]; omega
              · have h4 := HI2.out rfl
                subst h4
                go_wp2_with fail
                refine (hD1 0).mono ?_
                rintro e w14 ⟨rfl, n14, rfl⟩
                rw [World.drewN_drewN]
                go_wp2_with fail
                refine (hD3 _).mono ?_
                rintro e w16 ⟨rfl, n16, rfl⟩
                rw [World.drewN_drewN]
                go_wp2_with fail
                refine (hD4 _).mono ?_
                rintro e w17 ⟨rfl, n17, rfl⟩
                rw [World.drewN_drewN]
                go_wp2
                go_roundw
                case rel => exact ⟨j + 1, by omega, by go_num, V14.out.drewN _, S14.out.drewN _⟩
                case measure => simp [intOf]; omega
            · have h2 := HI1.out rfl
              subst h2
              cases U3
              · go_wp2_with fail
                refine (hD1 0).mono ?_
                rintro e w14 ⟨rfl, n14, rfl⟩
                rw [World.drewN_drewN]
                go_wp2_with fail
                refine (hD2 _).mono ?_
                rintro e w15 ⟨rfl, n15, rfl⟩
                rw [World.drewN_drewN]
                go_wp2_with fail
                refine (hD3 _).mono ?_
                rintro e w16 ⟨rfl, n16, rfl⟩
                rw [World.drewN_drewN]
                go_wp2
                go_roundw
                case rel => exact ⟨j + 1, by omega, by go_num, V14.out.drewN _, S14.out.drewN _⟩
                case measure => simp [intOf]; omega
              · have h4 := HI2.out rfl
                subst h4
                go_wp2_with fail
                refine (hD1 0).mono ?_
                rintro e w14 ⟨rfl, n14, rfl⟩
                rw [World.drewN_drewN]
                go_wp2_with fail
                refine (hD2 _).mono ?_
                rintro e w15 ⟨rfl, n15, rfl⟩
                rw [World.drewN_drewN]
                go_wp2_with fail
                refine (hD3 _).mono ?_
                rintro e w16 ⟨rfl, n16, rfl⟩
                rw [World.drewN_drewN]
                go_wp2_with fail
                refine (hD4 _).mono ?_
                rintro e w17 ⟨rfl, n17, rfl⟩
                rw [World.drewN_drewN]
                go_wp2
                go_roundw
                case rel => exact ⟨j + 1, by omega, by go_num, V14.out.drewN _, S14.out.drewN _⟩
                case measure => simp [intOf]; omega
          · have hyd : decide ((0 : Int) < y) = false := by simpa using hy
            have HXX : Hid (IsCut es n (cl es j) ∧ Cons es n (cl es j)) := cons_cl HOK.out hlt
            have hfX : Fits (cl es j) := (cut_small HXX.out.1).2
            have OX : Hid (OI wr (rk j).1 (rk j).2.1 8 (rk j).2.2 (cl es j)) := KR.out.row8' hlt
            have xc := OX.out.le
            have xm := OX.out.max
            have hD1 := fun q => implUnder_any (some ⟨(rk j).1, (rk j).2.1, none⟩) (some ⟨gz, fz, none⟩) 8 (rk j).2.2 8 cz (cl es j) xs (wr.drewN q) ((OX.out.vec hfX).drewN q) (((K8.out.a).vec hxf).drewN q) xc hxc8 xm hxm
            have hD2 := fun q => implUnder_any (some ⟨(rk j).1, (rk j).2.1, none⟩) (some ⟨gw, fw, none⟩) 8 (rk j).2.2 8 cw (cl es j) Z (wr.drewN q) ((OX.out.vec hfX).drewN q) (((K8.out.wz).vec hfZ).drewN q) xc zc xm zm
            have hD3 := fun q => implUnder_any (some ⟨gz, fz, none⟩) (some ⟨(rk j).1, (rk j).2.1, none⟩) 8 cz 8 (rk j).2.2 xs (cl es j) (wr.drewN q) (((K8.out.a).vec hxf).drewN q) ((OX.out.vec hfX).drewN q) hxc8 xc hxm xm
            have hD4 := fun q => implUnder_any (some ⟨gr, fr, none⟩) (some ⟨(rk j).1, (rk j).2.1, none⟩) 8 cr 8 (rk j).2.2 R (cl es j) (wr.drewN q) (((K8.out.rz).vec hfR).drewN q) ((OX.out.vec hfX).drewN q) rc xc rm xm
            have HI1 : Hid (underB (cl es j) xs = true → underB (cl es j) Z = true) := fun h => (under8 HXX.out.1 HZW.out.cut).2 (HZW.out.great _ HXX.out.1 HXX.out.2 ((under8 HXX.out.1 HXC.out).1 h))
            have HI2 : Hid (underB xs (cl es j) = true → underB R (cl es j) = true) := fun h => (under8 HRW.out.cut HXX.out.1).2 (HRW.out.least _ HXX.out.1 HXX.out.2 ((under8 HXC.out HXX.out.1).1 h))
            generalize underB (cl es j) xs = U1 at *
            generalize underB (cl es j) Z = U2 at *
            generalize underB xs (cl es j) = U3 at *
            generalize underB R (cl es j) = U4 at *
            clear xc xm
            cases U1
            · cases U3
              · go_wp2_with fail
                refine (hD1 0).mono ?_
                rintro e w14 ⟨rfl, n14, rfl⟩
                rw [World.drewN_drewN]
                go_wp2_with fail
                refine (hD3 _).mono ?_
                rintro e w16 ⟨rfl, n16, rfl⟩
                rw [World.drewN_drewN]
                go_wp2
                go_roundw
                case rel => exact ⟨j + 1, by omega, by go_num, KR.out.drewN _, K8.out.drewN _⟩
                case measure => simp [intOf]; omega
              · have h4 := HI2.out rfl
                subst h4
                go_wp2_with fail
                refine (hD1 0).mono ?_
                rintro e w14 ⟨rfl, n14, rfl⟩
                rw [World.drewN_drewN]
                go_wp2_with fail
                refine (hD3 _).mono ?_
                rintro e w16 ⟨rfl, n16, rfl⟩
                rw [World.drewN_drewN]
                go_wp2_with fail
                refine (hD4 _).mono ?_
                rintro e w17 ⟨rfl, n17, rfl⟩
                rw [World.drewN_drewN]
                go_wp2
                go_roundw
                case rel => exact ⟨j + 1, by omega, by go_num, KR.out.drewN _, K8.out.drewN _⟩
                case measure => simp [intOf]; omega
            · have h2 := HI1.out rfl
              subst h2
              cases U3
              · go_wp2_with fail
                refine (hD1 0).mono ?_
                rintro e w14 ⟨rfl, n14, rfl⟩
                rw [World.drewN_drewN]
                go_wp2_with fail
                refine (hD2 _).mono ?_
                rintro e w15 ⟨rfl, n15, rfl⟩
                rw [World.drewN_drewN]
                go_wp2_with fail
                refine (hD3 _).mono ?_
                rintro e w16 ⟨rfl, n16, rfl⟩
                rw [World.drewN_drewN]
                go_wp2
                go_roundw
                case rel => exact ⟨j + 1, by omega, by go_num, KR.out.drewN _, K8.out.drewN _⟩
                case measure => simp [intOf]; omega
              · have h4 := HI2.out rfl
                subst h4
                go_wp2_with fail
                refine (hD1 0).mono ?_
                rintro e w14 ⟨rfl, n14, rfl⟩
                rw [World.drewN_drewN]
                go_wp2_with fail
                refine (hD2 _).mono ?_
                rintro e w15 ⟨rfl, n15, rfl⟩
                rw [World.drewN_drewN]
                go_wp2_with fail
                refine (hD3 _).mono ?_
                rintro e w16 ⟨rfl, n16, rfl⟩
                rw [World.drewN_drewN]
                go_wp2_with fail
                refine (hD4 _).mono ?_
                rintro e w17 ⟨rfl, n17, rfl⟩
                rw [World.drewN_drewN]
                go_wp2
                go_roundw
                case rel => exact ⟨j + 1, by omega, by go_num, KR.out.drewN _, K8.out.drewN _⟩
                case measure => simp [intOf]; omega
        · have hjn : j = n := by omega
          subst hjn
          have hL1 := fun X (hX : W8 w1 X gz fz cz xs gw fw cw Z gr fr cr R) => like_any (some ⟨gw, fw, none⟩) (some ⟨gz, fz, none⟩) 8 cw 8 cz Z xs X (hX.wz.vec hfZ) (hX.a.vec hxf) (by unfold maxLen; omega)
          have hL2 := fun X (hX : W8 w1 X gz fz cz xs gw fw cw Z gr fr cr R) => like_any (some ⟨gr, fr, none⟩) (some ⟨gz, fz, none⟩) 8 cr 8 cz R xs X (hX.rz.vec hfR) (hX.a.vec hxf) (by unfold maxLen; omega)
          rw [← eZ] at hL1
          rw [← eR] at hL2
          clear eZ eR
          generalize okC es j xs = A at *
          have hAA : (A == A) = true := by simp
          go_wp2_with fail
          refine (hC3 _ K8.out).mono ?_
          rintro e wC ⟨rfl, hbC⟩
          have TC := K8.out.step hbC
          go_wp2_with fail
          refine (hL1 _ TC).mono ?_
          rintro e wD ⟨rfl, nD, hwD⟩
          have TD : W8 w1 wD gz fz cz xs gw fw cw Z gr fr cr R := by rw [hwD]; exact TC.drewN nD
          clear TC hbC hwD
          go_wp2_with fail
          refine (hC3 _ TD).mono ?_
          rintro e wE ⟨rfl, hbE⟩
          have TE := TD.step hbE
          go_wp2_with fail
          refine (hL2 _ TE).mono ?_
          rintro e wF ⟨rfl, nF, hwF⟩
          have BF : Hid (Below w.heap.size w wF) := by rw [Hid, hwF]; exact belowN (B1.out.trans (TE.below.mono B1.out.size))
          clear TD TE hbE hwF
          go_wp2
          go_ret
          exact ⟨rfl, BF.out⟩
end Go.Proofs.Ytacjpebifacclaa
