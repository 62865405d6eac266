/-
  Several texts in one: LawFr.
-/
import Derived.Test.YtdlgcdoedfbeeaaGreatDoorGs
import Derived.Test.YtdlgcdoedfbeeaaGreatDoorGt
/-
  The walk of the law FnFrames, from what the program's functions answer.
-/
namespace Go.Proofs.YtdlgcdoedfbeeaaGreatDoor
set_option linter.unusedSimpArgs false
set_option linter.unusedVariables false
open Go.RowKit Go.Sort

theorem IsRow.bvec {w : World} {a : Option Addr} {len cap : Nat} {zs : List Int} (h : IsRow .u8 w a len cap zs) : BVec w a len (fun i => zs.getD i 0) := by
  rcases h with ⟨rfl, rfl, rfl, rfl⟩ | ⟨x, rfl, hl, hm, hz, hcell, hwz⟩
  · exact ⟨fun i hi => absurd hi (Nat.not_lt_zero _), .inl rfl⟩
  · refine ⟨fun i hi => ?_, ?_⟩
    · have := bounds_u8 (hwz (zs.getD i 0) (by
        have hi' : i < zs.length := by omega
        simp [hi']))
      omega
    · by_cases h0 : len = 0
      · exact .inl h0
      · obtain ⟨b, off, spot⟩ := x
        have hc := hcell 0 (by omega)
        have hspot : spot = none := by simpa [Addr.add] using World.cell?_spot hc
        subst hspot
        refine .inr ⟨b, off, rfl, fun i hi => ?_⟩
        have := hcell i (by omega)
        by_cases hi0 : i = 0
        · subst hi0; simpa [Addr.add] using this
        · simpa [Addr.add, hi0] using this
theorem IsFrames.small {d : List UInt8} {ts : List (List UInt8)} (h : IsFrames d ts) : (∀ t ∈ ts, t.length ≤ 2000) ∧ (bytesOf ts).length ≤ d.length ∧ d.take (bytesOf ts).length = bytesOf ts ∧ ts.length ≤ d.length := by
  obtain ⟨r, h1, h2, _⟩ := h.at_
  have hR : Rd d ts := ⟨⟨r, h1⟩, h2⟩
  refine ⟨h2, hR.le, ?_, hR.count⟩
  conv => lhs; rw [h1]
  exact List.take_left

attribute [local irreducible] sv
set_option maxRecDepth 100000 in
set_option maxHeartbeats 6400000 in
/-- The law FnFrames. -/
theorem lawFnFrames (a : Option Addr) (len cap : Nat) (bs : Nat → Int) (w : World) (hFs : ImplFrames w) (hFr : ImplFrame w) (hTo : ImplTorn) (hCh : ImplCheck) (hv : BVec w a len bs) :
    Calls Tryz.prog 3 #[.slice a len cap] w fun e w' => e = .returned (.bool true) ∧ Below w.heap.size w w' := by
  by_cases hbig : (4096 : Int) < (len : Int)
  · have hB := big_any a len cap w
    rw [decide_eq_true hbig] at hB
    go_enter Tryz.func3, Tryz.ntmps3
    go_wp2_with fail
    refine hB.mono ?_
    rintro e w1 ⟨rfl, hw1⟩
    have HW : Hid (w1 = w) := hw1
    clear hw1
    go_wp2
    go_ret
    exact ⟨rfl, by rw [HW.out]; exact Below.refl _ _⟩
  · have hB := big_any a len cap w
    rw [decide_eq_false hbig] at hB
    have hl : len ≤ 4096 := by omega
    have hnil : (⟨#[]⟩ : ByteArray) = sv [] := by unfold sv; rfl
    have HNIL : Hid ((⟨#[]⟩ : ByteArray) = sv []) := hnil
    clear hnil
    go_enter Tryz.func3, Tryz.ntmps3
    go_wp2_with fail
    refine hB.mono ?_
    rintro e w0 ⟨rfl, hw0⟩
    have B0 : Below w.heap.size w w0 := by rw [hw0]; exact Below.refl _ _
    clear hw0 hB
    go_wp2_with fail
    refine (drawFrames_any a len cap bs w0 (hv.below B0 (Nat.le_refl _)) hl).mono ?_
    rintro e w1 ⟨d, hd, rfl, hb1⟩
    have B1 : Below w.heap.size w w1 := B0.trans (hb1.mono B0.size)
    clear B0 hb1
    go_wp2_with fail
    refine (hFs d w1 B1 (by omega)).mono ?_
    rintro e w2 ⟨ts, hts, g, og, cg, rfl, hg, hO, hb2⟩
    have B2 : Below w.heap.size w w2 := B1.trans (hb2.mono B1.size)
    have HTS : Hid (IsFrames d ts) := hts
    obtain ⟨hsm, hnl, htk, hct⟩ := hts.small
    clear B1 hb2 hg hts
    go_wp2_with fail
    refine (drawFrame_any a len cap bs w2 (hv.below B2 (Nat.le_refl _)) hl).mono ?_
    rintro e w3 ⟨s, hs, rfl, hb3⟩
    have B3 : Below w.heap.size w w3 := B2.trans (hb3.mono B2.size)
    have O3 := hO.below hb3 hO.blk
    clear B2 hb3 hO
    go_wp2_with fail
    refine (hFr s w3 B3 (by omega)).mono ?_
    rintro e w4 ⟨rfl, hb4⟩
    have B4 : Below w.heap.size w w4 := B3.trans (hb4.mono B3.size)
    have O4 := O3.below hb4 O3.blk
    clear B3 hb4 O3
    go_wp2_with fail
    refine (drawTorn_any a len cap bs w4 (hv.below B4 (Nat.le_refl _)) hl).mono ?_
    rintro e w5 ⟨x, kn, y, bn, hxl, hyl, rfl, hb5⟩
    have B5 : Below w.heap.size w w5 := B4.trans (hb5.mono B4.size)
    have O5 := O4.below hb5 O4.blk
    clear B4 hb5 O4
    go_wp2_with fail
    refine (hTo x y kn bn w5 (by omega) (by omega)).mono ?_
    rintro e w6 ⟨rfl, hb6⟩
    have B6 : Below w.heap.size w w6 := B5.trans (hb6.mono B5.size)
    have O6 := O5.below hb6 O5.blk
    clear B5 hb6 O5
    go_wp2_with fail
    refine (specFrames_any d w6 (by omega)).mono ?_
    rintro e w7 ⟨ts', hts', g7, og7, cg7, he7, hg7, hO7, hb7⟩
    rw [hts'.unique HTS.out] at he7 hO7
    subst he7
    have B7 : Below w.heap.size w w7 := B6.trans (hb7.mono B6.size)
    have O7 := O6.below hb7 O6.blk
    clear B6 hb7 O6 hts' hg7
    go_wp2_with fail
    refine (likeT_any g og cg ts.length g7 og7 cg7 ts.length ts ts w7 O7 hO7).mono ?_
    rintro e w8 ⟨rfl, q8, rfl⟩
    rw [show decide (ts = ts) = true by simp]
    have B8 : Below w.heap.size w (w7.drewN q8) := belowN B7
    have KO8 : Hid (OS (w7.drewN q8) g og ts.length cg ts) := O7.drewN q8
    clear B7 O7 hO7
    obtain ⟨NB, hNB⟩ : ∃ NB, (bytesOf ts).length = NB := ⟨_, rfl⟩
    have HNB : Hid ((bytesOf ts).length = NB) := hNB
    rw [hNB] at hnl htk
    have HTK : Hid (d.take NB = bytesOf ts) := htk
    rw [hNB]
    clear hNB htk
    go_wp2_with fail
    refine (specFrame_any s _ (by omega)).mono ?_
    rintro e w9 ⟨rfl, hb9⟩
    have KB9 : Hid (Below w.heap.size w w9) := B8.trans (hb9.mono (by have := B8.size; exact this))
    have KO9 : Hid (OS w9 g og ts.length cg ts) := KO8.out.below hb9 KO8.out.blk
    clear hb9 B8 KO8
    have hfs := frameL_len s
    have HFS : Hid (∀ F, frameL s = F → (F ≠ [] → s.length ≤ 2000 ∧ F = frL s)) := fun F hF hne => by
      unfold frameL at hF
      split at hF
      · rename_i h; exact ⟨h, hF.symm⟩
      · exact absurd hF.symm hne
    obtain ⟨F, hF⟩ : ∃ F, frameL s = F := ⟨_, rfl⟩
    have HF := HFS.out F hF
    have HFH : Hid (F ≠ [] → s.length ≤ 2000 ∧ F = frL s) := HF
    rw [hF] at hfs
    rw [hF]
    clear hF HFS HF
    have hqF : ((sv F).toList == (sv F).toList) = true := by simp
    have hszF := sv_size F
    go_wp2_with fail
    refine (specTorn_any x y kn bn w9 (by omega) (by omega)).mono ?_
    rintro e w9' ⟨rfl, hw9⟩
    have KB10 : Hid (Below w.heap.size w w9') := by rw [Hid, hw9]; exact KB9.out
    have KO10 : Hid (OS w9' g og ts.length cg ts) := by rw [Hid, hw9]; exact KO9.out
    clear hw9 KB9 KO9
    generalize firstB x kn ++ firstB y bn = T at *
    have hqT : ((sv T).toList == (sv T).toList) = true := by simp
    go_wp2_with fail
    refine (hCh s w9' (by omega)).mono ?_
    rintro e w11 ⟨rfl, hb11⟩
    have KB11 : Hid (Below w.heap.size w w11) := KB10.out.trans (hb11.mono KB10.out.size)
    have KO11 : Hid (OS w11 g og ts.length cg ts) := KO10.out.below hb11 KO10.out.blk
    clear hb11 KB10 KO10
    go_wp2_with fail
    refine (specCheck_any s w11 (by omega)).mono ?_
    rintro e w12 ⟨rfl, hw12⟩
    have KB12 : Hid (Below w.heap.size w w12) := by rw [Hid, hw12]; exact KB11.out
    have KO12 : Hid (OS w12 g og ts.length cg ts) := by rw [Hid, hw12]; exact KO11.out
    clear hw12 KB11 KO11
    generalize chk s = ck at *
    by_cases hFe : F = []
    · have hq0 : ((sv F).toList == []) = true := by rw [sv_list, hFe]; rfl
      clear hFe
      go_wp2
      go_loopw [17, 18] (fun s i wr => ∃ j : Nat, j ≤ ts.length ∧ i = .int .i64 j ∧ s = .string (sv (bytesOf (ts.take j))) ∧ Below w12.heap.size w12 wr) (fun _ i _ => ts.length - (intOf i).toNat)
      case atStart => exact ⟨0, Nat.zero_le _, rfl, by rw [HNIL.out]; rfl, Below.refl _ _⟩
      case round =>
        obtain ⟨j, hj, rfl, rfl, hbr⟩ := hrel
        have LB : Hid (Below w12.heap.size w12 wr) := hbr
        have LO : Hid (OS wr g og ts.length cg ts) := KO12.out.below hbr KO12.out.blk
        have LBW : Hid (Below w.heap.size w wr) := KB12.out.trans (hbr.mono KB12.out.size)
        clear hbr
        by_cases hlt : j < ts.length
        · have c1 := LO.out.cellAt hlt
          have htj : (ts.getD j []).length ≤ 2000 := hsm _ (by simp [hlt])
          have HST : Hid (bytesOf (ts.take (j + 1)) = bytesOf (ts.take j) ++ frL (ts.getD j [])) := by
            rw [Hid, List.take_succ_eq_append_getElem hlt, bytesOf_snoc]
            simp [hlt]
          have hF2 := specFrame_any (ts.getD j []) wr (by omega)
          rw [frameL_small htj] at hF2
          have hp1 : (bytesOf (ts.take j)).length ≤ NB := by rw [← HNB.out]; exact bytesOf_prefix (List.take_prefix _ _)
          have hp2 : (frL (ts.getD j [])).length ≤ 2013 := by have := frameL_len (ts.getD j []); rw [frameL_small htj] at this; omega
          have j1 : (j : Int) < (ts.length : Int) := by omega
          have j0 : (0 : Int) ≤ (j : Int) := by omega
          generalize ts.getD j [] = tj at *
          generalize bytesOf (ts.take j) = A at *
          generalize frL tj = B at *
          have hsA := sv_size A
          have hsB := sv_size B
          have happ := sv_app A B
          go_wp2_with fail
          refine hF2.mono ?_
          rintro e wz ⟨rfl, hbz⟩
          have LBZ : Hid (Below w12.heap.size w12 wz) := LB.out.trans (hbz.mono LB.out.size)
          clear hbz hF2
          go_wp2
          go_roundw
          case rel => exact ⟨j + 1, by omega, by go_num, by rw [HST.out], LBZ.out⟩
          case measure => simp [intOf]; omega
        · have hjl : j = ts.length := by omega
          subst hjl
          rw [List.take_length]
          have hvr := hv.below LBW.out (Nat.le_refl _)
          have nb1 : (NB : Int) + 1 ≤ 1000000 := by omega
          go_wp2_with fail
          refine (pick_any a len cap bs 1 ((NB : Int) + 1) wr hvr hl (by omega) (by omega) (by omega) (by omega)).mono ?_
          rintro e wp ⟨pk, rfl, hp0, hp1, hwp⟩
          obtain ⟨k, hk⟩ : ∃ k : Nat, pk = (k : Int) := ⟨pk.toNat, by omega⟩
          subst hk
          have LBP : Hid (Below w.heap.size w wp) := by rw [Hid, hwp]; exact LBW.out
          have LOP : Hid (OS wp g og ts.length cg ts) := by rw [Hid, hwp]; exact LO.out
          clear hwp hvr
          have hkd : (k : Int) ≤ (d.length : Int) := by omega
          have hcut : (sv d).extract 0 k = sv (d.take k) := by rw [sv_sub, List.drop_zero, Nat.sub_zero]
          have hszd := sv_size d
          have hF3 := hFs (d.take k) wp LBP.out (by rw [List.length_take]; omega)
          go_wp2_with fail
          refine hF3.mono ?_
          rintro e w20 ⟨ts3, hts3, g3, og3, cg3, rfl, hg3, hO3, hb20⟩
          have hpre := HTS.out.cut (List.take_prefix k d) hts3
          have hpl := hpre.length_le
          have hbl := bytesOf_prefix hpre
          rw [HNB.out] at hbl
          have HTE : Hid (ts.take ts3.length = ts3) := by
            obtain ⟨z, hz⟩ := hpre
            rw [Hid, ← hz, List.take_left]
          have LB20 : Hid (Below w.heap.size w w20) := LBP.out.trans (hb20.mono LBP.out.size)
          have LO20 : Hid (OS w20 g og ts.length cg ts) := LOP.out.below hb20 LOP.out.blk
          have LT20 : OS w20 g og ts3.length cg (ts.take ts3.length) := LO20.out.take hpl
          rw [HTE.out] at LT20
          have hLk := likeT_any g3 og3 cg3 ts3.length g og cg ts3.length ts3 ts3 w20 hO3 LT20
          rw [show decide (ts3 = ts3) = true by simp] at hLk
          have hcut2 : (sv d).extract 0 NB = sv (bytesOf ts) := by rw [sv_sub, List.drop_zero, Nat.sub_zero, HTK.out]
          have hqq : ((sv (bytesOf ts)).toList == (sv (bytesOf ts)).toList) = true := by simp
          have n0 : (0 : Int) ≤ (NB : Int) := by omega
          have n1 : (NB : Int) ≤ (d.length : Int) := by omega
          have m1 : ((bytesOf ts3).length : Int) ≤ (NB : Int) := by omega
          have m2 : (ts3.length : Int) ≤ (ts.length : Int) := by omega
          have m3 : (ts3.length : Int) ≤ (cg : Int) := by have := LO20.out.le; omega
          clear hF3 hts3 hg3 hO3 hb20 hpre hbl LT20 hcut
          generalize (bytesOf ts3).length = N3 at *
          generalize ts3.length = L3 at *
          generalize bytesOf ts = BT at *
          go_wp2_with fail
          refine hLk.mono ?_
          rintro e w21 ⟨rfl, q21, rfl⟩
          go_wp2
          go_ret
          exact ⟨rfl, belowN LB20.out⟩
    · obtain ⟨hs2, hFl⟩ := HFH.out hFe
      have hq0 : ((sv F).toList == []) = false := by
        rw [sv_list]
        cases hc : F with
        | nil => exact absurd hc hFe
        | cons _ _ => rfl
      have hap7 := sv_lit1 F 55
      have h7 := hFs (F ++ [55]) w12 KB12.out (by rw [List.length_append]; simp; omega)
      have H7 : Hid (∀ ts7, IsFrames (F ++ [55]) ts7 → ts7 = [s] ∧ (bytesOf ts7).length = F.length) := fun ts7 h => by
        have e : ts7 = [s] := h.unique (by rw [hFl]; exact isFrames_one hs2 (by simp))
        subst e
        refine ⟨rfl, ?_⟩
        rw [bytesOf_cons, hFl]
        simp [bytesOf]
      clear hFe hFl HFH
      go_wp2_with fail
      refine h7.mono ?_
      rintro e w13 ⟨ts7, hts7, g9, og9, cg9, he9, hg9, hO9, hb13⟩
      obtain ⟨h71, h72⟩ := H7.out ts7 hts7
      rw [h71] at he9 hO9
      have h73 : (bytesOf [s]).length = F.length := by rw [← h71]; exact h72
      rw [h73] at he9
      subst he9
      have hx0 := hO9.cellAt (i := 0) (by simp)
      rw [Nat.add_zero] at hx0
      have hx1 : w13.cell? ⟨g9, og9, none⟩ = some (.string (sv s)) := hx0
      have hqs : ((sv s).toList == (sv s).toList) = true := by simp
      have hone : ([s] : List (List UInt8)).length = 1 := rfl
      rw [hone]
      have KB13 : Hid (Below w.heap.size w w13) := KB12.out.trans (hb13.mono KB12.out.size)
      have KO13 : Hid (OS w13 g og ts.length cg ts) := KO12.out.below hb13 KO12.out.blk
      clear h7 hts7 h71 h72 h73 hg9 hO9 hb13 hx0 hone H7
      go_wp2
      go_loopw [17, 18] (fun s i wr => ∃ j : Nat, j ≤ ts.length ∧ i = .int .i64 j ∧ s = .string (sv (bytesOf (ts.take j))) ∧ Below w13.heap.size w13 wr) (fun _ i _ => ts.length - (intOf i).toNat)
      case atStart => exact ⟨0, Nat.zero_le _, rfl, by rw [HNIL.out]; rfl, Below.refl _ _⟩
      case round =>
        obtain ⟨j, hj, rfl, rfl, hbr⟩ := hrel
        have LB : Hid (Below w13.heap.size w13 wr) := hbr
        have LO : Hid (OS wr g og ts.length cg ts) := KO13.out.below hbr KO13.out.blk
        have LBW : Hid (Below w.heap.size w wr) := KB13.out.trans (hbr.mono KB13.out.size)
        clear hbr
        by_cases hlt : j < ts.length
        · have c1 := LO.out.cellAt hlt
          have htj : (ts.getD j []).length ≤ 2000 := hsm _ (by simp [hlt])
          have HST : Hid (bytesOf (ts.take (j + 1)) = bytesOf (ts.take j) ++ frL (ts.getD j [])) := by
            rw [Hid, List.take_succ_eq_append_getElem hlt, bytesOf_snoc]
            simp [hlt]
          have hF2 := specFrame_any (ts.getD j []) wr (by omega)
          rw [frameL_small htj] at hF2
          have hp1 : (bytesOf (ts.take j)).length ≤ NB := by rw [← HNB.out]; exact bytesOf_prefix (List.take_prefix _ _)
          have hp2 : (frL (ts.getD j [])).length ≤ 2013 := by have := frameL_len (ts.getD j []); rw [frameL_small htj] at this; omega
          have j1 : (j : Int) < (ts.length : Int) := by omega
          have j0 : (0 : Int) ≤ (j : Int) := by omega
          generalize ts.getD j [] = tj at *
          generalize bytesOf (ts.take j) = A at *
          generalize frL tj = B at *
          have hsA := sv_size A
          have hsB := sv_size B
          have happ := sv_app A B
          go_wp2_with fail
          refine hF2.mono ?_
          rintro e wz ⟨rfl, hbz⟩
          have LBZ : Hid (Below w13.heap.size w13 wz) := LB.out.trans (hbz.mono LB.out.size)
          clear hbz hF2
          go_wp2
          go_roundw
          case rel => exact ⟨j + 1, by omega, by go_num, by rw [HST.out], LBZ.out⟩
          case measure => simp [intOf]; omega
        · have hjl : j = ts.length := by omega
          subst hjl
          rw [List.take_length]
          have hvr := hv.below LBW.out (Nat.le_refl _)
          have nb1 : (NB : Int) + 1 ≤ 1000000 := by omega
          go_wp2_with fail
          refine (pick_any a len cap bs 1 ((NB : Int) + 1) wr hvr hl (by omega) (by omega) (by omega) (by omega)).mono ?_
          rintro e wp ⟨pk, rfl, hp0, hp1, hwp⟩
          obtain ⟨k, hk⟩ : ∃ k : Nat, pk = (k : Int) := ⟨pk.toNat, by omega⟩
          subst hk
          have LBP : Hid (Below w.heap.size w wp) := by rw [Hid, hwp]; exact LBW.out
          have LOP : Hid (OS wp g og ts.length cg ts) := by rw [Hid, hwp]; exact LO.out
          clear hwp hvr
          have hkd : (k : Int) ≤ (d.length : Int) := by omega
          have hcut : (sv d).extract 0 k = sv (d.take k) := by rw [sv_sub, List.drop_zero, Nat.sub_zero]
          have hszd := sv_size d
          have hF3 := hFs (d.take k) wp LBP.out (by rw [List.length_take]; omega)
          go_wp2_with fail
          refine hF3.mono ?_
          rintro e w20 ⟨ts3, hts3, g3, og3, cg3, rfl, hg3, hO3, hb20⟩
          have hpre := HTS.out.cut (List.take_prefix k d) hts3
          have hpl := hpre.length_le
          have hbl := bytesOf_prefix hpre
          rw [HNB.out] at hbl
          have HTE : Hid (ts.take ts3.length = ts3) := by
            obtain ⟨z, hz⟩ := hpre
            rw [Hid, ← hz, List.take_left]
          have LB20 : Hid (Below w.heap.size w w20) := LBP.out.trans (hb20.mono LBP.out.size)
          have LO20 : Hid (OS w20 g og ts.length cg ts) := LOP.out.below hb20 LOP.out.blk
          have LT20 : OS w20 g og ts3.length cg (ts.take ts3.length) := LO20.out.take hpl
          rw [HTE.out] at LT20
          have hLk := likeT_any g3 og3 cg3 ts3.length g og cg ts3.length ts3 ts3 w20 hO3 LT20
          rw [show decide (ts3 = ts3) = true by simp] at hLk
          have hcut2 : (sv d).extract 0 NB = sv (bytesOf ts) := by rw [sv_sub, List.drop_zero, Nat.sub_zero, HTK.out]
          have hqq : ((sv (bytesOf ts)).toList == (sv (bytesOf ts)).toList) = true := by simp
          have n0 : (0 : Int) ≤ (NB : Int) := by omega
          have n1 : (NB : Int) ≤ (d.length : Int) := by omega
          have m1 : ((bytesOf ts3).length : Int) ≤ (NB : Int) := by omega
          have m2 : (ts3.length : Int) ≤ (ts.length : Int) := by omega
          have m3 : (ts3.length : Int) ≤ (cg : Int) := by have := LO20.out.le; omega
          clear hF3 hts3 hg3 hO3 hb20 hpre hbl LT20 hcut
          generalize (bytesOf ts3).length = N3 at *
          generalize ts3.length = L3 at *
          generalize bytesOf ts = BT at *
          go_wp2_with fail
          refine hLk.mono ?_
          rintro e w21 ⟨rfl, q21, rfl⟩
          go_wp2
          go_ret
          exact ⟨rfl, belowN LB20.out⟩
end Go.Proofs.YtdlgcdoedfbeeaaGreatDoor
