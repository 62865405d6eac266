/-
  The walk of the law FnMattern.
-/
import Derived.Test.YtacogcfdolmfpaaDr6
import Derived.Test.YtacogcfdolmfpaaLawCl
namespace Go.Proofs.Ytacogcfdolmfpaa
set_option linter.unusedSimpArgs false
set_option linter.unusedVariables false
open Go.RowKit Go.Sort

set_option maxRecDepth 100000 in
set_option maxHeartbeats 3200000 in
/-- The law FnMattern. -/
theorem lawMattern (a : Option Addr) (len cap : Nat) (bs : Nat → Int) (w : World) (hv : BVec w a len bs) :
    Calls Try.prog 5 #[.slice a len cap] w fun e w' => e = .returned (.bool true) ∧ Below w.heap.size w w' := by
  by_cases hbig : (4096 : Int) < (len : Int)
  · have hB := big_any a len cap w
    rw [decide_eq_true hbig] at hB
    go_enter Try.func5, Try.ntmps5
    go_wp2_with fail
    refine hB.mono ?_
    rintro e w1 ⟨rfl, hw1⟩
    have HW : Hid (w1 = w) := hw1
    clear hw1
    go_wp2
    go_ret
    exact ⟨rfl, by rw [HW.out]; exact Below.refl _ _⟩
  · have hB := big_any a len cap w
    rw [decide_eq_false hbig] at hB
    have hl : len ≤ 4096 := by omega
    go_enter Try.func5, Try.ntmps5
    go_wp2_with fail
    refine hB.mono ?_
    rintro e w0 ⟨rfl, hw0⟩
    have hv0 : BVec w0 a len bs := by rw [hw0]; exact hv
    have B0 : Below w.heap.size w w0 := by rw [hw0]; exact Below.refl _ _
    clear hw0 hB
    go_wp2_with fail
    refine (drawClocks_any a len cap bs w0 hv0 hl).mono ?_
    rintro e w1 ⟨v, g, f, n, c, es, rfl, rfl, hn, hnc, hcm, hE1, hb1⟩
    have B1 : Below w.heap.size w w1 := B0.trans (hb1.mono B0.size)
    have hnm : n ≤ maxLen := by unfold maxLen; omega
    have KE : Hid (∀ X, Below w1.heap.size w1 X → EvsAt X g f n es) := fun X hX => evs_below hE1 hX (Nat.le_refl _)
    have hv1 := hv0.below hb1 (Nat.le_refl _)
    have hn40 := ckN_le es n
    have H8 : Hid (∀ i, i < ckN es n → (cl es i).length = 8) := fun i _ => cl_len es i
    have HF : Hid (∀ i, i < ckN es n → Fits (cl es i)) := fun i hi => ckN_fits hi
    have HN1 : Hid (okT es n = true → ckN es n = n) := ckN_true
    have HN0 : Hid (okT es n = false → ckN es n = 0) := ckN_false
    have hI := implClocks_any g f n c es w1 hE1 hnm hnc
    have hS := fun (X : World) (hX : EvsAt X g f n es) => specClocks_any g f n c es X hX hnm hnc
    generalize ckN es n = N at *
    go_wp2_with fail
    refine hI.mono ?_
    rintro e w2 ⟨gc, fc, cc, rc, rfl, _, V2, hb2⟩
    have hv2 := hv1.below hb2 (Nat.le_refl _)
    clear hE1 hb1 hv0 hv1 B0 hI
    go_wp2_with fail
    refine (drawEarlier_any a len cap bs w2 hv2 hl).mono ?_
    rintro e w3 ⟨a1, m1, c1, z1, a2, m2, c2, z2, rfl, k1, k2, k3, l1, l2, l3, hb3⟩
    have b13 : Below w1.heap.size w1 w3 := hb2.trans (hb3.mono hb2.size)
    have V3 := V2.below hb3
    have hv3 := hv2.below hb3 (Nat.le_refl _)
    clear V2 hv2 hb2 hb3
    go_wp2_with fail
    refine (drawApart_any a len cap bs w3 hv3 hl).mono ?_
    rintro e w4 ⟨p1, q1, d1, y1, p2, q2, d2, y2, rfl, o1, o2, o3, u1, u2, u3, hb4⟩
    have b14 : Below w1.heap.size w1 w4 := b13.trans (hb4.mono b13.size)
    have V4 := V3.below hb4
    have k1' := k1.below hb4 (Nat.le_refl _)
    have l1' := l1.below hb4 (Nat.le_refl _)
    clear V3 hv3 b13 hb4 k1 l1
    go_wp2_with fail
    refine (hS w4 (KE.out w4 b14)).mono ?_
    rintro e w5 ⟨gs, fs, cs, rs, rfl, _, V5, hb5⟩
    have b15 : Below w1.heap.size w1 w5 := b14.trans (hb5.mono b14.size)
    have C5 := V4.below hb5
    have k5 := k1'.below hb5 (Nat.le_refl _)
    have l5 := l1'.below hb5 (Nat.le_refl _)
    have o5 := o1.below hb5 (Nat.le_refl _)
    have u5' := u1.below hb5 (Nat.le_refl _)
    clear V4 b14 hb5 k1' l1' o1 u1 hS
    go_wp2_with fail
    refine (likeVV_any gc fc cc gs fs cs N _ _ rc rs (cl es) w5 C5 V5 hn40 H8.out HF.out).mono ?_
    rintro e w6 ⟨rfl, n6, rfl⟩
    have hE7 := implEarlier_any a1 a2 m1 c1 m2 c2 z1 z2 (w5.drewN n6) (k5.drewN n6) (l5.drewN n6) k2 l2 k3 l3
    have hE8 := fun X => specEarlier_any a1 a2 m1 c1 m2 c2 z1 z2 (w5.drewN X) (k5.drewN X) (l5.drewN X) (Nat.le_trans k2 k3) (Nat.le_trans l2 l3)
    have hE9 := fun X => implApart_any p1 p2 q1 d1 q2 d2 y1 y2 (w5.drewN X) (o5.drewN X) (u5'.drewN X) o2 u2 o3 u3
    have hE10 := fun X => specApart_any p1 p2 q1 d1 q2 d2 y1 y2 (w5.drewN X) (o5.drewN X) (u5'.drewN X) (Nat.le_trans o2 o3) (Nat.le_trans u2 u3)
    generalize earlB z1 z2 = E at *
    generalize apartB y1 y2 = A at *
    have hEE : (E != E) = false := by simp
    have hAA : (A != A) = false := by simp
    clear V5 k5 l5 o5 u5'
    go_wp2_with fail
    refine hE7.mono ?_
    rintro e w7 ⟨rfl, n7, rfl⟩
    rw [World.drewN_drewN]
    go_wp2_with fail
    refine (hE8 _).mono ?_
    rintro e w8 ⟨rfl, n8, rfl⟩
    rw [World.drewN_drewN]
    go_wp2_with fail
    refine (hE9 _).mono ?_
    rintro e w9 ⟨rfl, n9, rfl⟩
    rw [World.drewN_drewN]
    go_wp2_with fail
    refine (hE10 _).mono ?_
    rintro e w10 ⟨rfl, n10, rfl⟩
    rw [World.drewN_drewN]
    obtain ⟨W, hW⟩ : ∃ W, w5.drewN (n6 + n7 + n8 + n9 + n10) = W := ⟨_, rfl⟩
    rw [hW]
    have CW : Hid (VR W w1.heap.size gc fc N cc N rc (cl es)) := by rw [Hid, ← hW]; exact C5.drewN _
    have BW : Hid (Below w1.heap.size w1 W) := by rw [Hid, ← hW]; exact belowN b15
    clear hE7 hE8 hE9 hE10 C5 b15 hW
    go_wp2_with fail
    refine (specTok_any g f n c es W (KE.out W BW.out) hnm hnc).mono ?_
    rintro e w11 ⟨rfl, hg11⟩
    have C11 : Hid (VR w11 w1.heap.size gc fc N cc N rc (cl es)) := CW.out.below hg11.1
    have B11 : Hid (Below w1.heap.size w1 w11) := BW.out.trans (hg11.1.mono BW.out.size)
    clear hg11 CW BW hEE hAA
    cases hok : okT es n
    · have hN := HN0.out hok
      subst hN
      go_wp2
      go_ret
      exact ⟨rfl, B1.trans (B11.out.mono B1.size)⟩
    · have hN := HN1.out hok
      subst hN
      have HOK : Hid (okT es N = true) := hok
      clear hok HN1 HN0
      go_wp2
      go_loopw [9] (fun i wr => ∃ q : Nat, q ≤ N ∧ i = .int .i64 q ∧ VR wr w1.heap.size gc fc N cc N rc (cl es) ∧ Below w1.heap.size w1 wr) (fun i _ => N - (intOf i).toNat)
      case atStart => exact ⟨0, Nat.zero_le _, rfl, C11.out, B11.out⟩
      case round =>
        obtain ⟨q, hq, rfl, hcv, hbel⟩ := hrel
        have CV : Hid (VR wr w1.heap.size gc fc N cc N rc (cl es)) := hcv
        have BV : Hid (Below w1.heap.size w1 wr) := hbel
        clear hcv hbel C11 B11
        by_cases hlt : q < N
        · have hq1 : (q : Int) < (N : Int) := by omega
          have hq0 : (0 : Int) ≤ (q : Int) := by omega
          go_wp2
          go_loopw [10] (fun y wx => ∃ t : Nat, t ≤ N ∧ y = .int .i64 t ∧ VR wx w1.heap.size gc fc N cc N rc (cl es) ∧ Below w1.heap.size w1 wx) (fun y _ => N - (intOf y).toNat)
          case atStart => exact ⟨0, Nat.zero_le _, rfl, CV.out, BV.out⟩
          case round =>
            obtain ⟨t, ht, rfl, hcx, hbx⟩ := hrel
            have CX : Hid (VR wr w1.heap.size gc fc N cc N rc (cl es)) := hcx
            have BX : Hid (Below w1.heap.size w1 wr) := hbx
            clear hcx hbx CV BV
            by_cases htl : t < N
            · have ht1 : (t : Int) < (N : Int) := by omega
              have ht0 : (0 : Int) ≤ (t : Int) := by omega
              have hA1 := specAhead_any g f N c es (q : Int) (t : Int) wr (KE.out wr BX.out) hnm hnc (by omega)
              have hA2 := fun X (hX : Below w1.heap.size w1 X) => specAhead_any g f N c es (t : Int) (q : Int) X (KE.out X hX) hnm hnc (by omega)
              have HE : Hid (earlB (cl es q) (cl es t) = decide ((q : Int) ∈ pastT es N (t : Int))) := earl_eq HOK.out hlt htl
              have HA : Hid (q ≠ t → apartB (cl es q) (cl es t) = (!decide ((q : Int) ∈ pastT es N (t : Int)) && !decide ((t : Int) ∈ pastT es N (q : Int)))) := apart_eq HOK.out hlt htl
              generalize decide ((q : Int) ∈ pastT es N (t : Int)) = P at *
              generalize decide ((t : Int) ∈ pastT es N (q : Int)) = R at *
              go_wp2_with fail
              refine hA1.mono ?_
              rintro e w12 ⟨rfl, hb12⟩
              have B12 : Hid (Below w1.heap.size w1 w12) := BX.out.trans (hb12.mono BX.out.size)
              have C12 : Hid (VR w12 w1.heap.size gc fc N cc N rc (cl es)) := CX.out.below hb12
              clear hA1 hb12 CX BX
              go_wp2_with fail
              refine (hA2 w12 B12.out).mono ?_
              rintro e w13 ⟨rfl, hb13⟩
              have B13 : Hid (Below w1.heap.size w1 w13) := B12.out.trans (hb13.mono B12.out.size)
              have C13 : Hid (VR w13 w1.heap.size gc fc N cc N rc (cl es)) := C12.out.below hb13
              clear hA2 hb13 B12 C12
              have x1 := C13.out.at8 H8.out hlt hlt
              have x2 := C13.out.at8 H8.out htl htl
              have r1 := C13.out.row8 H8.out hlt
              have r2 := C13.out.row8 H8.out htl
              have hE := fun X => implEarlier_any (some ⟨(rc q).1, (rc q).2.1, none⟩) (some ⟨(rc t).1, (rc t).2.1, none⟩) 8 (rc q).2.2 8 (rc t).2.2 (cl es q) (cl es t) (w13.drewN X) ((r1.vec (HF.out q hlt)).drewN X) ((r2.vec (HF.out t htl)).drewN X) r1.le r2.le r1.max r2.max
              have hA := fun X => implApart_any (some ⟨(rc q).1, (rc q).2.1, none⟩) (some ⟨(rc t).1, (rc t).2.1, none⟩) 8 (rc q).2.2 8 (rc t).2.2 (cl es q) (cl es t) (w13.drewN X) ((r1.vec (HF.out q hlt)).drewN X) ((r2.vec (HF.out t htl)).drewN X) r1.le r2.le r1.max r2.max
              rw [HE.out] at hE
              have hPP : (P != P) = false := by simp
              clear r1 r2
              by_cases hqt : q = t
              · have hd : ((q : Int) != (t : Int)) = false := by simp [hqt]
                clear hqt HA hA
                go_wp2_with fail
                go_quiet (first | (go_at_call 47; exact (hE _).mono (fun e w' h => ⟨h.1, drew_one h.2⟩)))
                clear hE x1 x2
                go_wp2
                go_roundw
                case rel => exact ⟨t + 1, by omega, by go_num, C13.out.drewN _, belowN B13.out⟩
                case measure => simp [intOf]; omega
              · have hd : ((q : Int) != (t : Int)) = true := by simp; omega
                rw [HA.out hqt] at hA
                clear hqt HA
                cases P
                · have hRR : (!R != !R) = false := by simp
                  simp only [Bool.not_false, Bool.true_and] at hA
                  go_wp2_with fail
                  go_quiet (first | (go_at_call 47; exact (hE _).mono (fun e w' h => ⟨h.1, drew_one h.2⟩)) | (go_at_call 49; exact (hA _).mono (fun e w' h => ⟨h.1, drew_one h.2⟩)))
                  clear hE hA x1 x2
                  go_wp2
                  go_roundw
                  case rel => exact ⟨t + 1, by omega, by go_num, C13.out.drewN _, belowN B13.out⟩
                  case measure => simp [intOf]; omega
                · simp only [Bool.not_true, Bool.false_and] at hA
                  go_wp2_with fail
                  go_quiet (first | (go_at_call 47; exact (hE _).mono (fun e w' h => ⟨h.1, drew_one h.2⟩)) | (go_at_call 49; exact (hA _).mono (fun e w' h => ⟨h.1, drew_one h.2⟩)))
                  clear hE hA x1 x2
                  go_wp2
                  go_roundw
                  case rel => exact ⟨t + 1, by omega, by go_num, C13.out.drewN _, belowN B13.out⟩
                  case measure => simp [intOf]; omega
            · go_wp2
              go_roundw
              case rel => exact ⟨q + 1, by omega, by go_num, CX.out, BX.out⟩
              case measure => simp [intOf]; omega
        · go_wp2
          go_ret
          exact ⟨ret_bool (by simp), B1.trans (BV.out.mono B1.size)⟩
end Go.Proofs.Ytacogcfdolmfpaa
