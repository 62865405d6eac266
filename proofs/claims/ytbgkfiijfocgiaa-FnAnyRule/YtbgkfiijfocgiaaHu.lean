/-
  Several texts in one: LawTar.
-/
import Derived.Test.YtbgkfiijfocgiaaHx
/-
  The walk of the law FnTarski: what is settled is steady, above where it began, and the least such.
-/
namespace Go.Proofs.Ytbgkfiijfocgiaa
set_option linter.unusedSimpArgs false
set_option linter.unusedVariables false
open Go.RowKit Go.Sort

theorem told_ok {xs : List Int} {rs : List Ru} {Z : List Int} (h : IsSettled xs rs Z) (h0 : Z ≠ []) : told xs rs = true ∧ IsSet xs rs Z := by
  rcases h with h | ⟨_, h⟩
  · exact h
  · exact absurd h h0
theorem told_no {xs : List Int} {rs : List Ru} {Z : List Int} (h : IsSettled xs rs Z) (h0 : Z = []) : told xs rs = false := by
  rcases h with ⟨_, h⟩ | ⟨h, _⟩
  · have := h.1.1.1; rw [h0] at this; simp at this
  · exact h
theorem under8 {x y : List Int} (hx : Ok8 x) (hy : Ok8 y) (h : Le8 x y) : underB x y = true :=
  under_true (twoB_of hx.okB hy.okB (by rw [hx.1, hy.1])) (fun j hj => h j (by rw [hx.1] at hj; exact hj))
theorem le8_of_under {x y : List Int} (hx : x.length = 8) (h : underB x y = true) : Le8 x y := fun i hi => by
  simp only [underB, leB, Bool.and_eq_true, List.all_eq_true, decide_eq_true_eq] at h
  exact h.2 i (List.mem_range.2 (by omega))
theorem small8_ok {ys : List Int} (h : Small ys) (h8 : ys.length = 8) : Ok8 ys := ⟨h8, fun i hi => by have := h _ (el_mem (xs := ys) (i := i) (by omega)); omega⟩
theorem join8 {x y : List Int} (hx : Ok8 x) (hy : Ok8 y) : Ok8 (pairB max x y) ∧ Le8 x (pairB max x y) := by
  have ht := twoB_of hx.okB hy.okB (by rw [hx.1, hy.1])
  refine ⟨ok8_of (pair_ok max_or ht) (by rw [pair_len ht, hx.1]), fun i hi => ?_⟩
  rw [pair_el ht (by rw [hx.1]; exact hi)]
  omega
theorem same_self (x : List Int) : sameB x x = true := sameB_self x
/-- What the law holds: the code, the drawn vector and rules, what is settled. -/
structure Tk (w0 w : World) (a : Option Addr) (len : Nat) (bs : Nat → Int) (v r s : Value) (zs : List Int) (rs : List Ru) (Z : List Int) : Prop where
  below : Below w0.heap.size w0 w
  code : BVec w a len bs
  v : VecV w v zs
  r : RusV w r rs
  s : VecV w s Z
theorem Tk.step {w0 w w' : World} {a : Option Addr} {len : Nat} {bs : Nat → Int} {v r s : Value} {zs : List Int} {rs : List Ru} {Z : List Int} (h : Tk w0 w a len bs v r s zs rs Z) (hb : Below w.heap.size w w') : Tk w0 w' a len bs v r s zs rs Z :=
  ⟨h.below.trans (hb.mono h.below.size), h.code.below hb (Nat.le_refl _), h.v.below hb, h.r.below hb, h.s.below hb⟩
theorem vector8 (a : Option Addr) (len cap : Nat) (bs : Nat → Int) (seed : Int) (w : World) (hv : BVec w a len bs) (hl : len ≤ 4096) (hs0 : 0 ≤ seed) (hs1 : seed ≤ 1000) :
    Calls Try.prog 27 #[.slice a len cap, .int .i64 seed, .int .i64 8] w fun e w' => ∃ u ys, e = .returned u ∧ Ok8 ys ∧ VecV w' u ys ∧ Below w.heap.size w w' := by
  refine (vector_any a len cap bs seed 8 8 rfl w hv hl hs0 hs1 (by omega)).mono ?_
  rintro e w' ⟨a', c, ys, rfl, h8, hs, hV, hc, hm, hb⟩
  refine ⟨_, ys, rfl, small8_ok hs h8, ⟨a', c, by rw [h8], by rw [h8]; exact hV, by rw [h8]; exact hc, hm⟩, hb⟩

set_option maxRecDepth 100000 in
set_option maxHeartbeats 6400000 in
/-- The law FnTarski. -/
theorem lawTarski (hSe : ImplSettled) (hSt : ImplSteady) (hRo : ImplRulesOk) (a : Option Addr) (len cap : Nat) (bs : Nat → Int) (w : World) (hv : BVec w a len bs) :
    Calls Try.prog 4 #[.slice a len cap] w fun e w' => e = .returned (.bool true) ∧ Below w.heap.size w w' := by
  by_cases hbig : (4096 : Int) < (len : Int)
  · have hd : decide ((4096 : Int) < (len : Int)) = true := by simpa using hbig
    go_enter Try.func4, Try.ntmps4
    go_wp2_with fail
    refine (big_any a len cap w).mono ?_
    rintro e w1 ⟨rfl, rfl⟩
    go_wp2
    go_ret
    exact ⟨rfl, Below.refl _ _⟩
  · have hd : decide ((4096 : Int) < (len : Int)) = false := by simpa using hbig
    have hl : len ≤ 4096 := by omega
    go_enter Try.func4, Try.ntmps4
    go_wp2_with fail
    refine (big_any a len cap w).mono ?_
    rintro e w0 ⟨rfl, hw0⟩
    have hv0 : BVec w0 a len bs := by rw [hw0]; exact hv
    have hb0 : Below w.heap.size w w0 := by rw [hw0]; exact Below.refl _ _
    clear hw0 hv
    go_wp2_with fail
    refine (drawSettled_any a len cap bs w0 hv0 hl).mono ?_
    rintro e w1 ⟨v, r, zs, rs, rfl, hV, hR, _, _, hb1, _⟩
    have B1 : Hid (Below w.heap.size w w1) := hb0.trans (hb1.mono hb0.size)
    have C1 : Hid (BVec w1 a len bs) := hv0.below hb1 (Nat.le_refl _)
    clear hb1 hv0 hb0
    go_wp2_with fail
    refine (setI hSe v r zs rs w1 hV hR).mono ?_
    rintro e w2 ⟨s, Z, rfl, hZ, hVZ, hb2⟩
    have K2 : Hid (Tk w w2 a len bs v r s zs rs Z) := ⟨B1.out.trans (hb2.mono B1.out.size), C1.out.below hb2 (Nat.le_refl _), hV.below hb2, hR.below hb2, hVZ⟩
    have HZ : Hid (IsSettled zs rs Z) := hZ
    clear hb2 hV hR hVZ hZ B1 C1
    go_wp2_with fail
    refine (drawSteady_any a len cap bs w2 K2.out.code hl).mono ?_
    rintro e w3 ⟨x, y, xs, ys, rfl, hX, hY, hb3⟩
    have K3 : Hid (Tk w w3 a len bs v r s zs rs Z) := K2.out.step hb3
    clear K2 hb3
    go_wp2_with fail
    refine (setS v r zs rs w3 K3.out.v K3.out.r).mono ?_
    rintro e w4 ⟨s', Z', rfl, hZ', hVZ', hb4⟩
    have hzz : Z' = Z := hZ'.unique HZ.out
    subst hzz
    have K4 : Hid (Tk w w4 a len bs v r s zs rs Z') := K3.out.step hb4
    have X4 : Hid (VecV w4 x xs) := hX.below hb4
    have Y4 : Hid (RusV w4 y ys) := hY.below hb4
    clear K3 hb4 hX hY hZ'
    have sm : sameB Z' Z' = true := same_self Z'
    go_wp2_with fail
    refine (likeV s s' Z' Z' w4 K4.out.s hVZ').mono ?_
    rintro e w5 ⟨rfl, hb5⟩
    have K5 : Hid (Tk w w5 a len bs v r s zs rs Z') := K4.out.step hb5
    have X5 : Hid (VecV w5 x xs) := X4.out.below hb5
    have Y5 : Hid (RusV w5 y ys) := Y4.out.below hb5
    clear K4 X4 Y4 hb5 hVZ'
    go_wp2_with fail
    refine (stdI hSt x y xs ys w5 X5.out Y5.out).mono ?_
    rintro e w6 ⟨rfl, hb6⟩
    have K6 : Hid (Tk w w6 a len bs v r s zs rs Z') := K5.out.step hb6
    have X6 : Hid (VecV w6 x xs) := X5.out.below hb6
    have Y6 : Hid (RusV w6 y ys) := Y5.out.below hb6
    clear K5 X5 Y5 hb6
    go_wp2_with fail
    refine (stdS x y xs ys w6 X6.out Y6.out).mono ?_
    rintro e w7 ⟨rfl, hb7⟩
    have K7 : Hid (Tk w w7 a len bs v r s zs rs Z') := K6.out.step hb7
    have ne1 : (stdB xs ys != stdB xs ys) = false := by simp
    clear K6 X6 Y6 hb7
    go_wp2_with fail
    refine (rokI hRo r rs w7 K7.out.r).mono ?_
    rintro e w8 ⟨rfl, hb8⟩
    have K8 : Hid (Tk w w8 a len bs v r s zs rs Z') := K7.out.step hb8
    clear K7 hb8
    go_wp2_with fail
    refine (rokS r rs w8 K8.out.r).mono ?_
    rintro e w9 ⟨rfl, hb9⟩
    have K9 : Hid (Tk w w9 a len bs v r s zs rs Z') := K8.out.step hb9
    have ne2 : (okRs rs != okRs rs) = false := by simp
    clear K8 hb9
    obtain ⟨sa, sc, rfl, _, sc1, sc2⟩ := K9.out.s
    obtain ⟨va, vc, rfl, _, vc1, vc2⟩ := K9.out.v
    unfold maxLen at sc2 vc2
    by_cases hz0 : Z' = []
    · subst hz0
      have HT : Hid (told zs rs = false) := told_no HZ.out rfl
      go_wp2_with fail
      refine (rokS r rs w9 K9.out.r).mono ?_
      rintro e w10 ⟨rfl, hb10⟩
      have K10 := K9.out.step hb10
      have HB10 : Hid (Below w.heap.size w w10) := K10.below
      have HK : Hid (∀ X, Below w10.heap.size w10 X → Below w.heap.size w X) := fun X hX => K10.below.trans (hX.mono K10.below.size)
      have hO := okS _ zs w10 K10.v
      clear hb10 K10
      cases hro : okRs rs with
      | false =>
        go_wp2
        go_ret
        exact ⟨rfl, HB10.out⟩
      | true =>
        by_cases h8 : zs.length = 8
        · have hok : okB zs = false := by
            have := HT.out
            rw [told, hro, h8] at this
            simpa using this
          rw [hok] at hO
          have hn8 : ((zs.length : Int) != 8) = false := by simp; omega
          clear h8
          go_wp2_with fail
          refine hO.mono ?_
          rintro e w11 ⟨rfl, hb11⟩
          have HB11 : Hid (Below w.heap.size w w11) := HK.out w11 hb11
          clear hb11
          go_wp2
          go_ret
          exact ⟨rfl, HB11.out⟩
        · have hn8 : ((zs.length : Int) != 8) = true := by simp; omega
          go_wp2
          go_ret
          exact ⟨rfl, HB10.out⟩
    · obtain ⟨ht, hset⟩ := told_ok HZ.out hz0
      obtain ⟨hzs, hrs⟩ := told_iff.1 ht
      have h8Z : Z'.length = 8 := hset.1.1.1
      have HSET : Hid (IsSet zs rs Z') := hset
      have HZS : Hid (Ok8 zs) := hzs
      have HRS : Hid (okRs rs = true) := hrs
      have hlen : ((Z'.length : Int) == 0) = false := by simp; omega
      have hst : stdB Z' rs = true := (std_of (told_iff.2 ⟨hset.1.1, hrs⟩)).2 hset.2
      have hun : underB zs Z' = true := under8 hzs hset.1.1 hset.1.2.1
      have hS1 := stdI hSt _ r Z' rs w9 K9.out.s K9.out.r
      rw [hst] at hS1
      clear ht hset hzs hrs hz0 h8Z
      go_wp2_with fail
      refine hS1.mono ?_
      rintro e w10 ⟨rfl, hb10⟩
      have K10 : Hid (Tk w w10 a len bs (.slice va zs.length vc) r (.slice sa Z'.length sc) zs rs Z') := K9.out.step hb10
      have hU1 := undI _ _ zs Z' w10 K10.out.v K10.out.s
      rw [hun] at hU1
      clear hS1 hb10
      go_wp2_with fail
      refine hU1.mono ?_
      rintro e w11 ⟨rfl, hb11⟩
      have K11 : Hid (Tk w w11 a len bs (.slice va zs.length vc) r (.slice sa Z'.length sc) zs rs Z') := K10.out.step hb11
      clear hU1 hb11 K10
      go_wp2_with fail
      refine (setI hSe _ r Z' rs w11 K11.out.s K11.out.r).mono ?_
      rintro e w12 ⟨s2, Z2, rfl, hZ2, hV2, hb12⟩
      have hz2 : Z2 = Z' := by
        refine hZ2.unique (.inl ⟨told_iff.2 ⟨HSET.out.1.1, HRS.out⟩, IsSet.self HSET.out.1.1 HSET.out.2⟩)
      subst hz2
      have K12 : Hid (Tk w w12 a len bs (.slice va zs.length vc) r (.slice sa Z2.length sc) zs rs Z2) := K11.out.step hb12
      have hLk := likeV s2 _ Z2 Z2 w12 hV2 K12.out.s
      rw [sm] at hLk
      clear hZ2 hV2 hb12 K11
      go_wp2_with fail
      refine hLk.mono ?_
      rintro e w13 ⟨rfl, hb13⟩
      have K13 : Hid (Tk w w13 a len bs (.slice va zs.length vc) r (.slice sa Z2.length sc) zs rs Z2) := K12.out.step hb13
      clear hLk hb13 K12 K9
      go_wp2
      go_loopw [8] (fun i wr => ∃ k : Nat, k ≤ 6 ∧ i = .int .i64 k ∧ Tk w wr a len bs (.slice va zs.length vc) r (.slice sa Z2.length sc) zs rs Z2) (fun i _ => 6 - (intOf i).toNat)
      case atStart => exact ⟨0, by omega, rfl, K13.out⟩
      case round =>
        obtain ⟨k, hk, rfl, hK⟩ := hrel
        have KK : Hid (Tk w wr a len bs (.slice va zs.length vc) r (.slice sa Z2.length sc) zs rs Z2) := hK
        clear hK K13
        by_cases hlt : k < 6
        · have k1 : (k : Int) < 6 := by omega
          have hVe := vector8 a len cap bs (10 * (k : Int)) wr KK.out.code hl (by omega) (by omega)
          have km : -9223372036854775808 ≤ 10 * (k : Int) ∧ 10 * (k : Int) ≤ 9223372036854775807 := by omega
          go_wp2_with fail
          refine hVe.mono ?_
          rintro e x1 ⟨u, ys', rfl, hy8, hVy, hbx1⟩
          have M1 : Hid (Tk w x1 a len bs (.slice va zs.length vc) r (.slice sa Z2.length sc) zs rs Z2) := KK.out.step hbx1
          obtain ⟨hj8, hjl⟩ := join8 HZS.out hy8
          clear hVe hbx1
          go_wp2_with fail
          refine (joiS _ u zs ys' x1 M1.out.v hVy).mono ?_
          rintro e x2 ⟨jn, rfl, hVj, hbx2⟩
          have M2 : Hid (Tk w x2 a len bs (.slice va zs.length vc) r (.slice sa Z2.length sc) zs rs Z2) := M1.out.step hbx2
          clear hbx2 M1 hVy
          go_wp2_with fail
          refine (setI hSe jn r _ rs x2 hVj M2.out.r).mono ?_
          rintro e x3 ⟨q, Q, rfl, hQ, hVQ, hbx3⟩
          have M3 : Hid (Tk w x3 a len bs (.slice va zs.length vc) r (.slice sa Z2.length sc) zs rs Z2) := M2.out.step hbx3
          have hQs : IsSet (pairB max zs ys') rs Q := by
            rcases hQ with h | h
            · exact h.2
            · rw [told_iff.2 ⟨hj8, HRS.out⟩] at h; cases h.1
          have hUu : underB Z2 Q = true := under8 HSET.out.1.1 hQs.1.1 (HSET.out.mono hQs hjl)
          have hU2 := undI _ q Z2 Q x3 M3.out.s hVQ
          rw [hUu] at hU2
          clear hbx3 M2 hVj hVQ hQ hQs hj8 hjl hy8
          go_wp2_with fail
          refine hU2.mono ?_
          rintro e x4 ⟨rfl, hbx4⟩
          have M4 : Hid (Tk w x4 a len bs (.slice va zs.length vc) r (.slice sa Z2.length sc) zs rs Z2) := M3.out.step hbx4
          clear hU2 hbx4 M3
          go_wp2
          go_roundw
          case rel => exact ⟨k + 1, by omega, by go_num, M4.out⟩
          case measure => simp [intOf]; omega
        · have hk6 : k = 6 := by omega
          subst hk6
          go_wp2
          go_ret
          exact ⟨rfl, KK.out.below⟩
end Go.Proofs.Ytbgkfiijfocgiaa
