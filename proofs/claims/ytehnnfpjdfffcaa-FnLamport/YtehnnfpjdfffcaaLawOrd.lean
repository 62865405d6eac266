/-
  The walk of the law FnExactOrder.
-/
import Derived.Test.YtehnnfpjdfffcaaOri
import Derived.Test.YtehnnfpjdfffcaaLawStp
namespace Go.Proofs.Ytehnnfpjdfffcaa
set_option linter.unusedSimpArgs false
set_option linter.unusedVariables false
open Go.RowKit Go.Sort

open Classical in
/-- The order of a trace. -/
noncomputable def ordT (es : List Ev) (len : Nat) : List Int := if h : ∃ Z, IsOrd es len Z then h.choose else []
theorem ordT_eq {es : List Ev} {len : Nat} {Z : List Int} (h : IsOrd es len Z) : Z = ordT es len := by
  have hx : ∃ Z, IsOrd es len Z := ⟨Z, h⟩
  unfold ordT
  rw [dif_pos hx]
  exact h.unique hx.choose_spec
theorem IsOrd.bounds {es : List Ev} {len : Nat} {Z : List Int} (h : IsOrd es len Z) : Z.length ≤ 40 ∧ Fits Z := by
  rcases h with ⟨_, rfl⟩ | ⟨ho, O, hO, rfl⟩
  · exact ⟨by simp, fun x hx => by simp at hx⟩
  · have h40 := (okT_all ho).1
    refine ⟨by rw [nI_len, hO.length]; exact h40, nI_fits (B := 40) (fun x hx => by have := hO.lt hx; omega) (by omega)⟩
theorem ordT_bounds (es : List Ev) (len : Nat) : (ordT es len).length ≤ 40 ∧ Fits (ordT es len) := by
  by_cases hx : ∃ Z, IsOrd es len Z
  · obtain ⟨Z, hZ⟩ := hx
    rw [← ordT_eq hZ]; exact hZ.bounds
  · unfold ordT
    rw [dif_neg hx]
    exact ⟨by simp, fun x hx => by simp at hx⟩
theorem specOrder_at (b off len cap : Nat) (es : List Ev) (w : World) (hc : EvsAt w b off len es) (hm : len ≤ maxLen) (hcap : len ≤ cap) :
    Calls Try.prog 34 #[.slice (some ⟨b, off, none⟩) len cap] w fun e w' => Ans w w' e (ordT es len) :=
  (specOrder_any b off len cap es w hc hm hcap).mono fun e w' ⟨Z, hZ, h⟩ => by rw [← ordT_eq hZ]; exact h
theorem implOrder_at (b off len cap : Nat) (es : List Ev) (w : World) (hc : EvsAt w b off len es) (hm : len ≤ maxLen) (hcap : len ≤ cap) :
    Calls Try.prog 31 #[.slice (some ⟨b, off, none⟩) len cap] w fun e w' => Ans w w' e (ordT es len) :=
  (implOrder_any b off len cap es w hc hm hcap).mono fun e w' ⟨Z, hZ, h⟩ => by rw [← ordT_eq hZ]; exact h

set_option maxRecDepth 100000 in
set_option maxHeartbeats 1600000 in
/-- The law FnExactOrder. -/
theorem lawOrder (a : Option Addr) (len cap : Nat) (es : List Ev) (w : World) (hv : EvS w a len es) (hcap : len ≤ cap) (hm : cap ≤ maxLen) :
    Calls Try.prog 9 #[.slice a len cap] w fun e w' => e = .returned (.bool true) ∧ Below w.heap.size w w' := by
  have hl : len ≤ maxLen := Nat.le_trans hcap hm
  by_cases hbig : (1048576 : Int) < (len : Int)
  · go_enter Try.func9, Try.ntmps9
    go_wp2_with fail
    refine (sz_big a len cap w hbig hl).mono ?_
    rintro e w1 ⟨rfl, hw1⟩
    have HW : Hid (w1 = w) := hw1
    clear hw1
    go_wp2
    go_ret
    exact ⟨rfl, by rw [HW.out]; exact Below.refl _ _⟩
  · have hsm : len ≤ 1048576 := by omega
    have hpos : decide ((1048576 : Int) - (len : Int) < 0) = false := by simp; omega
    have hfz : Fits (ordT es len) := (ordT_bounds es len).2
    have hz10 : (ordT es len).length ≤ 10000 := by have := (ordT_bounds es len).1; omega
    have hzm : (ordT es len).length ≤ maxLen := by unfold maxLen; omega
    go_enter Try.func9, Try.ntmps9
    go_wp2_with fail
    refine (sz_small a len cap w (by omega)).mono ?_
    rintro e w1 ⟨rfl, hw1⟩
    have G1 : Grew w w1 := by rw [hw1]; exact Grew.refl _
    clear hw1
    go_wp2_with fail
    refine (copyE_any a len cap es w1 (hv.grew G1) hsm).mono ?_
    rintro e w2 ⟨b2, rfl, _, hr2, hg2⟩
    have G2 : Grew w w2 := G1.trans hg2
    go_wp2_with fail
    refine (specOrder_at b2 0 len len es  w2 hr2.at hl (Nat.le_refl _) ).mono ?_
    rintro e w3 ⟨d, od, cd, rfl, hd, hwant, hb3⟩
    have B3 : Below w.heap.size w w3 := G2.1.trans (hb3.mono G2.1.size)
    clear hr2 hg2 hb3 G1
    go_wp2_with fail
    refine (copyE_any a len cap es w3 (hv.below B3 (Nat.le_refl _)) hsm).mono ?_
    rintro e w4 ⟨b, rfl, hb4, hr4, hg4⟩
    have B4 : Below w.heap.size w w4 := B3.trans (hg4.1.mono B3.size)
    go_wp2_with fail
    refine (implOrder_at b 0 len len es  w4 hr4.at hl (Nat.le_refl _) ).mono ?_
    rintro e w5 ⟨g, og, cg, rfl, hg, hgot, hb5⟩
    have n1 : d < b := Nat.lt_of_lt_of_le hwant.blk hb4
    have n2 : b < g := Nat.lt_of_lt_of_le hr4.lt hg
    have n0 : w.heap.size ≤ b := Nat.le_trans B3.size hb4
    have W4 := hwant.below hg4.1 hwant.blk
    have T5 : Tri w w5 b len g og cg d od cd es (ordT es len) (ordT es len) := ⟨B4.trans (hb5.mono B4.size), hr4.below hb5 hr4.lt, hgot, W4.below hb5 W4.blk⟩
    clear hwant hr4 hg4 hb5 hgot B3 B4 W4 hb4 hg hd
    generalize hZe : ordT es len = Z at *
    have HZ : Hid (ordT es len = Z) := hZe
    clear hZe
    go_wp2_with fail
    refine (eq_any _ _ _ _ _ _ Z Z _ (T5.got.vec hfz) (T5.want.vec hfz) hzm).mono ?_
    rintro e w5' ⟨rfl, n5, rfl⟩
    go_wp2_with fail
    refine (copyE_any a len cap es _ (hv.below (belowN (n := n5) T5.below) (Nat.le_refl _)) hsm).mono ?_
    rintro e w6 ⟨b6, rfl, _, hr6, hg6⟩
    have T6 := (T5.drewN n5).step hg6.1
    clear T5 hg6
    go_wp2_with fail
    refine (eqE_any b b6 0 0 len len len es w6 T6.x0.at hr6.at hl).mono ?_
    rintro e w7 ⟨rfl, hg7⟩
    have T7 := T6.step hg7.1
    clear T6 hg7 hr6
    go_wp2_with fail
    refine (markE_any b len 1 es w7 T7.x0 (by omega) (by omega)).mono ?_
    rintro e w8 ⟨rfl, ht8⟩
    have B8 : Below w.heap.size w w8 := T7.below.trans (ht8.below n0)
    have got8 := T7.got.touch ht8 (by omega)
    have want8 := T7.want.touch ht8 (by omega)
    have hk0 : decide (((1 + len * 3 : Nat) : Int) < 0) = false := by simp; omega
    clear T7 ht8
    go_wp2_with fail
    refine (eq_any _ _ _ _ _ _ Z Z _ (got8.vec hfz) (want8.vec hfz) hzm).mono ?_
    rintro e w8' ⟨rfl, n8, rfl⟩
    go_wp2_with fail
    refine (markO_any g og cg 1 _ _ Z _ (got8.drewN n8) (by rfl) (by omega) (by omega)).mono ?_
    rintro e w9 ⟨rfl, got9, ht9⟩
    have B9 : Below w.heap.size w w9 := (belowN (n := n8) B8).trans (ht9.below (by omega))
    have want9 := (want8.drewN n8).touch ht9 (by omega)
    clear B8 got8 want8 ht9 hk0
    go_wp2_with fail
    refine (heldO_any g og cg 1 _ _ _ got9 (by rfl) (by omega) (by omega)).mono ?_
    rintro e w9' ⟨rfl, rfl⟩
    go_wp2_with fail
    refine (copyE_any a len cap es _ (hv.below B9 (Nat.le_refl _)) hsm).mono ?_
    rintro e w10 ⟨b10, rfl, _, hr10, hg10⟩
    have B10 : Below w.heap.size w w10 := B9.trans (hg10.1.mono B9.size)
    have got10 := got9.below hg10.1 got9.blk
    have want10 := want9.below hg10.1 want9.blk
    clear B9 got9 want9 hg10
    go_wp2_with fail
    refine (implOrder_at b10 0 len len es  w10 hr10.at hl (Nat.le_refl _) ).mono ?_
    rintro e w11 ⟨g11, og11, cg11, he, _, hgot11, hb11⟩
    rw [HZ.out] at he hgot11
    subst he
    have B11 : Below w.heap.size w w11 := B10.trans (hb11.mono B10.size)
    have got11 := got10.below hb11 got10.blk
    have want11 := want10.below hb11 want10.blk
    clear B10 got10 want10 hb11 hr10
    go_wp2_with fail
    refine (eq_any _ _ _ _ _ _ Z Z _ (hgot11.vec hfz) (want11.vec hfz) hzm).mono ?_
    rintro e w11' ⟨rfl, n11, rfl⟩
    go_wp2_with fail
    refine (heldO_any g og cg 1 _ _ _ (got11.drewN n11) (by rfl) (by omega) (by omega)).mono ?_
    rintro e w12 ⟨rfl, hw12⟩
    have B12 : Below w.heap.size w w12 := by rw [hw12]; exact belowN B11
    clear hw12
    go_wp2
    go_ret
    exact ⟨rfl, B12⟩
end Go.Proofs.Ytehnnfpjdfffcaa
