/-
  Several texts in one: Hyr Lrs Lfi.
-/
import Derived.Test.YtbgkfiijfocgiaaHj
import Derived.Test.YtbgkfiijfocgiaaHk
import Derived.Test.YtbgkfiijfocgiaaGa
import Derived.Deep.RegionHeld3
/-
  What the program's functions of fixpoints answer, and the walks of the exact laws FROM that.
-/
namespace Go.Proofs.Ytbgkfiijfocgiaa
set_option linter.unusedSimpArgs false
set_option linter.unusedVariables false
open Go.RowKit Go.Sort

/-- What the program's RulesOk answers. -/
def ImplRulesOk : Prop := ∀ (ra : Option Addr) (rl rc : Nat) (rs : List Ru) (w : World), RuS w ra rl rs → rl ≤ rc → rc ≤ maxLen → Calls Try.prog 34 #[.slice ra rl rc] w fun e w' => e = .returned (.bool (okRs rs)) ∧ Below w.heap.size w w'
/-- What the program's Steady answers. -/
def ImplSteady : Prop := ∀ (a : Option Addr) (len cap : Nat) (xs : List Int) (ra : Option Addr) (rl rc : Nat) (rs : List Ru) (w : World), Vec w a len xs → RuS w ra rl rs → len ≤ cap → cap ≤ maxLen → rl ≤ rc → rc ≤ maxLen →
  Calls Try.prog 32 #[.slice a len cap, .slice ra rl rc] w fun e w' => e = .returned (.bool (stdB xs rs)) ∧ Below w.heap.size w w'
/-- What the program's Fired answers. -/
def ImplFired : Prop := ∀ (a : Option Addr) (len cap : Nat) (xs : List Int) (r : Ru) (w : World), Vec w a len xs → len ≤ cap → cap ≤ maxLen → Calls Try.prog 37 #[.slice a len cap, ruV r] w fun e w' => AnsN w w' e (firedL xs r)
/-- What the program's Settled answers. -/
def ImplSettled : Prop := ∀ (a : Option Addr) (len cap : Nat) (xs : List Int) (ra : Option Addr) (rl rc : Nat) (rs : List Ru) (w : World), Vec w a len xs → RuS w ra rl rs → len ≤ cap → cap ≤ maxLen → rl ≤ rc → rc ≤ maxLen →
  Calls Try.prog 29 #[.slice a len cap, .slice ra rl rc] w fun e w' => ∃ Z, IsSettled xs rs Z ∧ AnsN w w' e Z

set_option maxRecDepth 100000 in
set_option maxHeartbeats 800000 in
/-- The law FnExactRulesOk. -/
theorem lawRulesOk (hI : ImplRulesOk) (a : Option Addr) (len cap : Nat) (rs : List Ru) (w : World) (hv : RuS w a len rs) (hcap : len ≤ cap) (hm : cap ≤ maxLen) :
    Calls Try.prog 6 #[.slice a len cap] w fun e w' => e = .returned (.bool true) ∧ Below w.heap.size w w' := by
  have hl : len ≤ maxLen := Nat.le_trans hcap hm
  have hS := szR_any a len cap w hl
  by_cases hsm : len ≤ 1048576
  · rw [if_pos hsm] at hS
    have hpos : decide ((1048576 : Int) - (len : Int) < 0) = false := by simp; omega
    have hvl := hv.1
    have HVL : Hid (rs.length = len) := hvl
    clear hvl
    go_enter Try.func6, Try.ntmps6
    go_wp2_with fail
    refine hS.mono ?_
    rintro e w1 ⟨rfl, hw1⟩
    have G1 : Grew w w1 := by rw [hw1]; exact Grew.refl _
    clear hw1 hS
    go_wp2_with fail
    refine (copyR_any a len cap rs w1 (hv.grew G1) hsm).mono ?_
    rintro e w2 ⟨b2, rfl, _, hr2, hg2⟩
    have G2 : Grew w w2 := G1.trans hg2
    go_wp2_with fail
    refine (rulesOk_any (some ⟨b2, 0, none⟩) len len rs w2 (hr2.rus HVL.out) hl).mono ?_
    rintro e w3 ⟨rfl, hg3⟩
    have G3 : Grew w w3 := G2.trans hg3
    clear hr2 hg2 hg3 G1 G2
    go_wp2_with fail
    refine (copyR_any a len cap rs w3 (hv.grew G3) hsm).mono ?_
    rintro e w4 ⟨b, rfl, hb4, hr4, hg4⟩
    have G4 : Grew w w4 := G3.trans hg4
    go_wp2_with fail
    refine (hI (some ⟨b, 0, none⟩) len len rs w4 (hr4.rus HVL.out) (Nat.le_refl _) hl).mono ?_
    rintro e w5 ⟨rfl, hb5⟩
    have B5 : Below w.heap.size w w5 := G4.1.trans (hb5.mono G4.1.size)
    have hr5 := hr4.below hb5 hr4.lt
    clear hg4 hb5 hr4 G3 G4 hb4
    have heq : (okRs rs != okRs rs) = false := by simp
    generalize okRs rs = K at *
    go_wp2_with fail
    refine (copyR_any a len cap rs w5 (hv.below B5 (Nat.le_refl _)) hsm).mono ?_
    rintro e w6 ⟨b6, rfl, _, hr6, hg6⟩
    have B6 : Below w.heap.size w w6 := B5.trans (hg6.1.mono B5.size)
    have hr5' := hr5.grew hg6
    clear hg6 hr5 B5
    go_wp2_with fail
    refine (eqR_any b b6 0 0 len len len rs w6 hr5'.at hr6.at hl).mono ?_
    rintro e w7 ⟨rfl, hg7⟩
    have HB7 : Hid (Below w.heap.size w w7) := B6.trans (hg7.1.mono B6.size)
    clear hg7 B6 hr5' hr6
    go_wp2
    go_ret
    exact ⟨rfl, HB7.out⟩
  · rw [if_neg hsm] at hS
    go_enter Try.func6, Try.ntmps6
    go_wp2_with fail
    refine hS.mono ?_
    rintro e w1 ⟨rfl, hw1⟩
    have HW : Hid (w1 = w) := hw1
    clear hw1
    go_wp2
    go_ret
    exact ⟨rfl, by rw [HW.out]; exact Below.refl _ _⟩
end Go.Proofs.Ytbgkfiijfocgiaa

/-
  The walks of the exact laws of Steady and Settled FROM what the program's functions answer.
-/
namespace Go.Proofs.Ytbgkfiijfocgiaa
set_option linter.unusedSimpArgs false
set_option linter.unusedVariables false
open Go.RowKit Go.Sort

set_option maxRecDepth 100000 in
set_option maxHeartbeats 1600000 in
/-- The law FnExactSteady. -/
theorem lawSteady (hI : ImplSteady) (a : Option Addr) (len cap : Nat) (xs : List Int) (ra : Option Addr) (rl rc : Nat) (rs : List Ru) (w : World) (hv : Vec w a len xs) (hr : RuS w ra rl rs) (hcap : len ≤ cap) (hm : cap ≤ maxLen) (hcap' : rl ≤ rc) (hm' : rc ≤ maxLen) :
    Calls Try.prog 9 #[.slice a len cap, .slice ra rl rc] w fun e w' => e = .returned (.bool true) ∧ Below w.heap.size w w' := by
  have hl : len ≤ maxLen := Nat.le_trans hcap hm
  have hl' : rl ≤ maxLen := Nat.le_trans hcap' hm'
  by_cases hbig : (1048576 : Int) < (len : Int)
  · go_enter Try.func9, Try.ntmps9
    go_wp2
    go_ret
    exact ⟨rfl, Below.refl _ _⟩
  · have hS := szR_any ra rl rc w hl'
    have hbg : decide ((1048576 : Int) < (len : Int)) = false := by simpa using hbig
    by_cases hsm : rl ≤ 1048576
    · rw [if_pos hsm] at hS
      have hpos : decide ((1048576 : Int) - (rl : Int) < 0) = false := by simp; omega
      have hvl := hr.1
      have HVL : Hid (rs.length = rl) := hvl
      have hf : Fits xs := hv.2.1
      have hlen := hv.1
      subst hlen
      clear hvl
      go_enter Try.func9, Try.ntmps9
      go_wp2_with fail
      refine hS.mono ?_
      rintro e w1 ⟨rfl, hw1⟩
      have B1 : Below w.heap.size w w1 := by rw [hw1]; exact Below.refl _ _
      clear hw1 hS
      go_wp2_with fail
      refine (copy_any a _ cap xs w1 (hv.below B1 (Nat.le_refl _)) (by omega)).mono ?_
      rintro e w2 ⟨b2, rfl, _, hr2, hb2⟩
      have B2 : Below w.heap.size w w2 := B1.trans (hb2.mono B1.size)
      go_wp2_with fail
      refine (copyR_any ra rl rc rs w2 (hr.below B2 (Nat.le_refl _)) hsm).mono ?_
      rintro e w3 ⟨b3, rfl, _, hr3, hg3⟩
      have B3 : Below w.heap.size w w3 := B2.trans (hg3.1.mono B2.size)
      go_wp2_with fail
      refine (steady_any (some ⟨b2, 0, none⟩) _ _ xs (some ⟨b3, 0, none⟩) rl rl rs w3 ((hr2.below hg3.1 hr2.lt).vec hf) (hr3.rus HVL.out) hl hl').mono ?_
      rintro e w4 ⟨rfl, hg4⟩
      have B4 : Below w.heap.size w w4 := B3.trans (hg4.1.mono B3.size)
      clear hr2 hr3 hb2 hg3 hg4 B1 B2 B3
      go_wp2_with fail
      refine (copy_any a _ cap xs w4 (hv.below B4 (Nat.le_refl _)) (by omega)).mono ?_
      rintro e w5 ⟨b5, rfl, _, hr5, hb5⟩
      have B5 : Below w.heap.size w w5 := B4.trans (hb5.mono B4.size)
      go_wp2_with fail
      refine (copyR_any ra rl rc rs w5 (hr.below B5 (Nat.le_refl _)) hsm).mono ?_
      rintro e w6 ⟨b6, rfl, _, hr6, hg6⟩
      have B6 : Below w.heap.size w w6 := B5.trans (hg6.1.mono B5.size)
      have X6 := hr5.below hg6.1 hr5.lt
      go_wp2_with fail
      refine (hI (some ⟨b5, 0, none⟩) _ _ xs (some ⟨b6, 0, none⟩) rl rl rs w6 (X6.vec hf) (hr6.rus HVL.out) (Nat.le_refl _) hl (Nat.le_refl _) hl').mono ?_
      rintro e w7 ⟨rfl, hb7⟩
      have B7 : Below w.heap.size w w7 := B6.trans (hb7.mono B6.size)
      have X7 := X6.below hb7 X6.lt
      have R7 := hr6.below hb7 hr6.lt
      clear hb7 hr6 X6 hg6 hb5 hr5 B4 B5 B6
      have heq : (stdB xs rs != stdB xs rs) = false := by simp
      generalize stdB xs rs = K at *
      go_wp2_with fail
      refine (copy_any a _ cap xs w7 (hv.below B7 (Nat.le_refl _)) (by omega)).mono ?_
      rintro e w8 ⟨b8, rfl, _, hr8, hb8⟩
      have B8 : Below w.heap.size w w8 := B7.trans (hb8.mono B7.size)
      have X8 := X7.below hb8 X7.lt
      have R8 := R7.below hb8 R7.lt
      clear hb8 X7 R7 B7
      go_wp2_with fail
      refine (eq_any _ _ _ _ _ _ xs xs _ (X8.vec hf) (hr8.vec hf) hl).mono ?_
      rintro e w8' ⟨rfl, n8, rfl⟩
      rw [show decide (xs = xs) = true by simp]
      have B9 : Below w.heap.size w (w8.drewN n8) := belowN B8
      clear X8 hr8
      go_wp2_with fail
      refine (copyR_any ra rl rc rs (w8.drewN n8) (hr.below B9 (Nat.le_refl _)) hsm).mono ?_
      rintro e w10 ⟨b10, rfl, _, hr10, hg10⟩
      have B10 : Below w.heap.size w w10 := B9.trans (hg10.1.mono B9.size)
      have R10 := RuRow.below (w := w8.drewN n8) R8 hg10.1 R8.lt
      clear hg10 R8 B8 B9
      go_wp2_with fail
      refine (eqR_any b6 b10 0 0 rl rl rl rs w10 R10.at hr10.at hl').mono ?_
      rintro e w11 ⟨rfl, hg11⟩
      have HB : Hid (Below w.heap.size w w11) := B10.trans (hg11.1.mono B10.size)
      clear hg11 R10 hr10 B10
      go_wp2
      go_ret
      exact ⟨rfl, HB.out⟩
    · rw [if_neg hsm] at hS
      go_enter Try.func9, Try.ntmps9
      go_wp2_with fail
      refine hS.mono ?_
      rintro e w1 ⟨rfl, hw1⟩
      have HW : Hid (w1 = w) := hw1
      clear hw1
      go_wp2
      go_ret
      exact ⟨rfl, by rw [HW.out]; exact Below.refl _ _⟩

theorem RowOf.num {w : World} {b : Nat} {xs : List Int} (h : RowOf w b xs) (hm : xs.length ≤ maxLen) : OI w b 0 xs.length xs.length xs := OI.own (h.own hm)
theorem firedL_len (xs : List Int) (r : Ru) : (firedL xs r).length ≤ 8 ∧ Fits (firedL xs r) := by
  unfold firedL
  split
  · rename_i h
    obtain ⟨h1, h2⟩ := told_iff.1 h
    rw [okRs_one] at h2
    have h3 := fire_ok h1 h2
    exact ⟨by rw [h3.1]; omega, h3.fits⟩
  · exact ⟨by simp, fun x hx => by simp at hx⟩

/-- What the law FnExactSettled holds as the world goes on. -/
structure Fv (w cur : World) (b b' g og cg d od cd rl : Nat) (xs : List Int) (rs : List Ru) (G Z : List Int) : Prop where
  below : Below w.heap.size w cur
  x0 : OI cur b 0 xs.length xs.length xs
  x1 : RuRow cur b' rl rs
  got : OI cur g og Z.length cg G
  want : OI cur d od Z.length cd Z
theorem Fv.step {w cur next : World} {b b' g og cg d od cd rl : Nat} {xs : List Int} {rs : List Ru} {G Z : List Int} (h : Fv w cur b b' g og cg d od cd rl xs rs G Z) (hb : Below cur.heap.size cur next) : Fv w next b b' g og cg d od cd rl xs rs G Z :=
  ⟨h.below.trans (hb.mono h.below.size), h.x0.below hb h.x0.blk, h.x1.below hb h.x1.lt, h.got.below hb h.got.blk, h.want.below hb h.want.blk⟩
theorem Fv.drewN {w cur : World} {b b' g og cg d od cd rl : Nat} {xs : List Int} {rs : List Ru} {G Z : List Int} (h : Fv w cur b b' g og cg d od cd rl xs rs G Z) (k : Nat) : Fv w (cur.drewN k) b b' g og cg d od cd rl xs rs G Z :=
  ⟨belowN h.below, h.x0.drewN k, h.x1, h.got.drewN k, h.want.drewN k⟩
theorem settledL_len {xs : List Int} {rs : List Ru} {Z : List Int} (h : IsSettled xs rs Z) : Z.length ≤ 8 ∧ Fits Z := by
  rcases h with ⟨_, h⟩ | ⟨_, rfl⟩
  · exact ⟨by rw [h.1.1.1]; omega, h.1.1.fits⟩
  · exact ⟨by simp, fun x hx => by simp at hx⟩

set_option maxRecDepth 100000 in
set_option maxHeartbeats 3200000 in
/-- The law FnExactSettled. -/
theorem lawSettled (hI : ImplSettled) (a : Option Addr) (len cap : Nat) (xs : List Int) (ra : Option Addr) (rl rc : Nat) (rs : List Ru) (w : World) (hv : Vec w a len xs) (hr : RuS w ra rl rs) (hcap : len ≤ cap) (hm : cap ≤ maxLen) (hcap' : rl ≤ rc) (hm' : rc ≤ maxLen) :
    Calls Try.prog 8 #[.slice a len cap, .slice ra rl rc] w fun e w' => e = .returned (.bool true) ∧ Below w.heap.size w w' := by
  have hl : len ≤ maxLen := Nat.le_trans hcap hm
  have hl' : rl ≤ maxLen := Nat.le_trans hcap' hm'
  by_cases hbig : (1048576 : Int) < (len : Int)
  · go_enter Try.func8, Try.ntmps8
    go_wp2
    go_ret
    exact ⟨rfl, Below.refl _ _⟩
  · have hS := szR_any ra rl rc w hl'
    have hbg : decide ((1048576 : Int) < (len : Int)) = false := by simpa using hbig
    by_cases hsm : rl ≤ 1048576
    · rw [if_pos hsm] at hS
      have hpos : decide ((1048576 : Int) - (rl : Int) < 0) = false := by simp; omega
      have hvl := hr.1
      have HVL : Hid (rs.length = rl) := hvl
      have hf : Fits xs := hv.2.1
      have hlen := hv.1
      subst hlen
      clear hvl
      go_enter Try.func8, Try.ntmps8
      go_wp2_with fail
      refine hS.mono ?_
      rintro e w1 ⟨rfl, hw1⟩
      have B1 : Below w.heap.size w w1 := by rw [hw1]; exact Below.refl _ _
      clear hw1 hS
      go_wp2_with fail
      refine (copy_any a _ cap xs w1 (hv.below B1 (Nat.le_refl _)) (by omega)).mono ?_
      rintro e w2 ⟨b2, rfl, _, hr2, hb2⟩
      have B2 : Below w.heap.size w w2 := B1.trans (hb2.mono B1.size)
      go_wp2_with fail
      refine (copyR_any ra rl rc rs w2 (hr.below B2 (Nat.le_refl _)) hsm).mono ?_
      rintro e w3 ⟨b3, rfl, _, hr3, hg3⟩
      have B3 : Below w.heap.size w w3 := B2.trans (hg3.1.mono B2.size)
      go_wp2_with fail
      refine (settled_any (some ⟨b2, 0, none⟩) _ _ xs (some ⟨b3, 0, none⟩) rl rl rs w3 ((hr2.below hg3.1 hr2.lt).vec hf) (hr3.rus HVL.out) hl hl').mono ?_
      rintro e w4 ⟨Z, hZ, d, od, cd, rfl, hd, hwant, hb4⟩
      obtain ⟨hz8, hfz⟩ := settledL_len hZ
      have hzm : Z.length ≤ maxLen := by unfold maxLen; omega
      have HZ : Hid (IsSettled xs rs Z) := hZ
      have B4 : Below w.heap.size w w4 := B3.trans (hb4.mono B3.size)
      clear hr2 hr3 hb2 hg3 hb4 B1 B2 B3 hZ
      go_wp2_with fail
      refine (copy_any a _ cap xs w4 (hv.below B4 (Nat.le_refl _)) (by omega)).mono ?_
      rintro e w5 ⟨b, rfl, hlt5, hr5, hb5⟩
      have B5 : Below w.heap.size w w5 := B4.trans (hb5.mono B4.size)
      have W5 := hwant.below hb5 hwant.blk
      go_wp2_with fail
      refine (copyR_any ra rl rc rs w5 (hr.below B5 (Nat.le_refl _)) hsm).mono ?_
      rintro e w6 ⟨b', rfl, hlt6, hr6, hg6⟩
      have B6 : Below w.heap.size w w6 := B5.trans (hg6.1.mono B5.size)
      have X6 := hr5.below hg6.1 hr5.lt
      have W6 := W5.below hg6.1 W5.blk
      go_wp2_with fail
      refine (hI (some ⟨b, 0, none⟩) _ _ xs (some ⟨b', 0, none⟩) rl rl rs w6 (X6.vec hf) (hr6.rus HVL.out) (Nat.le_refl _) hl (Nat.le_refl _) hl').mono ?_
      rintro e w7 ⟨Z', hZ', g, og, cg, he7, hg, hgot, hb7⟩
      have eZ := hZ'.unique HZ.out
      subst eZ
      subst he7
      have n1 : d < b := Nat.lt_of_lt_of_le hwant.blk hlt5
      have n2 : b < b' := Nat.lt_of_lt_of_le hr5.lt hlt6
      have n3 : b' < g := Nat.lt_of_lt_of_le hr6.lt hg
      have n0 : w.heap.size ≤ b := Nat.le_trans B4.size hlt5
      have T7 : Fv w w7 b b' g og cg d od cd rl xs rs Z' Z' := ⟨B6.trans (hb7.mono B6.size), (X6.num hl).below hb7 X6.lt, hr6.below hb7 hr6.lt, hgot, W6.below hb7 W6.blk⟩
      clear hwant hr5 hb5 hr6 hg6 hb7 hgot X6 W5 W6 B4 B5 B6 hlt5 hlt6 hg hd hZ'
      go_wp2_with fail
      refine (eq_any _ _ _ _ _ _ Z' Z' _ (T7.got.vec hfz) (T7.want.vec hfz) hzm).mono ?_
      rintro e w7' ⟨rfl, n7, rfl⟩
      rw [show decide (Z' = Z') = true by simp]
      have T8 := T7.drewN n7
      clear T7
      go_wp2_with fail
      refine (copy_any a _ cap xs _ (hv.below T8.below (Nat.le_refl _)) (by omega)).mono ?_
      rintro e w9 ⟨b9, rfl, _, hr9, hb9⟩
      have T9 := T8.step hb9
      clear T8 hb9
      go_wp2_with fail
      refine (eq_any _ _ _ _ _ _ xs xs _ (T9.x0.vec hf) (hr9.vec hf) hl).mono ?_
      rintro e w9' ⟨rfl, n9, rfl⟩
      rw [show decide (xs = xs) = true by simp]
      have T10 := T9.drewN n9
      clear T9 hr9
      go_wp2_with fail
      refine (copyR_any ra rl rc rs _ (hr.below T10.below (Nat.le_refl _)) hsm).mono ?_
      rintro e w11 ⟨b11, rfl, _, hr11, hg11⟩
      have T11 := T10.step hg11.1
      clear T10 hg11
      go_wp2_with fail
      refine (eqR_any b' b11 0 0 rl rl rl rs w11 T11.x1.at hr11.at hl').mono ?_
      rintro e w12 ⟨rfl, hg12⟩
      have T12 := T11.step hg12.1
      clear T11 hg12 hr11
      go_wp2_with fail
      refine (markN_any b 0 _ 1 _ _ xs w12 T12.x0 (by rfl) (by omega) (by omega)).mono ?_
      rintro e w13 ⟨rfl, _, ht13⟩
      have B13 : Below w.heap.size w w13 := T12.below.trans (ht13.below n0)
      have R13 : RuRow w13 b' rl rs := World.rowIs.of_block T12.x1 (ht13.block b' (by omega))
      have got13 := num_touch T12.got ht13 (by omega)
      have want13 := num_touch T12.want ht13 (by omega)
      clear T12 ht13
      have e13 : (1 : Int) + (xs.length : Int) = ((1 + xs.length : Nat) : Int) := by omega
      have hM2 := markR_any b' rl (1 + xs.length) rs w13 R13 (by omega) (by omega)
      rw [← e13] at hM2
      clear e13
      go_wp2_with fail
      refine hM2.mono ?_
      rintro e w14 ⟨rfl, ht14⟩
      have B14 : Below w.heap.size w w14 := B13.trans (ht14.below (by omega))
      have got14 := num_touch got13 ht14 (by omega)
      have want14 := num_touch want13 ht14 (by omega)
      have hk0 : decide (((1 + xs.length + rl * 4 : Nat) : Int) < 0) = false := by simp; omega
      clear hM2 ht14 B13 R13 got13 want13
      go_wp2_with fail
      refine (eq_any _ _ _ _ _ _ Z' Z' _ (got14.vec hfz) (want14.vec hfz) hzm).mono ?_
      rintro e w14' ⟨rfl, n14, rfl⟩
      rw [show decide (Z' = Z') = true by simp]
      go_wp2_with fail
      refine (markN_any g og cg 1 _ _ Z' _ (got14.drewN n14) (by rfl) (by omega) (by omega)).mono ?_
      rintro e w15 ⟨rfl, got15, ht15⟩
      have B15 : Below w.heap.size w w15 := (belowN (n := n14) B14).trans (ht15.below (by omega))
      have want15 := num_touch (want14.drewN n14) ht15 (by omega)
      clear B14 got14 want14 ht15 hk0
      go_wp2_with fail
      refine (heldN_any g og cg 1 _ _ _ got15 (by rfl) (by omega) (by omega)).mono ?_
      rintro e w15' ⟨rfl, rfl⟩
      go_wp2_with fail
      refine (copy_any a _ cap xs _ (hv.below B15 (Nat.le_refl _)) (by omega)).mono ?_
      rintro e w16 ⟨b16, rfl, _, hr16, hb16⟩
      have B16 : Below w.heap.size w w16 := B15.trans (hb16.mono B15.size)
      have got16 := got15.below hb16 got15.blk
      have want16 := want15.below hb16 want15.blk
      clear B15 got15 want15 hb16
      go_wp2_with fail
      refine (copyR_any ra rl rc rs w16 (hr.below B16 (Nat.le_refl _)) hsm).mono ?_
      rintro e w17 ⟨b17, rfl, _, hr17, hg17⟩
      have B17 : Below w.heap.size w w17 := B16.trans (hg17.1.mono B16.size)
      have got17 := got16.below hg17.1 got16.blk
      have want17 := want16.below hg17.1 want16.blk
      have X17 := hr16.below hg17.1 hr16.lt
      clear B16 got16 want16 hg17 hr16
      go_wp2_with fail
      refine (hI (some ⟨b16, 0, none⟩) _ _ xs (some ⟨b17, 0, none⟩) rl rl rs w17 (X17.vec hf) (hr17.rus HVL.out) (Nat.le_refl _) hl (Nat.le_refl _) hl').mono ?_
      rintro e w18 ⟨Y, hY, g18, og18, cg18, he18, _, hgot18, hb18⟩
      have eY := hY.unique HZ.out
      subst eY
      subst he18
      have B18 : Below w.heap.size w w18 := B17.trans (hb18.mono B17.size)
      have got18 := got17.below hb18 got17.blk
      have want18 := want17.below hb18 want17.blk
      clear B17 got17 want17 hb18 X17 hr17 hY
      go_wp2_with fail
      refine (eq_any _ _ _ _ _ _ Y Y _ (hgot18.vec hfz) (want18.vec hfz) hzm).mono ?_
      rintro e w18' ⟨rfl, n18, rfl⟩
      rw [show decide (Y = Y) = true by simp]
      go_wp2_with fail
      refine (heldN_any g og cg 1 _ _ _ (got18.drewN n18) (by rfl) (by omega) (by omega)).mono ?_
      rintro e w19 ⟨rfl, hw19⟩
      have HB : Hid (Below w.heap.size w w19) := by rw [Hid, hw19]; exact belowN B18
      clear hw19
      go_wp2
      go_ret
      exact ⟨rfl, HB.out⟩
    · rw [if_neg hsm] at hS
      go_enter Try.func8, Try.ntmps8
      go_wp2_with fail
      refine hS.mono ?_
      rintro e w1 ⟨rfl, hw1⟩
      have HW : Hid (w1 = w) := hw1
      clear hw1
      go_wp2
      go_ret
      exact ⟨rfl, by rw [HW.out]; exact Below.refl _ _⟩
end Go.Proofs.Ytbgkfiijfocgiaa

/-
  The walk of the exact law of Fired FROM what the program's Fired answers.
-/
namespace Go.Proofs.Ytbgkfiijfocgiaa
set_option linter.unusedSimpArgs false
set_option linter.unusedVariables false
open Go.RowKit Go.Sort

/-- What the law FnExactFired holds as the world goes on. -/
structure Tv (w cur : World) (b g og cg d od cd : Nat) (xs : List Int) (G Z : List Int) : Prop where
  below : Below w.heap.size w cur
  x0 : OI cur b 0 xs.length xs.length xs
  got : OI cur g og Z.length cg G
  want : OI cur d od Z.length cd Z
theorem Tv.step {w cur next : World} {b g og cg d od cd : Nat} {xs : List Int} {G Z : List Int} (h : Tv w cur b g og cg d od cd xs G Z) (hb : Below cur.heap.size cur next) : Tv w next b g og cg d od cd xs G Z :=
  ⟨h.below.trans (hb.mono h.below.size), h.x0.below hb h.x0.blk, h.got.below hb h.got.blk, h.want.below hb h.want.blk⟩
theorem Tv.drewN {w cur : World} {b g og cg d od cd : Nat} {xs : List Int} {G Z : List Int} (h : Tv w cur b g og cg d od cd xs G Z) (k : Nat) : Tv w (cur.drewN k) b g og cg d od cd xs G Z :=
  ⟨belowN h.below, h.x0.drewN k, h.got.drewN k, h.want.drewN k⟩

set_option maxRecDepth 100000 in
set_option maxHeartbeats 3200000 in
/-- The law FnExactFired. -/
theorem lawFired (hI : ImplFired) (a : Option Addr) (len cap : Nat) (xs : List Int) (r : Ru) (w : World) (hv : Vec w a len xs) (hcap : len ≤ cap) (hm : cap ≤ maxLen) :
    Calls Try.prog 7 #[.slice a len cap, ruV r] w fun e w' => e = .returned (.bool true) ∧ Below w.heap.size w w' := by
  have hl : len ≤ maxLen := Nat.le_trans hcap hm
  by_cases hbig : (1048576 : Int) < (len : Int)
  · unfold ruV
    go_enter Try.func7, Try.ntmps7
    go_wp2
    go_ret
    exact ⟨rfl, (Below.refl _ _).alloc (Nat.le_refl _) _⟩
  · have hbg : decide ((1048576 : Int) < (len : Int)) = false := by simpa using hbig
    have hf : Fits xs := hv.2.1
    have hlen := hv.1
    subst hlen
    have h20 : xs.length ≤ 1048576 := by omega
    have hlim : xs.length ≤ 17592186044416 := by omega
    obtain ⟨hz8, hfz⟩ := firedL_len xs r
    have hzm : (firedL xs r).length ≤ maxLen := by unfold maxLen; omega
    have hR := fun X => toRule_any r X
    have hS := fun (d : Nat) X (h : RowOf X d xs) => fired_any (some ⟨d, 0, none⟩) xs.length xs.length xs r X (h.vec hf) hl
    have hP := fun (d : Nat) X (h : RowOf X d xs) => hI (some ⟨d, 0, none⟩) xs.length xs.length xs r X (h.vec hf) (Nat.le_refl _) hl
    have hBX : Below w.heap.size w (w.alloc (.cells #[.int .i64 r.to, .int .i64 r.fr, .int .i64 r.pl, .int .i64 r.mo] 50)) := (Below.refl _ _).alloc (Nat.le_refl _) _
    have hc0 : (w.alloc (.cells #[.int .i64 r.to, .int .i64 r.fr, .int .i64 r.pl, .int .i64 r.mo] 50)).cell? ⟨w.heap.size, 0, none⟩ = some (.int .i64 r.to) := by simp
    have hc1 : (w.alloc (.cells #[.int .i64 r.to, .int .i64 r.fr, .int .i64 r.pl, .int .i64 r.mo] 50)).cell? ⟨w.heap.size, 1, none⟩ = some (.int .i64 r.fr) := by simp
    have hc2 : (w.alloc (.cells #[.int .i64 r.to, .int .i64 r.fr, .int .i64 r.pl, .int .i64 r.mo] 50)).cell? ⟨w.heap.size, 2, none⟩ = some (.int .i64 r.pl) := by simp
    have hc3 : (w.alloc (.cells #[.int .i64 r.to, .int .i64 r.fr, .int .i64 r.pl, .int .i64 r.mo] 50)).cell? ⟨w.heap.size, 3, none⟩ = some (.int .i64 r.mo) := by simp
    generalize hW0 : w.alloc (.cells #[.int .i64 r.to, .int .i64 r.fr, .int .i64 r.pl, .int .i64 r.mo] 50) = W0 at *
    have cB : ∀ (X : World) (x : Addr) (v : Value), W0.cell? x = some v → Below W0.heap.size W0 X → X.cell? x = some v := fun X x v h hb => (hb.cell (World.block_lt_of_cell? _ _ h)).trans h
    have KS : ∀ X, Below W0.heap.size W0 X → X.cell? ⟨w.heap.size, 0, none⟩ = some (.int .i64 r.to) ∧ X.cell? ⟨w.heap.size, 1, none⟩ = some (.int .i64 r.fr) ∧ X.cell? ⟨w.heap.size, 2, none⟩ = some (.int .i64 r.pl) ∧ X.cell? ⟨w.heap.size, 3, none⟩ = some (.int .i64 r.mo) := fun X hX => ⟨cB X _ _ hc0 hX, cB X _ _ hc1 hX, cB X _ _ hc2 hX, cB X _ _ hc3 hX⟩
    have hvX : ∀ X, Below W0.heap.size W0 X → Vec X a xs.length xs := fun X hX => (hv.below hBX (Nat.le_refl _)).below hX (Nat.le_refl _)
    have bd : Below W0.heap.size W0 (W0.drewN 1) := belowN (Below.refl _ _)
    unfold ruV at *
    clear hc0 hc1 hc2 hc3 cB hv hbig
    go_enter Try.func7, Try.ntmps7
    go_wp2_with fail
    have hmix := mixedR
    go_region_held3 (fun X => X.cell? ⟨w.heap.size, 0, none⟩ = some (.int .i64 r.to) ∧ X.cell? ⟨w.heap.size, 1, none⟩ = some (.int .i64 r.fr) ∧ X.cell? ⟨w.heap.size, 2, none⟩ = some (.int .i64 r.pl) ∧ X.cell? ⟨w.heap.size, 3, none⟩ = some (.int .i64 r.mo))
      (first
        | exact KS _ bC
        | exact KS _ bB
        | exact KS _ bA
        | exact KS _ bd)
      (first
        | (go_at_call 43; refine (copy_any a _ cap xs _ (hvX _ bd) hlim).mono ?_; rintro e wA ⟨b1, rfl, hltA, hrA, hbA⟩; have bA : Below W0.heap.size W0 wA := bd.trans (hbA.mono bd.size))
        | (go_at_call 44; refine (hR wA).mono ?_; rintro e wB ⟨rfl, hgB⟩; have bB : Below W0.heap.size W0 wB := bA.trans (hgB.1.mono bA.size))
        | (go_at_call 38; refine (hS b1 wB (hrA.below hgB.1 hrA.lt)).mono ?_; rintro e wC ⟨d, od, cd, rfl, hd, hwant, hbC⟩; have bC : Below W0.heap.size W0 wC := bB.trans (hbC.mono bB.size)))
    clear hrA hgB hbA hbC bA bB hltA bd
    go_wp2_with fail
    refine (copy_any a _ cap xs wC (hvX _ bC) hlim).mono ?_
    rintro e wD ⟨b, rfl, hltD, hrD, hbD⟩
    have bD : Below W0.heap.size W0 wD := bC.trans (hbD.mono bC.size)
    have WD := hwant.below hbD hwant.blk
    obtain ⟨q0, q1, q2, q3⟩ := KS _ bD
    go_wp2_with fail
    refine (hR wD).mono ?_
    rintro e wE ⟨rfl, hgE⟩
    have bE : Below W0.heap.size W0 wE := bD.trans (hgE.1.mono bD.size)
    have XE := hrD.below hgE.1 hrD.lt
    have WE := WD.below hgE.1 WD.blk
    clear q0 q1 q2 q3
    go_wp2_with fail
    refine (hP b wE XE).mono ?_
    rintro e wF ⟨g, og, cg, rfl, hg, hgot, hbF⟩
    have n1 : d < b := Nat.lt_of_lt_of_le hwant.blk hltD
    have n2 : b < g := Nat.lt_of_lt_of_le XE.lt hg
    have n0 : W0.heap.size ≤ b := Nat.le_trans bC.size hltD
    have T7 : Tv W0 wF b g og cg d od cd xs (firedL xs r) (firedL xs r) := ⟨bE.trans (hbF.mono bE.size), (XE.num hl).below hbF XE.lt, hgot, WE.below hbF WE.blk⟩
    clear hwant hrD hbD hgE hbF hgot XE WD WE bC bD bE hltD hg hd
    generalize hZe : firedL xs r = Z at *
    clear hZe
    go_wp2_with fail
    refine (eq_any _ _ _ _ _ _ Z Z _ (T7.got.vec hfz) (T7.want.vec hfz) hzm).mono ?_
    rintro e w7' ⟨rfl, n7, rfl⟩
    rw [show decide (Z = Z) = true by simp]
    have T8 := T7.drewN n7
    clear T7
    go_wp2_with fail
    refine (copy_any a _ cap xs _ (hvX _ T8.below) hlim).mono ?_
    rintro e w9 ⟨b9, rfl, _, hr9, hb9⟩
    have T9 := T8.step hb9
    clear T8 hb9
    go_wp2_with fail
    refine (eq_any _ _ _ _ _ _ xs xs _ (T9.x0.vec hf) (hr9.vec hf) hl).mono ?_
    rintro e w9' ⟨rfl, n9, rfl⟩
    rw [show decide (xs = xs) = true by simp]
    have T10 := T9.drewN n9
    clear T9 hr9
    go_wp2_with fail
    refine (markN_any b 0 _ 1 _ _ xs _ T10.x0 (by rfl) (by omega) (by omega)).mono ?_
    rintro e w13 ⟨rfl, _, ht13⟩
    have B13 : Below W0.heap.size W0 w13 := T10.below.trans (ht13.below n0)
    have got13 := num_touch T10.got ht13 (by omega)
    have want13 := num_touch T10.want ht13 (by omega)
    have hk0 : decide ((1 : Int) + (xs.length : Int) < 0) = false := by simp; omega
    clear T10 ht13
    go_wp2_with fail
    refine (eq_any _ _ _ _ _ _ Z Z _ (got13.vec hfz) (want13.vec hfz) hzm).mono ?_
    rintro e w14' ⟨rfl, n14, rfl⟩
    rw [show decide (Z = Z) = true by simp]
    go_wp2_with fail
    refine (markN_any g og cg 1 _ _ Z _ (got13.drewN n14) (by rfl) (by omega) (by omega)).mono ?_
    rintro e w15 ⟨rfl, got15, ht15⟩
    have B15 : Below W0.heap.size W0 w15 := (belowN (n := n14) B13).trans (ht15.below (by omega))
    have want15 := num_touch (want13.drewN n14) ht15 (by omega)
    clear B13 got13 want13 ht15 hk0
    go_wp2_with fail
    refine (heldN_any g og cg 1 _ _ _ got15 (by rfl) (by omega) (by omega)).mono ?_
    rintro e w15' ⟨rfl, rfl⟩
    have bd2 : Below W0.heap.size W0 (w15'.drewN 1) := belowN B15
    go_wp2_with fail
    go_region_held3 (fun X => X.cell? ⟨w.heap.size, 0, none⟩ = some (.int .i64 r.to) ∧ X.cell? ⟨w.heap.size, 1, none⟩ = some (.int .i64 r.fr) ∧ X.cell? ⟨w.heap.size, 2, none⟩ = some (.int .i64 r.pl) ∧ X.cell? ⟨w.heap.size, 3, none⟩ = some (.int .i64 r.mo))
      (first
        | exact KS _ bS
        | exact KS _ bR
        | exact KS _ bQ
        | exact KS _ bd2)
      (first
        | (go_at_call 43; refine (copy_any a _ cap xs _ (hvX _ bd2) hlim).mono ?_; rintro e wQ ⟨b2, rfl, hltQ, hrQ, hbQ⟩; have bQ : Below W0.heap.size W0 wQ := bd2.trans (hbQ.mono bd2.size))
        | (go_at_call 44; refine (hR wQ).mono ?_; rintro e wR ⟨rfl, hgR⟩; have bR : Below W0.heap.size W0 wR := bQ.trans (hgR.1.mono bQ.size))
        | (go_at_call 37; refine (hP b2 wR (hrQ.below hgR.1 hrQ.lt)).mono ?_; rintro e wS ⟨g2, og2, cg2, rfl, hg2, hgot2, hbS⟩; have bS : Below W0.heap.size W0 wS := bR.trans (hbS.mono bR.size)))
    have gotS := (((got15.drewN 1).below hbQ got15.blk).below hgR.1 (Nat.lt_of_lt_of_le got15.blk hbQ.size)).below hbS (Nat.lt_of_lt_of_le (Nat.lt_of_lt_of_le got15.blk hbQ.size) hgR.1.size)
    have wantS := (((want15.drewN 1).below hbQ want15.blk).below hgR.1 (Nat.lt_of_lt_of_le want15.blk hbQ.size)).below hbS (Nat.lt_of_lt_of_le (Nat.lt_of_lt_of_le want15.blk hbQ.size) hgR.1.size)
    clear hrQ hgR hbQ hbS bQ bR hltQ bd2 got15 want15 hg2
    go_wp2_with fail
    refine (eq_any _ _ _ _ _ _ Z Z _ (hgot2.vec hfz) (wantS.vec hfz) hzm).mono ?_
    rintro e w18' ⟨rfl, n18, rfl⟩
    rw [show decide (Z = Z) = true by simp]
    go_wp2_with fail
    refine (heldN_any g og cg 1 _ _ _ (gotS.drewN n18) (by rfl) (by omega) (by omega)).mono ?_
    rintro e w19 ⟨rfl, hw19⟩
    have HB : Hid (Below w.heap.size w w19) := by rw [Hid, hw19]; exact hBX.trans ((belowN bS).mono hBX.size)
    clear hw19
    go_wp2
    go_ret
    exact ⟨rfl, HB.out⟩
end Go.Proofs.Ytbgkfiijfocgiaa
