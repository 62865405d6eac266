/-
  The walks of the laws FnExactJoin and FnExactMeet: at every two arguments they return true, and nothing that was there is written.
-/
import Derived.Test.YtnkomlboeodgjaaJoinImpl
namespace Go.Proofs.Ytnkomlboeodgjaa
open Go.RowKit

theorem mark_at (g cap k0 : Nat) (q : Int) (zs : List Int) (n : Nat) (hn0 : n = zs.length) (w : World) (ho : OwnAt w g cap zs) (hq : q = (k0 : Int)) (hk : k0 ≤ 10000000) (hn : zs.length ≤ 10000000) :
    Calls Try.prog 30 #[.slice (some ⟨g, 0, none⟩) n cap, .int .i64 q] w fun e w' => e = .returned (.int .i64 (q + (n : Int))) ∧ OwnAt w' g cap (marks n k0) ∧ Touch g w w' := by
  subst hq hn0
  refine (mark_any g cap k0 zs w ho hk hn).mono ?_
  rintro e w' ⟨rfl, h⟩
  exact ⟨ret_int (by omega), h⟩
theorem held_at (g cap k0 n : Nat) (q : Int) (w : World) (ho : OwnAt w g cap (marks n k0)) (hq : q = (k0 : Int)) (hk : k0 ≤ 10000000) (hn : n ≤ 10000000) :
    Calls Try.prog 31 #[.slice (some ⟨g, 0, none⟩) n cap, .int .i64 q] w fun e w' => e = .returned (.int .i64 (q + (n : Int))) ∧ w' = w := by
  subst hq
  refine (held_any g cap k0 n w ho hk hn).mono ?_
  rintro e w' ⟨rfl, h⟩
  exact ⟨ret_int (by omega), h⟩

theorem pairB_fits (f : Int → Int → Int) (hf : ∀ x y, f x y = x ∨ f x y = y) (xs ys : List Int) : Fits (pairB f xs ys) := by
  unfold pairB
  cases h : twoB xs ys
  · intro x hx; simp at hx
  · obtain ⟨ox, oy, hl⟩ := twoB_true h
    intro x hx
    simp only [if_true, jn, List.mem_map, List.mem_range] at hx
    obtain ⟨i, hi, rfl⟩ := hx
    have h1 := okB_el ox hi
    have h2 := okB_el oy (i := i) (by omega)
    rcases hf (el xs i) (el ys i) with e | e <;> rw [e] <;> omega
theorem max_or (x y : Int) : max x y = x ∨ max x y = y := by omega
theorem min_or (x y : Int) : min x y = x ∨ min x y = y := by omega
theorem marks_fits (n k0 : Nat) (h : k0 + n ≤ 100000000) : Fits (marks n k0) := by
  intro x hx
  simp only [marks, List.mem_map, List.mem_range] at hx
  obtain ⟨i, hi, rfl⟩ := hx
  omega

/-- What the law holds of the four rows of its own, as the world goes on. -/
structure Four (w cur : World) (b0 b1 g c d e n0 n1 : Nat) (X0 X1 Z : List Int) : Prop where
  below : Below w.heap.size w cur
  x0 : OwnAt cur b0 n0 X0
  x1 : OwnAt cur b1 n1 X1
  got : OwnAt cur g c Z
  want : OwnAt cur d e Z
theorem Four.step {w cur next : World} {b0 b1 g c d e n0 n1 : Nat} {X0 X1 Z : List Int} (h : Four w cur b0 b1 g c d e n0 n1 X0 X1 Z) (hb : Below cur.heap.size cur next) : Four w next b0 b1 g c d e n0 n1 X0 X1 Z :=
  ⟨h.below.trans (hb.mono h.below.size), h.x0.below hb h.x0.lt, h.x1.below hb h.x1.lt, h.got.below hb h.got.lt, h.want.below hb h.want.lt⟩
theorem Four.drewN {w cur : World} {b0 b1 g c d e n0 n1 : Nat} {X0 X1 Z : List Int} (h : Four w cur b0 b1 g c d e n0 n1 X0 X1 Z) (n : Nat) : Four w (cur.drewN n) b0 b1 g c d e n0 n1 X0 X1 Z :=
  ⟨belowN h.below, h.x0, h.x1, h.got, h.want⟩

set_option maxRecDepth 100000 in
set_option maxHeartbeats 1600000 in
/-- The law FnExactJoin. -/
theorem lawJoin (a a' : Option Addr) (len cap len' cap' : Nat) (xs ys : List Int) (w : World) (hv : Vec w a len xs) (hv' : Vec w a' len' ys) (hcap : len ≤ cap) (hm : cap ≤ maxLen) (hcap' : len' ≤ cap') (hm' : cap' ≤ maxLen) :
    Calls Try.prog 5 #[.slice a len cap, .slice a' len' cap'] w fun e w' => e = .returned (.bool true) ∧ Below w.heap.size w w' := by
  by_cases hbig : (1048576 : Int) < (len : Int)
  · go_enter Try.func5, Try.ntmps5
    go_wp2
    go_ret
    exact ⟨rfl, Below.refl _ _⟩
  by_cases hbig' : (1048576 : Int) < (len' : Int)
  · go_enter Try.func5, Try.ntmps5
    go_wp2
    go_ret
    exact ⟨rfl, Below.refl _ _⟩
  · have hf : Fits xs := hv.2.1
    have hf' : Fits ys := hv'.2.1
    have hlen := hv.1
    have hlen' := hv'.1
    subst hlen hlen'
    have hl : xs.length ≤ maxLen := Nat.le_trans hcap hm
    have hl' : ys.length ≤ maxLen := Nat.le_trans hcap' hm'
    have hZ := pairB_len max xs ys
    have hfz := pairB_fits max max_or xs ys
    have hlz : (pairB max xs ys).length ≤ maxLen := by unfold maxLen; omega
    go_enter Try.func5, Try.ntmps5
    go_wp2_with fail
    refine (copy_any a _ cap xs w hv (by omega)).mono ?_
    rintro e w1 ⟨b1, rfl, hlt1, hr1, hb1⟩
    go_wp2_with fail
    refine (copy_any a' _ cap' ys _ (hv'.below hb1 (Nat.le_refl _)) (by omega)).mono ?_
    rintro e w2 ⟨b2, rfl, hlt2, hr2, hb2⟩
    have B2 : Below w.heap.size w w2 := hb1.trans (hb2.mono hb1.size)
    go_wp2_with fail
    refine (specJoin_any _ _ _ _ _ _ xs ys _ ((hr1.below hb2 hr1.lt).vec hf) (hr2.vec hf') hl hl').mono ?_
    rintro e w3 ⟨d, e3, rfl, hd, hwant, hb3⟩
    have B3 : Below w.heap.size w w3 := B2.trans (hb3.mono B2.size)
    clear hr1 hr2 hb1 hb2 hb3 hlt1 hlt2 B2
    go_wp2_with fail
    refine (copy_any a _ cap xs _ (hv.below B3 (Nat.le_refl _)) (by omega)).mono ?_
    rintro e w4 ⟨b4, rfl, hlt4, hr4, hb4⟩
    have B4 : Below w.heap.size w w4 := B3.trans (hb4.mono B3.size)
    have W4 := hwant.below hb4 hwant.lt
    go_wp2_with fail
    refine (copy_any a' _ cap' ys _ (hv'.below B4 (Nat.le_refl _)) (by omega)).mono ?_
    rintro e w5 ⟨b5, rfl, hlt5, hr5, hb5⟩
    have B5 : Below w.heap.size w w5 := B4.trans (hb5.mono B4.size)
    have X5 := hr4.below hb5 hr4.lt
    have W5 := W4.below hb5 W4.lt
    go_wp2_with fail
    refine (implJoin_any _ _ _ _ _ _ xs ys _ (X5.vec hf) (hr5.vec hf') (Nat.le_refl _) (Nat.le_refl _) hl hl').mono ?_
    rintro e w6 ⟨g, c, rfl, hg, hgot, hb6⟩
    have n1 : d < b4 := Nat.lt_of_lt_of_le hwant.lt hlt4
    have n2 : b4 < b5 := Nat.lt_of_lt_of_le hr4.lt hlt5
    have n3 : b5 < g := Nat.lt_of_lt_of_le hr5.lt hg
    have n0 : w.heap.size ≤ b4 := Nat.le_trans B3.size hlt4
    have F6 : Four w w6 b4 b5 g c d e3 xs.length ys.length xs ys (pairB max xs ys) := ⟨B5.trans (hb6.mono B5.size), (X5.own hl).below hb6 X5.lt, (hr5.own hl').below hb6 hr5.lt, hgot, W5.below hb6 W5.lt⟩
    clear hwant hr4 hr5 hb4 hb5 hb6 hgot B3 B4 B5 W4 W5 X5 hlt4 hlt5 hg hd
    generalize hZe : pairB max xs ys = Z at *
    have HZ : Hid (pairB max xs ys = Z) := hZe
    clear hZe
    go_wp2_with fail
    refine (eq_any _ _ _ _ _ _ Z Z _ (F6.got.vec hfz) (F6.want.vec hfz) hlz).mono ?_
    rintro e w6' ⟨rfl, n6, rfl⟩
    go_wp2_with fail
    refine (copy_any a _ cap xs _ ((hv.below F6.below (Nat.le_refl _)).drewN n6) (by omega)).mono ?_
    rintro e w7 ⟨b7, rfl, hlt7, hr7, hb7⟩
    have F7 := (F6.drewN n6).step hb7
    clear F6 hb7 hlt7
    go_wp2_with fail
    refine (eq_any _ _ _ _ _ _ xs xs _ (F7.x0.vec hf) (hr7.vec hf) hl).mono ?_
    rintro e w7' ⟨rfl, n7, rfl⟩
    clear hr7
    go_wp2_with fail
    refine (copy_any a' _ cap' ys _ ((hv'.below F7.below (Nat.le_refl _)).drewN n7) (by omega)).mono ?_
    rintro e w8 ⟨b8, rfl, hlt8, hr8, hb8⟩
    have F8 := (F7.drewN n7).step hb8
    clear F7 hb8 hlt8
    go_wp2_with fail
    refine (eq_any _ _ _ _ _ _ ys ys _ (F8.x1.vec hf') (hr8.vec hf') hl').mono ?_
    rintro e w8' ⟨rfl, n8, rfl⟩
    clear hr8
    go_wp2_with fail
    refine (mark_at b4 _ 1 _ xs _ rfl _ (F8.x0.drewN n8) (by rfl) (by omega) (by omega)).mono ?_
    rintro e w9 ⟨rfl, hx0, ht9⟩
    have F9 : Four w w9 b4 b5 g c d e3 xs.length ys.length (marks xs.length 1) ys Z := ⟨(belowN (n := n8) F8.below).trans (ht9.below n0), hx0, OwnAt.touch (F8.x1.drewN n8) ht9 (by omega), OwnAt.touch (F8.got.drewN n8) ht9 (by omega), OwnAt.touch (F8.want.drewN n8) ht9 (by omega)⟩
    clear F8 hx0 ht9
    go_wp2_with fail
    refine (mark_at b5 _ (1 + xs.length) _ ys _ rfl _ F9.x1 (by omega) (by omega) (by omega)).mono ?_
    rintro e w10 ⟨rfl, hx1, ht10⟩
    have F10 : Four w w10 b4 b5 g c d e3 xs.length ys.length (marks xs.length 1) (marks ys.length (1 + xs.length)) Z := ⟨F9.below.trans (ht10.below (by omega)), F9.x0.touch ht10 (by omega), hx1, F9.got.touch ht10 (by omega), F9.want.touch ht10 (by omega)⟩
    clear F9 hx1 ht10
    have hk0 : decide ((1 + (xs.length : Int) + (ys.length : Int)) < 0) = false := by simp; omega
    go_wp2_with fail
    refine (eq_any _ _ _ _ _ _ Z Z _ (F10.got.vec hfz) (F10.want.vec hfz) hlz).mono ?_
    rintro e w10' ⟨rfl, n10, rfl⟩
    go_wp2_with fail
    refine (mark_at g _ 1 _ Z _ rfl _ (F10.got.drewN n10) (by rfl) (by omega) (by omega)).mono ?_
    rintro e w11 ⟨rfl, hg11, ht11⟩
    have B11 : Below w.heap.size w w11 := (belowN (n := n10) F10.below).trans (ht11.below (by omega))
    have W11 := OwnAt.touch (F10.want.drewN n10) ht11 (by omega)
    clear F10 ht11 hk0
    go_wp2_with fail
    refine (held_at g _ 1 _ _ _ hg11 (by rfl) (by omega) (by omega)).mono ?_
    rintro e w11' ⟨rfl, rfl⟩
    go_wp2_with fail
    refine (copy_any a _ cap xs _ (hv.below B11 (Nat.le_refl _)) (by omega)).mono ?_
    rintro e w12 ⟨b12, rfl, hlt12, hr12, hb12⟩
    have B12 : Below w.heap.size w w12 := B11.trans (hb12.mono B11.size)
    go_wp2_with fail
    refine (copy_any a' _ cap' ys _ (hv'.below B12 (Nat.le_refl _)) (by omega)).mono ?_
    rintro e w13 ⟨b13, rfl, hlt13, hr13, hb13⟩
    have B13 : Below w.heap.size w w13 := B12.trans (hb13.mono B12.size)
    go_wp2_with fail
    have R12 := hr12.below hb13 hr12.lt
    refine (implJoin_any _ _ _ _ _ _ xs ys _ (R12.vec hf) (hr13.vec hf') (Nat.le_refl _) (Nat.le_refl _) hl hl').mono ?_
    rintro e w14 ⟨g', c', he, hg', ho', hb'⟩
    rw [HZ.out] at he ho'
    subst he
    have G12 := hg11.below hb12 hg11.lt
    have G13 := G12.below hb13 G12.lt
    have G14 := G13.below hb' G13.lt
    have W12 := W11.below hb12 W11.lt
    have W13 := W12.below hb13 W12.lt
    have W14 := W13.below hb' W13.lt
    have B14 : Below w.heap.size w w14 := B13.trans (hb'.mono B13.size)
    clear hr12 hr13 hb12 hb13 hb' G12 G13 W12 W13 W11 R12 B11 B12 B13 hg11 hg' hlt12 hlt13
    go_wp2_with fail
    refine (eq_any _ _ _ _ _ _ Z Z _ (ho'.vec hfz) (W14.vec hfz) hlz).mono ?_
    rintro e w14' ⟨rfl, n14, rfl⟩
    go_wp2_with fail
    refine (held_at g _ 1 _ _ _ (G14.drewN n14) (by rfl) (by omega) (by omega)).mono ?_
    rintro e w15 ⟨rfl, hw15⟩
    have B15 : Below w.heap.size w w15 := by rw [hw15]; exact belowN B14
    clear hw15
    go_wp2
    go_ret
    exact ⟨rfl, B15⟩
set_option maxRecDepth 100000 in
set_option maxHeartbeats 1600000 in
/-- The law FnExactMeet. -/
theorem lawMeet (a a' : Option Addr) (len cap len' cap' : Nat) (xs ys : List Int) (w : World) (hv : Vec w a len xs) (hv' : Vec w a' len' ys) (hcap : len ≤ cap) (hm : cap ≤ maxLen) (hcap' : len' ≤ cap') (hm' : cap' ≤ maxLen) :
    Calls Try.prog 6 #[.slice a len cap, .slice a' len' cap'] w fun e w' => e = .returned (.bool true) ∧ Below w.heap.size w w' := by
  by_cases hbig : (1048576 : Int) < (len : Int)
  · go_enter Try.func6, Try.ntmps6
    go_wp2
    go_ret
    exact ⟨rfl, Below.refl _ _⟩
  by_cases hbig' : (1048576 : Int) < (len' : Int)
  · go_enter Try.func6, Try.ntmps6
    go_wp2
    go_ret
    exact ⟨rfl, Below.refl _ _⟩
  · have hf : Fits xs := hv.2.1
    have hf' : Fits ys := hv'.2.1
    have hlen := hv.1
    have hlen' := hv'.1
    subst hlen hlen'
    have hl : xs.length ≤ maxLen := Nat.le_trans hcap hm
    have hl' : ys.length ≤ maxLen := Nat.le_trans hcap' hm'
    have hZ := pairB_len min xs ys
    have hfz := pairB_fits min min_or xs ys
    have hlz : (pairB min xs ys).length ≤ maxLen := by unfold maxLen; omega
    go_enter Try.func6, Try.ntmps6
    go_wp2_with fail
    refine (copy_any a _ cap xs w hv (by omega)).mono ?_
    rintro e w1 ⟨b1, rfl, hlt1, hr1, hb1⟩
    go_wp2_with fail
    refine (copy_any a' _ cap' ys _ (hv'.below hb1 (Nat.le_refl _)) (by omega)).mono ?_
    rintro e w2 ⟨b2, rfl, hlt2, hr2, hb2⟩
    have B2 : Below w.heap.size w w2 := hb1.trans (hb2.mono hb1.size)
    go_wp2_with fail
    refine (specMeet_any _ _ _ _ _ _ xs ys _ ((hr1.below hb2 hr1.lt).vec hf) (hr2.vec hf') hl hl').mono ?_
    rintro e w3 ⟨d, e3, rfl, hd, hwant, hb3⟩
    have B3 : Below w.heap.size w w3 := B2.trans (hb3.mono B2.size)
    clear hr1 hr2 hb1 hb2 hb3 hlt1 hlt2 B2
    go_wp2_with fail
    refine (copy_any a _ cap xs _ (hv.below B3 (Nat.le_refl _)) (by omega)).mono ?_
    rintro e w4 ⟨b4, rfl, hlt4, hr4, hb4⟩
    have B4 : Below w.heap.size w w4 := B3.trans (hb4.mono B3.size)
    have W4 := hwant.below hb4 hwant.lt
    go_wp2_with fail
    refine (copy_any a' _ cap' ys _ (hv'.below B4 (Nat.le_refl _)) (by omega)).mono ?_
    rintro e w5 ⟨b5, rfl, hlt5, hr5, hb5⟩
    have B5 : Below w.heap.size w w5 := B4.trans (hb5.mono B4.size)
    have X5 := hr4.below hb5 hr4.lt
    have W5 := W4.below hb5 W4.lt
    go_wp2_with fail
    refine (implMeet_any _ _ _ _ _ _ xs ys _ (X5.vec hf) (hr5.vec hf') (Nat.le_refl _) (Nat.le_refl _) hl hl').mono ?_
    rintro e w6 ⟨g, c, rfl, hg, hgot, hb6⟩
    have n1 : d < b4 := Nat.lt_of_lt_of_le hwant.lt hlt4
    have n2 : b4 < b5 := Nat.lt_of_lt_of_le hr4.lt hlt5
    have n3 : b5 < g := Nat.lt_of_lt_of_le hr5.lt hg
    have n0 : w.heap.size ≤ b4 := Nat.le_trans B3.size hlt4
    have F6 : Four w w6 b4 b5 g c d e3 xs.length ys.length xs ys (pairB min xs ys) := ⟨B5.trans (hb6.mono B5.size), (X5.own hl).below hb6 X5.lt, (hr5.own hl').below hb6 hr5.lt, hgot, W5.below hb6 W5.lt⟩
    clear hwant hr4 hr5 hb4 hb5 hb6 hgot B3 B4 B5 W4 W5 X5 hlt4 hlt5 hg hd
    generalize hZe : pairB min xs ys = Z at *
    have HZ : Hid (pairB min xs ys = Z) := hZe
    clear hZe
    go_wp2_with fail
    refine (eq_any _ _ _ _ _ _ Z Z _ (F6.got.vec hfz) (F6.want.vec hfz) hlz).mono ?_
    rintro e w6' ⟨rfl, n6, rfl⟩
    go_wp2_with fail
    refine (copy_any a _ cap xs _ ((hv.below F6.below (Nat.le_refl _)).drewN n6) (by omega)).mono ?_
    rintro e w7 ⟨b7, rfl, hlt7, hr7, hb7⟩
    have F7 := (F6.drewN n6).step hb7
    clear F6 hb7 hlt7
    go_wp2_with fail
    refine (eq_any _ _ _ _ _ _ xs xs _ (F7.x0.vec hf) (hr7.vec hf) hl).mono ?_
    rintro e w7' ⟨rfl, n7, rfl⟩
    clear hr7
    go_wp2_with fail
    refine (copy_any a' _ cap' ys _ ((hv'.below F7.below (Nat.le_refl _)).drewN n7) (by omega)).mono ?_
    rintro e w8 ⟨b8, rfl, hlt8, hr8, hb8⟩
    have F8 := (F7.drewN n7).step hb8
    clear F7 hb8 hlt8
    go_wp2_with fail
    refine (eq_any _ _ _ _ _ _ ys ys _ (F8.x1.vec hf') (hr8.vec hf') hl').mono ?_
    rintro e w8' ⟨rfl, n8, rfl⟩
    clear hr8
    go_wp2_with fail
    refine (mark_at b4 _ 1 _ xs _ rfl _ (F8.x0.drewN n8) (by rfl) (by omega) (by omega)).mono ?_
    rintro e w9 ⟨rfl, hx0, ht9⟩
    have F9 : Four w w9 b4 b5 g c d e3 xs.length ys.length (marks xs.length 1) ys Z := ⟨(belowN (n := n8) F8.below).trans (ht9.below n0), hx0, OwnAt.touch (F8.x1.drewN n8) ht9 (by omega), OwnAt.touch (F8.got.drewN n8) ht9 (by omega), OwnAt.touch (F8.want.drewN n8) ht9 (by omega)⟩
    clear F8 hx0 ht9
    go_wp2_with fail
    refine (mark_at b5 _ (1 + xs.length) _ ys _ rfl _ F9.x1 (by omega) (by omega) (by omega)).mono ?_
    rintro e w10 ⟨rfl, hx1, ht10⟩
    have F10 : Four w w10 b4 b5 g c d e3 xs.length ys.length (marks xs.length 1) (marks ys.length (1 + xs.length)) Z := ⟨F9.below.trans (ht10.below (by omega)), F9.x0.touch ht10 (by omega), hx1, F9.got.touch ht10 (by omega), F9.want.touch ht10 (by omega)⟩
    clear F9 hx1 ht10
    have hk0 : decide ((1 + (xs.length : Int) + (ys.length : Int)) < 0) = false := by simp; omega
    go_wp2_with fail
    refine (eq_any _ _ _ _ _ _ Z Z _ (F10.got.vec hfz) (F10.want.vec hfz) hlz).mono ?_
    rintro e w10' ⟨rfl, n10, rfl⟩
    go_wp2_with fail
    refine (mark_at g _ 1 _ Z _ rfl _ (F10.got.drewN n10) (by rfl) (by omega) (by omega)).mono ?_
    rintro e w11 ⟨rfl, hg11, ht11⟩
    have B11 : Below w.heap.size w w11 := (belowN (n := n10) F10.below).trans (ht11.below (by omega))
    have W11 := OwnAt.touch (F10.want.drewN n10) ht11 (by omega)
    clear F10 ht11 hk0
    go_wp2_with fail
    refine (held_at g _ 1 _ _ _ hg11 (by rfl) (by omega) (by omega)).mono ?_
    rintro e w11' ⟨rfl, rfl⟩
    go_wp2_with fail
    refine (copy_any a _ cap xs _ (hv.below B11 (Nat.le_refl _)) (by omega)).mono ?_
    rintro e w12 ⟨b12, rfl, hlt12, hr12, hb12⟩
    have B12 : Below w.heap.size w w12 := B11.trans (hb12.mono B11.size)
    go_wp2_with fail
    refine (copy_any a' _ cap' ys _ (hv'.below B12 (Nat.le_refl _)) (by omega)).mono ?_
    rintro e w13 ⟨b13, rfl, hlt13, hr13, hb13⟩
    have B13 : Below w.heap.size w w13 := B12.trans (hb13.mono B12.size)
    go_wp2_with fail
    have R12 := hr12.below hb13 hr12.lt
    refine (implMeet_any _ _ _ _ _ _ xs ys _ (R12.vec hf) (hr13.vec hf') (Nat.le_refl _) (Nat.le_refl _) hl hl').mono ?_
    rintro e w14 ⟨g', c', he, hg', ho', hb'⟩
    rw [HZ.out] at he ho'
    subst he
    have G12 := hg11.below hb12 hg11.lt
    have G13 := G12.below hb13 G12.lt
    have G14 := G13.below hb' G13.lt
    have W12 := W11.below hb12 W11.lt
    have W13 := W12.below hb13 W12.lt
    have W14 := W13.below hb' W13.lt
    have B14 : Below w.heap.size w w14 := B13.trans (hb'.mono B13.size)
    clear hr12 hr13 hb12 hb13 hb' G12 G13 W12 W13 W11 R12 B11 B12 B13 hg11 hg' hlt12 hlt13
    go_wp2_with fail
    refine (eq_any _ _ _ _ _ _ Z Z _ (ho'.vec hfz) (W14.vec hfz) hlz).mono ?_
    rintro e w14' ⟨rfl, n14, rfl⟩
    go_wp2_with fail
    refine (held_at g _ 1 _ _ _ (G14.drewN n14) (by rfl) (by omega) (by omega)).mono ?_
    rintro e w15 ⟨rfl, hw15⟩
    have B15 : Below w.heap.size w w15 := by rw [hw15]; exact belowN B14
    clear hw15
    go_wp2
    go_ret
    exact ⟨rfl, B15⟩
end Go.Proofs.Ytnkomlboeodgjaa
