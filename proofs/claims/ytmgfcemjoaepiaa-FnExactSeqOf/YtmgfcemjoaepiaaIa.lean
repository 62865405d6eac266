/-
  Several texts in one: Lsq Lwv.
-/
import Derived.Test.YtmgfcemjoaepiaaHz
/-
  What the program's SeqOf, SenderOf, IndexOf, Ready and Woven answer, and the walks of the exact laws of the first four FROM that.
-/
namespace Go.Proofs.Ytmgfcemjoaepiaa
set_option linter.unusedVariables false
set_option linter.unusedSimpArgs false
open Go.RowKit Go.Sort

/-- A number of 64 bits. -/
def I64 (x : Int) : Prop := -9223372036854775808 ≤ x ∧ x ≤ 9223372036854775807
def ImplSeqOf : Prop := ∀ (n s i : Int) (w : World), I64 n → I64 s → I64 i → Calls Try.prog 30 #[.int .i64 n, .int .i64 s, .int .i64 i] w fun e w' => e = .returned (.int .i64 (seqL n s i)) ∧ Below w.heap.size w w'
def ImplSenderOf : Prop := ∀ (n q : Int) (w : World), I64 n → I64 q → Calls Try.prog 32 #[.int .i64 n, .int .i64 q] w fun e w' => e = .returned (.int .i64 (sndL n q)) ∧ Below w.heap.size w w'
def ImplIndexOf : Prop := ∀ (n q : Int) (w : World), I64 n → I64 q → Calls Try.prog 33 #[.int .i64 n, .int .i64 q] w fun e w' => e = .returned (.int .i64 (idxL n q)) ∧ Below w.heap.size w w'
def ImplReady : Prop := ∀ (a : Option Addr) (len cap : Nat) (cs : List Int) (w : World), Vec w a len cs → len ≤ cap → cap ≤ maxLen → Calls Try.prog 38 #[.slice a len cap] w fun e w' => e = .returned (.int .i64 (readyL cs)) ∧ Below w.heap.size w w'
def ImplWoven : Prop := ∀ (a : Option Addr) (len cap : Nat) (cs : List Int) (w : World), Vec w a len cs → len ≤ cap → cap ≤ maxLen → Calls Try.prog 39 #[.slice a len cap] w fun e w' => ∃ Z, IsWoven cs Z ∧ AnsN w w' e Z
/-- What Ready answers, told otherwise: the number of those that are ready. -/
theorem readyL_is {cs : List Int} (h : okCt cs = true) : 0 ≤ readyL cs ∧ readyL cs ≤ 800000 ∧ IsReady cs (readyL cs).toNat := by
  obtain ⟨hok, hall⟩ := okCt_all h
  have h18 := okB_len hok
  have hc0 := hall 0 (by omega)
  have m0 : 0 ≤ (cs.length : Int) * el cs 0 := Int.mul_nonneg (by omega) hc0.1
  have m1 : (cs.length : Int) * el cs 0 ≤ 8 * 100000 := Int.mul_le_mul (by omega) hc0.2 hc0.1 (by omega)
  have e : readyL cs = rdy cs cs.length ((cs.length : Int) * el cs 0) := by rw [readyL, if_pos h]
  have hb := rdy_bd hall (by omega) (b := (cs.length : Int) * el cs 0) ⟨m0, by omega⟩ cs.length (Nat.le_refl _)
  rw [e]
  exact ⟨hb.1, hb.2, rdy_ready h18.1 h18.2 hall⟩
theorem readyL_of {cs : List Int} {r : Nat} (h : okCt cs = true) (hr : IsReady cs r) : readyL cs = (r : Int) := by
  obtain ⟨h0, _, h2⟩ := readyL_is h
  have := h2.unique hr
  omega

set_option maxHeartbeats 400000 in
theorem lawSeqOf (hI : ImplSeqOf) (n s i : Int) (w : World) (hn : I64 n) (hs : I64 s) (hi : I64 i) :
    Calls Try.prog 6 #[.int .i64 n, .int .i64 s, .int .i64 i] w fun e w' => e = .returned (.bool true) ∧ Below w.heap.size w w' := by
  have hP := hI n s i w hn hs hi
  have ne : (seqL n s i != seqL n s i) = false := by simp
  go_enter Try.func6, Try.ntmps6
  go_wp2_with fail
  refine (seqS_any n s i hn w).mono ?_
  rintro e w1 ⟨rfl, hw⟩
  rw [← hw] at hP
  have HW : Hid (w1 = w) := hw
  clear hw
  generalize seqL n s i = z at *
  go_wp2_with fail
  refine hP.mono ?_
  rintro e w2 ⟨rfl, hb⟩
  have HB : Hid (Below w.heap.size w w2) := by rw [Hid, ← HW.out]; exact hb
  clear hb
  go_wp2
  go_ret
  exact ⟨rfl, HB.out⟩
set_option maxHeartbeats 400000 in
theorem lawSenderOf (hI : ImplSenderOf) (n q : Int) (w : World) (hn : I64 n) (hq : I64 q) :
    Calls Try.prog 7 #[.int .i64 n, .int .i64 q] w fun e w' => e = .returned (.bool true) ∧ Below w.heap.size w w' := by
  have hP := hI n q w hn hq
  have ne : (sndL n q != sndL n q) = false := by simp
  go_enter Try.func7, Try.ntmps7
  go_wp2_with fail
  refine (sndS_any n q w).mono ?_
  rintro e w1 ⟨rfl, hw⟩
  rw [← hw] at hP
  have HW : Hid (w1 = w) := hw
  clear hw
  generalize sndL n q = z at *
  go_wp2_with fail
  refine hP.mono ?_
  rintro e w2 ⟨rfl, hb⟩
  have HB : Hid (Below w.heap.size w w2) := by rw [Hid, ← HW.out]; exact hb
  clear hb
  go_wp2
  go_ret
  exact ⟨rfl, HB.out⟩
set_option maxHeartbeats 400000 in
theorem lawIndexOf (hI : ImplIndexOf) (n q : Int) (w : World) (hn : I64 n) (hq : I64 q) :
    Calls Try.prog 8 #[.int .i64 n, .int .i64 q] w fun e w' => e = .returned (.bool true) ∧ Below w.heap.size w w' := by
  have hP := hI n q w hn hq
  have ne : (idxL n q != idxL n q) = false := by simp
  go_enter Try.func8, Try.ntmps8
  go_wp2_with fail
  refine (idxS_any n q w).mono ?_
  rintro e w1 ⟨rfl, hw⟩
  rw [← hw] at hP
  have HW : Hid (w1 = w) := hw
  clear hw
  generalize idxL n q = z at *
  go_wp2_with fail
  refine hP.mono ?_
  rintro e w2 ⟨rfl, hb⟩
  have HB : Hid (Below w.heap.size w w2) := by rw [Hid, ← HW.out]; exact hb
  clear hb
  go_wp2
  go_ret
  exact ⟨rfl, HB.out⟩

set_option maxRecDepth 100000 in
set_option maxHeartbeats 800000 in
theorem lawReady (hI : ImplReady) (a : Option Addr) (len cap : Nat) (xs : List Int) (w : World) (hv : Vec w a len xs) (hcap : len ≤ cap) (hm : cap ≤ maxLen) :
    Calls Try.prog 9 #[.slice a len cap] w fun e w' => e = .returned (.bool true) ∧ Below w.heap.size w w' := by
  by_cases hbig : (1048576 : Int) < (len : Int)
  · go_enter Try.func9, Try.ntmps9
    go_wp2
    go_ret
    exact ⟨rfl, Below.refl _ _⟩
  · have hf : Fits xs := hv.2.1
    have hlen := hv.1
    subst hlen
    have hl : xs.length ≤ maxLen := Nat.le_trans hcap hm
    have ne : (readyL xs != readyL xs) = false := by simp
    go_enter Try.func9, Try.ntmps9
    go_wp2_with fail
    refine (copy_any a _ cap xs w hv (by omega)).mono ?_
    rintro e w1 ⟨b1, rfl, hlt1, hr1, hb1⟩
    go_wp2_with fail
    refine (readyS_any _ _ _ xs _ (hr1.vec hf) hl).mono ?_
    rintro e w1' ⟨rfl, rfl⟩
    go_wp2_with fail
    refine (copy_any a _ cap xs _ (hv.below hb1 (Nat.le_refl _)) (by omega)).mono ?_
    rintro e w2 ⟨b2, rfl, hlt2, hr2, hb2⟩
    go_wp2_with fail
    refine (hI _ _ _ xs _ (hr2.vec hf) (Nat.le_refl _) hl).mono ?_
    rintro e w2' ⟨rfl, hb2'⟩
    have B2 : Below w.heap.size w w2 := hb1.trans (hb2.mono hb1.size)
    have B3 : Below w.heap.size w w2' := B2.trans (hb2'.mono B2.size)
    have hr2' := hr2.below hb2' hr2.lt
    generalize readyL xs = z at *
    go_wp2_with fail
    refine (copy_any a _ cap xs _ (hv.below B3 (Nat.le_refl _)) (by omega)).mono ?_
    rintro e w3 ⟨b3, rfl, hlt3, hr3, hb3⟩
    have HB : Hid (Below w.heap.size w w3) := B3.trans (hb3.mono B3.size)
    go_wp2_with fail
    refine (eq_any _ _ _ _ _ _ xs xs _ ((RowOf.below hr2' hb3 hr2'.lt).vec hf) (hr3.vec hf) hl).mono ?_
    rintro e w4 ⟨rfl, n4, rfl⟩
    go_wp2
    go_ret
    exact ⟨rfl, belowN HB.out⟩
end Go.Proofs.Ytmgfcemjoaepiaa

/-
  The walk of the exact law of Woven FROM its contract.
-/
namespace Go.Proofs.Ytmgfcemjoaepiaa
set_option linter.unusedVariables false
set_option linter.unusedSimpArgs false
open Go.RowKit Go.Sort

theorem isWoven_len {cs Z : List Int} (h : IsWoven cs Z) : Z.length ≤ 200 ∧ Fits Z := by
  rcases h with ⟨h1, h2, h3⟩ | ⟨_, rfl⟩
  · obtain ⟨hok, hall⟩ := okCt_all h1
    have h18 := okB_len hok
    have hM : ∀ i, i < cs.length → el cs i ≤ ((100000 : Nat) : Int) := fun i hi => (hall i hi).2
    have e := h3.unique (wovs_is h18.1 hM)
    rw [e]
    have hc := wovs_count (M := 100000) (fun i hi => ⟨(hall i hi).1, hM i hi⟩)
    exact ⟨by omega, wovs_fits h18.2 (Nat.le_refl _)⟩
  · exact ⟨by simp, fun x hx => by simp at hx⟩
theorem RowOf.num7 {w : World} {b : Nat} {xs : List Int} (h : RowOf w b xs) (hm : xs.length ≤ maxLen) : OI w b 0 xs.length xs.length xs := OI.own (h.own hm)
/-- What the law holds: the copy that was handed over, what came back, what is wanted. -/
structure Gv (w cur : World) (b g og cg d od cd : Nat) (xs : List Int) (G Z : List Int) : Prop where
  below : Below w.heap.size w cur
  x0 : OI cur b 0 xs.length xs.length xs
  got : OI cur g og Z.length cg G
  want : OI cur d od Z.length cd Z
theorem Gv.step {w cur next : World} {b g og cg d od cd : Nat} {xs : List Int} {G Z : List Int} (h : Gv w cur b g og cg d od cd xs G Z) (hb : Below cur.heap.size cur next) : Gv w next b g og cg d od cd xs G Z :=
  ⟨h.below.trans (hb.mono h.below.size), h.x0.below hb h.x0.blk, h.got.below hb h.got.blk, h.want.below hb h.want.blk⟩
theorem Gv.drewN {w cur : World} {b g og cg d od cd : Nat} {xs : List Int} {G Z : List Int} (h : Gv w cur b g og cg d od cd xs G Z) (k : Nat) : Gv w (cur.drewN k) b g og cg d od cd xs G Z :=
  ⟨belowN h.below, h.x0.drewN k, h.got.drewN k, h.want.drewN k⟩

set_option maxRecDepth 100000 in
set_option maxHeartbeats 3200000 in
/-- The law FnExactWoven. -/
theorem lawWoven (hI : ImplWoven) (a : Option Addr) (len cap : Nat) (xs : List Int) (w : World) (hv : Vec w a len xs) (hcap : len ≤ cap) (hm : cap ≤ maxLen) :
    Calls Try.prog 10 #[.slice a len cap] w fun e w' => e = .returned (.bool true) ∧ Below w.heap.size w w' := by
  have hl : len ≤ maxLen := Nat.le_trans hcap hm
  by_cases hbig : (1048576 : Int) < (len : Int)
  · go_enter Try.func10, Try.ntmps10
    go_wp2
    go_ret
    exact ⟨rfl, Below.refl _ _⟩
  · have hbg : decide ((1048576 : Int) < (len : Int)) = false := by simpa using hbig
    have hf : Fits xs := hv.2.1
    have hlen := hv.1
    subst hlen
    go_enter Try.func10, Try.ntmps10
    go_wp2_with fail
    refine (copy_any a _ cap xs w hv (by omega)).mono ?_
    rintro e w2 ⟨b2, rfl, _, hr2, hb2⟩
    have B2 : Below w.heap.size w w2 := hb2
    go_wp2_with fail
    refine (wovenS_any (some ⟨b2, 0, none⟩) _ _ xs w2 (hr2.vec hf) hl).mono ?_
    rintro e w4 ⟨Z, hZ, d, od, cd, rfl, hd, hwant, hb4⟩
    obtain ⟨hz8, hfz⟩ := isWoven_len hZ
    have hzm : Z.length ≤ maxLen := by unfold maxLen; omega
    have HZ : Hid (IsWoven xs Z) := hZ
    have B4 : Below w.heap.size w w4 := B2.trans (hb4.mono B2.size)
    clear hr2 hb2 hb4 B2 hZ
    go_wp2_with fail
    refine (copy_any a _ cap xs w4 (hv.below B4 (Nat.le_refl _)) (by omega)).mono ?_
    rintro e w6 ⟨b, rfl, hlt5, hr5, hb5⟩
    have B6 : Below w.heap.size w w6 := B4.trans (hb5.mono B4.size)
    have W6 := hwant.below hb5 hwant.blk
    go_wp2_with fail
    refine (hI (some ⟨b, 0, none⟩) _ _ xs w6 (hr5.vec hf) (Nat.le_refl _) hl).mono ?_
    rintro e w7 ⟨Z', hZ', g, og, cg, he7, hg, hgot, hb7⟩
    have eZ := hZ'.unique HZ.out
    subst eZ
    subst he7
    have n1 : d < b := Nat.lt_of_lt_of_le hwant.blk hlt5
    have n3 : b < g := Nat.lt_of_lt_of_le hr5.lt hg
    have n0 : w.heap.size ≤ b := Nat.le_trans B4.size hlt5
    have T7 : Gv w w7 b g og cg d od cd xs Z' Z' := ⟨B6.trans (hb7.mono B6.size), (hr5.num7 hl).below hb7 hr5.lt, hgot, W6.below hb7 W6.blk⟩
    clear hwant hr5 hb5 hb7 hgot W6 B4 B6 hlt5 hg hd hZ'
    go_wp2_with fail
    refine (eq_any _ _ _ _ _ _ Z' Z' _ (T7.got.vec hfz) (T7.want.vec hfz) hzm).mono ?_
    rintro e w7' ⟨rfl, n7, rfl⟩
    rw [show decide (Z' = Z') = true by simp]
    have T8 := T7.drewN n7
    clear T7
    go_wp2_with fail
    refine (copy_any a _ cap xs _ (hv.below T8.below (Nat.le_refl _)) (by omega)).mono ?_
    rintro e w9 ⟨b9, rfl, _, hr9, hb9⟩
    have T9 := T8.step hb9
    clear T8 hb9
    go_wp2_with fail
    refine (eq_any _ _ _ _ _ _ xs xs _ (T9.x0.vec hf) (hr9.vec hf) hl).mono ?_
    rintro e w9' ⟨rfl, n9, rfl⟩
    rw [show decide (xs = xs) = true by simp]
    have T12 := T9.drewN n9
    clear T9 hr9
    go_wp2_with fail
    refine (markN_any b 0 _ 1 _ _ xs _ T12.x0 (by rfl) (by omega) (by omega)).mono ?_
    rintro e w14 ⟨rfl, _, ht13⟩
    have B14 : Below w.heap.size w w14 := T12.below.trans (ht13.below n0)
    have got14 := num_touch T12.got ht13 (by omega)
    have want14 := num_touch T12.want ht13 (by omega)
    have hk0 : decide (((1 : Int) + (xs.length : Int)) < 0) = false := by simp; omega
    clear T12 ht13
    go_wp2_with fail
    refine (eq_any _ _ _ _ _ _ Z' Z' _ (got14.vec hfz) (want14.vec hfz) hzm).mono ?_
    rintro e w14' ⟨rfl, n14, rfl⟩
    rw [show decide (Z' = Z') = true by simp]
    go_wp2_with fail
    refine (markN_any g og cg 1 _ _ Z' _ (got14.drewN n14) (by rfl) (by omega) (by omega)).mono ?_
    rintro e w15 ⟨rfl, got15, ht15⟩
    have B15 : Below w.heap.size w w15 := (belowN (n := n14) B14).trans (ht15.below (by omega))
    have want15 := num_touch (want14.drewN n14) ht15 (by omega)
    clear B14 got14 want14 ht15 hk0
    go_wp2_with fail
    refine (heldN_any g og cg 1 _ _ _ got15 (by rfl) (by omega) (by omega)).mono ?_
    rintro e w15' ⟨rfl, rfl⟩
    go_wp2_with fail
    refine (copy_any a _ cap xs _ (hv.below B15 (Nat.le_refl _)) (by omega)).mono ?_
    rintro e w17 ⟨b16, rfl, _, hr16, hb16⟩
    have B17 : Below w.heap.size w w17 := B15.trans (hb16.mono B15.size)
    have got17 := got15.below hb16 got15.blk
    have want17 := want15.below hb16 want15.blk
    clear B15 got15 want15 hb16
    go_wp2_with fail
    refine (hI (some ⟨b16, 0, none⟩) _ _ xs w17 (hr16.vec hf) (Nat.le_refl _) hl).mono ?_
    rintro e w18 ⟨Y, hY, g18, og18, cg18, he18, _, hgot18, hb18⟩
    have eY := hY.unique HZ.out
    subst eY
    subst he18
    have B18 : Below w.heap.size w w18 := B17.trans (hb18.mono B17.size)
    have got18 := got17.below hb18 got17.blk
    have want18 := want17.below hb18 want17.blk
    clear B17 got17 want17 hb18 hr16 hY
    go_wp2_with fail
    refine (eq_any _ _ _ _ _ _ Y Y _ (hgot18.vec hfz) (want18.vec hfz) hzm).mono ?_
    rintro e w18' ⟨rfl, n18, rfl⟩
    rw [show decide (Y = Y) = true by simp]
    go_wp2_with fail
    refine (heldN_any g og cg 1 _ _ _ (got18.drewN n18) (by rfl) (by omega) (by omega)).mono ?_
    rintro e w19 ⟨rfl, hw19⟩
    have HB : Hid (Below w.heap.size w w19) := by rw [Hid, hw19]; exact belowN B18
    clear hw19
    go_wp2
    go_ret
    exact ⟨rfl, HB.out⟩
end Go.Proofs.Ytmgfcemjoaepiaa
