/-
  Several texts in one: Rzh Rzt.
-/
import Derived.Test.YtgaibngaincahaaMn
import Derived.Test.YtgaibngaincahaaMa
import Derived.Test.YtgaibngaincahaaKw
import Derived.Test.YtgaibngaincahaaGb
import Derived.Test.YtgaibngaincahaaJn
/-
  The laws' own helpers on rows: szRow, eqRow, likeRow.
-/
namespace Go.Proofs.Ytgaibngaincahaa
set_option linter.unusedVariables false
set_option linter.unusedSimpArgs false
open Go.RowKit Go.Sort

/-- How much a row holds. -/
def szRw (r : Rw) : Nat := r.txt.length + totS r.txt r.txt.length + r.got.length + r.sus.length + r.trm.length
attribute [local irreducible] sv
set_option maxRecDepth 100000 in
set_option maxHeartbeats 1600000 in
theorem szRw_any (A : Ra) (r : Rw) (left : Int) (w : World) (hv : RwS w A r) (hlg : LongT r.txt) (hl : 0 ≤ left ∧ left ≤ 1048576) :
    Calls Try.prog 40 #[rwV A r, .int .i64 left] w fun e w' => ∃ q : Int, e = .returned (.int .i64 q) ∧ (q = -1 ∨ 0 ≤ q ∧ q + (szRw r : Int) = left) ∧ Below w.heap.size w w' := by
  have hb := oneA16 w (.cells (rwC A r) 47)
  have hx := Bx.new w 47 (rwC A r)
  have hS := szS_any A.ta A.tc r.txt left _ (hv.txt.below hb) hlg hv.mt hl
  generalize hW : w.alloc (.cells (rwC A r) 47) = W at *
  obtain ⟨ver, txt, got, sus, wed, rdy, by_, trm⟩ := r
  obtain ⟨ta, tc, ga, gc, sa, sc, ma, mc⟩ := A
  have hG := fun l X (h : 0 ≤ l ∧ l ≤ 1048576) => szI14_any ga got.length gc l X hv.mg h
  have hU := fun l X (h : 0 ≤ l ∧ l ≤ 1048576) => szI14_any sa sus.length sc l X hv.ms h
  have hM := fun l X (h : 0 ≤ l ∧ l ≤ 1048576) => szI14_any ma trm.length mc l X hv.mm h
  have hW' : w.alloc (.cells #[.int .i64 ver, .slice ta txt.length tc, .slice ga got.length gc, .slice sa sus.length sc, .bool wed, .bool rdy, .int .i64 by_, .slice ma trm.length mc] 47) = W := hW
  obtain ⟨⟨c0, c1, c2, c3⟩, c4, c5, c6, c7⟩ := Bx.r8 hx
  have HB : Hid (Below w.heap.size w W) := hb
  have HSZ : Hid ((szRw ⟨ver, txt, got, sus, wed, rdy, by_, trm⟩ : Int) = (txt.length : Int) + (totS txt txt.length : Int) + (got.length : Int) + (sus.length : Int) + (trm.length : Int)) := by rw [Hid, szRw]; simp only; omega
  unfold rwV rwC
  simp only at hS c0 c1 c2 c3 c4 c5 c6 c7 ⊢
  clear hv hx hb hW
  go_enter Try.func40, Try.ntmps40
  go_wp2_with fail
  refine hS.mono ?_
  rintro e w1 ⟨q1, rfl, hq1, hw1⟩
  rw [hw1]
  clear hw1 hS
  rcases hq1 with rfl | ⟨hq0, hq1⟩
  · go_wp2
    go_ret
    exact ⟨-1, rfl, .inl rfl, HB.out⟩
  have n1 : ¬ (q1 < 0) := by omega
  have b1 : q1 ≤ 1048576 := by omega
  have HQ1 : Hid (0 ≤ q1 ∧ q1 + (txt.length : Int) + (totS txt txt.length : Int) = left) := ⟨hq0, hq1⟩
  clear hq1 hq0
  have hs2 := hG q1 W ⟨by omega, by omega⟩
  by_cases g2 : (got.length : Int) ≤ q1
  rotate_left
  · rw [if_neg g2] at hs2
    go_wp2_with (go_at_call 75; refine hs2.mono ?_; rintro e w' ⟨rfl, hw'⟩; rw [hw']; clear hw')
    go_ret
    exact ⟨-1, rfl, .inl rfl, HB.out⟩
  rw [if_pos g2] at hs2
  obtain ⟨q2, hq2⟩ : ∃ x : Int, q1 - (got.length : Int) = x := ⟨_, rfl⟩
  rw [hq2] at hs2
  have n2 : ¬ (q2 < 0) := by omega
  have Hq2 : Hid (q1 - (got.length : Int) = q2) := hq2
  have b2 : q2 ≤ 1048576 := by omega
  clear hq2 g2
  go_wp2_with fail
  refine hs2.mono ?_
  rintro e w' ⟨rfl, hw'⟩
  rw [hw']
  clear hw' hs2
  have hs3 := hU q2 W ⟨by omega, by omega⟩
  by_cases g3 : (sus.length : Int) ≤ q2
  rotate_left
  · rw [if_neg g3] at hs3
    go_wp2_with (go_at_call 75; refine hs3.mono ?_; rintro e w' ⟨rfl, hw'⟩; rw [hw']; clear hw')
    go_ret
    exact ⟨-1, rfl, .inl rfl, HB.out⟩
  rw [if_pos g3] at hs3
  obtain ⟨q3, hq3⟩ : ∃ x : Int, q2 - (sus.length : Int) = x := ⟨_, rfl⟩
  rw [hq3] at hs3
  have n3 : ¬ (q3 < 0) := by omega
  have Hq3 : Hid (q2 - (sus.length : Int) = q3) := hq3
  have b3 : q3 ≤ 1048576 := by omega
  clear hq3 g3
  go_wp2_with fail
  refine hs3.mono ?_
  rintro e w' ⟨rfl, hw'⟩
  rw [hw']
  clear hw' hs3
  have hs4 := hM q3 W ⟨by omega, by omega⟩
  by_cases g4 : (trm.length : Int) ≤ q3
  rotate_left
  · rw [if_neg g4] at hs4
    go_wp2_with (go_at_call 75; refine hs4.mono ?_; rintro e w' ⟨rfl, hw'⟩; rw [hw']; clear hw')
    go_ret
    exact ⟨-1, rfl, .inl rfl, HB.out⟩
  rw [if_pos g4] at hs4
  obtain ⟨q4, hq4⟩ : ∃ x : Int, q3 - (trm.length : Int) = x := ⟨_, rfl⟩
  rw [hq4] at hs4
  have n4 : ¬ (q4 < 0) := by omega
  have Hq4 : Hid (q3 - (trm.length : Int) = q4) := hq4
  have b4 : q4 ≤ 1048576 := by omega
  clear hq4 g4
  go_wp2_with fail
  refine hs4.mono ?_
  rintro e w' ⟨rfl, hw'⟩
  rw [hw']
  clear hw' hs4
  go_wp2
  go_ret
  refine ⟨q4, rfl, .inr ⟨by omega, ?_⟩, HB.out⟩
  have h1 := HQ1.out
  have h2 := Hq2.out
  have h3 := Hq3.out
  have h4 := Hq4.out
  rw [HSZ.out]
  omega
set_option maxRecDepth 100000 in
set_option maxHeartbeats 1600000 in
theorem eqRw_any (A B : Ra) (r : Rw) (w : World) (hv : RwS w A r) (hu : RwS w B r) :
    Calls Try.prog 42 #[rwV A r, rwV B r] w fun e w' => e = .returned (.bool true) ∧ Below w.heap.size w w' := by
  have hB0 : Grew w ((w.alloc (.cells (rwC A r) 35)).alloc (.cells (rwC B r) 35)) := ((Grew.refl _).alloc _).alloc _
  have hx : Bx ((w.alloc (.cells (rwC A r) 35)).alloc (.cells (rwC B r) 35)) w.heap.size 35 (rwC A r) := (Bx.new w _ _).alloc _
  have hy : Bx ((w.alloc (.cells (rwC A r) 35)).alloc (.cells (rwC B r) 35)) (w.heap.size + 1) 35 (rwC B r) := by
    have := Bx.new (w.alloc (.cells (rwC A r) 35)) 35 (rwC B r)
    simpa using this
  have h0 := hv.below hB0.1
  have g0 := hu.below hB0.1
  have hT := eqSV_any A.ta B.ta A.tc B.tc r.txt _ h0.txt g0.txt h0.mt
  have hE : ∀ X, Below w.heap.size w X → ∀ (x y : Option Addr) (c d : Nat) (l : List Int), Vec w x l.length l → Vec w y l.length l → l.length ≤ maxLen → Calls Try.prog 79 #[.slice x l.length c, .slice y l.length d] X fun e w' => e = .returned (.bool true) ∧ ∃ n, w' = X.drewN n := fun X h x y c d l h1 h2 h3 => (eq_any x y l.length c l.length d l l X (h1.below h (Nat.le_refl _)) (h2.below h (Nat.le_refl _)) h3).mono (fun e w' ⟨h4, h5⟩ => ⟨by rw [h4]; simp, h5⟩)
  obtain ⟨ver, txt, got, sus, wed, rdy, by_, trm⟩ := r
  obtain ⟨ta, tc, ga, gc, sa, sc, ma, mc⟩ := A
  obtain ⟨ub, uc, vb, vc, xb, xc, yb, yc⟩ := B
  have HV : Hid (RwS w ⟨ta, tc, ga, gc, sa, sc, ma, mc⟩ ⟨ver, txt, got, sus, wed, rdy, by_, trm⟩) := hv
  have HU : Hid (RwS w ⟨ub, uc, vb, vc, xb, xc, yb, yc⟩ ⟨ver, txt, got, sus, wed, rdy, by_, trm⟩) := hu
  have hG := fun X h => hE X h ga vb gc vc got HV.out.got HU.out.got HV.out.mg
  have hS := fun X h => hE X h sa xb sc xc sus HV.out.sus HU.out.sus HV.out.ms
  have hM := fun X h => hE X h ma yb mc yc trm HV.out.trm HU.out.trm HV.out.mm
  have HX : Hid (∀ X, Grew ((w.alloc (.cells (rwC ⟨ta, tc, ga, gc, sa, sc, ma, mc⟩ ⟨ver, txt, got, sus, wed, rdy, by_, trm⟩) 35)).alloc (.cells (rwC ⟨ub, uc, vb, vc, xb, xc, yb, yc⟩ ⟨ver, txt, got, sus, wed, rdy, by_, trm⟩) 35)) X → Bx X w.heap.size 35 #[.int .i64 ver, .slice ta txt.length tc, .slice ga got.length gc, .slice sa sus.length sc, .bool wed, .bool rdy, .int .i64 by_, .slice ma trm.length mc] ∧ Bx X (w.heap.size + 1) 35 #[.int .i64 ver, .slice ub txt.length uc, .slice vb got.length vc, .slice xb sus.length xc, .bool wed, .bool rdy, .int .i64 by_, .slice yb trm.length yc]) := fun X h => ⟨hx.below h.1, hy.below h.1⟩
  have HG0 : Hid (Grew w ((w.alloc (.cells (rwC ⟨ta, tc, ga, gc, sa, sc, ma, mc⟩ ⟨ver, txt, got, sus, wed, rdy, by_, trm⟩) 35)).alloc (.cells (rwC ⟨ub, uc, vb, vc, xb, xc, yb, yc⟩ ⟨ver, txt, got, sus, wed, rdy, by_, trm⟩) 35))) := hB0
  have n1 : (ver != ver) = false := by simp
  have n2 : (by_ != by_) = false := by simp
  have n3 : (wed != wed) = false := by simp
  have n4 : (rdy != rdy) = false := by simp
  unfold rwV
  unfold rwC at *
  simp only at hT ⊢
  clear hv hu hx hy h0 g0 hE hB0
  go_enter Try.func42, Try.ntmps42
  go_wp2_with fail
  refine hT.mono ?_
  rintro e w1 ⟨rfl, hg1⟩
  obtain ⟨⟨c0, c1, c2, c3⟩, c4, c5, c6, c7⟩ := Bx.r8 (HX.out w1 hg1).1
  obtain ⟨⟨d0, d1, d2, d3⟩, d4, d5, d6, d7⟩ := Bx.r8 (HX.out w1 hg1).2
  have b1 : Below w.heap.size w w1 := (HG0.out.trans hg1).1
  have bN : ∀ q, Below w.heap.size w (w1.drewN q) := fun q => belowN b1
  have HB1 : Hid (Below w.heap.size w w1) := b1
  clear hT HX HG0 hg1
  go_wp2_with fail
  refine (hG _ b1).mono ?_
  rintro e w2 ⟨rfl, q2, hw2⟩
  have b2 : Below w.heap.size w w2 := by rw [hw2]; exact bN _
  have k2 : ∀ x v, w1.cell? x = some v → w2.cell? x = some v := fun x v h => by rw [hw2]; exact h
  have x3 := k2 _ _ c3
  have x4 := k2 _ _ c4
  have x5 := k2 _ _ c5
  have x6 := k2 _ _ c6
  have x7 := k2 _ _ c7
  have y3 := k2 _ _ d3
  have y4 := k2 _ _ d4
  have y5 := k2 _ _ d5
  have y6 := k2 _ _ d6
  have y7 := k2 _ _ d7
  clear hw2 k2 c0 c1 c2 c3 c4 c5 c6 c7 d0 d1 d2 d3 d4 d5 d6 d7 hG bN b1 HB1
  go_wp2_with fail
  refine (hS _ b2).mono ?_
  rintro e w3 ⟨rfl, q3, hw3⟩
  have b3 : Below w.heap.size w w3 := by rw [hw3]; exact belowN b2
  have k3 : ∀ x v, w2.cell? x = some v → w3.cell? x = some v := fun x v h => by rw [hw3]; exact h
  have z4 := k3 _ _ x4
  have z5 := k3 _ _ x5
  have z6 := k3 _ _ x6
  have z7 := k3 _ _ x7
  have u4 := k3 _ _ y4
  have u5 := k3 _ _ y5
  have u6 := k3 _ _ y6
  have u7 := k3 _ _ y7
  clear hw3 k3 x3 x4 x5 x6 x7 y3 y4 y5 y6 y7 hS b2
  go_wp2_with fail
  refine (hM _ b3).mono ?_
  rintro e w4 ⟨rfl, q4, hw4⟩
  have HB4 : Hid (Below w.heap.size w w4) := by rw [Hid, hw4]; exact belowN b3
  clear hw4 hM b3 z4 z5 z6 z7 u4 u5 u6 u7
  go_wp2
  go_ret
  exact ⟨rfl, HB4.out⟩
end Go.Proofs.Ytgaibngaincahaa

/-
  The laws' own toRow.
-/
namespace Go.Proofs.Ytgaibngaincahaa
set_option linter.unusedVariables false
set_option linter.unusedSimpArgs false
open Go.RowKit Go.Sort

def zero8 : Array Value := #[.int .i64 0, .slice none 0 0, .slice none 0 0, .slice none 0 0, .bool false, .bool false, .int .i64 0, .slice none 0 0]
/-- What toRow holds: what came, the answer's room, the row under way, its lists. -/
structure TR (w X : World) (S O : Array Value) (cs : List Cel) (vs : List Value) (fp : Fp) : Prop where
  src : Bx X w.heap.size 47 S
  res : Bx X (w.heap.size + 1) 35 zero8
  out : Bx X (w.heap.size + 1 + 1) 35 O
  own : owL X cs vs fp
  fpl : ∀ b, fp b → w.heap.size + 1 + 1 < b
  below : Below w.heap.size w X
theorem TR.set {w X : World} {S O : Array Value} {cs : List Cel} {vs : List Value} {fp : Fp} (h : TR w X S O cs vs fp) (i : Nat) (v : Value) : TR w (X.setCell ⟨w.heap.size + 1 + 1, i, none⟩ v) S (O.setIfInBounds i v) cs vs fp :=
  ⟨h.src.far (by omega) v, h.res.far (by omega) v, h.out.setC i v, owL_wrt h.own (Wrt.set X (w.heap.size + 1 + 1) i v) (fun b hb e => by have := h.fpl b hb; omega), h.fpl, h.below.setCell (p := ⟨w.heap.size + 1 + 1, i, none⟩) (show w.heap.size ≤ w.heap.size + 1 + 1 by omega) v⟩
theorem TR.add {w X X' : World} {S O : Array Value} {cs : List Cel} {vs : List Value} {fp : Fp} (h : TR w X S O cs vs fp) {c : Cel} {v : Value} (hN : NewO X X' c v) : ∃ fp', TR w X' S O (cs ++ [c]) (vs ++ [v]) fp' := by
  obtain ⟨f, ho, hf, hb⟩ := hN
  have hol := h.out.lt
  refine ⟨fun b => fp b ∨ f b, h.src.below hb, h.res.below hb, h.out.below hb, owL_append (owL_below h.own hb) (owL_one.2 ho) (fun b h1 h2 => ?_), fun b hb => ?_, h.below.trans (hb.mono h.below.size)⟩
  · have := owL_lt h.own b h1
    have := hf b h2
    omega
  · rcases hb with hb | hb
    · exact h.fpl b hb
    · have := hf b hb; omega
theorem toI16 (a : Option Addr) (c : Nat) (l : List Int) (w : World) (hv : Vec w a l.length l) (hm : l.length ≤ 1048576) :
    Calls Try.prog 77 #[.slice a l.length c] w fun e w' => ∃ a' c', e = .returned (.slice a' l.length c') ∧ NewO w w' (icl l) (.slice a' l.length c') := by
  refine (copy_any a _ c l w hv (by omega)).mono ?_
  rintro e w2 ⟨b, rfl, hb, hr, hbw⟩
  exact ⟨_, _, rfl, fun x => x = b, ow_icl.2 ⟨_, _, some b, rfl, OSo.of (OI.own (hr.own (by unfold maxLen; omega))), fun x => by simp [eq_comm]⟩, fun x hx => by rw [hx]; exact hb, hbw⟩
set_option maxRecDepth 100000 in
set_option maxHeartbeats 3200000 in
theorem toRw_any (A : Ra) (r : Rw) (w : World) (hv : RwS w A r) (h1 : r.txt.length ≤ 1048576) (h2 : r.got.length ≤ 1048576) (h3 : r.sus.length ≤ 1048576) (h4 : r.trm.length ≤ 1048576) :
    Calls Try.prog 41 #[rwV A r] w fun e w' => AnsRw w w' e r := by
  obtain ⟨ver, txt, got, sus, wed, rdy, by_, trm⟩ := r
  obtain ⟨ta, tc, ga, gc, sa, sc, ma, mc⟩ := A
  simp only at h1 h2 h3 h4
  have HV : Hid (∀ X, Below w.heap.size w X → RwS X ⟨ta, tc, ga, gc, sa, sc, ma, mc⟩ ⟨ver, txt, got, sus, wed, rdy, by_, trm⟩) := fun X h => hv.below h
  have T0 : TR w (((w.alloc (.cells #[.int .i64 ver, .slice ta txt.length tc, .slice ga got.length gc, .slice sa sus.length sc, .bool wed, .bool rdy, .int .i64 by_, .slice ma trm.length mc] 47)).alloc (.cells #[.int .i64 0, .slice none 0 0, .slice none 0 0, .slice none 0 0, .bool false, .bool false, .int .i64 0, .slice none 0 0] 35)).alloc (.cells #[.int .i64 ver, .slice none 0 0, .slice none 0 0, .slice none 0 0, .bool false, .bool false, .int .i64 0, .slice none 0 0] 35)) #[.int .i64 ver, .slice ta txt.length tc, .slice ga got.length gc, .slice sa sus.length sc, .bool wed, .bool rdy, .int .i64 by_, .slice ma trm.length mc] #[.int .i64 ver, .slice none 0 0, .slice none 0 0, .slice none 0 0, .bool false, .bool false, .int .i64 0, .slice none 0 0] [] [] (fun _ => False) := by
    have x0 := ((Bx.new w 47 #[.int .i64 ver, .slice ta txt.length tc, .slice ga got.length gc, .slice sa sus.length sc, .bool wed, .bool rdy, .int .i64 by_, .slice ma trm.length mc]).alloc (.cells #[.int .i64 0, .slice none 0 0, .slice none 0 0, .slice none 0 0, .bool false, .bool false, .int .i64 0, .slice none 0 0] 35)).alloc (.cells #[.int .i64 ver, .slice none 0 0, .slice none 0 0, .slice none 0 0, .bool false, .bool false, .int .i64 0, .slice none 0 0] 35)
    have x1 := (Bx.new (w.alloc (.cells #[.int .i64 ver, .slice ta txt.length tc, .slice ga got.length gc, .slice sa sus.length sc, .bool wed, .bool rdy, .int .i64 by_, .slice ma trm.length mc] 47)) 35 #[.int .i64 0, .slice none 0 0, .slice none 0 0, .slice none 0 0, .bool false, .bool false, .int .i64 0, .slice none 0 0]).alloc (.cells #[.int .i64 ver, .slice none 0 0, .slice none 0 0, .slice none 0 0, .bool false, .bool false, .int .i64 0, .slice none 0 0] 35)
    have x2 := Bx.new ((w.alloc (.cells #[.int .i64 ver, .slice ta txt.length tc, .slice ga got.length gc, .slice sa sus.length sc, .bool wed, .bool rdy, .int .i64 by_, .slice ma trm.length mc] 47)).alloc (.cells #[.int .i64 0, .slice none 0 0, .slice none 0 0, .slice none 0 0, .bool false, .bool false, .int .i64 0, .slice none 0 0] 35)) 35 #[.int .i64 ver, .slice none 0 0, .slice none 0 0, .slice none 0 0, .bool false, .bool false, .int .i64 0, .slice none 0 0]
    simp only [World.size_alloc] at x1 x2
    exact ⟨x0, x1, x2, ⟨rfl, fun _ h => h⟩, fun b h => absurd h id, ((Below.refl _ _).alloc (Nat.le_refl _) _).alloc (by simp) _ |>.alloc (by simp only [World.size_alloc]; omega) _⟩
  have hC1 := toS_any ta tc txt _ (HV.out _ T0.below).txt h1
  have HT0 : Hid (TR w (((w.alloc (.cells #[.int .i64 ver, .slice ta txt.length tc, .slice ga got.length gc, .slice sa sus.length sc, .bool wed, .bool rdy, .int .i64 by_, .slice ma trm.length mc] 47)).alloc (.cells #[.int .i64 0, .slice none 0 0, .slice none 0 0, .slice none 0 0, .bool false, .bool false, .int .i64 0, .slice none 0 0] 35)).alloc (.cells #[.int .i64 ver, .slice none 0 0, .slice none 0 0, .slice none 0 0, .bool false, .bool false, .int .i64 0, .slice none 0 0] 35)) #[.int .i64 ver, .slice ta txt.length tc, .slice ga got.length gc, .slice sa sus.length sc, .bool wed, .bool rdy, .int .i64 by_, .slice ma trm.length mc] #[.int .i64 ver, .slice none 0 0, .slice none 0 0, .slice none 0 0, .bool false, .bool false, .int .i64 0, .slice none 0 0] [] [] (fun _ => False)) := T0
  unfold rwV rwC
  simp only
  clear hv T0
  go_enter Try.func41, Try.ntmps41
  go_wp2_with fail
  refine hC1.mono ?_
  rintro e w1 ⟨a1, c1, rfl, hN1⟩
  obtain ⟨fp1, T1⟩ := HT0.out.add hN1
  obtain ⟨⟨s0, s1, s2, s3⟩, s4, s5, s6, s7⟩ := Bx.r8 T1.src; obtain ⟨⟨o0, o1, o2, o3⟩, o4, o5, o6, o7⟩ := Bx.r8 (show Bx _ _ _ #[.int .i64 ver, .slice none 0 0, .slice none 0 0, .slice none 0 0, .bool false, .bool false, .int .i64 0, .slice none 0 0] from T1.out); obtain ⟨⟨f0, f1, f2, f3⟩, f4, f5, f6, f7⟩ := T1.out.f8
  have T1s := T1.set 1 (.slice a1 txt.length c1)
  have T1' : TR w (w1.setCell ⟨w.heap.size + 1 + 1, 1, none⟩ (.slice a1 txt.length c1)) #[.int .i64 ver, .slice ta txt.length tc, .slice ga got.length gc, .slice sa sus.length sc, .bool wed, .bool rdy, .int .i64 by_, .slice ma trm.length mc] #[.int .i64 ver, .slice a1 txt.length c1, .slice none 0 0, .slice none 0 0, .bool false, .bool false, .int .i64 0, .slice none 0 0] ([] ++ [scl txt]) ([] ++ [.slice a1 txt.length c1]) fp1 := by simpa using T1s
  have hC2 := toI16 ga gc got _ (HV.out _ T1'.below).got h2
  have HT1 : Hid (TR w (w1.setCell ⟨w.heap.size + 1 + 1, 1, none⟩ (.slice a1 txt.length c1)) #[.int .i64 ver, .slice ta txt.length tc, .slice ga got.length gc, .slice sa sus.length sc, .bool wed, .bool rdy, .int .i64 by_, .slice ma trm.length mc] #[.int .i64 ver, .slice a1 txt.length c1, .slice none 0 0, .slice none 0 0, .bool false, .bool false, .int .i64 0, .slice none 0 0] ([] ++ [scl txt]) ([] ++ [.slice a1 txt.length c1]) fp1) := T1'
  obtain ⟨x0, x1⟩ : (w1.setCell ⟨w.heap.size + 1 + 1, 1, none⟩ (.slice a1 txt.length c1)).cell? ⟨w.heap.size, 2, none⟩ = some (.slice ga got.length gc) ∧ True := ⟨T1'.src.at 2 rfl, trivial⟩
  clear hN1 T1 T1s T1' hC1 HT0
  go_wp2_with fail
  refine hC2.mono ?_
  rintro e w2 ⟨a2, c2, rfl, hN2⟩
  clear s0 s1 s2 s3 s4 s5 s6 s7 o0 o1 o2 o3 o4 o5 o6 o7 f0 f1 f2 f3 f4 f5 f6 f7 x0
  obtain ⟨fp2, T2⟩ := HT1.out.add hN2
  obtain ⟨⟨s0, s1, s2, s3⟩, s4, s5, s6, s7⟩ := Bx.r8 T2.src; obtain ⟨⟨o0, o1, o2, o3⟩, o4, o5, o6, o7⟩ := Bx.r8 (show Bx _ _ _ #[.int .i64 ver, .slice a1 txt.length c1, .slice none 0 0, .slice none 0 0, .bool false, .bool false, .int .i64 0, .slice none 0 0] from T2.out); obtain ⟨⟨f0, f1, f2, f3⟩, f4, f5, f6, f7⟩ := T2.out.f8
  have T2s := T2.set 2 (.slice a2 got.length c2)
  have T2' : TR w (w2.setCell ⟨w.heap.size + 1 + 1, 2, none⟩ (.slice a2 got.length c2)) #[.int .i64 ver, .slice ta txt.length tc, .slice ga got.length gc, .slice sa sus.length sc, .bool wed, .bool rdy, .int .i64 by_, .slice ma trm.length mc] #[.int .i64 ver, .slice a1 txt.length c1, .slice a2 got.length c2, .slice none 0 0, .bool false, .bool false, .int .i64 0, .slice none 0 0] (([] ++ [scl txt]) ++ [icl got]) (([] ++ [.slice a1 txt.length c1]) ++ [.slice a2 got.length c2]) fp2 := by simpa using T2s
  have hC3 := toI16 sa sc sus _ (HV.out _ T2'.below).sus h3
  have HT2 : Hid (TR w (w2.setCell ⟨w.heap.size + 1 + 1, 2, none⟩ (.slice a2 got.length c2)) #[.int .i64 ver, .slice ta txt.length tc, .slice ga got.length gc, .slice sa sus.length sc, .bool wed, .bool rdy, .int .i64 by_, .slice ma trm.length mc] #[.int .i64 ver, .slice a1 txt.length c1, .slice a2 got.length c2, .slice none 0 0, .bool false, .bool false, .int .i64 0, .slice none 0 0] (([] ++ [scl txt]) ++ [icl got]) (([] ++ [.slice a1 txt.length c1]) ++ [.slice a2 got.length c2]) fp2) := T2'
  have x0 : (w2.setCell ⟨w.heap.size + 1 + 1, 2, none⟩ (.slice a2 got.length c2)).cell? ⟨w.heap.size, 3, none⟩ = some (.slice sa sus.length sc) := T2'.src.at 3 rfl
  clear hN2 T2 T2s T2' hC2 HT1
  go_wp2_with fail
  refine hC3.mono ?_
  rintro e w3 ⟨a3, c3, rfl, hN3⟩
  clear s0 s1 s2 s3 s4 s5 s6 s7 o0 o1 o2 o3 o4 o5 o6 o7 f0 f1 f2 f3 f4 f5 f6 f7 x0
  obtain ⟨fp3, T3⟩ := HT2.out.add hN3
  have p0 := (show Bx _ _ _ #[.int .i64 ver, .slice a1 txt.length c1, .slice a2 got.length c2, .slice none 0 0, .bool false, .bool false, .int .i64 0, .slice none 0 0] from T3.out).at 3 rfl
  have q0 := T3.out.f 3
  have T3as := T3.set 3 (.slice a3 sus.length c3)
  have T3a : TR w (w3.setCell ⟨w.heap.size + 1 + 1, 3, none⟩ (.slice a3 sus.length c3)) #[.int .i64 ver, .slice ta txt.length tc, .slice ga got.length gc, .slice sa sus.length sc, .bool wed, .bool rdy, .int .i64 by_, .slice ma trm.length mc] #[.int .i64 ver, .slice a1 txt.length c1, .slice a2 got.length c2, .slice a3 sus.length c3, .bool false, .bool false, .int .i64 0, .slice none 0 0] ((([] ++ [scl txt]) ++ [icl got]) ++ [icl sus]) ((([] ++ [.slice a1 txt.length c1]) ++ [.slice a2 got.length c2]) ++ [.slice a3 sus.length c3]) fp3 := by simpa using T3as
  have s4 : (w3.setCell ⟨w.heap.size + 1 + 1, 3, none⟩ (.slice a3 sus.length c3)).cell? ⟨w.heap.size, 4, none⟩ = _ := T3a.src.at 4 rfl
  have p4 := T3a.out.at 4 rfl
  have q4 := T3a.out.f 4
  clear T3as
  have T3bs := T3a.set 4 (.bool wed)
  have T3b : TR w ((w3.setCell ⟨w.heap.size + 1 + 1, 3, none⟩ (.slice a3 sus.length c3)).setCell ⟨w.heap.size + 1 + 1, 4, none⟩ (.bool wed)) #[.int .i64 ver, .slice ta txt.length tc, .slice ga got.length gc, .slice sa sus.length sc, .bool wed, .bool rdy, .int .i64 by_, .slice ma trm.length mc] #[.int .i64 ver, .slice a1 txt.length c1, .slice a2 got.length c2, .slice a3 sus.length c3, .bool wed, .bool false, .int .i64 0, .slice none 0 0] ((([] ++ [scl txt]) ++ [icl got]) ++ [icl sus]) ((([] ++ [.slice a1 txt.length c1]) ++ [.slice a2 got.length c2]) ++ [.slice a3 sus.length c3]) fp3 := by simpa using T3bs
  have s5 : ((w3.setCell ⟨w.heap.size + 1 + 1, 3, none⟩ (.slice a3 sus.length c3)).setCell ⟨w.heap.size + 1 + 1, 4, none⟩ (.bool wed)).cell? ⟨w.heap.size, 5, none⟩ = _ := T3b.src.at 5 rfl
  have p5 := T3b.out.at 5 rfl
  have q5 := T3b.out.f 5
  clear T3bs
  have T3cs := T3b.set 5 (.bool rdy)
  have T3c : TR w (((w3.setCell ⟨w.heap.size + 1 + 1, 3, none⟩ (.slice a3 sus.length c3)).setCell ⟨w.heap.size + 1 + 1, 4, none⟩ (.bool wed)).setCell ⟨w.heap.size + 1 + 1, 5, none⟩ (.bool rdy)) #[.int .i64 ver, .slice ta txt.length tc, .slice ga got.length gc, .slice sa sus.length sc, .bool wed, .bool rdy, .int .i64 by_, .slice ma trm.length mc] #[.int .i64 ver, .slice a1 txt.length c1, .slice a2 got.length c2, .slice a3 sus.length c3, .bool wed, .bool rdy, .int .i64 0, .slice none 0 0] ((([] ++ [scl txt]) ++ [icl got]) ++ [icl sus]) ((([] ++ [.slice a1 txt.length c1]) ++ [.slice a2 got.length c2]) ++ [.slice a3 sus.length c3]) fp3 := by simpa using T3cs
  have s6 : (((w3.setCell ⟨w.heap.size + 1 + 1, 3, none⟩ (.slice a3 sus.length c3)).setCell ⟨w.heap.size + 1 + 1, 4, none⟩ (.bool wed)).setCell ⟨w.heap.size + 1 + 1, 5, none⟩ (.bool rdy)).cell? ⟨w.heap.size, 6, none⟩ = _ := T3c.src.at 6 rfl
  have p6 := T3c.out.at 6 rfl
  have q6 := T3c.out.f 6
  clear T3cs
  have T3ds := T3c.set 6 (.int .i64 by_)
  have T3d : TR w ((((w3.setCell ⟨w.heap.size + 1 + 1, 3, none⟩ (.slice a3 sus.length c3)).setCell ⟨w.heap.size + 1 + 1, 4, none⟩ (.bool wed)).setCell ⟨w.heap.size + 1 + 1, 5, none⟩ (.bool rdy)).setCell ⟨w.heap.size + 1 + 1, 6, none⟩ (.int .i64 by_)) #[.int .i64 ver, .slice ta txt.length tc, .slice ga got.length gc, .slice sa sus.length sc, .bool wed, .bool rdy, .int .i64 by_, .slice ma trm.length mc] #[.int .i64 ver, .slice a1 txt.length c1, .slice a2 got.length c2, .slice a3 sus.length c3, .bool wed, .bool rdy, .int .i64 by_, .slice none 0 0] ((([] ++ [scl txt]) ++ [icl got]) ++ [icl sus]) ((([] ++ [.slice a1 txt.length c1]) ++ [.slice a2 got.length c2]) ++ [.slice a3 sus.length c3]) fp3 := by simpa using T3ds
  have s7 : ((((w3.setCell ⟨w.heap.size + 1 + 1, 3, none⟩ (.slice a3 sus.length c3)).setCell ⟨w.heap.size + 1 + 1, 4, none⟩ (.bool wed)).setCell ⟨w.heap.size + 1 + 1, 5, none⟩ (.bool rdy)).setCell ⟨w.heap.size + 1 + 1, 6, none⟩ (.int .i64 by_)).cell? ⟨w.heap.size, 7, none⟩ = _ := T3d.src.at 7 rfl
  have p7 := T3d.out.at 7 rfl
  have q7 := T3d.out.f 7
  clear T3ds
  have hC4 := toI16 ma mc trm _ (HV.out _ T3d.below).trm h4
  have HT3 : Hid (TR w ((((w3.setCell ⟨w.heap.size + 1 + 1, 3, none⟩ (.slice a3 sus.length c3)).setCell ⟨w.heap.size + 1 + 1, 4, none⟩ (.bool wed)).setCell ⟨w.heap.size + 1 + 1, 5, none⟩ (.bool rdy)).setCell ⟨w.heap.size + 1 + 1, 6, none⟩ (.int .i64 by_)) #[.int .i64 ver, .slice ta txt.length tc, .slice ga got.length gc, .slice sa sus.length sc, .bool wed, .bool rdy, .int .i64 by_, .slice ma trm.length mc] #[.int .i64 ver, .slice a1 txt.length c1, .slice a2 got.length c2, .slice a3 sus.length c3, .bool wed, .bool rdy, .int .i64 by_, .slice none 0 0] ((([] ++ [scl txt]) ++ [icl got]) ++ [icl sus]) ((([] ++ [.slice a1 txt.length c1]) ++ [.slice a2 got.length c2]) ++ [.slice a3 sus.length c3]) fp3) := T3d
  clear hN3 T3 T3a T3b T3c T3d hC3 HT2
  go_wp2_with fail
  refine hC4.mono ?_
  rintro e w4 ⟨a4, c4, rfl, hN4⟩
  clear p0 q0 s4 p4 q4 s5 p5 q5 s6 p6 q6 s7 p7 q7
  obtain ⟨fp4, T4⟩ := HT3.out.add hN4
  have p7 := (show Bx _ _ _ #[.int .i64 ver, .slice a1 txt.length c1, .slice a2 got.length c2, .slice a3 sus.length c3, .bool wed, .bool rdy, .int .i64 by_, .slice none 0 0] from T4.out).at 7 rfl
  have q7 := T4.out.f 7
  have T4s := T4.set 7 (.slice a4 trm.length c4)
  have T5 : TR w (w4.setCell ⟨w.heap.size + 1 + 1, 7, none⟩ (.slice a4 trm.length c4)) #[.int .i64 ver, .slice ta txt.length tc, .slice ga got.length gc, .slice sa sus.length sc, .bool wed, .bool rdy, .int .i64 by_, .slice ma trm.length mc] #[.int .i64 ver, .slice a1 txt.length c1, .slice a2 got.length c2, .slice a3 sus.length c3, .bool wed, .bool rdy, .int .i64 by_, .slice a4 trm.length c4] (((([] ++ [scl txt]) ++ [icl got]) ++ [icl sus]) ++ [icl trm]) (((([] ++ [.slice a1 txt.length c1]) ++ [.slice a2 got.length c2]) ++ [.slice a3 sus.length c3]) ++ [.slice a4 trm.length c4]) fp4 := by simpa using T4s
  obtain ⟨⟨o0, o1, o2, o3⟩, o4, o5, o6, o7⟩ := Bx.r8 (show Bx _ _ _ #[.int .i64 ver, .slice a1 txt.length c1, .slice a2 got.length c2, .slice a3 sus.length c3, .bool wed, .bool rdy, .int .i64 by_, .slice a4 trm.length c4] from T5.out)
  obtain ⟨⟨r0, r1, r2, r3⟩, r4, r5, r6, r7⟩ := Bx.r8 (show Bx _ _ _ #[.int .i64 0, .slice none 0 0, .slice none 0 0, .slice none 0 0, .bool false, .bool false, .int .i64 0, .slice none 0 0] from T5.res)
  obtain ⟨⟨f0, f1, f2, f3⟩, f4, f5, f6, f7⟩ := T5.res.f8
  have HT5 : Hid (TR w (w4.setCell ⟨w.heap.size + 1 + 1, 7, none⟩ (.slice a4 trm.length c4)) #[.int .i64 ver, .slice ta txt.length tc, .slice ga got.length gc, .slice sa sus.length sc, .bool wed, .bool rdy, .int .i64 by_, .slice ma trm.length mc] #[.int .i64 ver, .slice a1 txt.length c1, .slice a2 got.length c2, .slice a3 sus.length c3, .bool wed, .bool rdy, .int .i64 by_, .slice a4 trm.length c4] (((([] ++ [scl txt]) ++ [icl got]) ++ [icl sus]) ++ [icl trm]) (((([] ++ [.slice a1 txt.length c1]) ++ [.slice a2 got.length c2]) ++ [.slice a3 sus.length c3]) ++ [.slice a4 trm.length c4]) fp4) := T5
  clear hN4 T4 T4s T5 hC4 HT3
  go_wp2
  refine bodyPost_ret (v := .agg #[.int .i64 ver, .slice a1 txt.length c1, .slice a2 got.length c2, .slice a3 sus.length c3, .bool wed, .bool rdy, .int .i64 by_, .slice a4 trm.length c4]) (by simp [results, Try.results41, go_sem, *]) rfl ?_
  refine ⟨⟨a1, c1, a2, c2, a3, c3, a4, c4⟩, rfl, fp4, owL_wrt HT5.out.own (wrt8 _ (w.heap.size + 1)) (fun b hb e => by have := HT5.out.fpl b hb; omega), fun b hb => by have := HT5.out.fpl b hb; omega, (wrt8 _ (w.heap.size + 1)).below HT5.out.below HT5.out.below.size (fun b e => by rw [e]; omega)⟩
end Go.Proofs.Ytgaibngaincahaa
