/-
  Texts in one: Rzh Rzt Rzm Rzq Mbq Rnw Mbp Fnp Mbs Mbt Mbu Mbv Mbw Grp Grq Mbx Mbm Mbk Tlr Tlt Mbo Rcy Mbc Mbf Gma Gmb.
-/
import Derived.Test.YtlnmdfgcpfbleaaJab
import Derived.Test.YtlnmdfgcpfbleaaJaa
import Derived.BigQuiet
import Derived.StillTail
import Derived.OrdersHeld
import Derived.Deep.RegionHeld
import Derived.Deep.Cut
import Derived.Deep.CutRange
namespace Go.Proofs.Ytlnmdfgcpfbleaa
set_option linter.unusedVariables false
set_option linter.unusedSimpArgs false
open Go.RowKit Go.Sort
def szRw (r : Rw) : Nat := r.txt.length + totS r.txt r.txt.length + r.got.length + r.sus.length + r.trm.length
attribute [local irreducible] sv
set_option maxRecDepth 100000 in
set_option maxHeartbeats 1600000 in
theorem szRw_any (A : Ra) (r : Rw) (left : Int) (w : World) (hv : RwS w A r) (hlg : LongT r.txt) (hl : 0 ≤ left ∧ left ≤ 1048576) :
  Calls Try.prog 40 #[rwV A r,.int .i64 left] w fun e w' => ∃ q : Int,e = .returned (.int .i64 q) ∧ (q = -1 ∨ 0 ≤ q ∧ q + (szRw r : Int) = left) ∧ Below w.heap.size w w' := by
 have hb := oneA16 w (.cells (rwC A r) 47)
 have hx := Bx.new w 47 (rwC A r)
 have hS := szS_any A.ta A.tc r.txt left _ (hv.txt.below hb) hlg hv.mt hl
 generalize hW : w.alloc (.cells (rwC A r) 47) = W at *
 obtain ⟨ver,txt,got,sus,wed,rdy,by_,trm⟩ := r
 obtain ⟨ta,tc,ga,gc,sa,sc,ma,mc⟩ := A
 have hG := fun l X (h : 0 ≤ l ∧ l ≤ 1048576) => szI14_any ga got.length gc l X hv.mg h
 have hU := fun l X (h : 0 ≤ l ∧ l ≤ 1048576) => szI14_any sa sus.length sc l X hv.ms h
 have hM := fun l X (h : 0 ≤ l ∧ l ≤ 1048576) => szI14_any ma trm.length mc l X hv.mm h
 have hW' : w.alloc (.cells #[.int .i64 ver,.slice ta txt.length tc,.slice ga got.length gc,.slice sa sus.length sc,.bool wed,.bool rdy,.int .i64 by_,.slice ma trm.length mc] 47) = W := hW
 obtain ⟨⟨c0,c1,c2,c3⟩,c4,c5,c6,c7⟩ := Bx.r8 hx
 have HB : Hid (Below w.heap.size w W) := hb
 have HSZ : Hid ((szRw ⟨ver,txt,got,sus,wed,rdy,by_,trm⟩ : Int) = (txt.length : Int) + (totS txt txt.length : Int) + (got.length : Int) + (sus.length : Int) + (trm.length : Int)) := by rw [Hid,szRw];simp only;omega
 unfold rwV rwC
 simp only at hS c0 c1 c2 c3 c4 c5 c6 c7 ⊢
 clear hv hx hb hW
 go_enter Try.func40,Try.ntmps40
 go_wp2_with fail
 refine hS.mono ?_
 rintro e w1 ⟨q1,rfl,hq1,hw1⟩
 rw [hw1]
 clear hw1 hS
 rcases hq1 with rfl | ⟨hq0,hq1⟩
 ·go_wp2
  go_ret
  exact ⟨-1,rfl,.inl rfl,HB.out⟩
 have n1 : ¬ (q1 < 0) := by omega
 have b1 : q1 ≤ 1048576 := by omega
 have HQ1 : Hid (0 ≤ q1 ∧ q1 + (txt.length : Int) + (totS txt txt.length : Int) = left) := ⟨hq0,hq1⟩
 clear hq1 hq0
 have hs2 := hG q1 W ⟨by omega,by omega⟩
 by_cases g2 : (got.length : Int) ≤ q1
 rotate_left
 ·rw [if_neg g2] at hs2
  go_wp2_with (go_at_call 86;refine hs2.mono ?_;rintro e w' ⟨rfl,hw'⟩;rw [hw'];clear hw')
  go_ret
  exact ⟨-1,rfl,.inl rfl,HB.out⟩
 rw [if_pos g2] at hs2
 obtain ⟨q2,hq2⟩ : ∃ x : Int,q1 - (got.length : Int) = x := ⟨_,rfl⟩
 rw [hq2] at hs2
 have n2 : ¬ (q2 < 0) := by omega
 have Hq2 : Hid (q1 - (got.length : Int) = q2) := hq2
 have b2 : q2 ≤ 1048576 := by omega
 clear hq2 g2
 go_wp2_with fail
 refine hs2.mono ?_
 rintro e w' ⟨rfl,hw'⟩
 rw [hw']
 clear hw' hs2
 have hs3 := hU q2 W ⟨by omega,by omega⟩
 by_cases g3 : (sus.length : Int) ≤ q2
 rotate_left
 ·rw [if_neg g3] at hs3
  go_wp2_with (go_at_call 86;refine hs3.mono ?_;rintro e w' ⟨rfl,hw'⟩;rw [hw'];clear hw')
  go_ret
  exact ⟨-1,rfl,.inl rfl,HB.out⟩
 rw [if_pos g3] at hs3
 obtain ⟨q3,hq3⟩ : ∃ x : Int,q2 - (sus.length : Int) = x := ⟨_,rfl⟩
 rw [hq3] at hs3
 have n3 : ¬ (q3 < 0) := by omega
 have Hq3 : Hid (q2 - (sus.length : Int) = q3) := hq3
 have b3 : q3 ≤ 1048576 := by omega
 clear hq3 g3
 go_wp2_with fail
 refine hs3.mono ?_
 rintro e w' ⟨rfl,hw'⟩
 rw [hw']
 clear hw' hs3
 have hs4 := hM q3 W ⟨by omega,by omega⟩
 by_cases g4 : (trm.length : Int) ≤ q3
 rotate_left
 ·rw [if_neg g4] at hs4
  go_wp2_with (go_at_call 86;refine hs4.mono ?_;rintro e w' ⟨rfl,hw'⟩;rw [hw'];clear hw')
  go_ret
  exact ⟨-1,rfl,.inl rfl,HB.out⟩
 rw [if_pos g4] at hs4
 obtain ⟨q4,hq4⟩ : ∃ x : Int,q3 - (trm.length : Int) = x := ⟨_,rfl⟩
 rw [hq4] at hs4
 have n4 : ¬ (q4 < 0) := by omega
 have Hq4 : Hid (q3 - (trm.length : Int) = q4) := hq4
 have b4 : q4 ≤ 1048576 := by omega
 clear hq4 g4
 go_wp2_with fail
 refine hs4.mono ?_
 rintro e w' ⟨rfl,hw'⟩
 rw [hw']
 clear hw' hs4
 go_wp2
 go_ret
 refine ⟨q4,rfl,.inr ⟨by omega, ?_⟩,HB.out⟩
 have h1 := HQ1.out
 have h2 := Hq2.out
 have h3 := Hq3.out
 have h4 := Hq4.out
 rw [HSZ.out]
 omega
set_option maxRecDepth 100000 in
set_option maxHeartbeats 1600000 in
theorem eqRw_any (A B : Ra) (r : Rw) (w : World) (hv : RwS w A r) (hu : RwS w B r) :
  Calls Try.prog 42 #[rwV A r,rwV B r] w fun e w' => e = .returned (.bool true) ∧ Below w.heap.size w w' := by
 have hB0 : Grew w ((w.alloc (.cells (rwC A r) 35)).alloc (.cells (rwC B r) 35)) := ((Grew.refl _).alloc _).alloc _
 have hx : Bx ((w.alloc (.cells (rwC A r) 35)).alloc (.cells (rwC B r) 35)) w.heap.size 35 (rwC A r) := (Bx.new w _ _).alloc _
 have hy : Bx ((w.alloc (.cells (rwC A r) 35)).alloc (.cells (rwC B r) 35)) (w.heap.size + 1) 35 (rwC B r) := by
  have := Bx.new (w.alloc (.cells (rwC A r) 35)) 35 (rwC B r)
  simpa using this
 have h0 := hv.below hB0.1
 have g0 := hu.below hB0.1
 have hT := eqSV_any A.ta B.ta A.tc B.tc r.txt _ h0.txt g0.txt h0.mt
 have hE : ∀ X,Below w.heap.size w X → ∀ (x y : Option Addr) (c d : Nat) (l : List Int),Vec w x l.length l → Vec w y l.length l → l.length ≤ maxLen → Calls Try.prog 52 #[.slice x l.length c,.slice y l.length d] X fun e w' => e = .returned (.bool true) ∧ ∃ n,w' = X.drewN n := fun X h x y c d l h1 h2 h3 => (eq_any x y l.length c l.length d l l X (h1.below h (Nat.le_refl _)) (h2.below h (Nat.le_refl _)) h3).mono (fun e w' ⟨h4,h5⟩ => ⟨by rw [h4];simp,h5⟩)
 obtain ⟨ver,txt,got,sus,wed,rdy,by_,trm⟩ := r
 obtain ⟨ta,tc,ga,gc,sa,sc,ma,mc⟩ := A
 obtain ⟨ub,uc,vb,vc,xb,xc,yb,yc⟩ := B
 have HV : Hid (RwS w ⟨ta,tc,ga,gc,sa,sc,ma,mc⟩ ⟨ver,txt,got,sus,wed,rdy,by_,trm⟩) := hv
 have HU : Hid (RwS w ⟨ub,uc,vb,vc,xb,xc,yb,yc⟩ ⟨ver,txt,got,sus,wed,rdy,by_,trm⟩) := hu
 have hG := fun X h => hE X h ga vb gc vc got HV.out.got HU.out.got HV.out.mg
 have hS := fun X h => hE X h sa xb sc xc sus HV.out.sus HU.out.sus HV.out.ms
 have hM := fun X h => hE X h ma yb mc yc trm HV.out.trm HU.out.trm HV.out.mm
 have HX : Hid (∀ X,Grew ((w.alloc (.cells (rwC ⟨ta,tc,ga,gc,sa,sc,ma,mc⟩ ⟨ver,txt,got,sus,wed,rdy,by_,trm⟩) 35)).alloc (.cells (rwC ⟨ub,uc,vb,vc,xb,xc,yb,yc⟩ ⟨ver,txt,got,sus,wed,rdy,by_,trm⟩) 35)) X → Bx X w.heap.size 35 #[.int .i64 ver,.slice ta txt.length tc,.slice ga got.length gc,.slice sa sus.length sc,.bool wed,.bool rdy,.int .i64 by_,.slice ma trm.length mc] ∧ Bx X (w.heap.size + 1) 35 #[.int .i64 ver,.slice ub txt.length uc,.slice vb got.length vc,.slice xb sus.length xc,.bool wed,.bool rdy,.int .i64 by_,.slice yb trm.length yc]) := fun X h => ⟨hx.below h.1,hy.below h.1⟩
 have HG0 : Hid (Grew w ((w.alloc (.cells (rwC ⟨ta,tc,ga,gc,sa,sc,ma,mc⟩ ⟨ver,txt,got,sus,wed,rdy,by_,trm⟩) 35)).alloc (.cells (rwC ⟨ub,uc,vb,vc,xb,xc,yb,yc⟩ ⟨ver,txt,got,sus,wed,rdy,by_,trm⟩) 35))) := hB0
 have n1 : (ver != ver) = false := by simp
 have n2 : (by_ != by_) = false := by simp
 have n3 : (wed != wed) = false := by simp
 have n4 : (rdy != rdy) = false := by simp
 unfold rwV
 unfold rwC at *
 simp only at hT ⊢
 clear hv hu hx hy h0 g0 hE hB0
 go_enter Try.func42,Try.ntmps42
 go_wp2_with fail
 refine hT.mono ?_
 rintro e w1 ⟨rfl,hg1⟩
 obtain ⟨⟨c0,c1,c2,c3⟩,c4,c5,c6,c7⟩ := Bx.r8 (HX.out w1 hg1).1
 obtain ⟨⟨d0,d1,d2,d3⟩,d4,d5,d6,d7⟩ := Bx.r8 (HX.out w1 hg1).2
 have b1 : Below w.heap.size w w1 := (HG0.out.trans hg1).1
 have bN : ∀ q,Below w.heap.size w (w1.drewN q) := fun q => belowN b1
 have HB1 : Hid (Below w.heap.size w w1) := b1
 clear hT HX HG0 hg1
 go_wp2_with fail
 refine (hG _ b1).mono ?_
 rintro e w2 ⟨rfl,q2,hw2⟩
 have b2 : Below w.heap.size w w2 := by rw [hw2];exact bN _
 have k2 : ∀ x v,w1.cell? x = some v → w2.cell? x = some v := fun x v h => by rw [hw2];exact h
 have x3 := k2 _ _ c3
 have x4 := k2 _ _ c4
 have x5 := k2 _ _ c5
 have x6 := k2 _ _ c6
 have x7 := k2 _ _ c7
 have y3 := k2 _ _ d3
 have y4 := k2 _ _ d4
 have y5 := k2 _ _ d5
 have y6 := k2 _ _ d6
 have y7 := k2 _ _ d7
 clear hw2 k2 c0 c1 c2 c3 c4 c5 c6 c7 d0 d1 d2 d3 d4 d5 d6 d7 hG bN b1 HB1
 go_wp2_with fail
 refine (hS _ b2).mono ?_
 rintro e w3 ⟨rfl,q3,hw3⟩
 have b3 : Below w.heap.size w w3 := by rw [hw3];exact belowN b2
 have k3 : ∀ x v,w2.cell? x = some v → w3.cell? x = some v := fun x v h => by rw [hw3];exact h
 have z4 := k3 _ _ x4
 have z5 := k3 _ _ x5
 have z6 := k3 _ _ x6
 have z7 := k3 _ _ x7
 have u4 := k3 _ _ y4
 have u5 := k3 _ _ y5
 have u6 := k3 _ _ y6
 have u7 := k3 _ _ y7
 clear hw3 k3 x3 x4 x5 x6 x7 y3 y4 y5 y6 y7 hS b2
 go_wp2_with fail
 refine (hM _ b3).mono ?_
 rintro e w4 ⟨rfl,q4,hw4⟩
 have HB4 : Hid (Below w.heap.size w w4) := by rw [Hid,hw4];exact belowN b3
 clear hw4 hM b3 z4 z5 z6 z7 u4 u5 u6 u7
 go_wp2
 go_ret
 exact ⟨rfl,HB4.out⟩
end Go.Proofs.Ytlnmdfgcpfbleaa
namespace Go.Proofs.Ytlnmdfgcpfbleaa
set_option linter.unusedVariables false
set_option linter.unusedSimpArgs false
open Go.RowKit Go.Sort
def zero8 : Array Value := #[.int .i64 0,.slice none 0 0,.slice none 0 0,.slice none 0 0,.bool false,.bool false,.int .i64 0,.slice none 0 0]
structure TR (w X : World) (S O : Array Value) (cs : List Cel) (vs : List Value) (fp : Fp) : Prop where
 src : Bx X w.heap.size 47 S
 res : Bx X (w.heap.size + 1) 35 zero8
 out : Bx X (w.heap.size + 1 + 1) 35 O
 own : owL X cs vs fp
 fpl : ∀ b,fp b → w.heap.size + 1 + 1 < b
 below : Below w.heap.size w X
theorem TR.set {w X : World} {S O : Array Value} {cs : List Cel} {vs : List Value} {fp : Fp} (h : TR w X S O cs vs fp) (i : Nat) (v : Value) : TR w (X.setCell ⟨w.heap.size + 1 + 1,i,none⟩ v) S (O.setIfInBounds i v) cs vs fp :=
 ⟨h.src.far (by omega) v,h.res.far (by omega) v,h.out.setC i v,owL_wrt h.own (Wrt.set X (w.heap.size + 1 + 1) i v) (fun b hb e => by have := h.fpl b hb;omega),h.fpl,h.below.setCell (p := ⟨w.heap.size + 1 + 1,i,none⟩) (show w.heap.size ≤ w.heap.size + 1 + 1 by omega) v⟩
theorem TR.add {w X X' : World} {S O : Array Value} {cs : List Cel} {vs : List Value} {fp : Fp} (h : TR w X S O cs vs fp) {c : Cel} {v : Value} (hN : NewO X X' c v) : ∃ fp',TR w X' S O (cs ++ [c]) (vs ++ [v]) fp' := by
 obtain ⟨f,ho,hf,hb⟩ := hN
 have hol := h.out.lt
 refine ⟨fun b => fp b ∨ f b,h.src.below hb,h.res.below hb,h.out.below hb,owL_append (owL_below h.own hb) (owL_one.2 ho) (fun b h1 h2 => ?_),fun b hb => ?_,h.below.trans (hb.mono h.below.size)⟩
 ·have := owL_lt h.own b h1
  have := hf b h2
  omega
 ·rcases hb with hb | hb
  ·exact h.fpl b hb
  ·have := hf b hb;omega
theorem toI16 (a : Option Addr) (c : Nat) (l : List Int) (w : World) (hv : Vec w a l.length l) (hm : l.length ≤ 1048576) :
  Calls Try.prog 88 #[.slice a l.length c] w fun e w' => ∃ a' c',e = .returned (.slice a' l.length c') ∧ NewO w w' (icl l) (.slice a' l.length c') := by
 refine (copy_any a _ c l w hv (by omega)).mono ?_
 rintro e w2 ⟨b,rfl,hb,hr,hbw⟩
 exact ⟨_,_,rfl,fun x => x = b,ow_icl.2 ⟨_,_,some b,rfl,OSo.of (OI.own (hr.own (by unfold maxLen;omega))),fun x => by simp [eq_comm]⟩,fun x hx => by rw [hx];exact hb,hbw⟩
set_option maxRecDepth 100000 in
set_option maxHeartbeats 3200000 in
theorem toRw_any (A : Ra) (r : Rw) (w : World) (hv : RwS w A r) (h1 : r.txt.length ≤ 1048576) (h2 : r.got.length ≤ 1048576) (h3 : r.sus.length ≤ 1048576) (h4 : r.trm.length ≤ 1048576) :
  Calls Try.prog 41 #[rwV A r] w fun e w' => AnsRw w w' e r := by
 obtain ⟨ver,txt,got,sus,wed,rdy,by_,trm⟩ := r
 obtain ⟨ta,tc,ga,gc,sa,sc,ma,mc⟩ := A
 simp only at h1 h2 h3 h4
 have HV : Hid (∀ X,Below w.heap.size w X → RwS X ⟨ta,tc,ga,gc,sa,sc,ma,mc⟩ ⟨ver,txt,got,sus,wed,rdy,by_,trm⟩) := fun X h => hv.below h
 have T0 : TR w (((w.alloc (.cells #[.int .i64 ver,.slice ta txt.length tc,.slice ga got.length gc,.slice sa sus.length sc,.bool wed,.bool rdy,.int .i64 by_,.slice ma trm.length mc] 47)).alloc (.cells #[.int .i64 0,.slice none 0 0,.slice none 0 0,.slice none 0 0,.bool false,.bool false,.int .i64 0,.slice none 0 0] 35)).alloc (.cells #[.int .i64 ver,.slice none 0 0,.slice none 0 0,.slice none 0 0,.bool false,.bool false,.int .i64 0,.slice none 0 0] 35)) #[.int .i64 ver,.slice ta txt.length tc,.slice ga got.length gc,.slice sa sus.length sc,.bool wed,.bool rdy,.int .i64 by_,.slice ma trm.length mc] #[.int .i64 ver,.slice none 0 0,.slice none 0 0,.slice none 0 0,.bool false,.bool false,.int .i64 0,.slice none 0 0] [] [] (fun _ => False) := by
  have x0 := ((Bx.new w 47 #[.int .i64 ver,.slice ta txt.length tc,.slice ga got.length gc,.slice sa sus.length sc,.bool wed,.bool rdy,.int .i64 by_,.slice ma trm.length mc]).alloc (.cells #[.int .i64 0,.slice none 0 0,.slice none 0 0,.slice none 0 0,.bool false,.bool false,.int .i64 0,.slice none 0 0] 35)).alloc (.cells #[.int .i64 ver,.slice none 0 0,.slice none 0 0,.slice none 0 0,.bool false,.bool false,.int .i64 0,.slice none 0 0] 35)
  have x1 := (Bx.new (w.alloc (.cells #[.int .i64 ver,.slice ta txt.length tc,.slice ga got.length gc,.slice sa sus.length sc,.bool wed,.bool rdy,.int .i64 by_,.slice ma trm.length mc] 47)) 35 #[.int .i64 0,.slice none 0 0,.slice none 0 0,.slice none 0 0,.bool false,.bool false,.int .i64 0,.slice none 0 0]).alloc (.cells #[.int .i64 ver,.slice none 0 0,.slice none 0 0,.slice none 0 0,.bool false,.bool false,.int .i64 0,.slice none 0 0] 35)
  have x2 := Bx.new ((w.alloc (.cells #[.int .i64 ver,.slice ta txt.length tc,.slice ga got.length gc,.slice sa sus.length sc,.bool wed,.bool rdy,.int .i64 by_,.slice ma trm.length mc] 47)).alloc (.cells #[.int .i64 0,.slice none 0 0,.slice none 0 0,.slice none 0 0,.bool false,.bool false,.int .i64 0,.slice none 0 0] 35)) 35 #[.int .i64 ver,.slice none 0 0,.slice none 0 0,.slice none 0 0,.bool false,.bool false,.int .i64 0,.slice none 0 0]
  simp only [World.size_alloc] at x1 x2
  exact ⟨x0,x1,x2,⟨rfl,fun _ h => h⟩,fun b h => absurd h id,((Below.refl _ _).alloc (Nat.le_refl _) _).alloc (by simp) _ |>.alloc (by simp only [World.size_alloc];omega) _⟩
 have hC1 := toS_any ta tc txt _ (HV.out _ T0.below).txt h1
 have HT0 : Hid (TR w (((w.alloc (.cells #[.int .i64 ver,.slice ta txt.length tc,.slice ga got.length gc,.slice sa sus.length sc,.bool wed,.bool rdy,.int .i64 by_,.slice ma trm.length mc] 47)).alloc (.cells #[.int .i64 0,.slice none 0 0,.slice none 0 0,.slice none 0 0,.bool false,.bool false,.int .i64 0,.slice none 0 0] 35)).alloc (.cells #[.int .i64 ver,.slice none 0 0,.slice none 0 0,.slice none 0 0,.bool false,.bool false,.int .i64 0,.slice none 0 0] 35)) #[.int .i64 ver,.slice ta txt.length tc,.slice ga got.length gc,.slice sa sus.length sc,.bool wed,.bool rdy,.int .i64 by_,.slice ma trm.length mc] #[.int .i64 ver,.slice none 0 0,.slice none 0 0,.slice none 0 0,.bool false,.bool false,.int .i64 0,.slice none 0 0] [] [] (fun _ => False)) := T0
 unfold rwV rwC
 simp only
 clear hv T0
 go_enter Try.func41,Try.ntmps41
 go_wp2_with fail
 refine hC1.mono ?_
 rintro e w1 ⟨a1,c1,rfl,hN1⟩
 obtain ⟨fp1,T1⟩ := HT0.out.add hN1
 obtain ⟨⟨s0,s1,s2,s3⟩,s4,s5,s6,s7⟩ := Bx.r8 T1.src;obtain ⟨⟨o0,o1,o2,o3⟩,o4,o5,o6,o7⟩ := Bx.r8 (show Bx _ _ _ #[.int .i64 ver,.slice none 0 0,.slice none 0 0,.slice none 0 0,.bool false,.bool false,.int .i64 0,.slice none 0 0] from T1.out);obtain ⟨⟨f0,f1,f2,f3⟩,f4,f5,f6,f7⟩ := T1.out.f8
 have T1s := T1.set 1 (.slice a1 txt.length c1)
 have T1' : TR w (w1.setCell ⟨w.heap.size + 1 + 1,1,none⟩ (.slice a1 txt.length c1)) #[.int .i64 ver,.slice ta txt.length tc,.slice ga got.length gc,.slice sa sus.length sc,.bool wed,.bool rdy,.int .i64 by_,.slice ma trm.length mc] #[.int .i64 ver,.slice a1 txt.length c1,.slice none 0 0,.slice none 0 0,.bool false,.bool false,.int .i64 0,.slice none 0 0] ([] ++ [scl txt]) ([] ++ [.slice a1 txt.length c1]) fp1 := by simpa using T1s
 have hC2 := toI16 ga gc got _ (HV.out _ T1'.below).got h2
 have HT1 : Hid (TR w (w1.setCell ⟨w.heap.size + 1 + 1,1,none⟩ (.slice a1 txt.length c1)) #[.int .i64 ver,.slice ta txt.length tc,.slice ga got.length gc,.slice sa sus.length sc,.bool wed,.bool rdy,.int .i64 by_,.slice ma trm.length mc] #[.int .i64 ver,.slice a1 txt.length c1,.slice none 0 0,.slice none 0 0,.bool false,.bool false,.int .i64 0,.slice none 0 0] ([] ++ [scl txt]) ([] ++ [.slice a1 txt.length c1]) fp1) := T1'
 obtain ⟨x0,x1⟩ : (w1.setCell ⟨w.heap.size + 1 + 1,1,none⟩ (.slice a1 txt.length c1)).cell? ⟨w.heap.size,2,none⟩ = some (.slice ga got.length gc) ∧ True := ⟨T1'.src.at 2 rfl,trivial⟩
 clear hN1 T1 T1s T1' hC1 HT0
 go_wp2_with fail
 refine hC2.mono ?_
 rintro e w2 ⟨a2,c2,rfl,hN2⟩
 clear s0 s1 s2 s3 s4 s5 s6 s7 o0 o1 o2 o3 o4 o5 o6 o7 f0 f1 f2 f3 f4 f5 f6 f7 x0
 obtain ⟨fp2,T2⟩ := HT1.out.add hN2
 obtain ⟨⟨s0,s1,s2,s3⟩,s4,s5,s6,s7⟩ := Bx.r8 T2.src;obtain ⟨⟨o0,o1,o2,o3⟩,o4,o5,o6,o7⟩ := Bx.r8 (show Bx _ _ _ #[.int .i64 ver,.slice a1 txt.length c1,.slice none 0 0,.slice none 0 0,.bool false,.bool false,.int .i64 0,.slice none 0 0] from T2.out);obtain ⟨⟨f0,f1,f2,f3⟩,f4,f5,f6,f7⟩ := T2.out.f8
 have T2s := T2.set 2 (.slice a2 got.length c2)
 have T2' : TR w (w2.setCell ⟨w.heap.size + 1 + 1,2,none⟩ (.slice a2 got.length c2)) #[.int .i64 ver,.slice ta txt.length tc,.slice ga got.length gc,.slice sa sus.length sc,.bool wed,.bool rdy,.int .i64 by_,.slice ma trm.length mc] #[.int .i64 ver,.slice a1 txt.length c1,.slice a2 got.length c2,.slice none 0 0,.bool false,.bool false,.int .i64 0,.slice none 0 0] (([] ++ [scl txt]) ++ [icl got]) (([] ++ [.slice a1 txt.length c1]) ++ [.slice a2 got.length c2]) fp2 := by simpa using T2s
 have hC3 := toI16 sa sc sus _ (HV.out _ T2'.below).sus h3
 have HT2 : Hid (TR w (w2.setCell ⟨w.heap.size + 1 + 1,2,none⟩ (.slice a2 got.length c2)) #[.int .i64 ver,.slice ta txt.length tc,.slice ga got.length gc,.slice sa sus.length sc,.bool wed,.bool rdy,.int .i64 by_,.slice ma trm.length mc] #[.int .i64 ver,.slice a1 txt.length c1,.slice a2 got.length c2,.slice none 0 0,.bool false,.bool false,.int .i64 0,.slice none 0 0] (([] ++ [scl txt]) ++ [icl got]) (([] ++ [.slice a1 txt.length c1]) ++ [.slice a2 got.length c2]) fp2) := T2'
 have x0 : (w2.setCell ⟨w.heap.size + 1 + 1,2,none⟩ (.slice a2 got.length c2)).cell? ⟨w.heap.size,3,none⟩ = some (.slice sa sus.length sc) := T2'.src.at 3 rfl
 clear hN2 T2 T2s T2' hC2 HT1
 go_wp2_with fail
 refine hC3.mono ?_
 rintro e w3 ⟨a3,c3,rfl,hN3⟩
 clear s0 s1 s2 s3 s4 s5 s6 s7 o0 o1 o2 o3 o4 o5 o6 o7 f0 f1 f2 f3 f4 f5 f6 f7 x0
 obtain ⟨fp3,T3⟩ := HT2.out.add hN3
 have p0 := (show Bx _ _ _ #[.int .i64 ver,.slice a1 txt.length c1,.slice a2 got.length c2,.slice none 0 0,.bool false,.bool false,.int .i64 0,.slice none 0 0] from T3.out).at 3 rfl
 have q0 := T3.out.f 3
 have T3as := T3.set 3 (.slice a3 sus.length c3)
 have T3a : TR w (w3.setCell ⟨w.heap.size + 1 + 1,3,none⟩ (.slice a3 sus.length c3)) #[.int .i64 ver,.slice ta txt.length tc,.slice ga got.length gc,.slice sa sus.length sc,.bool wed,.bool rdy,.int .i64 by_,.slice ma trm.length mc] #[.int .i64 ver,.slice a1 txt.length c1,.slice a2 got.length c2,.slice a3 sus.length c3,.bool false,.bool false,.int .i64 0,.slice none 0 0] ((([] ++ [scl txt]) ++ [icl got]) ++ [icl sus]) ((([] ++ [.slice a1 txt.length c1]) ++ [.slice a2 got.length c2]) ++ [.slice a3 sus.length c3]) fp3 := by simpa using T3as
 have s4 : (w3.setCell ⟨w.heap.size + 1 + 1,3,none⟩ (.slice a3 sus.length c3)).cell? ⟨w.heap.size,4,none⟩ = _ := T3a.src.at 4 rfl
 have p4 := T3a.out.at 4 rfl
 have q4 := T3a.out.f 4
 clear T3as
 have T3bs := T3a.set 4 (.bool wed)
 have T3b : TR w ((w3.setCell ⟨w.heap.size + 1 + 1,3,none⟩ (.slice a3 sus.length c3)).setCell ⟨w.heap.size + 1 + 1,4,none⟩ (.bool wed)) #[.int .i64 ver,.slice ta txt.length tc,.slice ga got.length gc,.slice sa sus.length sc,.bool wed,.bool rdy,.int .i64 by_,.slice ma trm.length mc] #[.int .i64 ver,.slice a1 txt.length c1,.slice a2 got.length c2,.slice a3 sus.length c3,.bool wed,.bool false,.int .i64 0,.slice none 0 0] ((([] ++ [scl txt]) ++ [icl got]) ++ [icl sus]) ((([] ++ [.slice a1 txt.length c1]) ++ [.slice a2 got.length c2]) ++ [.slice a3 sus.length c3]) fp3 := by simpa using T3bs
 have s5 : ((w3.setCell ⟨w.heap.size + 1 + 1,3,none⟩ (.slice a3 sus.length c3)).setCell ⟨w.heap.size + 1 + 1,4,none⟩ (.bool wed)).cell? ⟨w.heap.size,5,none⟩ = _ := T3b.src.at 5 rfl
 have p5 := T3b.out.at 5 rfl
 have q5 := T3b.out.f 5
 clear T3bs
 have T3cs := T3b.set 5 (.bool rdy)
 have T3c : TR w (((w3.setCell ⟨w.heap.size + 1 + 1,3,none⟩ (.slice a3 sus.length c3)).setCell ⟨w.heap.size + 1 + 1,4,none⟩ (.bool wed)).setCell ⟨w.heap.size + 1 + 1,5,none⟩ (.bool rdy)) #[.int .i64 ver,.slice ta txt.length tc,.slice ga got.length gc,.slice sa sus.length sc,.bool wed,.bool rdy,.int .i64 by_,.slice ma trm.length mc] #[.int .i64 ver,.slice a1 txt.length c1,.slice a2 got.length c2,.slice a3 sus.length c3,.bool wed,.bool rdy,.int .i64 0,.slice none 0 0] ((([] ++ [scl txt]) ++ [icl got]) ++ [icl sus]) ((([] ++ [.slice a1 txt.length c1]) ++ [.slice a2 got.length c2]) ++ [.slice a3 sus.length c3]) fp3 := by simpa using T3cs
 have s6 : (((w3.setCell ⟨w.heap.size + 1 + 1,3,none⟩ (.slice a3 sus.length c3)).setCell ⟨w.heap.size + 1 + 1,4,none⟩ (.bool wed)).setCell ⟨w.heap.size + 1 + 1,5,none⟩ (.bool rdy)).cell? ⟨w.heap.size,6,none⟩ = _ := T3c.src.at 6 rfl
 have p6 := T3c.out.at 6 rfl
 have q6 := T3c.out.f 6
 clear T3cs
 have T3ds := T3c.set 6 (.int .i64 by_)
 have T3d : TR w ((((w3.setCell ⟨w.heap.size + 1 + 1,3,none⟩ (.slice a3 sus.length c3)).setCell ⟨w.heap.size + 1 + 1,4,none⟩ (.bool wed)).setCell ⟨w.heap.size + 1 + 1,5,none⟩ (.bool rdy)).setCell ⟨w.heap.size + 1 + 1,6,none⟩ (.int .i64 by_)) #[.int .i64 ver,.slice ta txt.length tc,.slice ga got.length gc,.slice sa sus.length sc,.bool wed,.bool rdy,.int .i64 by_,.slice ma trm.length mc] #[.int .i64 ver,.slice a1 txt.length c1,.slice a2 got.length c2,.slice a3 sus.length c3,.bool wed,.bool rdy,.int .i64 by_,.slice none 0 0] ((([] ++ [scl txt]) ++ [icl got]) ++ [icl sus]) ((([] ++ [.slice a1 txt.length c1]) ++ [.slice a2 got.length c2]) ++ [.slice a3 sus.length c3]) fp3 := by simpa using T3ds
 have s7 : ((((w3.setCell ⟨w.heap.size + 1 + 1,3,none⟩ (.slice a3 sus.length c3)).setCell ⟨w.heap.size + 1 + 1,4,none⟩ (.bool wed)).setCell ⟨w.heap.size + 1 + 1,5,none⟩ (.bool rdy)).setCell ⟨w.heap.size + 1 + 1,6,none⟩ (.int .i64 by_)).cell? ⟨w.heap.size,7,none⟩ = _ := T3d.src.at 7 rfl
 have p7 := T3d.out.at 7 rfl
 have q7 := T3d.out.f 7
 clear T3ds
 have hC4 := toI16 ma mc trm _ (HV.out _ T3d.below).trm h4
 have HT3 : Hid (TR w ((((w3.setCell ⟨w.heap.size + 1 + 1,3,none⟩ (.slice a3 sus.length c3)).setCell ⟨w.heap.size + 1 + 1,4,none⟩ (.bool wed)).setCell ⟨w.heap.size + 1 + 1,5,none⟩ (.bool rdy)).setCell ⟨w.heap.size + 1 + 1,6,none⟩ (.int .i64 by_)) #[.int .i64 ver,.slice ta txt.length tc,.slice ga got.length gc,.slice sa sus.length sc,.bool wed,.bool rdy,.int .i64 by_,.slice ma trm.length mc] #[.int .i64 ver,.slice a1 txt.length c1,.slice a2 got.length c2,.slice a3 sus.length c3,.bool wed,.bool rdy,.int .i64 by_,.slice none 0 0] ((([] ++ [scl txt]) ++ [icl got]) ++ [icl sus]) ((([] ++ [.slice a1 txt.length c1]) ++ [.slice a2 got.length c2]) ++ [.slice a3 sus.length c3]) fp3) := T3d
 clear hN3 T3 T3a T3b T3c T3d hC3 HT2
 go_wp2_with fail
 refine hC4.mono ?_
 rintro e w4 ⟨a4,c4,rfl,hN4⟩
 clear p0 q0 s4 p4 q4 s5 p5 q5 s6 p6 q6 s7 p7 q7
 obtain ⟨fp4,T4⟩ := HT3.out.add hN4
 have p7 := (show Bx _ _ _ #[.int .i64 ver,.slice a1 txt.length c1,.slice a2 got.length c2,.slice a3 sus.length c3,.bool wed,.bool rdy,.int .i64 by_,.slice none 0 0] from T4.out).at 7 rfl
 have q7 := T4.out.f 7
 have T4s := T4.set 7 (.slice a4 trm.length c4)
 have T5 : TR w (w4.setCell ⟨w.heap.size + 1 + 1,7,none⟩ (.slice a4 trm.length c4)) #[.int .i64 ver,.slice ta txt.length tc,.slice ga got.length gc,.slice sa sus.length sc,.bool wed,.bool rdy,.int .i64 by_,.slice ma trm.length mc] #[.int .i64 ver,.slice a1 txt.length c1,.slice a2 got.length c2,.slice a3 sus.length c3,.bool wed,.bool rdy,.int .i64 by_,.slice a4 trm.length c4] (((([] ++ [scl txt]) ++ [icl got]) ++ [icl sus]) ++ [icl trm]) (((([] ++ [.slice a1 txt.length c1]) ++ [.slice a2 got.length c2]) ++ [.slice a3 sus.length c3]) ++ [.slice a4 trm.length c4]) fp4 := by simpa using T4s
 obtain ⟨⟨o0,o1,o2,o3⟩,o4,o5,o6,o7⟩ := Bx.r8 (show Bx _ _ _ #[.int .i64 ver,.slice a1 txt.length c1,.slice a2 got.length c2,.slice a3 sus.length c3,.bool wed,.bool rdy,.int .i64 by_,.slice a4 trm.length c4] from T5.out)
 obtain ⟨⟨r0,r1,r2,r3⟩,r4,r5,r6,r7⟩ := Bx.r8 (show Bx _ _ _ #[.int .i64 0,.slice none 0 0,.slice none 0 0,.slice none 0 0,.bool false,.bool false,.int .i64 0,.slice none 0 0] from T5.res)
 obtain ⟨⟨f0,f1,f2,f3⟩,f4,f5,f6,f7⟩ := T5.res.f8
 have HT5 : Hid (TR w (w4.setCell ⟨w.heap.size + 1 + 1,7,none⟩ (.slice a4 trm.length c4)) #[.int .i64 ver,.slice ta txt.length tc,.slice ga got.length gc,.slice sa sus.length sc,.bool wed,.bool rdy,.int .i64 by_,.slice ma trm.length mc] #[.int .i64 ver,.slice a1 txt.length c1,.slice a2 got.length c2,.slice a3 sus.length c3,.bool wed,.bool rdy,.int .i64 by_,.slice a4 trm.length c4] (((([] ++ [scl txt]) ++ [icl got]) ++ [icl sus]) ++ [icl trm]) (((([] ++ [.slice a1 txt.length c1]) ++ [.slice a2 got.length c2]) ++ [.slice a3 sus.length c3]) ++ [.slice a4 trm.length c4]) fp4) := T5
 clear hN4 T4 T4s T5 hC4 HT3
 go_wp2
 refine bodyPost_ret (v := .agg #[.int .i64 ver,.slice a1 txt.length c1,.slice a2 got.length c2,.slice a3 sus.length c3,.bool wed,.bool rdy,.int .i64 by_,.slice a4 trm.length c4]) (by simp [results,Try.results41,go_sem, *]) rfl ?_
 refine ⟨⟨a1,c1,a2,c2,a3,c3,a4,c4⟩,rfl,fp4,owL_wrt HT5.out.own (wrt8 _ (w.heap.size + 1)) (fun b hb e => by have := HT5.out.fpl b hb;omega),fun b hb => by have := HT5.out.fpl b hb;omega,(wrt8 _ (w.heap.size + 1)).below HT5.out.below HT5.out.below.size (fun b e => by rw [e];omega)⟩
end Go.Proofs.Ytlnmdfgcpfbleaa
namespace Go.Proofs.Ytlnmdfgcpfbleaa
set_option linter.unusedVariables false
set_option linter.unusedSimpArgs false
open Go.RowKit Go.Sort
theorem markI_ow (u : Value) (k0 : Nat) (Z : List Int) (f : Fp) (w : World) (h : Cel.ow w (icl Z) u f) (hk : k0 ≤ 10000000) (hn : Z.length ≤ 10000000) :
  Calls Try.prog 54 #[u,.int .i64 (k0 : Int)] w fun e w' => e = .returned (.int .i64 ((k0 : Int) + (Z.length : Int))) ∧ Cel.ow w' (icl (marks Z.length k0)) u f ∧ Wrt f w w' := by
 obtain ⟨a,c,G,rfl,ho,hf⟩ := ow_icl.1 h
 rcases ho.oi with ⟨rfl,rfl,rfl⟩ | ⟨g,off,rfl,ho',rfl⟩
 ·refine (mark0_any a 0 (k0 : Int) w).mono ?_
  rintro e w' ⟨rfl,rfl⟩
  exact ⟨by simp,h,Wrt.refl _ _⟩
 ·refine (markN_any g off c k0 _ (k0 : Int) Z w ho' rfl hk hn).mono ?_
  rintro e w' ⟨rfl,h1,h2⟩
  refine ⟨rfl,ow_icl.2 ⟨_,c,some g,by rw [marks_len],by rw [marks_len];exact OSo.of h1,hf⟩,(touch_wrt h2).mono (fun b _ e => (hf b).2 (by rw [e]))⟩
theorem heldI_ow (u : Value) (k0 n : Nat) (f : Fp) (w : World) (h : Cel.ow w (icl (marks n k0)) u f) (hk : k0 ≤ 10000000) (hn : n ≤ 10000000) :
  Calls Try.prog 55 #[u,.int .i64 (k0 : Int)] w fun e w' => e = .returned (.int .i64 ((k0 : Int) + (n : Int))) ∧ w' = w := by
 obtain ⟨a,c,G,rfl,ho,hf⟩ := ow_icl.1 h
 have := ho.slc
 rw [marks_len]
 exact heldC_any a c k0 n (k0 : Int) w this rfl hk hn
theorem markS_ow (u : Value) (k0 : Nat) (T : List (List UInt8)) (f : Fp) (w : World) (h : Cel.ow w (scl T) u f) (hk1 : 1 ≤ k0) (hk : k0 ≤ 10000000) (hn : T.length ≤ 10000000) :
  Calls Try.prog 133 #[u,.int .i64 (k0 : Int)] w fun e w' => e = .returned (.int .i64 ((k0 : Int) + (T.length : Int))) ∧ Cel.ow w' (scl (marksS T.length k0)) u f ∧ Wrt f w w' := by
 obtain ⟨a',c',G,rfl,ho,hf⟩ := ow_scl.1 h
 rcases ho.os with ⟨rfl,rfl,rfl⟩ | ⟨g,off,rfl,ho',rfl⟩
 ·refine (markS0_any a' 0 (k0 : Int) w).mono ?_
  rintro e w' ⟨rfl,rfl⟩
  exact ⟨by simp,h,Wrt.refl _ _⟩
 ·refine (markS_any g off c' k0 T.length T w ho' hk1 hk hn).mono ?_
  rintro e w' ⟨rfl,h3,h4⟩
  exact ⟨rfl,ow_scl.2 ⟨_,c',some g,by rw [marksS_len],by rw [marksS_len];exact OSo.of h3,hf⟩,(Wrt.of_grown h4).mono (fun b _ e => (hf b).2 e)⟩
attribute [local irreducible] sv
end Go.Proofs.Ytlnmdfgcpfbleaa
namespace Go.Proofs.Ytlnmdfgcpfbleaa
set_option linter.unusedVariables false
set_option linter.unusedSimpArgs false
open Go.RowKit Go.Sort
def Rw64 (r : Rw) : Prop := I64v r.ver ∧ I64v r.by_
structure RwP (w : World) (A : Ra) (r : Rw) : Prop where
 txt : TxP w A.ta A.tc r.txt
 got : VcP w A.ga A.gc r.got
 sus : VcP w A.sa A.sc r.sus
 trm : VcP w A.ma A.mc r.trm
 i64 : Rw64 r
 sz : szRw r ≤ 1048576
theorem RwP.below {w w' : World} {A : Ra} {r : Rw} (h : RwP w A r) (hb : Below w.heap.size w w') : RwP w' A r := ⟨h.txt.below hb,h.got.below hb,h.sus.below hb,h.trm.below hb,h.i64,h.sz⟩
theorem RwP.rws {w : World} {A : Ra} {r : Rw} (h : RwP w A r) : RwS w A r := by
 have hs := h.sz
 unfold szRw at hs
 exact ⟨h.txt.txs,h.got.vec,h.sus.vec,h.trm.vec,by unfold maxLen;omega,by unfold maxLen;omega,by unfold maxLen;omega,by unfold maxLen;omega⟩
def FitR (r : Rw) : Prop := Fits r.got ∧ Fits r.sus ∧ Fits r.trm
theorem it_parts {w : World} {A : Ra} {r : Rw} {lo hi : Nat} (h : It w (rwCels r) (rwVals A r) lo hi) : ∃ f1 f2 f3 f4,Cel.ow w (scl r.txt) (.slice A.ta r.txt.length A.tc) f1 ∧ Cel.ow w (icl r.got) (.slice A.ga r.got.length A.gc) f2 ∧ Cel.ow w (icl r.sus) (.slice A.sa r.sus.length A.sc) f3 ∧ Cel.ow w (icl r.trm) (.slice A.ma r.trm.length A.mc) f4 := by
 obtain ⟨f,h1,_⟩ := h
 obtain ⟨u1,us1,f1,g1,e1,o1,h2,_⟩ := h1
 cases e1
 obtain ⟨u2,us2,f2,g2,e2,o2,h3,_⟩ := h2
 cases e2
 obtain ⟨u3,us3,f3,g3,e3,o3,h4,_⟩ := h3
 cases e3
 obtain ⟨u4,us4,f4,g4,e4,o4,h5,_⟩ := h4
 cases e4
 exact ⟨f1,f2,f3,f4,o1,o2,o3,o4⟩
theorem it_rwp {w : World} {A : Ra} {r : Rw} {lo hi : Nat} (h : It w (rwCels r) (rwVals A r) lo hi) (hf : FitR r) (h6 : Rw64 r) (hs : szRw r ≤ 1048576) : RwP w A r := by
 obtain ⟨f1,f2,f3,f4,o1,o2,o3,o4⟩ := it_parts h
 exact ⟨ow_txp o1,ow_vcp o2 hf.1,ow_vcp o3 hf.2.1,ow_vcp o4 hf.2.2,h6,hs⟩
def ImplRowOk : Prop := ∀ (A : Ra) (r : Rw) (n : Int) (w : World),RwP w A r → I64v n → Calls Try.prog 35 #[rwV A r,.int .i64 n] w fun e w' => e = .returned (.bool (okRw r n)) ∧ Below w.heap.size w w'
end Go.Proofs.Ytlnmdfgcpfbleaa
namespace Go.Proofs.Ytlnmdfgcpfbleaa
set_option linter.unusedVariables false
set_option linter.unusedSimpArgs false
open Go.RowKit Go.Sort
end Go.Proofs.Ytlnmdfgcpfbleaa
namespace Go.Proofs.Ytlnmdfgcpfbleaa
set_option linter.unusedVariables false
set_option linter.unusedSimpArgs false
set_option linter.unusedVariables false
set_option linter.unusedSimpArgs false
open Go.RowKit Go.Sort
structure Mb where
 id : Int
 n : Int
 rows : List Rw
 sung : List Int
 done : Bool
def zeroMb : Mb := ⟨0,0,[],[],false⟩
def rowN (R : List Rw) (j : Nat) : Rw := R.getD j zeroRw
def Mb.i (m : Mb) : Nat := m.id.toNat
def Mb.k (m : Mb) : Nat := m.n.toNat
def Mb.own (m : Mb) : Rw := rowN m.rows m.i
def okSg (m : Mb) : Bool := (List.range m.sung.length).all (fun i => inB (el m.sung i) 0 59 && (m.done || decide (el m.sung i = (i : Int))))
def okMb (m : Mb) : Bool :=
 inB m.n 1 5 && (inB m.id 0 (m.n - 1) && (decide ((m.rows.length : Int) = m.n) && (decide (m.sung.length ≤ 60) && (risB m.sung && (m.rows.all (fun r => okRw r m.n) && (okSg m &&
  (decide (el m.own.got m.i = (m.own.txt.length : Int)) && (decide (m.id ∉ m.own.sus) && (!m.done || m.own.rdy)))))))))
end Go.Proofs.Ytlnmdfgcpfbleaa
namespace Go.Proofs.Ytlnmdfgcpfbleaa
set_option linter.unusedVariables false
set_option linter.unusedSimpArgs false
def fl (al : List Bool) (i : Nat) : Bool := al.getD i false
set_option linter.unusedVariables false
set_option linter.unusedSimpArgs false
open Go.RowKit Go.Sort
structure OkR (r : Rw) (n : Nat) : Prop where
 n5 : 1 ≤ n ∧ n ≤ 5
 ver : 0 ≤ r.ver ∧ r.ver ≤ 1000000
 tl : r.txt.length ≤ 12
 ts : ∀ t ∈ r.txt,t.length ≤ 20
 got : okB r.got = true
 gl : r.got.length = n
 g12 : ∀ x ∈ r.got,x ≤ 12
 sus : ∀ x ∈ r.sus,0 ≤ x ∧ x < (n : Int)
 ris : risB r.sus = true
 rdy : r.rdy = true → r.wed = true ∧ (0 ≤ r.by_ ∧ r.by_ < (n : Int)) ∧ okB r.trm = true ∧ r.trm.length = n ∧ ∀ x ∈ r.trm,x ≤ 12
 not : r.rdy = false → r.by_ = 0 ∧ r.trm = []
theorem smB_iff {v : List Int} {n : Nat} : smB v (n : Int) = true ↔ okB v = true ∧ v.length = n ∧ ∀ x ∈ v,x ≤ 12 := by
 simp only [smB,Bool.and_eq_true,decide_eq_true_eq,List.all_eq_true]
 constructor
 ·rintro ⟨h1,h2,h3⟩;exact ⟨h1,by omega,h3⟩
 ·rintro ⟨h1,h2,h3⟩;exact ⟨h1,by omega,h3⟩
theorem okRw_iff {r : Rw} {n : Nat} : okRw r (n : Int) = true ↔ OkR r n := by
 constructor
 ·intro h
  simp only [okRw,Bool.and_eq_true,decide_eq_true_eq,List.all_eq_true,susB] at h
  obtain ⟨h1,h2,h3,h4,⟨h5,h6⟩,h7,h8⟩ := h
  have h1 := inB7.1 h1
  have h2 := inB7.1 h2
  obtain ⟨g1,g2,g3⟩ := smB_iff.1 h4
  refine ⟨by omega,h2,h3,h7,g1,g2,g3,fun x hx => by have := inB7.1 (h5 x hx);omega,h6,fun hr => ?_,fun hr => ?_⟩
  ·rw [if_pos hr] at h8
   simp only [Bool.and_eq_true] at h8
   obtain ⟨k1,k2,k3⟩ := h8
   have k2 := inB7.1 k2
   obtain ⟨t1,t2,t3⟩ := smB_iff.1 k3
   exact ⟨k1,by omega,t1,t2,t3⟩
  ·rw [hr] at h8
   simp at h8
   exact h8
 ·intro h
  simp only [okRw,Bool.and_eq_true,decide_eq_true_eq,List.all_eq_true,susB]
  have := h.n5
  have := h.ver
  refine ⟨inB7.2 (by omega),inB7.2 (by omega),h.tl,smB_iff.2 ⟨h.got,h.gl,h.g12⟩,⟨fun x hx => inB7.2 (by have := h.sus x hx;omega),h.ris⟩,h.ts, ?_⟩
  cases hr : r.rdy with
  | true =>
   obtain ⟨k1,k2,k3,k4,k5⟩ := h.rdy hr
   rw [if_pos rfl]
   simp only [Bool.and_eq_true]
   exact ⟨k1,inB7.2 (by omega),smB_iff.2 ⟨k3,k4,k5⟩⟩
  | false =>
   obtain ⟨k1,k2⟩ := h.not hr
   simp [k1,k2]
theorem rowN_set {R : List Rw} {i j : Nat} {o : Rw} (hi : i < R.length) : rowN (R.set i o) j = if j = i then o else rowN R j := by
 unfold rowN
 rw [List.getD_eq_getElem?_getD,List.getD_eq_getElem?_getD,List.getElem?_set]
 by_cases e : i = j
 ·subst e;simp [hi]
 ·rw [if_neg e,if_neg (Ne.symm e)]
end Go.Proofs.Ytlnmdfgcpfbleaa
namespace Go.Proofs.Ytlnmdfgcpfbleaa
set_option linter.unusedVariables false
set_option linter.unusedSimpArgs false
open Go.RowKit Go.Sort
theorem ris_iff {xs : List Int} : risB xs = true ↔ xs.Pairwise (· < ·) := by rw [risB,decide_eq_true_iff,rises_pairwise]
end Go.Proofs.Ytlnmdfgcpfbleaa
namespace Go.Proofs.Ytlnmdfgcpfbleaa
set_option linter.unusedVariables false
set_option linter.unusedSimpArgs false
open Go.RowKit Go.Sort
end Go.Proofs.Ytlnmdfgcpfbleaa
namespace Go.Proofs.Ytlnmdfgcpfbleaa
set_option linter.unusedVariables false
set_option linter.unusedSimpArgs false
open Go.RowKit Go.Sort
end Go.Proofs.Ytlnmdfgcpfbleaa
namespace Go.Proofs.Ytlnmdfgcpfbleaa
set_option linter.unusedVariables false
set_option linter.unusedSimpArgs false
open Go.RowKit Go.Sort
structure OkM (m : Mb) (i n : Nat) : Prop where
 hid : m.id = (i : Int)
 hn : m.n = (n : Int)
 n5 : 1 ≤ n ∧ n ≤ 5
 lt : i < n
 len : m.rows.length = n
 sl : m.sung.length ≤ 60
 ris : m.sung.Pairwise (· < ·)
 ok : ∀ j,j < n → OkR (rowN m.rows j) n
 sg : ∀ q,q < m.sung.length → (0 ≤ el m.sung q ∧ el m.sung q ≤ 59) ∧ (m.done = false → el m.sung q = (q : Int))
 gown : el (rowN m.rows i).got i = ((rowN m.rows i).txt.length : Int)
 self : (i : Int) ∉ (rowN m.rows i).sus
 dn : m.done = true → (rowN m.rows i).rdy = true
theorem rowN_mem {R : List Rw} {j : Nat} (h : j < R.length) : rowN R j ∈ R := by
 unfold rowN
 rw [List.getD_eq_getElem?_getD,List.getElem?_eq_getElem h]
 exact List.getElem_mem h
theorem mem_rowN {R : List Rw} {r : Rw} (h : r ∈ R) : ∃ j,j < R.length ∧ r = rowN R j := by
 obtain ⟨j,hj,rfl⟩ := List.mem_iff_getElem.1 h
 exact ⟨j,hj,by simp [rowN,hj]⟩
theorem okMb_iff {m : Mb} : okMb m = true ↔ ∃ i n,OkM m i n := by
 constructor
 ·intro h
  simp only [okMb,okSg,Bool.and_eq_true,decide_eq_true_eq,List.all_eq_true,List.mem_range,Bool.or_eq_true] at h
  obtain ⟨h1,h2,h3,h4,h5,h6,h7,h8,h9,h10⟩ := h
  have h1 := inB7.1 h1
  have h2 := inB7.1 h2
  have hid : m.id = ((m.id.toNat : Nat) : Int) := by omega
  have hn : m.n = ((m.n.toNat : Nat) : Int) := by omega
  refine ⟨m.id.toNat,m.n.toNat,hid,hn,by omega,by omega,by omega,h4,ris_iff.1 h5,fun j hj => okRw_iff.1 (by rw [← hn];exact h6 _ (rowN_mem (by omega))),fun q hq => ?_,h8,by rw [← hid];exact h9,fun hd => ?_⟩
  ·obtain ⟨q1,q2⟩ := h7 q hq
   have := inB7.1 q1
   refine ⟨this,fun hd => ?_⟩
   rcases q2 with q2 | q2
   ·rw [hd] at q2;cases q2
   ·exact q2
  ·rw [hd] at h10
   have h11 : m.own.rdy = true := by simpa using h10
   exact h11
 ·rintro ⟨i,n,M⟩
  have hlt := M.lt
  have hn5 := M.n5
  have hi : m.i = i := by rw [Mb.i,M.hid];rfl
  simp only [okMb,okSg,Bool.and_eq_true,decide_eq_true_eq,List.all_eq_true,List.mem_range,Bool.or_eq_true]
  refine ⟨inB7.2 (by rw [M.hn];omega),inB7.2 (by rw [M.hid,M.hn];omega),by rw [M.len,M.hn],M.sl,ris_iff.2 M.ris,fun r hr => ?_,fun q hq => ?_, ?_, ?_, ?_⟩
  ·obtain ⟨j,hj,rfl⟩ := mem_rowN hr
   rw [M.hn]
   exact okRw_iff.2 (M.ok j (by rw [← M.len];exact hj))
  ·obtain ⟨q1,q2⟩ := M.sg q hq
   refine ⟨inB7.2 q1, ?_⟩
   cases hd : m.done with
   | true => exact .inl rfl
   | false => exact .inr (q2 hd)
  ·rw [Mb.own,hi];exact M.gown
  ·rw [Mb.own,hi,M.hid];exact M.self
  ·cases hd : m.done with
   | false => exact .inl rfl
   | true => exact .inr (by rw [Mb.own,hi];exact M.dn hd)
end Go.Proofs.Ytlnmdfgcpfbleaa
namespace Go.Proofs.Ytlnmdfgcpfbleaa
set_option linter.unusedVariables false
set_option linter.unusedSimpArgs false
open Go.RowKit Go.Sort
structure Ml where
 fr : Int
 «to» : Int
 row : Rw
structure Gr where
 mem : List Mb
 up : List Bool
 mail : List Ml
def memN (g : Gr) (i : Nat) : Mb := g.mem.getD i zeroMb
def okMl (x : Ml) (n : Int) : Bool := inB x.fr 0 (n - 1) && (inB x.to 0 (n - 1) && (decide (x.fr ≠ x.to) && okRw x.row n))
def okGr (g : Gr) : Bool :=
 decide (1 ≤ g.mem.length) && (decide (g.mem.length ≤ 5) && (decide (g.up.length = g.mem.length) && (decide (g.mail.length ≤ 200) &&
  ((List.range g.mem.length).all (fun i => okMb (memN g i) && (decide ((memN g i).id = (i : Int)) && decide ((memN g i).n = (g.mem.length : Int)))) && g.mail.all (fun x => okMl x (g.mem.length : Int))))))
def mailN (g : Gr) (i : Nat) : Ml := g.mail.getD i ⟨0,0,zeroRw⟩
theorem inB_nat {x : Int} {n : Nat} (h : inB x 0 ((n : Int) - 1) = true) : ∃ a : Nat,x = (a : Int) ∧ a < n := by
 have := inB7.1 h
 exact ⟨x.toNat,by omega,by omega⟩
end Go.Proofs.Ytlnmdfgcpfbleaa
namespace Go.Proofs.Ytlnmdfgcpfbleaa
set_option linter.unusedVariables false
set_option linter.unusedSimpArgs false
open Go.RowKit Go.Sort
end Go.Proofs.Ytlnmdfgcpfbleaa
namespace Go.Proofs.Ytlnmdfgcpfbleaa
set_option linter.unusedVariables false
set_option linter.unusedSimpArgs false
open Go.RowKit Go.Sort
theorem ris_ge : ∀ {l : List Int} {a : Int},l.Pairwise (· < ·) → (∀ x ∈ l,a ≤ x) → ∀ q,q < l.length → a + (q : Int) ≤ el l q
 | x :: l,a,h,hx,0,_ => by
  have := hx x List.mem_cons_self
  simpa [el] using this
 | x :: l,a,h,hx,q + 1,hq => by
  have h1 := List.pairwise_cons.1 h
  have hxa := hx x List.mem_cons_self
  have ih := ris_ge (l := l) (a := a + 1) h1.2 (fun y hy => by have := h1.1 y hy;omega) q (by simp at hq;omega)
  have e : el (x :: l) (q + 1) = el l q := by simp [el]
  rw [e]
  push_cast
  omega
theorem ris_short {l : List Int} {k : Nat} (h : l.Pairwise (· < ·)) (hx : ∀ x ∈ l,0 ≤ x ∧ x < (k : Int)) : l.length ≤ k := by
 refine Classical.byContradiction fun hn => ?_
 have h1 := ris_ge h (fun x hx2 => (hx x hx2).1) (l.length - 1) (by omega)
 have h2 := (hx _ (el_mem (i := l.length - 1) (xs := l) (by omega))).2
 omega
end Go.Proofs.Ytlnmdfgcpfbleaa
namespace Go.Proofs.Ytlnmdfgcpfbleaa
set_option linter.unusedVariables false
set_option linter.unusedSimpArgs false
open Go.RowKit Go.Sort
def Pv (w : World) (B o : Nat) (cs : List Cel) : Prop := ∃ vs,(∀ j,j < vs.length → w.cell? ⟨B,o + j,none⟩ = vs[j]?) ∧ vwL w cs vs
theorem Pv.at {w : World} {B o : Nat} {cs : List Cel} (h : Pv w B o cs) {j : Nat} {c : Cel} (hj : cs[j]? = some c) : ∃ u,w.cell? ⟨B,o + j,none⟩ = some u ∧ Cel.vw w c u := by
 obtain ⟨vs,h1,h2⟩ := h
 obtain ⟨u,hu,hv⟩ := vwL_at h2 hj
 refine ⟨u,(h1 j ?_).trans hu,hv⟩
 rcases Nat.lt_or_ge j vs.length with h | h
 ·exact h
 ·rw [List.getElem?_eq_none h] at hu;cases hu
theorem vwL_split {w : World} : ∀ {cs ds : List Cel} {ws : List Value},vwL w (cs ++ ds) ws → ∃ us vs,ws = us ++ vs ∧ vwL w cs us ∧ vwL w ds vs
 | [],ds,ws,h => ⟨[],ws,rfl,rfl,h⟩
 | c :: cs,ds,ws,h => by
  obtain ⟨u,us',rfl,h1,h2⟩ := h
  obtain ⟨us,vs,rfl,h3,h4⟩ := vwL_split h2
  exact ⟨u :: us,vs,rfl,⟨u,us,rfl,h1,h3⟩,h4⟩
theorem vw_elF {α : Type} {F : α → List Cel} {s : Nat} (hF : ∀ x,(F x).length = s) {w : World} {a : Option Addr} {c : Nat} {L : List α} (h : Cel.vw w (lcl s F L) (.slice a L.length c)) {k : Nat} {x : α} (hk : L[k]? = some x) : ∃ g off,a = some ⟨g,off,none⟩ ∧ Pv w g (off + k * s) (F x) := by
 obtain ⟨a0,c0,us,e0,h1,h2,h3,h4,h5⟩ := h
 cases e0
 have hkl : k < L.length := by
  rcases Nat.lt_or_ge k L.length with h | h
  ·exact h
  ·rw [List.getElem?_eq_none h] at hk;cases hk
 rcases h4 with h4 | ⟨b,off,rfl,hc⟩
 ·omega
 have hks : k * s + s ≤ L.length * s := by
  have : (k + 1) * s ≤ L.length * s := Nat.mul_le_mul_right s hkl
  rw [Nat.add_mul,Nat.one_mul] at this
  exact this
 have e1 : L.flatMap F = (L.flatMap F).take (k * s) ++ (((L.flatMap F).drop (k * s)).take s ++ (L.flatMap F).drop (k * s + s)) := by
  rw [← List.drop_drop,List.take_append_drop,List.take_append_drop]
 rw [e1] at h5
 obtain ⟨u1,u23,rfl,l1,l23⟩ := vwL_split h5
 obtain ⟨u2,u3,rfl,l2,l3⟩ := vwL_split l23
 rw [flat_take hF hk] at l2
 have hd := flat_len hF L
 have n1 : u1.length = k * s := by rw [vwL_len l1,List.length_take];omega
 have n2 : u2.length = s := by rw [vwL_len l2,hF]
 refine ⟨b,off,rfl,u2,fun j hj => ?_,l2⟩
 rw [Nat.add_assoc,hc (k * s + j) (by omega),List.getElem?_append_right (by omega),List.getElem?_append_left (by omega),n1]
 congr 1
 omega
def rw8 (r : Rw) : List Cel := [.v (.int .i64 r.ver),scl r.txt,icl r.got,icl r.sus,.v (.bool r.wed),.v (.bool r.rdy),.v (.int .i64 r.by_),icl r.trm]
theorem rw8_len (r : Rw) : (rw8 r).length = 8 := rfl
def C8 (w : World) (g o : Nat) (x0 x1 x2 x3 x4 x5 x6 x7 : Value) : Prop := (w.cell? ⟨g,o,none⟩ = some x0 ∧ w.cell? ⟨g,o + 1,none⟩ = some x1 ∧ w.cell? ⟨g,o + 2,none⟩ = some x2 ∧ w.cell? ⟨g,o + 3,none⟩ = some x3) ∧ w.cell? ⟨g,o + 4,none⟩ = some x4 ∧ w.cell? ⟨g,o + 5,none⟩ = some x5 ∧ w.cell? ⟨g,o + 6,none⟩ = some x6 ∧ w.cell? ⟨g,o + 7,none⟩ = some x7
theorem Pv.row {w : World} {g o : Nat} {r : Rw} (h : Pv w g o (rw8 r)) (hf : FitR r) : ∃ A : Ra,C8 w g o (.int .i64 r.ver) (.slice A.ta r.txt.length A.tc) (.slice A.ga r.got.length A.gc) (.slice A.sa r.sus.length A.sc) (.bool r.wed) (.bool r.rdy) (.int .i64 r.by_) (.slice A.ma r.trm.length A.mc) ∧ RwS w A r := by
 obtain ⟨u0,c0,rfl⟩ := h.at (j := 0) rfl
 obtain ⟨u1,c1,v1⟩ := h.at (j := 1) rfl
 obtain ⟨u2,c2,v2⟩ := h.at (j := 2) rfl
 obtain ⟨u3,c3,v3⟩ := h.at (j := 3) rfl
 obtain ⟨u4,c4,rfl⟩ := h.at (j := 4) rfl
 obtain ⟨u5,c5,rfl⟩ := h.at (j := 5) rfl
 obtain ⟨u6,c6,rfl⟩ := h.at (j := 6) rfl
 obtain ⟨u7,c7,v7⟩ := h.at (j := 7) rfl
 obtain ⟨ta,tc,rfl,t1,t2,t3⟩ := vw_scl v1
 obtain ⟨ga,gc,rfl,g1,g2,g3⟩ := vw_icl v2 hf.1
 obtain ⟨sa,sc,rfl,s1,s2,s3⟩ := vw_icl v3 hf.2.1
 obtain ⟨ma,mc,rfl,m1,m2,m3⟩ := vw_icl v7 hf.2.2
 exact ⟨⟨ta,tc,ga,gc,sa,sc,ma,mc⟩,⟨⟨c0,c1,c2,c3⟩,c4,c5,c6,c7⟩,t1,g1,s1,m1,by omega,by omega,by omega,by omega⟩
structure Ma where
 ra : Option Addr
 rc : Nat
 sa : Option Addr
 sc : Nat
def mbC (A : Ma) (m : Mb) : Array Value := #[.int .i64 m.id,.int .i64 m.n,.slice A.ra m.rows.length A.rc,.slice A.sa m.sung.length A.sc,.bool m.done]
def mbV (A : Ma) (m : Mb) : Value := .agg (mbC A m)
def mbCels (m : Mb) : List Cel := [lcl 8 rw8 m.rows,icl m.sung]
def mbVals (A : Ma) (m : Mb) : List Value := [.slice A.ra m.rows.length A.rc,.slice A.sa m.sung.length A.sc]
def mb5 (m : Mb) : List Cel := [.v (.int .i64 m.id),.v (.int .i64 m.n),lcl 8 rw8 m.rows,icl m.sung,.v (.bool m.done)]
theorem mb5_len (m : Mb) : (mb5 m).length = 5 := rfl
def FitM (m : Mb) : Prop := (∀ r ∈ m.rows,FitR r) ∧ Fits m.sung
structure MbS (w : World) (A : Ma) (m : Mb) : Prop where
 rows : Cel.vw w (lcl 8 rw8 m.rows) (.slice A.ra m.rows.length A.rc)
 sung : Vec w A.sa m.sung.length m.sung
 mr : m.rows.length ≤ maxLen
 ms : m.sung.length ≤ maxLen
 fit : ∀ r ∈ m.rows,FitR r
theorem MbS.below {w w' : World} {A : Ma} {m : Mb} (h : MbS w A m) (hb : Below w.heap.size w w') : MbS w' A m := ⟨Cel.vw_below h.rows hb,h.sung.below hb (Nat.le_refl _),h.mr,h.ms,h.fit⟩
theorem mbs_of {w : World} {A : Ma} {m : Mb} (h : vwL w (mbCels m) (mbVals A m)) (hf : FitM m) : MbS w A m := by
 obtain ⟨u1,us1,e1,h1,h2⟩ := h
 cases e1
 obtain ⟨u2,us2,e2,h3,_⟩ := h2
 cases e2
 obtain ⟨a,c,e,h4,h5,h6⟩ := vw_icl h3 hf.2
 cases e
 have k := h1
 obtain ⟨_,_,_,e,k1,k2,_⟩ := k
 cases e
 exact ⟨h1,h4,by omega,by omega,hf.1⟩
theorem MbS.row {w : World} {A : Ma} {m : Mb} (h : MbS w A m) {k : Nat} (hk : k < m.rows.length) : ∃ g off Ak,A.ra = some ⟨g,off,none⟩ ∧ C8 w g (off + k * 8) (.int .i64 (rowN m.rows k).ver) (.slice Ak.ta (rowN m.rows k).txt.length Ak.tc) (.slice Ak.ga (rowN m.rows k).got.length Ak.gc) (.slice Ak.sa (rowN m.rows k).sus.length Ak.sc) (.bool (rowN m.rows k).wed) (.bool (rowN m.rows k).rdy) (.int .i64 (rowN m.rows k).by_) (.slice Ak.ma (rowN m.rows k).trm.length Ak.mc) ∧ RwS w Ak (rowN m.rows k) := by
 have e : m.rows[k]? = some (rowN m.rows k) := by simp [rowN,List.getD,hk]
 obtain ⟨g,off,h1,h2⟩ := vw_elF rw8_len h.rows e
 obtain ⟨Ak,h3,h4⟩ := h2.row (h.fit _ (List.mem_of_getElem? e))
 exact ⟨g,off,Ak,h1,h3,h4⟩
end Go.Proofs.Ytlnmdfgcpfbleaa
namespace Go.Proofs.Ytlnmdfgcpfbleaa
set_option linter.unusedVariables false
set_option linter.unusedSimpArgs false
open Go.RowKit Go.Sort
theorem Bx.r5 {w : World} {B : Nat} {T : TypeId} {x0 x1 x2 x3 x4 : Value} (h : Bx w B T #[x0,x1,x2,x3,x4]) : w.cell? ⟨B,0,none⟩ = some x0 ∧ w.cell? ⟨B,1,none⟩ = some x1 ∧ w.cell? ⟨B,2,none⟩ = some x2 ∧ w.cell? ⟨B,3,none⟩ = some x3 ∧ w.cell? ⟨B,4,none⟩ = some x4 :=
 ⟨h.at 0 rfl,h.at 1 rfl,h.at 2 rfl,h.at 3 rfl,h.at 4 rfl⟩
theorem rowN_at {R : List Rw} {k : Nat} (hk : k < R.length) : R[k]? = some (rowN R k) := by simp [rowN,List.getD,hk]
theorem okMb_row {m : Mb} {k : Nat} (hk : k < m.rows.length) (h : okRw (rowN m.rows k) m.n = false) : okMb m = false := by
 have : m.rows.all (fun r => okRw r m.n) = false := by
  rw [List.all_eq_false]
  exact ⟨rowN m.rows k,List.mem_of_getElem? (rowN_at hk),by simp [h]⟩
 simp only [okMb,this,Bool.false_and,Bool.and_false]
theorem okMb_sg {m : Mb} {k : Nat} (hk : k < m.sung.length) (h : (inB (el m.sung k) 0 59 && (m.done || decide (el m.sung k = (k : Int)))) = false) : okMb m = false := by
 have : okSg m = false := by
  rw [okSg,List.all_eq_false]
  exact ⟨k,List.mem_range.2 hk,by simp [h]⟩
 simp only [okMb,this,Bool.false_and,Bool.and_false]
theorem okMb_end {m : Mb} (h1 : inB m.n 1 5 = true) (h2 : inB m.id 0 (m.n - 1) = true) (h3 : (m.rows.length : Int) = m.n) (h4 : m.sung.length ≤ 60) (h5 : risB m.sung = true) (h6 : ∀ j,j < m.rows.length → okRw (rowN m.rows j) m.n = true) (h7 : ∀ j,j < m.sung.length → (inB (el m.sung j) 0 59 && (m.done || decide (el m.sung j = (j : Int)))) = true) :
  okMb m = (decide (el m.own.got m.i = (m.own.txt.length : Int)) && (decide (m.id ∉ m.own.sus) && (!m.done || m.own.rdy))) := by
 have e6 : m.rows.all (fun r => okRw r m.n) = true := by
  rw [List.all_eq_true]
  intro r hr
  obtain ⟨j,hj,rfl⟩ := List.mem_iff_getElem.1 hr
  have := h6 j hj
  simpa [rowN,List.getD,hj] using this
 have e7 : okSg m = true := by
  rw [okSg,List.all_eq_true]
  intro j hj
  exact h7 j (List.mem_range.1 hj)
 simp only [okMb,h1,h2,h3,h4,h5,e6,e7,decide_true,Bool.true_and]
theorem okRw_len {r : Rw} {n : Int} (h : okRw r n = true) : (r.got.length : Int) = n := by
 simp only [okRw,smB,Bool.and_eq_true,decide_eq_true_eq] at h
 exact h.2.2.2.1.2.1
set_option maxRecDepth 100000 in
set_option maxHeartbeats 3200000 in
theorem mbkS_any (A : Ma) (m : Mb) (w : World) (hv : MbS w A m) :
    Calls Try.prog 124 #[mbV A m] w fun e w' => e = .returned (.bool (okMb m)) ∧ Below w.heap.size w w' := by
  have hB0 := oneA16 w (.cells (mbC A m) 103)
  have hx := Bx.new w 103 (mbC A m)
  have h0 := hv.below hB0
  generalize hW : w.alloc (.cells (mbC A m) 103) = W at *
  obtain ⟨id, n, rows, sung, done⟩ := m
  obtain ⟨ra, rc, sa, sc⟩ := A
  have hw0 : w.alloc (.cells #[.int .i64 id, .int .i64 n, .slice ra rows.length rc, .slice sa sung.length sc, .bool done] 103) = W := hW
  obtain ⟨c0, c1, c2, c3, c4⟩ := Bx.r5 hx
  have HX : Hid (Bx W w.heap.size 103 #[.int .i64 id, .int .i64 n, .slice ra rows.length rc, .slice sa sung.length sc, .bool done]) := hx
  have HV : Hid (MbS W ⟨ra, rc, sa, sc⟩ ⟨id, n, rows, sung, done⟩) := h0
  have hsu := h0.sung
  have mr := h0.mr
  have ms := h0.ms
  simp only at hsu mr ms c0 c1 c2 c3 c4
  have HB0 : Hid (Below w.heap.size w W) := hB0
  have hR := l1Rises_any sa sung.length sc sung W hsu ms
  unfold mbV mbC
  clear hv hx hW hB0 h0
  simp only
  cases e1 : inB n 1 5 with
  | false =>
    have HZ : Hid (okMb ⟨id, n, rows, sung, done⟩ = false) := by rw [Hid]; simp only [okMb, e1, Bool.false_and]
    go_enter Try.func124, Try.ntmps124
    go_wp2_with (first | (go_at_call 73; refine (l1In_any _ _ _ _).mono ?_; rintro e w' ⟨rfl, hw'⟩; rw [hw']; clear hw'))
    go_ret
    exact ⟨ret_bool (by rw [HZ.out]), HB0.out⟩
  | true =>
  have hn5 := inB7.1 e1
  have wn : wrap64 (n - 1) = n - 1 := by unfold wrap64; omega
  have HE1 : Hid (inB n 1 5 = true) := e1
  cases e2 : inB id 0 (n - 1) with
  | false =>
    have HZ : Hid (okMb ⟨id, n, rows, sung, done⟩ = false) := by rw [Hid]; simp only [okMb, e2, Bool.false_and, Bool.and_false]
    go_enter Try.func124, Try.ntmps124
    go_wp2_with (first | (go_at_call 73; refine (l1In_any _ _ _ _).mono ?_; rintro e w' ⟨rfl, hw'⟩; rw [hw']; clear hw'))
    go_ret
    exact ⟨ret_bool (by rw [HZ.out]), HB0.out⟩
  | true =>
  have HE2 : Hid (inB id 0 (n - 1) = true) := e2
  have hid := inB7.1 e2
  by_cases h3 : (rows.length : Int) = n
  rotate_left
  · have g3 : ((rows.length : Int) != n) = true := by simpa using h3
    have HZ : Hid (okMb ⟨id, n, rows, sung, done⟩ = false) := by rw [Hid]; simp only [okMb, decide_eq_false h3, Bool.false_and, Bool.and_false]
    clear h3
    go_enter Try.func124, Try.ntmps124
    go_wp2_with (first | (go_at_call 73; refine (l1In_any _ _ _ _).mono ?_; rintro e w' ⟨rfl, hw'⟩; rw [hw']; clear hw'))
    go_ret
    exact ⟨ret_bool (by rw [HZ.out]), HB0.out⟩
  have g3 : ((rows.length : Int) != n) = false := by simpa using h3
  have HE3 : Hid ((rows.length : Int) = n) := h3
  clear h3
  by_cases h4 : sung.length ≤ 60
  rotate_left
  · have g4 : (60 : Int) < (sung.length : Int) := by omega
    have HZ : Hid (okMb ⟨id, n, rows, sung, done⟩ = false) := by rw [Hid]; simp only [okMb, decide_eq_false h4, Bool.false_and, Bool.and_false]
    go_enter Try.func124, Try.ntmps124
    go_wp2_with (first | (go_at_call 73; refine (l1In_any _ _ _ _).mono ?_; rintro e w' ⟨rfl, hw'⟩; rw [hw']; clear hw'))
    go_ret
    exact ⟨ret_bool (by rw [HZ.out]), HB0.out⟩
  have g4 : ¬ ((60 : Int) < (sung.length : Int)) := by omega
  cases e5 : risB sung with
  | false =>
    rw [e5] at hR
    have HZ : Hid (okMb ⟨id, n, rows, sung, done⟩ = false) := by rw [Hid]; simp only [okMb, e5, Bool.false_and, Bool.and_false]
    go_enter Try.func124, Try.ntmps124
    go_wp2_with (first | (go_at_call 73; refine (l1In_any _ _ _ _).mono ?_; rintro e w' ⟨rfl, hw'⟩; rw [hw']; clear hw') | (go_at_call 121; refine hR.mono ?_; rintro e w2 ⟨rfl, q, hw2⟩; have hb2 : Below W.heap.size W w2 := (by rw [hw2]; exact belowN (Below.refl _ _)); clear hw2))
    go_ret
    exact ⟨ret_bool (by rw [HZ.out]), HB0.out.trans (hb2.mono HB0.out.size)⟩
  | true =>
  rw [e5] at hR
  have HE5 : Hid (risB sung = true) := e5
  clear e5
  go_enter Try.func124, Try.ntmps124
  go_wp2_with (first | (go_at_call 73; refine (l1In_any _ _ _ _).mono ?_; rintro e w' ⟨rfl, hw'⟩; rw [hw']; clear hw') | (go_at_call 121; refine hR.mono ?_; rintro e w2 ⟨rfl, q, hw2⟩; have hb2 : Below W.heap.size W w2 := (by rw [hw2]; exact belowN (Below.refl _ _)); clear hw2))
  have HB2 : Hid (Below w.heap.size w w2) := HB0.out.trans (hb2.mono HB0.out.size)
  have HX2 : Hid (Bx w2 w.heap.size 103 #[.int .i64 id, .int .i64 n, .slice ra rows.length rc, .slice sa sung.length sc, .bool done]) := HX.out.below hb2
  have HV2 : Hid (MbS w2 ⟨ra, rc, sa, sc⟩ ⟨id, n, rows, sung, done⟩) := HV.out.below hb2
  unfold maxLen at mr ms
  clear hR hb2 c0 c1 c2 c3 c4 hw0 g3 e1 e2 HX HV HB0 hsu
  go_loopw [3] (fun i wr => ∃ k : Nat, k ≤ rows.length ∧ i = .int .i64 k ∧ (∀ j, j < k → okRw (rowN rows j) n = true) ∧ Below w2.heap.size w2 wr) (fun i _ => rows.length - (intOf i).toNat)
  case atStart => exact ⟨0, Nat.zero_le _, rfl, fun j hj => by omega, Below.refl _ _⟩
  case round =>
    obtain ⟨k, hk, rfl, hall, hgr⟩ := hrel
    have HA : Hid (∀ j, j < k → okRw (rowN rows j) n = true) := hall
    have HG : Hid (Below w2.heap.size w2 wr) := hgr
    obtain ⟨c0, c1, c2, c3, c4⟩ := Bx.r5 (HX2.out.below hgr)
    clear hall
    by_cases hlt : k < rows.length
    · have k1 : (k : Int) < (rows.length : Int) := by omega
      have k0 : (0 : Int) ≤ (k : Int) := by omega
      obtain ⟨g, off, Ak, hra, ⟨⟨d0, d1, d2, d3⟩, d4, d5, d6, d7⟩, hrs⟩ := (HV2.out.below hgr).row (k := k) hlt
      simp only at hra hrs d0 d1 d2 d3 d4 d5 d6 d7
      subst hra
      have C : ∀ q : Bk wr, Calls Try.prog 36 #[rwV Ak (rowN rows k), .int .i64 n] q.w fun e w' => e = .returned (.bool (okRw (rowN rows k) n)) ∧ Below q.w.heap.size q.w w' := fun q => rowS_any Ak _ n q.w (hrs.below q.h)
      have HY : Hid (okRw (rowN rows k) n = true → ∀ j, j < k + 1 → okRw (rowN rows j) n = true) := fun h1 j hj => by
        rcases Nat.lt_succ_iff_lt_or_eq.1 hj with h | h
        · exact HA.out j h
        · rw [h]; exact h1
      have HNo : Hid (okRw (rowN rows k) n = false → okMb ⟨id, n, rows, sung, done⟩ = false) := fun h => okMb_row (k := k) hlt h
      have p2 : ∀ q : Bk wr, q.w.cell? ⟨w.heap.size, 2, none⟩ = _ := fun q => (q.h.cell (World.block_lt_of_cell? _ _ c2)).trans c2
      have p1 : ∀ q : Bk wr, q.w.cell? ⟨w.heap.size, 1, none⟩ = _ := fun q => (q.h.cell (World.block_lt_of_cell? _ _ c1)).trans c1
      have r0 : ∀ q : Bk wr, q.w.cell? ⟨g, off + k * 8, none⟩ = _ := fun q => (q.h.cell (World.block_lt_of_cell? _ _ d0)).trans d0
      have r1 : ∀ q : Bk wr, q.w.cell? ⟨g, off + k * 8 + 1, none⟩ = _ := fun q => (q.h.cell (World.block_lt_of_cell? _ _ d1)).trans d1
      have r2 : ∀ q : Bk wr, q.w.cell? ⟨g, off + k * 8 + 2, none⟩ = _ := fun q => (q.h.cell (World.block_lt_of_cell? _ _ d2)).trans d2
      have r3 : ∀ q : Bk wr, q.w.cell? ⟨g, off + k * 8 + 3, none⟩ = _ := fun q => (q.h.cell (World.block_lt_of_cell? _ _ d3)).trans d3
      have r4 : ∀ q : Bk wr, q.w.cell? ⟨g, off + k * 8 + 4, none⟩ = _ := fun q => (q.h.cell (World.block_lt_of_cell? _ _ d4)).trans d4
      have r5 : ∀ q : Bk wr, q.w.cell? ⟨g, off + k * 8 + 5, none⟩ = _ := fun q => (q.h.cell (World.block_lt_of_cell? _ _ d5)).trans d5
      have r6 : ∀ q : Bk wr, q.w.cell? ⟨g, off + k * 8 + 6, none⟩ = _ := fun q => (q.h.cell (World.block_lt_of_cell? _ _ d6)).trans d6
      have r7 : ∀ q : Bk wr, q.w.cell? ⟨g, off + k * 8 + 7, none⟩ = _ := fun q => (q.h.cell (World.block_lt_of_cell? _ _ d7)).trans d7
      unfold rwV rwC at C
      generalize okRw (rowN rows k) n = ob at *
      generalize rowN rows k = r at *
      clear hrs d0 d1 d2 d3 d4 d5 d6 d7 hgr
      go_wp2_with fail
      refine wp_region_bk (by kernel_rfl) (by kernel_rfl) ?_
      repeat (go_big_quiet_step ((first | (go_at_call 36; exact bk_call _ (C _)) | rfl)))
      refine wpQuiet_nil ?_
      intro wE hw'
      obtain ⟨⟨w11, hb11⟩, hw''⟩ := hw'
      have hwe : wE = w11 := hw''
      clear hw''
      subst hwe
      have HGE : Hid (Below w2.heap.size w2 wE) := HG.out.trans (hb11.mono HG.out.size)
      clear p1 p2 r0 r1 r2 r3 r4 r5 r6 r7 C hb11 c0 c1 c2 c3 c4
      cases ob
      · have HZ : Hid (okMb ⟨id, n, rows, sung, done⟩ = false) := HNo.out rfl
        go_wp2
        go_ret
        exact ⟨ret_bool (by rw [HZ.out]), HB2.out.trans (HGE.out.mono HB2.out.size)⟩
      · have HN2 := HY.out rfl
        go_wp2
        go_roundw
        case rel => exact ⟨k + 1, by omega, by go_num, HN2, HGE.out⟩
        case measure => simp [intOf]; omega
    · have k1 : ¬ ((k : Int) < (rows.length : Int)) := by omega
      have HAll : Hid (∀ j, j < rows.length → okRw (rowN rows j) n = true) := fun j hj => HA.out j (by omega)
      have HV3 : Hid (MbS wr ⟨ra, rc, sa, sc⟩ ⟨id, n, rows, sung, done⟩) := HV2.out.below hgr
      have HB3 : Hid (Below w.heap.size w wr) := HB2.out.trans (hgr.mono HB2.out.size)
      have hsu := HV3.out.sung
      simp only at hsu
      clear HA hgr HG HX2 HV2 HB2
      go_wp2
      go_loop [4] (fun i => ∃ k : Nat, k ≤ sung.length ∧ i = .int .i64 k ∧ ∀ j, j < k → (inB (el sung j) 0 59 && (done || decide (el sung j = (j : Int)))) = true) (fun i => sung.length - (intOf i).toNat)
      case atStart => exact ⟨0, Nat.zero_le _, rfl, fun j hj => by omega⟩
      case round =>
        obtain ⟨k, hk, rfl, hall⟩ := hrel
        have HA : Hid (∀ j, j < k → (inB (el sung j) 0 59 && (done || decide (el sung j = (j : Int)))) = true) := hall
        clear hall
        by_cases hlt : k < sung.length
        · have HNo : Hid ((inB (el sung k) 0 59 && (done || decide (el sung k = (k : Int)))) = false → okMb ⟨id, n, rows, sung, done⟩ = false) := fun h => okMb_sg (m := ⟨id, n, rows, sung, done⟩) (k := k) hlt h
          have HY : Hid ((inB (el sung k) 0 59 && (done || decide (el sung k = (k : Int)))) = true → ∀ j, j < k + 1 → (inB (el sung j) 0 59 && (done || decide (el sung j = (j : Int)))) = true) := fun h1 j hj => by
            rcases Nat.lt_succ_iff_lt_or_eq.1 hj with h | h
            · exact HA.out j h
            · rw [h]; exact h1
          rcases hsu.2.2 with h0 | ⟨b, off, rfl, hc⟩
          · omega
          have hck := hc k hlt
          have k1 : (k : Int) < (sung.length : Int) := by omega
          have k0 : (0 : Int) ≤ (k : Int) := by omega
          clear hc
          generalize el sung k = x at *
          cases e1 : inB x 0 59 with
          | false =>
            have HZ : Hid (okMb ⟨id, n, rows, sung, done⟩ = false) := HNo.out (by rw [e1]; rfl)
            go_wp2_with (first | (go_at_call 73; refine (l1In_any _ _ _ _).mono ?_; rintro e w' ⟨rfl, hw'⟩; rw [hw']; clear hw'))
            go_ret
            exact ⟨ret_bool (by rw [HZ.out]), HB3.out⟩
          | true =>
          cases done with
          | true =>
            have HN := HY.out (by rw [e1]; rfl)
            have HNN : Hid (∀ j, j < k + 1 → (inB (el sung j) 0 59 && (true || decide (el sung j = (j : Int)))) = true) := HN
            clear HN HY HNo
            go_wp2_with (first | (go_at_call 73; refine (l1In_any _ _ _ _).mono ?_; rintro e w' ⟨rfl, hw'⟩; rw [hw']; clear hw'))
            go_round
            case rel => exact ⟨k + 1, by omega, by go_num, HNN.out⟩
            case measure => simp [intOf]; omega
          | false =>
          by_cases hxk : x = (k : Int)
          · have g : (x != (k : Int)) = false := by simpa using hxk
            have HN := HY.out (by rw [e1]; simp [hxk])
            have HNN : Hid (∀ j, j < k + 1 → (inB (el sung j) 0 59 && (false || decide (el sung j = (j : Int)))) = true) := HN
            clear HN HY HNo hxk
            go_wp2_with (first | (go_at_call 73; refine (l1In_any _ _ _ _).mono ?_; rintro e w' ⟨rfl, hw'⟩; rw [hw']; clear hw'))
            go_round
            case rel => exact ⟨k + 1, by omega, by go_num, HNN.out⟩
            case measure => simp [intOf]; omega
          · have g : (x != (k : Int)) = true := by simpa using hxk
            have HZ : Hid (okMb ⟨id, n, rows, sung, false⟩ = false) := HNo.out (by rw [e1]; simp [hxk])
            clear hxk HY HNo
            go_wp2_with (first | (go_at_call 73; refine (l1In_any _ _ _ _).mono ?_; rintro e w' ⟨rfl, hw'⟩; rw [hw']; clear hw'))
            go_ret
            exact ⟨ret_bool (by rw [HZ.out]), HB3.out⟩
        · have k1 : ¬ ((k : Int) < (sung.length : Int)) := by omega
          obtain ⟨I, rfl⟩ : ∃ I : Nat, id = (I : Int) := ⟨id.toNat, by omega⟩
          have HEnd : Hid (okMb ⟨(I : Int), n, rows, sung, done⟩ = (decide (el (rowN rows I).got I = ((rowN rows I).txt.length : Int)) && (decide ((I : Int) ∉ (rowN rows I).sus) && (!done || (rowN rows I).rdy)))) := okMb_end (m := ⟨(I : Int), n, rows, sung, done⟩) HE1.out HE2.out HE3.out h4 HE5.out HAll.out (fun j hj => HA.out j (by have : j < sung.length := hj; omega))
          have hil : I < rows.length := by have := HE3.out; omega
          have i0 : (0 : Int) ≤ (I : Int) := hid.1
          have i1 : (I : Int) < (rows.length : Int) := by have := HE3.out; omega
          have hgl := okRw_len (HAll.out I hil)
          obtain ⟨g, off, Ak, hra, ⟨⟨d0, d1, d2, d3⟩, d4, d5, d6, d7⟩, hrs⟩ := HV3.out.row (k := I) hil
          simp only at hra hrs d0 d1 d2 d3 d4 d5 d6 d7
          subst hra
          have hH := fun X (h : Below wr.heap.size wr X) => l1Has_any Ak.sa (rowN rows I).sus.length Ak.sc (I : Int) (rowN rows I).sus X (hrs.sus.below h (Nat.le_refl _)) hrs.ms
          rcases hrs.got.2.2 with h0 | ⟨gb, go, hga, hgc⟩
          · omega
          have hge := hgc I (by omega)
          have i2 : (I : Int) < ((rowN rows I).got.length : Int) := by omega
          rw [hga] at d2
          have hbo := oneA16 wr (.cells #[.int .i64 (rowN rows I).ver, .slice Ak.ta (rowN rows I).txt.length Ak.tc, .slice (some ⟨gb, go, none⟩) (rowN rows I).got.length Ak.gc, .slice Ak.sa (rowN rows I).sus.length Ak.sc, .bool (rowN rows I).wed, .bool (rowN rows I).rdy, .int .i64 (rowN rows I).by_, .slice Ak.ma (rowN rows I).trm.length Ak.mc] 35)
          have hxo := Bx.new wr 35 #[.int .i64 (rowN rows I).ver, .slice Ak.ta (rowN rows I).txt.length Ak.tc, .slice (some ⟨gb, go, none⟩) (rowN rows I).got.length Ak.gc, .slice Ak.sa (rowN rows I).sus.length Ak.sc, .bool (rowN rows I).wed, .bool (rowN rows I).rdy, .int .i64 (rowN rows I).by_, .slice Ak.ma (rowN rows I).trm.length Ak.mc]
          generalize rowN rows I = r at *
          generalize hWo : wr.alloc (.cells #[.int .i64 r.ver, .slice Ak.ta r.txt.length Ak.tc, .slice (some ⟨gb, go, none⟩) r.got.length Ak.gc, .slice Ak.sa r.sus.length Ak.sc, .bool r.wed, .bool r.rdy, .int .i64 r.by_, .slice Ak.ma r.trm.length Ak.mc] 35) = Wo at *
          have C : ∀ q : Bk Wo, Calls Try.prog 120 #[.slice Ak.sa r.sus.length Ak.sc, .int .i64 (I : Int)] q.w fun e w' => e = .returned (.bool (decide ((I : Int) ∈ r.sus))) ∧ Below q.w.heap.size q.w w' := fun q => (hH q.w (hbo.trans (q.h.mono hbo.size))).mono (fun e w' h => ⟨h.1, by rw [h.2]; exact Below.refl _ _⟩)
          obtain ⟨⟨y0, y1, y2, y3⟩, y4, y5, y6, y7⟩ := Bx.r8 hxo
          have z0 : Wo.cell? ⟨w.heap.size, 0, none⟩ = _ := (hbo.cell (World.block_lt_of_cell? _ _ c0)).trans c0
          have z4 : Wo.cell? ⟨w.heap.size, 4, none⟩ = _ := (hbo.cell (World.block_lt_of_cell? _ _ c4)).trans c4
          have hgo : Wo.cell? ⟨gb, go + I, none⟩ = _ := (hbo.cell (World.block_lt_of_cell? _ _ hge)).trans hge
          have x1 : ∀ q : Bk Wo, q.w.cell? ⟨wr.heap.size, 1, none⟩ = _ := fun q => (q.h.cell (World.block_lt_of_cell? _ _ y1)).trans y1
          have x2 : ∀ q : Bk Wo, q.w.cell? ⟨wr.heap.size, 2, none⟩ = _ := fun q => (q.h.cell (World.block_lt_of_cell? _ _ y2)).trans y2
          have x3 : ∀ q : Bk Wo, q.w.cell? ⟨wr.heap.size, 3, none⟩ = _ := fun q => (q.h.cell (World.block_lt_of_cell? _ _ y3)).trans y3
          have x5 : ∀ q : Bk Wo, q.w.cell? ⟨wr.heap.size, 5, none⟩ = _ := fun q => (q.h.cell (World.block_lt_of_cell? _ _ y5)).trans y5
          have v0 : ∀ q : Bk Wo, q.w.cell? ⟨w.heap.size, 0, none⟩ = _ := fun q => (q.h.cell (World.block_lt_of_cell? _ _ z0)).trans z0
          have v4 : ∀ q : Bk Wo, q.w.cell? ⟨w.heap.size, 4, none⟩ = _ := fun q => (q.h.cell (World.block_lt_of_cell? _ _ z4)).trans z4
          have vg : ∀ q : Bk Wo, q.w.cell? ⟨gb, go + I, none⟩ = _ := fun q => (q.h.cell (World.block_lt_of_cell? _ _ hgo)).trans hgo
          have HB5 : Hid (Below w.heap.size w Wo) := HB3.out.trans (hbo.mono HB3.out.size)
          clear hgc hge hH hxo hbo HA hrs HAll HV3 hsu y0 y1 y2 y3 y4 y5 y6 y7 z0 z4 hgo
          have HEq : Hid (((el r.got I == (r.txt.length : Int)) && (!(decide ((I : Int) ∈ r.sus)) && (!done || r.rdy))) = okMb ⟨(I : Int), n, rows, sung, done⟩) := by
            rw [Hid, HEnd.out]
            simp only [decide_not]
            rfl
          generalize hrd : r.rdy = rd at *
          generalize hel : el r.got I = eg at *
          cases e7 : (eg == (r.txt.length : Int)) <;> cases e8 : decide ((I : Int) ∈ r.sus) <;> cases done <;> rw [e7, e8] at HEq <;> rw [e8] at C <;>
           (go_wp2_with fail
            refine wp_region_bk (by kernel_rfl) (by kernel_rfl) ?_
            repeat (go_big_quiet_step ((first | (go_at_call 120; exact bk_call _ (C _)) | rfl)))
            refine wpQuiet_nil ?_
            intro wE hw'
            obtain ⟨⟨w11, hb11⟩, hw''⟩ := hw'
            have hwe : wE = w11 := hw''
            clear hw''
            subst hwe
            have HBE : Hid (Below w.heap.size w wE) := HB5.out.trans (hb11.mono HB5.out.size)
            go_wp2
            go_ret
            exact ⟨ret_bool (by rw [← HEq.out]; try rfl), HBE.out⟩)
end Go.Proofs.Ytlnmdfgcpfbleaa
namespace Go.Proofs.Ytlnmdfgcpfbleaa
set_option linter.unusedSimpArgs false
set_option linter.unusedVariables false
open Go.RowKit Go.Sort
section
variable {P : Program} {ops : Array Oper} {Q : Exit → Act → World → Prop} {md : Region.Mode} {S : World → Prop}
end
section
variable {P : Program} {l : List Oper} {Q : Exit → Act → World → Prop} {S : World → Prop}
end
end Go.Proofs.Ytlnmdfgcpfbleaa
namespace Go.Proofs.Ytlnmdfgcpfbleaa
set_option linter.unusedVariables false
set_option linter.unusedSimpArgs false
open Go.RowKit Go.Sort
section
variable {P : Program} {l : List Oper} {Q : Exit → Act → World → Prop} {S : World → Prop}
end
section
variable {P : Program} {ops : Array Oper} {Q : Exit → Act → World → Prop} {md : Region.Mode} {S : World → Prop}
end
section
variable {P : Program} {l : List Oper} {Q : Exit → Act → World → Prop} {S : World → Prop}
end
end Go.Proofs.Ytlnmdfgcpfbleaa
namespace Go.Proofs.Ytlnmdfgcpfbleaa
set_option linter.unusedVariables false
set_option linter.unusedSimpArgs false
open Go.RowKit Go.Sort
theorem mixed17 : Try.prog.follows .mixedOrders = true := by kernel_rfl
theorem owL_v {w : World} {x : Value} {cs : List Cel} {us : List Value} {f : Fp} (h : owL w cs us f) : owL w (.v x :: cs) (x :: us) f := ⟨x,us,fun _ => False,f,rfl,⟨rfl,fun _ h => h⟩,h,fun _ h => absurd h id,fun b => by simp⟩
theorem owL_v' {w : World} {x : Value} {cs : List Cel} {us : List Value} {f : Fp} (h : owL w (.v x :: cs) us f) : ∃ us',us = x :: us' ∧ owL w cs us' f := by
 obtain ⟨u,us',f1,f2,rfl,⟨rfl,h1⟩,h2,hd,hf⟩ := h
 exact ⟨us',rfl,owL_congr h2 (fun b => (hf b).trans ⟨fun h => h.elim (fun h => absurd h (h1 b)) id,.inr⟩)⟩
theorem owL_c {w : World} {c : Cel} {u : Value} {cs : List Cel} {us : List Value} {f1 f2 : Fp} (h1 : Cel.ow w c u f1) (h2 : owL w cs us f2) (hd : ∀ b,f1 b → ¬ f2 b) : owL w (c :: cs) (u :: us) (fun b => f1 b ∨ f2 b) := ⟨u,us,f1,f2,rfl,h1,h2,hd,fun b => Iff.rfl⟩
theorem ow_rw8 {w : World} {A : Ra} {r : Rw} {f : Fp} (h : owL w (rwCels r) (rwVals A r) f) : owL w (rw8 r) (rwC A r).toList f := by
 obtain ⟨u1,us1,f1,g1,e1,o1,h2,d1,i1⟩ := h
 cases e1
 obtain ⟨u2,us2,f2,g2,e2,o2,h3,d2,i2⟩ := h2
 cases e2
 obtain ⟨u3,us3,f3,g3,e3,o3,h4,d3,i3⟩ := h3
 cases e3
 exact owL_v ⟨_,_,f1,g1,rfl,o1,⟨_,_,f2,g2,rfl,o2,⟨_,_,f3,g3,rfl,o3,owL_v (owL_v (owL_v h4)),d3,i3⟩,d2,i2⟩,d1,i1⟩
theorem rw8_ow {w : World} {r : Rw} {us : List Value} {f : Fp} (h : owL w (rw8 r) us f) : ∃ A : Ra,us = (rwC A r).toList ∧ owL w (rwCels r) (rwVals A r) f := by
 obtain ⟨us0,rfl,hq0⟩ := owL_v' h
 obtain ⟨u1,us1,f1,g1,rfl,o1,h2,d1,i1⟩ := hq0
 obtain ⟨u2,us2,f2,g2,rfl,o2,h3,d2,i2⟩ := h2
 obtain ⟨u3,us3,f3,g3,rfl,o3,h4,d3,i3⟩ := h3
 obtain ⟨us4,rfl,hq4⟩ := owL_v' h4
 obtain ⟨us5,rfl,hq5⟩ := owL_v' hq4
 obtain ⟨us6,rfl,hq6⟩ := owL_v' hq5
 obtain ⟨u7,us7,f7,g7,rfl,o7,⟨rfl,h8⟩,d7,i7⟩ := hq6
 obtain ⟨ta,tc,_,rfl,_⟩ := ow_scl.1 o1
 obtain ⟨ga,gc,_,rfl,_⟩ := ow_icl.1 o2
 obtain ⟨sa,sc,_,rfl,_⟩ := ow_icl.1 o3
 obtain ⟨ma,mc,_,rfl,_⟩ := ow_icl.1 o7
 exact ⟨⟨ta,tc,ga,gc,sa,sc,ma,mc⟩,rfl,⟨_,_,f1,g1,rfl,o1,⟨_,_,f2,g2,rfl,o2,⟨_,_,f3,g3,rfl,o3,⟨_,_,f7,g7,rfl,o7,⟨rfl,h8⟩,d7,i7⟩,d3,i3⟩,d2,i2⟩,d1,i1⟩⟩
theorem ow_mb5 {w : World} {A : Ma} {m : Mb} {f : Fp} (h : owL w (mbCels m) (mbVals A m) f) : owL w (mb5 m) (mbC A m).toList f := by
 obtain ⟨u1,us1,f1,g1,e1,o1,h2,d1,i1⟩ := h
 cases e1
 obtain ⟨u2,us2,f2,g2,e2,o2,h3,d2,i2⟩ := h2
 cases e2
 exact owL_v (owL_v ⟨_,_,f1,g1,rfl,o1,⟨_,_,f2,g2,rfl,o2,owL_v h3,d2,i2⟩,d1,i1⟩)
theorem mb5_ow {w : World} {m : Mb} {us : List Value} {f : Fp} (h : owL w (mb5 m) us f) : ∃ A : Ma,us = (mbC A m).toList ∧ owL w (mbCels m) (mbVals A m) f := by
 obtain ⟨us0,rfl,hq0⟩ := owL_v' h
 obtain ⟨us9,rfl,hq1⟩ := owL_v' hq0
 obtain ⟨u1,us1,f1,g1,rfl,o1,h2,d1,i1⟩ := hq1
 obtain ⟨u2,us2,f2,g2,rfl,o2,h3,d2,i2⟩ := h2
 obtain ⟨us4,rfl,⟨rfl,h4⟩⟩ := owL_v' h3
 have o1' := o1
 obtain ⟨ra,rc,_,_,_,rfl,_⟩ := o1'
 obtain ⟨sa,sc,_,rfl,_⟩ := ow_icl.1 o2
 exact ⟨⟨ra,rc,sa,sc⟩,rfl,⟨_,_,f1,g1,rfl,o1,⟨_,_,f2,g2,rfl,o2,⟨rfl,h4⟩,d2,i2⟩,d1,i1⟩⟩
def AnsMb (w w' : World) (e : Ending) (m : Mb) : Prop := ∃ A : Ma,e = .returned (mbV A m) ∧ NewL w w' (mbCels m) (mbVals A m)
theorem ow_lcl0 (w : World) {α : Type} (s : Nat) (F : α → List Cel) : Cel.ow w (lcl s F []) (.slice none 0 0) (fun _ => False) := ⟨none,0,[],none,fun _ => False,rfl,OSo.nil _ _ plainN,⟨rfl,fun _ h => h⟩,fun _ _ h => h,fun b => by simp⟩
theorem ow_mb0 (w : World) : owL w (mbCels zeroMb) (mbVals ⟨none,0,none,0⟩ zeroMb) (fun _ => False) :=
 owL_congr (owL_c (ow_lcl0 w 8 rw8) (owL_c (ow_none_i w) (⟨rfl,fun _ h => h⟩ : owL w [] [] (fun _ => False)) (fun _ _ h => h)) (fun _ h => absurd h id)) (fun b => by simp)
theorem wrt5 (w : World) (g : Nat) {a b c d e : Value} : Wrt (fun x => x = g) w (((((w.setCell ⟨g,0,none⟩ a).setCell ⟨g,1,none⟩ b).setCell ⟨g,2,none⟩ c).setCell ⟨g,3,none⟩ d).setCell ⟨g,4,none⟩ e) :=
 ((((Wrt.set w g 0 a).trans (Wrt.set _ g 1 b) (fun _ _ h => h)).trans (Wrt.set _ g 2 c) (fun _ _ h => h)).trans (Wrt.set _ g 3 d) (fun _ _ h => h)).trans (Wrt.set _ g 4 e) (fun _ _ h => h)
theorem Bx.f5 {w : World} {B : Nat} {T : TypeId} {cs : Array Value} (h : Bx w B T cs) : w.frozen? ⟨B,0,none⟩ = false ∧ w.frozen? ⟨B,1,none⟩ = false ∧ w.frozen? ⟨B,2,none⟩ = false ∧ w.frozen? ⟨B,3,none⟩ = false ∧ w.frozen? ⟨B,4,none⟩ = false := ⟨h.f 0,h.f 1,h.f 2,h.f 3,h.f 4⟩
end Go.Proofs.Ytlnmdfgcpfbleaa
namespace Go.Proofs.Ytlnmdfgcpfbleaa
set_option linter.unusedVariables false
set_option linter.unusedSimpArgs false
open Go.RowKit Go.Sort
attribute [local irreducible] sv
end Go.Proofs.Ytlnmdfgcpfbleaa
namespace Go.Proofs.Ytlnmdfgcpfbleaa
set_option linter.unusedVariables false
set_option linter.unusedSimpArgs false
open Go.RowKit Go.Sort
end Go.Proofs.Ytlnmdfgcpfbleaa
namespace Go.Proofs.Ytlnmdfgcpfbleaa
set_option linter.unusedVariables false
set_option linter.unusedSimpArgs false
open Go.RowKit Go.Sort
def C5 (w : World) (B o : Nat) (x0 x1 x2 x3 x4 : Value) : Prop := w.cell? ⟨B,o,none⟩ = some x0 ∧ w.cell? ⟨B,o + 1,none⟩ = some x1 ∧ w.cell? ⟨B,o + 2,none⟩ = some x2 ∧ w.cell? ⟨B,o + 3,none⟩ = some x3 ∧ w.cell? ⟨B,o + 4,none⟩ = some x4
end Go.Proofs.Ytlnmdfgcpfbleaa
namespace Go.Proofs.Ytlnmdfgcpfbleaa
set_option linter.unusedVariables false
set_option linter.unusedSimpArgs false
open Go.RowKit Go.Sort
def ocl (L : List Bool) : Cel := .sl 1 L.length (pl (L.map Value.bool))
def UpS (w : World) (a : Option Addr) (L : List Bool) : Prop := L.length = 0 ∨ ∃ b off,a = some ⟨b,off,none⟩ ∧ ∀ i,i < L.length → w.cell? ⟨b,off + i,none⟩ = some (.bool (L.getD i false))
theorem UpS.below {w w' : World} {a : Option Addr} {L : List Bool} (h : UpS w a L) (hb : Below w.heap.size w w') : UpS w' a L := by
 rcases h with h | ⟨b,off,ha,hc⟩
 ·exact .inl h
 ·exact .inr ⟨b,off,ha,fun i hi => (hb.cell (World.block_lt_of_cell? _ _ (hc i hi))).trans (hc i hi)⟩
theorem ow_ocl {w : World} {L : List Bool} {u : Value} {fp : Fp} : Cel.ow w (ocl L) u fp ↔ ∃ a c G,u = .slice a L.length c ∧ OSo w 1 a L.length c (L.map Value.bool) G ∧ ∀ b,fp b ↔ G = some b := by
 constructor
 ·rintro ⟨a,c,us,G,f,rfl,ho,hl,hn,hf⟩
  obtain ⟨rfl,h0⟩ := owL_pl.1 hl
  exact ⟨a,c,G,rfl,ho,fun b => (hf b).trans ⟨fun h => h.elim id (fun h => absurd h (h0 b)),.inl⟩⟩
 ·rintro ⟨a,c,G,rfl,ho,hf⟩
  exact ⟨a,c,_,G,fun _ => False,rfl,ho,owL_pl.2 ⟨rfl,fun _ h => h⟩,fun _ _ h => h,fun b => (hf b).trans ⟨.inl,fun h => h.elim id False.elim⟩⟩
theorem vw_ocl {w : World} {L : List Bool} {u : Value} (h : Cel.vw w (ocl L) u) : ∃ a c,u = .slice a L.length c ∧ UpS w a L ∧ L.length ≤ c ∧ c ≤ maxLen := by
 obtain ⟨a,c,us,rfl,h1,h2,h3,h,hl⟩ := h
 have e := vwL_pl.1 hl
 subst e
 refine ⟨a,c,rfl, ?_,h1,h2⟩
 rcases h with h | ⟨b,off,ha,hc⟩
 ·exact .inl h
 ·refine .inr ⟨b,off,ha,fun i hi => ?_⟩
  rw [hc i (by omega)]
  simp [List.getD,hi]
def ml10 (x : Ml) : List Cel := .v (.int .i64 x.fr) :: .v (.int .i64 x.to) :: rw8 x.row
theorem ml10_len (x : Ml) : (ml10 x).length = 10 := rfl
structure Ga where
 ma : Option Addr
 mc : Nat
 ua : Option Addr
 uc : Nat
 la : Option Addr
 lc : Nat
def grC (A : Ga) (g : Gr) : Array Value := #[.slice A.ma g.mem.length A.mc,.slice A.ua g.up.length A.uc,.slice A.la g.mail.length A.lc]
def grV (A : Ga) (g : Gr) : Value := .agg (grC A g)
def gr3 (g : Gr) : List Cel := [lcl 5 mb5 g.mem,ocl g.up,lcl 10 ml10 g.mail]
def grVals (A : Ga) (g : Gr) : List Value := [.slice A.ma g.mem.length A.mc,.slice A.ua g.up.length A.uc,.slice A.la g.mail.length A.lc]
def FitG (g : Gr) : Prop := (∀ m ∈ g.mem,FitM m) ∧ ∀ x ∈ g.mail,FitR x.row
structure GrS (w : World) (A : Ga) (g : Gr) : Prop where
 mem : Cel.vw w (lcl 5 mb5 g.mem) (.slice A.ma g.mem.length A.mc)
 up : UpS w A.ua g.up
 mail : Cel.vw w (lcl 10 ml10 g.mail) (.slice A.la g.mail.length A.lc)
 lm : g.mem.length ≤ maxLen
 lu : g.up.length ≤ maxLen
 ll : g.mail.length ≤ maxLen
 fit : FitG g
theorem GrS.below {w w' : World} {A : Ga} {g : Gr} (h : GrS w A g) (hb : Below w.heap.size w w') : GrS w' A g := ⟨Cel.vw_below h.mem hb,h.up.below hb,Cel.vw_below h.mail hb,h.lm,h.lu,h.ll,h.fit⟩
theorem grs_of {w : World} {A : Ga} {g : Gr} (h : vwL w (gr3 g) (grVals A g)) (hf : FitG g) : GrS w A g := by
 obtain ⟨u1,us1,e1,h1,h2⟩ := h
 cases e1
 obtain ⟨u2,us2,e2,h3,h4⟩ := h2
 cases e2
 obtain ⟨u3,us3,e3,h5,_⟩ := h4
 cases e3
 obtain ⟨a,c,e,k1,k2,k3⟩ := vw_ocl h3
 cases e
 have l1 := h1
 obtain ⟨_,_,_,e,m1,m2,_⟩ := l1
 cases e
 have l5 := h5
 obtain ⟨_,_,_,e,n1,n2,_⟩ := l5
 cases e
 exact ⟨h1,k1,h5,by omega,by omega,by omega,hf⟩
theorem Pv.mem {w : World} {b o : Nat} {m : Mb} (h : Pv w b o (mb5 m)) (hf : FitM m) : ∃ A : Ma,C5 w b o (.int .i64 m.id) (.int .i64 m.n) (.slice A.ra m.rows.length A.rc) (.slice A.sa m.sung.length A.sc) (.bool m.done) ∧ MbS w A m := by
 obtain ⟨u0,c0,rfl⟩ := h.at (j := 0) rfl
 obtain ⟨u1,c1,rfl⟩ := h.at (j := 1) rfl
 obtain ⟨u2,c2,v2⟩ := h.at (j := 2) rfl
 obtain ⟨u3,c3,v3⟩ := h.at (j := 3) rfl
 obtain ⟨u4,c4,rfl⟩ := h.at (j := 4) rfl
 have k2 := v2
 obtain ⟨ra,rc,_,rfl,r1,r2,_⟩ := k2
 obtain ⟨sa,sc,rfl,s1,s2,s3⟩ := vw_icl v3 hf.2
 exact ⟨⟨ra,rc,sa,sc⟩,⟨c0,c1,c2,c3,c4⟩,v2,s1,by omega,by omega,hf.1⟩
theorem memN_at {g : Gr} {k : Nat} (hk : k < g.mem.length) : g.mem[k]? = some (memN g k) := by simp [memN,List.getD,hk]
theorem GrS.member {w : World} {A : Ga} {g : Gr} (h : GrS w A g) {k : Nat} (hk : k < g.mem.length) : ∃ b off Ak,A.ma = some ⟨b,off,none⟩ ∧ C5 w b (off + k * 5) (.int .i64 (memN g k).id) (.int .i64 (memN g k).n) (.slice Ak.ra (memN g k).rows.length Ak.rc) (.slice Ak.sa (memN g k).sung.length Ak.sc) (.bool (memN g k).done) ∧ MbS w Ak (memN g k) := by
 obtain ⟨b,off,h1,h2⟩ := vw_elF mb5_len h.mem (memN_at hk)
 obtain ⟨Ak,h3,h4⟩ := h2.mem (h.fit.1 _ (List.mem_of_getElem? (memN_at hk)))
 exact ⟨b,off,Ak,h1,h3,h4⟩
theorem mailN_at {g : Gr} {k : Nat} (hk : k < g.mail.length) : g.mail[k]? = some (mailN g k) := by simp [mailN,List.getD,hk]
theorem Pv.mail {w : World} {b o : Nat} {x : Ml} (h : Pv w b o (ml10 x)) (hf : FitR x.row) : ∃ A : Ra,w.cell? ⟨b,o,none⟩ = some (.int .i64 x.fr) ∧ w.cell? ⟨b,o + 1,none⟩ = some (.int .i64 x.to) ∧ C8 w b (o + 2) (.int .i64 x.row.ver) (.slice A.ta x.row.txt.length A.tc) (.slice A.ga x.row.got.length A.gc) (.slice A.sa x.row.sus.length A.sc) (.bool x.row.wed) (.bool x.row.rdy) (.int .i64 x.row.by_) (.slice A.ma x.row.trm.length A.mc) ∧ RwS w A x.row := by
 obtain ⟨u0,c0,rfl⟩ := h.at (j := 0) rfl
 obtain ⟨u1,c1,rfl⟩ := h.at (j := 1) rfl
 have hp : Pv w b (o + 2) (rw8 x.row) := by
  obtain ⟨vs,h1,h2⟩ := h
  obtain ⟨v0,vs0,rfl,_,h3⟩ := h2
  obtain ⟨v1,vs1,rfl,_,h4⟩ := h3
  refine ⟨vs1,fun j hj => ?_,h4⟩
  have := h1 (j + 2) (by simp;omega)
  rw [show o + 2 + j = o + (j + 2) by omega,this]
  rfl
 obtain ⟨A,h3,h4⟩ := hp.row hf
 exact ⟨A,c0,c1,h3,h4⟩
theorem GrS.letter {w : World} {A : Ga} {g : Gr} (h : GrS w A g) {k : Nat} (hk : k < g.mail.length) : ∃ b off Ak,A.la = some ⟨b,off,none⟩ ∧ w.cell? ⟨b,off + k * 10,none⟩ = some (.int .i64 (mailN g k).fr) ∧ w.cell? ⟨b,off + k * 10 + 1,none⟩ = some (.int .i64 (mailN g k).to) ∧ C8 w b (off + k * 10 + 2) (.int .i64 (mailN g k).row.ver) (.slice Ak.ta (mailN g k).row.txt.length Ak.tc) (.slice Ak.ga (mailN g k).row.got.length Ak.gc) (.slice Ak.sa (mailN g k).row.sus.length Ak.sc) (.bool (mailN g k).row.wed) (.bool (mailN g k).row.rdy) (.int .i64 (mailN g k).row.by_) (.slice Ak.ma (mailN g k).row.trm.length Ak.mc) ∧ RwS w Ak (mailN g k).row := by
 obtain ⟨b,off,h1,h2⟩ := vw_elF ml10_len h.mail (mailN_at hk)
 obtain ⟨Ak,h3,h4,h5,h6⟩ := h2.mail (h.fit.2 _ (List.mem_of_getElem? (mailN_at hk)))
 exact ⟨b,off,Ak,h1,h3,h4,h5,h6⟩
end Go.Proofs.Ytlnmdfgcpfbleaa
namespace Go.Proofs.Ytlnmdfgcpfbleaa
set_option linter.unusedVariables false
set_option linter.unusedSimpArgs false
open Go.RowKit Go.Sort
end Go.Proofs.Ytlnmdfgcpfbleaa