/-
  Texts in one: Rzl LawFo Bvd Ivk Rzi Rzj.
-/
import Derived.Test.YtlnmdfgcpfbleaaJad
import Derived.Test.YtlnmdfgcpfbleaaJae
import Derived.Test.YtlnmdfgcpfbleaaJaa
import Derived.Test.YtlnmdfgcpfbleaaJac
import Derived.Test.YtlnmdfgcpfbleaaJab
import Derived.Deep.RegionHeld3
import Derived.BigQuiet
import Derived.Stop.Asserts
namespace Go.Proofs.Ytlnmdfgcpfbleaa
set_option linter.unusedVariables false
set_option linter.unusedSimpArgs false
open Go.RowKit Go.Sort
attribute [local irreducible] sv
set_option maxRecDepth 100000 in
set_option maxHeartbeats 3200000 in
theorem likeRw_any (A B : Ra) (r : Rw) (w : World) (hv : RwS w A r) (hu : RwS w B r) :
  Calls Try.prog 37 #[rwV A r,rwV B r] w fun e w' => e = .returned (.bool true) ∧ Grew w w' := by
 have hB0 : Grew w ((w.alloc (.cells (rwC A r) 35)).alloc (.cells (rwC B r) 35)) := ((Grew.refl _).alloc _).alloc _
 have hx : Bx ((w.alloc (.cells (rwC A r) 35)).alloc (.cells (rwC B r) 35)) w.heap.size 35 (rwC A r) := (Bx.new w _ _).alloc _
 have hy : Bx ((w.alloc (.cells (rwC A r) 35)).alloc (.cells (rwC B r) 35)) (w.heap.size + 1) 35 (rwC B r) := by
  have := Bx.new (w.alloc (.cells (rwC A r) 35)) 35 (rwC B r)
  simpa using this
 have h0 := hv.below hB0.1
 have g0 := hu.below hB0.1
 have hT := likeSV_any A.ta B.ta A.tc B.tc r.txt _ h0.txt g0.txt h0.mt
 have hE : ∀ X,Below w.heap.size w X → ∀ (x y : Option Addr) (c d : Nat) (l : List Int),Vec w x l.length l → Vec w y l.length l → l.length ≤ maxLen → Calls Try.prog 15 #[.slice x l.length c,.slice y l.length d] X fun e w' => e = .returned (.bool true) ∧ Grew X w' := fun X h x y c d l h1 h2 h3 => (like_any x y l.length c l.length d l l X (h1.below h (Nat.le_refl _)) (h2.below h (Nat.le_refl _)) h3).mono (fun e w' ⟨h4,q,h5⟩ => ⟨by rw [h4,sameB_self],by rw [h5];exact (Grew.refl _).drewN q⟩)
 obtain ⟨ver,txt,got,sus,wed,rdy,by_,trm⟩ := r
 obtain ⟨ta,tc,ga,gc,sa,sc,ma,mc⟩ := A
 obtain ⟨ub,uc,vb,vc,xb,xc,yb,yc⟩ := B
 have HV : Hid (RwS w ⟨ta,tc,ga,gc,sa,sc,ma,mc⟩ ⟨ver,txt,got,sus,wed,rdy,by_,trm⟩) := hv
 have HU : Hid (RwS w ⟨ub,uc,vb,vc,xb,xc,yb,yc⟩ ⟨ver,txt,got,sus,wed,rdy,by_,trm⟩) := hu
 have hG := fun X h => hE X h ga vb gc vc got HV.out.got HU.out.got HV.out.mg
 have hS := fun X h => hE X h sa xb sc xc sus HV.out.sus HU.out.sus HV.out.ms
 have hM := fun X h => hE X h ma yb mc yc trm HV.out.trm HU.out.trm HV.out.mm
 have HX : Hid (∀ X,Grew ((w.alloc (.cells (rwC ⟨ta,tc,ga,gc,sa,sc,ma,mc⟩ ⟨ver,txt,got,sus,wed,rdy,by_,trm⟩) 35)).alloc (.cells (rwC ⟨ub,uc,vb,vc,xb,xc,yb,yc⟩ ⟨ver,txt,got,sus,wed,rdy,by_,trm⟩) 35)) X → Bx X w.heap.size 35 #[.int .i64 ver,.slice ta txt.length tc,.slice ga got.length gc,.slice sa sus.length sc,.bool wed,.bool rdy,.int .i64 by_,.slice ma trm.length mc] ∧ Bx X (w.heap.size + 1) 35 #[.int .i64 ver,.slice ub txt.length uc,.slice vb got.length vc,.slice xb sus.length xc,.bool wed,.bool rdy,.int .i64 by_,.slice yb trm.length yc]) := fun X h => ⟨hx.below h.1,hy.below h.1⟩
 have n1 : (ver == ver) = true := by simp
 have n2 : (by_ == by_) = true := by simp
 have n3 : (wed == wed) = true := by simp
 have n4 : (rdy == rdy) = true := by simp
 unfold rwV
 unfold rwC at *
 simp only at hT ⊢
 generalize hWW : (w.alloc (.cells #[.int .i64 ver,.slice ta txt.length tc,.slice ga got.length gc,.slice sa sus.length sc,.bool wed,.bool rdy,.int .i64 by_,.slice ma trm.length mc] 35)).alloc (.cells #[.int .i64 ver,.slice ub txt.length uc,.slice vb got.length vc,.slice xb sus.length xc,.bool wed,.bool rdy,.int .i64 by_,.slice yb trm.length yc] 35) = W at *
 have HG0 : Hid (Grew w W) := hB0
 obtain ⟨⟨c0,c1,_,_⟩,_⟩ := Bx.r8 (HX.out W (Grew.refl _)).1
 obtain ⟨⟨d0,d1,_,_⟩,_⟩ := Bx.r8 (HX.out W (Grew.refl _)).2
 clear hv hu hx hy h0 g0 hE hB0
 go_enter Try.func37,Try.ntmps37
 go_wp2_with fail
 refine hT.mono ?_
 rintro e w1 ⟨rfl,hg1⟩
 obtain ⟨⟨_,_,c2,_⟩,_⟩ := Bx.r8 (HX.out w1 hg1).1
 obtain ⟨⟨_,_,d2,_⟩,_⟩ := Bx.r8 (HX.out w1 hg1).2
 have HG1 : Hid (Grew W w1) := hg1
 clear hT hg1 c0 c1 d0 d1
 go_wp2_with fail
 refine (hG w1 (HG0.out.trans HG1.out).1).mono ?_
 rintro e w2 ⟨rfl,hg2⟩
 have HG2 : Hid (Grew W w2) := HG1.out.trans hg2
 obtain ⟨⟨_,_,_,c3⟩,_⟩ := Bx.r8 (HX.out w2 HG2.out).1
 obtain ⟨⟨_,_,_,d3⟩,_⟩ := Bx.r8 (HX.out w2 HG2.out).2
 clear hg2 c2 d2 hG
 go_wp2_with fail
 refine (hS w2 (HG0.out.trans HG2.out).1).mono ?_
 rintro e w3 ⟨rfl,hg3⟩
 have HG3 : Hid (Grew W w3) := HG2.out.trans hg3
 obtain ⟨_,c4,c5,c6,c7⟩ := Bx.r8 (HX.out w3 HG3.out).1
 obtain ⟨_,d4,d5,d6,d7⟩ := Bx.r8 (HX.out w3 HG3.out).2
 clear hg3 c3 d3 hS
 go_wp2_with fail
 refine (hM w3 (HG0.out.trans HG3.out).1).mono ?_
 rintro e w4 ⟨rfl,hg4⟩
 have HG4 : Hid (Grew w w4) := HG0.out.trans (HG3.out.trans hg4)
 clear hg4 c4 c5 c6 c7 d4 d5 d6 d7 hM
 go_wp2
 go_ret
 exact ⟨rfl,HG4.out⟩
end Go.Proofs.Ytlnmdfgcpfbleaa
namespace Go.Proofs.Ytlnmdfgcpfbleaa
set_option linter.unusedVariables false
set_option linter.unusedSimpArgs false
open Go.RowKit Go.Sort
structure Rb (w : World) (o : Nat) (A : Ra) (r : Rw) : Prop where
 box : Bx w o 35 #[.int .i64 r.ver,.slice A.ta r.txt.length A.tc,.slice A.ga r.got.length A.gc,.slice A.sa r.sus.length A.sc,.bool r.wed,.bool r.rdy,.int .i64 r.by_,.slice A.ma r.trm.length A.mc]
 rw : RwP w A r
theorem Rb.below {w w' : World} {o : Nat} {A : Ra} {r : Rw} (h : Rb w o A r) (hb : Below w.heap.size w w') : Rb w' o A r := ⟨h.box.below hb,h.rw.below hb⟩
theorem one_sv : (⟨#[116]⟩ : ByteArray) = sv [116] := by unfold sv;rfl
theorem Rb.new {w : World} {A : Ra} {r : Rw} (h : RwP w A r) : Rb (w.alloc (.cells (rwC A r) 35)) w.heap.size A r := ⟨Bx.new _ _ _,h.below (oneA16 w _)⟩
attribute [local irreducible] sv
set_option maxRecDepth 100000 in
set_option maxHeartbeats 12800000 in
theorem lawFnFollows (hRo : ImplRowOk) (hFo : ImplFollows) (hLa : ImplLater) (hNr : ImplNewRow) (a : Option Addr) (len cap : Nat) (bs : Nat → Int) (w : World) (hv : BVec w a len bs) :
  Calls Try.prog 4 #[.slice a len cap] w fun e w' => e = .returned (.bool true) ∧ Below w.heap.size w w' := by
 by_cases hbig : (4096 : Int) < (len : Int)
 ·have hB := big_any a len cap w
  rw [decide_eq_true hbig] at hB
  go_enter Try.func4,Try.ntmps4
  go_wp2_with fail
  refine hB.mono ?_
  rintro e w1 ⟨rfl,hw1⟩
  have HW : Hid (w1 = w) := hw1
  clear hw1
  go_wp2
  go_ret
  exact ⟨rfl,by rw [HW.out];exact Below.refl _ _⟩
 ·have hB := big_any a len cap w
  rw [decide_eq_false hbig] at hB
  have hl : len ≤ 4096 := by omega
  have hD := drawFo_any a len cap bs w hv hl
  unfold rwV rwC at hD
  go_enter Try.func4,Try.ntmps4
  go_wp2_with fail
  refine hB.mono ?_
  rintro e w0 ⟨rfl,hw0⟩
  rw [hw0]
  clear hw0 hB hbig
  go_wp2_with fail
  refine hD.mono ?_
  rintro e w1 ⟨A,B,r,s,n,rfl,hr,hs,hSr,hSs,⟨hn0,hn1⟩,hb1⟩
  go_upto_region 4 with fail
  have b_1 := oneA16 w1 (.cells #[.int .i64 r.ver,.slice A.ta r.txt.length A.tc,.slice A.ga r.got.length A.gc,.slice A.sa r.sus.length A.sc,.bool r.wed,.bool r.rdy,.int .i64 r.by_,.slice A.ma r.trm.length A.mc] 35)
  have h_2 : Rb (w1.alloc (.cells #[.int .i64 r.ver,.slice A.ta r.txt.length A.tc,.slice A.ga r.got.length A.gc,.slice A.sa r.sus.length A.sc,.bool r.wed,.bool r.rdy,.int .i64 r.by_,.slice A.ma r.trm.length A.mc] 35)) (w1.heap.size) A r := by
   have := Rb.new (w := w1) hr
   skip
   exact this
  have B_3 : Below w.heap.size w (w1.alloc (.cells #[.int .i64 r.ver,.slice A.ta r.txt.length A.tc,.slice A.ga r.got.length A.gc,.slice A.sa r.sus.length A.sc,.bool r.wed,.bool r.rdy,.int .i64 r.by_,.slice A.ma r.trm.length A.mc] 35)) := hb1.trans (b_1.mono hb1.size)
  clear hb1
  have b_4 := oneA16 (w1.alloc (.cells #[.int .i64 r.ver,.slice A.ta r.txt.length A.tc,.slice A.ga r.got.length A.gc,.slice A.sa r.sus.length A.sc,.bool r.wed,.bool r.rdy,.int .i64 r.by_,.slice A.ma r.trm.length A.mc] 35)) (.cells #[.int .i64 s.ver,.slice B.ta s.txt.length B.tc,.slice B.ga s.got.length B.gc,.slice B.sa s.sus.length B.sc,.bool s.wed,.bool s.rdy,.int .i64 s.by_,.slice B.ma s.trm.length B.mc] 35)
  have h_5 : Rb ((w1.alloc (.cells #[.int .i64 r.ver,.slice A.ta r.txt.length A.tc,.slice A.ga r.got.length A.gc,.slice A.sa r.sus.length A.sc,.bool r.wed,.bool r.rdy,.int .i64 r.by_,.slice A.ma r.trm.length A.mc] 35)).alloc (.cells #[.int .i64 s.ver,.slice B.ta s.txt.length B.tc,.slice B.ga s.got.length B.gc,.slice B.sa s.sus.length B.sc,.bool s.wed,.bool s.rdy,.int .i64 s.by_,.slice B.ma s.trm.length B.mc] 35)) (w1.heap.size + 1) B s := by
   have := Rb.new (w := (w1.alloc (.cells #[.int .i64 r.ver,.slice A.ta r.txt.length A.tc,.slice A.ga r.got.length A.gc,.slice A.sa r.sus.length A.sc,.bool r.wed,.bool r.rdy,.int .i64 r.by_,.slice A.ma r.trm.length A.mc] 35))) (hs.below b_1)
   simp only [World.size_alloc] at this
   exact this
  have B_6 : Below w.heap.size w ((w1.alloc (.cells #[.int .i64 r.ver,.slice A.ta r.txt.length A.tc,.slice A.ga r.got.length A.gc,.slice A.sa r.sus.length A.sc,.bool r.wed,.bool r.rdy,.int .i64 r.by_,.slice A.ma r.trm.length A.mc] 35)).alloc (.cells #[.int .i64 s.ver,.slice B.ta s.txt.length B.tc,.slice B.ga s.got.length B.gc,.slice B.sa s.sus.length B.sc,.bool s.wed,.bool s.rdy,.int .i64 s.by_,.slice B.ma s.trm.length B.mc] 35)) := B_3.trans (b_4.mono B_3.size)
  have h_7 := h_2.below b_4
  clear B_3 h_2
  generalize hW2 : ((w1.alloc (.cells #[.int .i64 r.ver,.slice A.ta r.txt.length A.tc,.slice A.ga r.got.length A.gc,.slice A.sa r.sus.length A.sc,.bool r.wed,.bool r.rdy,.int .i64 r.by_,.slice A.ma r.trm.length A.mc] 35)).alloc (.cells #[.int .i64 s.ver,.slice B.ta s.txt.length B.tc,.slice B.ga s.got.length B.gc,.slice B.sa s.sus.length B.sc,.bool s.wed,.bool s.rdy,.int .i64 s.by_,.slice B.ma s.trm.length B.mc] 35)) = W2 at *
  clear hD
  have hn64 : I64v n := ⟨by omega,by omega⟩
  have hF := hFo A B r s n W2 h_7.rw h_5.rw hn64
  unfold rwV rwC at hF
  obtain ⟨Q,hQ⟩ : ∃ Q,Hid (folB r s n = Q) := ⟨_,rfl⟩
  rw [hQ.out] at hF
  obtain ⟨⟨c_80,c_81,c_82,c_83⟩,c_84,c_85,c_86,c_87⟩ := Bx.r8 h_7.box
  obtain ⟨⟨c_90,c_91,c_92,c_93⟩,c_94,c_95,c_96,c_97⟩ := Bx.r8 h_5.box
  go_wp2_with fail
  refine hF.mono ?_
  rintro e w3 ⟨rfl,hb3⟩
  clear hF c_80 c_81 c_82 c_83 c_84 c_85 c_86 c_87 c_90 c_91 c_92 c_93 c_94 c_95 c_96 c_97
  have B_10 : Below w.heap.size w w3 := B_6.trans (hb3.mono B_6.size)
  have h_11 := h_7.below hb3
  have h_12 := h_5.below hb3
  clear B_6 h_7 h_5
  have hD := drawLt_any a len cap bs w3 (hv.below B_10 (Nat.le_refl _)) hl
  unfold rwV rwC at hD
  go_wp2_with fail
  refine hD.mono ?_
  rintro e w4 ⟨C,D,x,y,rfl,hx,hy,hSx,hSy,hb4⟩
  clear hD
  have B_13 : Below w.heap.size w w4 := B_10.trans (hb4.mono B_10.size)
  have h_14 := h_11.below hb4
  have h_15 := h_12.below hb4
  clear B_10 h_11 h_12
  go_upto_region 6 with fail
  have b_16 := oneA16 w4 (.cells #[.int .i64 x.ver,.slice C.ta x.txt.length C.tc,.slice C.ga x.got.length C.gc,.slice C.sa x.sus.length C.sc,.bool x.wed,.bool x.rdy,.int .i64 x.by_,.slice C.ma x.trm.length C.mc] 35)
  have h_17 : Rb (w4.alloc (.cells #[.int .i64 x.ver,.slice C.ta x.txt.length C.tc,.slice C.ga x.got.length C.gc,.slice C.sa x.sus.length C.sc,.bool x.wed,.bool x.rdy,.int .i64 x.by_,.slice C.ma x.trm.length C.mc] 35)) (w4.heap.size) C x := by
   have := Rb.new (w := w4) hx
   skip
   exact this
  have B_18 : Below w.heap.size w (w4.alloc (.cells #[.int .i64 x.ver,.slice C.ta x.txt.length C.tc,.slice C.ga x.got.length C.gc,.slice C.sa x.sus.length C.sc,.bool x.wed,.bool x.rdy,.int .i64 x.by_,.slice C.ma x.trm.length C.mc] 35)) := B_13.trans (b_16.mono B_13.size)
  have h_19 := h_14.below b_16
  have h_20 := h_15.below b_16
  clear B_13 h_14 h_15
  have b_21 := oneA16 (w4.alloc (.cells #[.int .i64 x.ver,.slice C.ta x.txt.length C.tc,.slice C.ga x.got.length C.gc,.slice C.sa x.sus.length C.sc,.bool x.wed,.bool x.rdy,.int .i64 x.by_,.slice C.ma x.trm.length C.mc] 35)) (.cells #[.int .i64 y.ver,.slice D.ta y.txt.length D.tc,.slice D.ga y.got.length D.gc,.slice D.sa y.sus.length D.sc,.bool y.wed,.bool y.rdy,.int .i64 y.by_,.slice D.ma y.trm.length D.mc] 35)
  have h_22 : Rb ((w4.alloc (.cells #[.int .i64 x.ver,.slice C.ta x.txt.length C.tc,.slice C.ga x.got.length C.gc,.slice C.sa x.sus.length C.sc,.bool x.wed,.bool x.rdy,.int .i64 x.by_,.slice C.ma x.trm.length C.mc] 35)).alloc (.cells #[.int .i64 y.ver,.slice D.ta y.txt.length D.tc,.slice D.ga y.got.length D.gc,.slice D.sa y.sus.length D.sc,.bool y.wed,.bool y.rdy,.int .i64 y.by_,.slice D.ma y.trm.length D.mc] 35)) (w4.heap.size + 1) D y := by
   have := Rb.new (w := (w4.alloc (.cells #[.int .i64 x.ver,.slice C.ta x.txt.length C.tc,.slice C.ga x.got.length C.gc,.slice C.sa x.sus.length C.sc,.bool x.wed,.bool x.rdy,.int .i64 x.by_,.slice C.ma x.trm.length C.mc] 35))) (hy.below b_16)
   simp only [World.size_alloc] at this
   exact this
  have B_23 : Below w.heap.size w ((w4.alloc (.cells #[.int .i64 x.ver,.slice C.ta x.txt.length C.tc,.slice C.ga x.got.length C.gc,.slice C.sa x.sus.length C.sc,.bool x.wed,.bool x.rdy,.int .i64 x.by_,.slice C.ma x.trm.length C.mc] 35)).alloc (.cells #[.int .i64 y.ver,.slice D.ta y.txt.length D.tc,.slice D.ga y.got.length D.gc,.slice D.sa y.sus.length D.sc,.bool y.wed,.bool y.rdy,.int .i64 y.by_,.slice D.ma y.trm.length D.mc] 35)) := B_18.trans (b_21.mono B_18.size)
  have h_24 := h_19.below b_21
  have h_25 := h_20.below b_21
  have h_26 := h_17.below b_21
  clear B_18 h_19 h_20 h_17
  generalize hW5 : ((w4.alloc (.cells #[.int .i64 x.ver,.slice C.ta x.txt.length C.tc,.slice C.ga x.got.length C.gc,.slice C.sa x.sus.length C.sc,.bool x.wed,.bool x.rdy,.int .i64 x.by_,.slice C.ma x.trm.length C.mc] 35)).alloc (.cells #[.int .i64 y.ver,.slice D.ta y.txt.length D.tc,.slice D.ga y.got.length D.gc,.slice D.sa y.sus.length D.sc,.bool y.wed,.bool y.rdy,.int .i64 y.by_,.slice D.ma y.trm.length D.mc] 35)) = W5 at *
  have hD := drawRo_any a len cap bs W5 (hv.below B_23 (Nat.le_refl _)) hl
  unfold rwV rwC at hD
  go_wp2_with fail
  refine hD.mono ?_
  rintro e w6 ⟨E,t,m,rfl,ht,hSt,hm0,hm1,hb6⟩
  clear hD
  have B_27 : Below w.heap.size w w6 := B_23.trans (hb6.mono B_23.size)
  have h_28 := h_24.below hb6
  have h_29 := h_25.below hb6
  have h_30 := h_26.below hb6
  have h_31 := h_22.below hb6
  clear B_23 h_24 h_25 h_26 h_22
  go_upto_region 7 with fail
  have b_32 := oneA16 w6 (.cells #[.int .i64 t.ver,.slice E.ta t.txt.length E.tc,.slice E.ga t.got.length E.gc,.slice E.sa t.sus.length E.sc,.bool t.wed,.bool t.rdy,.int .i64 t.by_,.slice E.ma t.trm.length E.mc] 35)
  have h_33 : Rb (w6.alloc (.cells #[.int .i64 t.ver,.slice E.ta t.txt.length E.tc,.slice E.ga t.got.length E.gc,.slice E.sa t.sus.length E.sc,.bool t.wed,.bool t.rdy,.int .i64 t.by_,.slice E.ma t.trm.length E.mc] 35)) (w6.heap.size) E t := by
   have := Rb.new (w := w6) ht
   skip
   exact this
  have B_34 : Below w.heap.size w (w6.alloc (.cells #[.int .i64 t.ver,.slice E.ta t.txt.length E.tc,.slice E.ga t.got.length E.gc,.slice E.sa t.sus.length E.sc,.bool t.wed,.bool t.rdy,.int .i64 t.by_,.slice E.ma t.trm.length E.mc] 35)) := B_27.trans (b_32.mono B_27.size)
  have h_35 := h_28.below b_32
  have h_36 := h_29.below b_32
  have h_37 := h_30.below b_32
  have h_38 := h_31.below b_32
  clear B_27 h_28 h_29 h_30 h_31
  generalize hW7 : (w6.alloc (.cells #[.int .i64 t.ver,.slice E.ta t.txt.length E.tc,.slice E.ga t.got.length E.gc,.slice E.sa t.sus.length E.sc,.bool t.wed,.bool t.rdy,.int .i64 t.by_,.slice E.ma t.trm.length E.mc] 35)) = W7 at *
  have hD := drawNr_any a len cap bs W7 (hv.below B_34 (Nat.le_refl _)) hl
  go_wp2_with fail
  refine hD.mono ?_
  rintro e w8 ⟨k,rfl,hk0,hk1,hb8⟩
  clear hD
  have B_39 : Below w.heap.size w w8 := B_34.trans (hb8.mono B_34.size)
  have h_40 := h_35.below hb8
  have h_41 := h_36.below hb8
  have h_42 := h_37.below hb8
  have h_43 := h_38.below hb8
  have h_44 := h_33.below hb8
  clear B_34 h_35 h_36 h_37 h_38 h_33
  have hm64 : I64v m := ⟨by omega,by omega⟩
  have hk64 : I64v k := ⟨by omega,by omega⟩
  obtain ⟨oa,hoa⟩ : ∃ q,Hid (q = w1.heap.size) := ⟨_,rfl⟩
  have a0 : Rb w8 oa A r := by rw [hoa.out];exact h_40
  clear h_40
  obtain ⟨ob,hob⟩ : ∃ q,Hid (q = w1.heap.size + 1) := ⟨_,rfl⟩
  have b0 : Rb w8 ob B s := by rw [hob.out];exact h_41
  clear h_41
  obtain ⟨ox,hox⟩ : ∃ q,Hid (q = w4.heap.size) := ⟨_,rfl⟩
  have x0 : Rb w8 ox C x := by rw [hox.out];exact h_42
  clear h_42
  obtain ⟨oy,hoy⟩ : ∃ q,Hid (q = w4.heap.size + 1) := ⟨_,rfl⟩
  have y0 : Rb w8 oy D y := by rw [hoy.out];exact h_43
  clear h_43
  obtain ⟨ot,hot⟩ : ∃ q,Hid (q = w6.heap.size) := ⟨_,rfl⟩
  have t0 : Rb w8 ot E t := by rw [hot.out];exact h_44
  clear h_44
  rw [← hob.out]
  rw [← hoa.out]
  rw [← hoy.out]
  rw [← hox.out]
  rw [← hot.out]
  skip
  obtain ⟨LL,hLL⟩ : ∃ Q,Hid (decide (y.ver < x.ver) = Q) := ⟨_,rfl⟩
  obtain ⟨OO,hOO⟩ : ∃ Q,Hid (okRw t m = Q) := ⟨_,rfl⟩
  obtain ⟨hfZ,h6Z,hs5,hc5⟩ := newRw_small k
  skip
  have cSf : ∀ X,Below w8.heap.size w8 X → Calls Try.prog 32 #[rwV A r,rwV B s,.int .i64 n] X fun e w' => e = .returned (.bool Q) ∧ Below X.heap.size X w' := fun X hX => by rw [← hQ.out];exact folS_any A B r s n X (a0.rw.below hX).rws (b0.rw.below hX).rws
  have cIl : ∀ X,Below w8.heap.size w8 X → Calls Try.prog 33 #[rwV C x,rwV D y] X fun e w' => e = .returned (.bool LL) ∧ Below X.heap.size X w' := fun X hX => by rw [← hLL.out];exact hLa C D x y X (x0.rw.below hX) (y0.rw.below hX)
  have cSl : ∀ X,Below w8.heap.size w8 X → Calls Try.prog 34 #[rwV C x,rwV D y] X fun e w' => e = .returned (.bool LL) ∧ Below X.heap.size X w' := fun X hX => by rw [← hLL.out];exact latS_any C D x y X
  have cIo : ∀ X,Below w8.heap.size w8 X → Calls Try.prog 35 #[rwV E t,.int .i64 m] X fun e w' => e = .returned (.bool OO) ∧ Below X.heap.size X w' := fun X hX => by rw [← hOO.out];exact hRo E t m X (t0.rw.below hX) hm64
  have cSo : ∀ X,Below w8.heap.size w8 X → Calls Try.prog 36 #[rwV E t,.int .i64 m] X fun e w' => e = .returned (.bool OO) ∧ Below X.heap.size X w' := fun X hX => by rw [← hOO.out];exact rowS_any E t m X (t0.rw.below hX).rws
  have cIn : ∀ X,Below w8.heap.size w8 X → Calls Try.prog 38 #[.int .i64 k] X fun e w' => ∃ A',e = .returned (rwV A' (newRw k)) ∧ It w' (rwCels (newRw k)) (rwVals A' (newRw k)) X.heap.size w'.heap.size ∧ Below X.heap.size X w' := fun X hX => (hNr k X hk64).mono (fun e w' h => h.it)
  have cSn : ∀ X,Below w8.heap.size w8 X → Calls Try.prog 39 #[.int .i64 k] X fun e w' => ∃ A',e = .returned (rwV A' (newRw k)) ∧ It w' (rwCels (newRw k)) (rwVals A' (newRw k)) X.heap.size w'.heap.size ∧ Below X.heap.size X w' := fun X hX => (nrwS_any k X).mono (fun e w' h => h.it)
  have cLk : ∀ (X : World) (A1 A2 : Ra) {l1 u1 l2 u2 : Nat},It X (rwCels (newRw k)) (rwVals A1 (newRw k)) l1 u1 → It X (rwCels (newRw k)) (rwVals A2 (newRw k)) l2 u2 → Calls Try.prog 37 #[rwV A1 (newRw k),rwV A2 (newRw k)] X fun e w' => e = .returned (.bool true) ∧ Below X.heap.size X w' := fun X A1 A2 l1 u1 l2 u2 i1 i2 => (likeRw_any A1 A2 (newRw k) X (it_rws i1 hfZ (by omega)) (it_rws i2 hfZ (by omega))).mono (fun e w' h => ⟨h.1,h.2.1⟩)
  generalize newRw k = Z at *
  obtain ⟨O2,hO2⟩ : ∃ Q,Hid (okRw r n = Q) := ⟨_,rfl⟩
  obtain ⟨L2,hL2⟩ : ∃ Q,Hid (decide (x.ver < y.ver) = Q) := ⟨_,rfl⟩
  have hLn : LL = true → L2 = false := fun h => by have h1 := hLL.out;rw [h,decide_eq_true_iff] at h1;rw [← hL2.out];simp;omega
  have dSo : ∀ X,Below w8.heap.size w8 X → Calls Try.prog 36 #[rwV A r,.int .i64 n] X fun e w' => e = .returned (.bool O2) ∧ Below X.heap.size X w' := fun X hX => by rw [← hO2.out];exact rowS_any A r n X (a0.rw.below hX).rws
  have dIf : ∀ X,Below w8.heap.size w8 X → Calls Try.prog 28 #[rwV A r,rwV A r,.int .i64 n] X fun e w' => e = .returned (.bool O2) ∧ Below X.heap.size X w' := fun X hX => by rw [← hO2.out,← fol_self r n];exact hFo A A r r n X (a0.rw.below hX) (a0.rw.below hX) hn64
  have dIl : ∀ X,Below w8.heap.size w8 X → Calls Try.prog 33 #[rwV D y,rwV C x] X fun e w' => e = .returned (.bool L2) ∧ Below X.heap.size X w' := fun X hX => by rw [← hL2.out];exact hLa D C y x X (y0.rw.below hX) (x0.rw.below hX)
  have nQ : (Q != Q) = false := by simp
  have nL : (LL != LL) = false := by simp
  have nO : (OO != OO) = false := by simp
  have n2 : (O2 != O2) = false := by simp
  unfold rwV rwC at *
  have KS : ∀ X,Below w8.heap.size w8 X → ((X.cell? ⟨oa,0,none⟩ = some (.int .i64 r.ver) ∧ X.cell? ⟨oa,1,none⟩ = some (.slice A.ta r.txt.length A.tc) ∧ X.cell? ⟨oa,2,none⟩ = some (.slice A.ga r.got.length A.gc) ∧ X.cell? ⟨oa,3,none⟩ = some (.slice A.sa r.sus.length A.sc)) ∧ X.cell? ⟨oa,4,none⟩ = some (.bool r.wed) ∧ X.cell? ⟨oa,5,none⟩ = some (.bool r.rdy) ∧ X.cell? ⟨oa,6,none⟩ = some (.int .i64 r.by_) ∧ X.cell? ⟨oa,7,none⟩ = some (.slice A.ma r.trm.length A.mc)) ∧ ((X.cell? ⟨ob,0,none⟩ = some (.int .i64 s.ver) ∧ X.cell? ⟨ob,1,none⟩ = some (.slice B.ta s.txt.length B.tc) ∧ X.cell? ⟨ob,2,none⟩ = some (.slice B.ga s.got.length B.gc) ∧ X.cell? ⟨ob,3,none⟩ = some (.slice B.sa s.sus.length B.sc)) ∧ X.cell? ⟨ob,4,none⟩ = some (.bool s.wed) ∧ X.cell? ⟨ob,5,none⟩ = some (.bool s.rdy) ∧ X.cell? ⟨ob,6,none⟩ = some (.int .i64 s.by_) ∧ X.cell? ⟨ob,7,none⟩ = some (.slice B.ma s.trm.length B.mc)) ∧ ((X.cell? ⟨ox,0,none⟩ = some (.int .i64 x.ver) ∧ X.cell? ⟨ox,1,none⟩ = some (.slice C.ta x.txt.length C.tc) ∧ X.cell? ⟨ox,2,none⟩ = some (.slice C.ga x.got.length C.gc) ∧ X.cell? ⟨ox,3,none⟩ = some (.slice C.sa x.sus.length C.sc)) ∧ X.cell? ⟨ox,4,none⟩ = some (.bool x.wed) ∧ X.cell? ⟨ox,5,none⟩ = some (.bool x.rdy) ∧ X.cell? ⟨ox,6,none⟩ = some (.int .i64 x.by_) ∧ X.cell? ⟨ox,7,none⟩ = some (.slice C.ma x.trm.length C.mc)) ∧ ((X.cell? ⟨oy,0,none⟩ = some (.int .i64 y.ver) ∧ X.cell? ⟨oy,1,none⟩ = some (.slice D.ta y.txt.length D.tc) ∧ X.cell? ⟨oy,2,none⟩ = some (.slice D.ga y.got.length D.gc) ∧ X.cell? ⟨oy,3,none⟩ = some (.slice D.sa y.sus.length D.sc)) ∧ X.cell? ⟨oy,4,none⟩ = some (.bool y.wed) ∧ X.cell? ⟨oy,5,none⟩ = some (.bool y.rdy) ∧ X.cell? ⟨oy,6,none⟩ = some (.int .i64 y.by_) ∧ X.cell? ⟨oy,7,none⟩ = some (.slice D.ma y.trm.length D.mc)) ∧ ((X.cell? ⟨ot,0,none⟩ = some (.int .i64 t.ver) ∧ X.cell? ⟨ot,1,none⟩ = some (.slice E.ta t.txt.length E.tc) ∧ X.cell? ⟨ot,2,none⟩ = some (.slice E.ga t.got.length E.gc) ∧ X.cell? ⟨ot,3,none⟩ = some (.slice E.sa t.sus.length E.sc)) ∧ X.cell? ⟨ot,4,none⟩ = some (.bool t.wed) ∧ X.cell? ⟨ot,5,none⟩ = some (.bool t.rdy) ∧ X.cell? ⟨ot,6,none⟩ = some (.int .i64 t.by_) ∧ X.cell? ⟨ot,7,none⟩ = some (.slice E.ma t.trm.length E.mc)) := fun X hX => ⟨Bx.r8 (a0.box.below hX),Bx.r8 (b0.box.below hX),Bx.r8 (x0.box.below hX),Bx.r8 (y0.box.below hX),Bx.r8 (t0.box.below hX)⟩
  have HA0 : Hid (Rb w8 oa A r) := a0
  have HB0 : Hid (Rb w8 ob B s) := b0
  have HBW : Hid (Below w.heap.size w w8) := B_39
  have bd : Below w8.heap.size w8 (w8.drewN 1) := belowN (Below.refl _ _)
  clear a0 b0 x0 y0 t0 hLL hOO hL2 hO2 B_39
  clear hoa hob hox hoy hot hv hx hy ht hr hs hSx hSy hSt hRo hLa hNr
  go_wp2_with fail
  go_region_held3 (fun X => ((X.cell? ⟨oa,0,none⟩ = some (.int .i64 r.ver) ∧ X.cell? ⟨oa,1,none⟩ = some (.slice A.ta r.txt.length A.tc) ∧ X.cell? ⟨oa,2,none⟩ = some (.slice A.ga r.got.length A.gc) ∧ X.cell? ⟨oa,3,none⟩ = some (.slice A.sa r.sus.length A.sc)) ∧ X.cell? ⟨oa,4,none⟩ = some (.bool r.wed) ∧ X.cell? ⟨oa,5,none⟩ = some (.bool r.rdy) ∧ X.cell? ⟨oa,6,none⟩ = some (.int .i64 r.by_) ∧ X.cell? ⟨oa,7,none⟩ = some (.slice A.ma r.trm.length A.mc)) ∧ ((X.cell? ⟨ob,0,none⟩ = some (.int .i64 s.ver) ∧ X.cell? ⟨ob,1,none⟩ = some (.slice B.ta s.txt.length B.tc) ∧ X.cell? ⟨ob,2,none⟩ = some (.slice B.ga s.got.length B.gc) ∧ X.cell? ⟨ob,3,none⟩ = some (.slice B.sa s.sus.length B.sc)) ∧ X.cell? ⟨ob,4,none⟩ = some (.bool s.wed) ∧ X.cell? ⟨ob,5,none⟩ = some (.bool s.rdy) ∧ X.cell? ⟨ob,6,none⟩ = some (.int .i64 s.by_) ∧ X.cell? ⟨ob,7,none⟩ = some (.slice B.ma s.trm.length B.mc)) ∧ ((X.cell? ⟨ox,0,none⟩ = some (.int .i64 x.ver) ∧ X.cell? ⟨ox,1,none⟩ = some (.slice C.ta x.txt.length C.tc) ∧ X.cell? ⟨ox,2,none⟩ = some (.slice C.ga x.got.length C.gc) ∧ X.cell? ⟨ox,3,none⟩ = some (.slice C.sa x.sus.length C.sc)) ∧ X.cell? ⟨ox,4,none⟩ = some (.bool x.wed) ∧ X.cell? ⟨ox,5,none⟩ = some (.bool x.rdy) ∧ X.cell? ⟨ox,6,none⟩ = some (.int .i64 x.by_) ∧ X.cell? ⟨ox,7,none⟩ = some (.slice C.ma x.trm.length C.mc)) ∧ ((X.cell? ⟨oy,0,none⟩ = some (.int .i64 y.ver) ∧ X.cell? ⟨oy,1,none⟩ = some (.slice D.ta y.txt.length D.tc) ∧ X.cell? ⟨oy,2,none⟩ = some (.slice D.ga y.got.length D.gc) ∧ X.cell? ⟨oy,3,none⟩ = some (.slice D.sa y.sus.length D.sc)) ∧ X.cell? ⟨oy,4,none⟩ = some (.bool y.wed) ∧ X.cell? ⟨oy,5,none⟩ = some (.bool y.rdy) ∧ X.cell? ⟨oy,6,none⟩ = some (.int .i64 y.by_) ∧ X.cell? ⟨oy,7,none⟩ = some (.slice D.ma y.trm.length D.mc)) ∧ ((X.cell? ⟨ot,0,none⟩ = some (.int .i64 t.ver) ∧ X.cell? ⟨ot,1,none⟩ = some (.slice E.ta t.txt.length E.tc) ∧ X.cell? ⟨ot,2,none⟩ = some (.slice E.ga t.got.length E.gc) ∧ X.cell? ⟨ot,3,none⟩ = some (.slice E.sa t.sus.length E.sc)) ∧ X.cell? ⟨ot,4,none⟩ = some (.bool t.wed) ∧ X.cell? ⟨ot,5,none⟩ = some (.bool t.rdy) ∧ X.cell? ⟨ot,6,none⟩ = some (.int .i64 t.by_) ∧ X.cell? ⟨ot,7,none⟩ = some (.slice E.ma t.trm.length E.mc)))
   (first | exact KS _ v8 | exact KS _ v7 | exact KS _ v6 | exact KS _ v5 | exact KS _ v4 | exact KS _ v3 | exact KS _ v2 | exact KS _ v1 | exact KS _ bd)
   (first
    | (go_at_call 32;refine (cSf _ bd).mono ?_;rintro e y1 ⟨rfl,hb1⟩;have v1 : Below w8.heap.size w8 y1 := bd.trans (hb1.mono bd.size))
    | (go_at_call 33;refine (cIl _ v1).mono ?_;rintro e y2 ⟨rfl,hb2⟩;have v2 : Below w8.heap.size w8 y2 := v1.trans (hb2.mono v1.size))
    | (go_at_call 34;refine (cSl _ v2).mono ?_;rintro e y3 ⟨rfl,hb3⟩;have v3 : Below w8.heap.size w8 y3 := v2.trans (hb3.mono v2.size))
    | (go_at_call 35;refine (cIo _ v3).mono ?_;rintro e y4 ⟨rfl,hb4⟩;have v4 : Below w8.heap.size w8 y4 := v3.trans (hb4.mono v3.size))
    | (go_at_call 36;refine (cSo _ v4).mono ?_;rintro e y5 ⟨rfl,hb5⟩;have v5 : Below w8.heap.size w8 y5 := v4.trans (hb5.mono v4.size))
    | (go_at_call 38;refine (cIn _ v5).mono ?_;rintro e y6 ⟨G1,rfl,i6,hb6⟩;have v6 : Below w8.heap.size w8 y6 := v5.trans (hb6.mono v5.size))
    | (go_at_call 39;refine (cSn _ v6).mono ?_;rintro e y7 ⟨G2,rfl,i7,hb7⟩;have v7 : Below w8.heap.size w8 y7 := v6.trans (hb7.mono v6.size);have i6b := i6.below hb7)
    | (go_at_call 37;refine (cLk _ _ _ i6b i7).mono ?_;rintro e y8 ⟨rfl,hb8⟩;have v8 : Below w8.heap.size w8 y8 := v7.trans (hb8.mono v7.size)))
  clear cSf cSl cIo cSo cIn cSn cLk i6 i7 i6b hb1 hb2 hb3 hb4 hb5 hb6 hb7 hb8 v1 v2 v3 v4 v5 v6 v7 bd
  go_upto_region 10 with fail
  have bd : Below w8.heap.size w8 (y8.drewN 1) := belowN v8
  go_cut [86] from 69 to 86 (fun s86 wx => s86 = .bool false ∧ Below w8.heap.size w8 wx)
  case first =>
   have hQB : ∀ q : Bk y8,Below w8.heap.size w8 q.w := fun q => v8.trans (q.h.mono v8.size)
   have ea0 : ∀ q : Bk y8,q.w.cell? ⟨oa,0,none⟩ = some (.int .i64 r.ver) := fun q => (KS q.w (hQB q)).1.1.1
   have ea1 : ∀ q : Bk y8,q.w.cell? ⟨oa,1,none⟩ = some (.slice A.ta r.txt.length A.tc) := fun q => (KS q.w (hQB q)).1.1.2.1
   have ea2 : ∀ q : Bk y8,q.w.cell? ⟨oa,2,none⟩ = some (.slice A.ga r.got.length A.gc) := fun q => (KS q.w (hQB q)).1.1.2.2.1
   have ea3 : ∀ q : Bk y8,q.w.cell? ⟨oa,3,none⟩ = some (.slice A.sa r.sus.length A.sc) := fun q => (KS q.w (hQB q)).1.1.2.2.2
   have ea4 : ∀ q : Bk y8,q.w.cell? ⟨oa,4,none⟩ = some (.bool r.wed) := fun q => (KS q.w (hQB q)).1.2.1
   have ea5 : ∀ q : Bk y8,q.w.cell? ⟨oa,5,none⟩ = some (.bool r.rdy) := fun q => (KS q.w (hQB q)).1.2.2.1
   have ea6 : ∀ q : Bk y8,q.w.cell? ⟨oa,6,none⟩ = some (.int .i64 r.by_) := fun q => (KS q.w (hQB q)).1.2.2.2.1
   have ea7 : ∀ q : Bk y8,q.w.cell? ⟨oa,7,none⟩ = some (.slice A.ma r.trm.length A.mc) := fun q => (KS q.w (hQB q)).1.2.2.2.2
   have ex0 : ∀ q : Bk y8,q.w.cell? ⟨ox,0,none⟩ = some (.int .i64 x.ver) := fun q => (KS q.w (hQB q)).2.2.1.1.1
   have ex1 : ∀ q : Bk y8,q.w.cell? ⟨ox,1,none⟩ = some (.slice C.ta x.txt.length C.tc) := fun q => (KS q.w (hQB q)).2.2.1.1.2.1
   have ex2 : ∀ q : Bk y8,q.w.cell? ⟨ox,2,none⟩ = some (.slice C.ga x.got.length C.gc) := fun q => (KS q.w (hQB q)).2.2.1.1.2.2.1
   have ex3 : ∀ q : Bk y8,q.w.cell? ⟨ox,3,none⟩ = some (.slice C.sa x.sus.length C.sc) := fun q => (KS q.w (hQB q)).2.2.1.1.2.2.2
   have ex4 : ∀ q : Bk y8,q.w.cell? ⟨ox,4,none⟩ = some (.bool x.wed) := fun q => (KS q.w (hQB q)).2.2.1.2.1
   have ex5 : ∀ q : Bk y8,q.w.cell? ⟨ox,5,none⟩ = some (.bool x.rdy) := fun q => (KS q.w (hQB q)).2.2.1.2.2.1
   have ex6 : ∀ q : Bk y8,q.w.cell? ⟨ox,6,none⟩ = some (.int .i64 x.by_) := fun q => (KS q.w (hQB q)).2.2.1.2.2.2.1
   have ex7 : ∀ q : Bk y8,q.w.cell? ⟨ox,7,none⟩ = some (.slice C.ma x.trm.length C.mc) := fun q => (KS q.w (hQB q)).2.2.1.2.2.2.2
   have ey0 : ∀ q : Bk y8,q.w.cell? ⟨oy,0,none⟩ = some (.int .i64 y.ver) := fun q => (KS q.w (hQB q)).2.2.2.1.1.1
   have ey1 : ∀ q : Bk y8,q.w.cell? ⟨oy,1,none⟩ = some (.slice D.ta y.txt.length D.tc) := fun q => (KS q.w (hQB q)).2.2.2.1.1.2.1
   have ey2 : ∀ q : Bk y8,q.w.cell? ⟨oy,2,none⟩ = some (.slice D.ga y.got.length D.gc) := fun q => (KS q.w (hQB q)).2.2.2.1.1.2.2.1
   have ey3 : ∀ q : Bk y8,q.w.cell? ⟨oy,3,none⟩ = some (.slice D.sa y.sus.length D.sc) := fun q => (KS q.w (hQB q)).2.2.2.1.1.2.2.2
   have ey4 : ∀ q : Bk y8,q.w.cell? ⟨oy,4,none⟩ = some (.bool y.wed) := fun q => (KS q.w (hQB q)).2.2.2.1.2.1
   have ey5 : ∀ q : Bk y8,q.w.cell? ⟨oy,5,none⟩ = some (.bool y.rdy) := fun q => (KS q.w (hQB q)).2.2.2.1.2.2.1
   have ey6 : ∀ q : Bk y8,q.w.cell? ⟨oy,6,none⟩ = some (.int .i64 y.by_) := fun q => (KS q.w (hQB q)).2.2.2.1.2.2.2.1
   have ey7 : ∀ q : Bk y8,q.w.cell? ⟨oy,7,none⟩ = some (.slice D.ma y.trm.length D.mc) := fun q => (KS q.w (hQB q)).2.2.2.1.2.2.2.2
   have jSo := fun q : Bk y8 => dSo q.w (hQB q)
   have jIf := fun q : Bk y8 => dIf q.w (hQB q)
   have jIl := fun q : Bk y8 => cIl q.w (hQB q)
   have jIm := fun q : Bk y8 => dIl q.w (hQB q)
   clear KS dSo dIf cIl dIl
   cases LL with
   | false =>
    refine wp_region_bk (by kernel_rfl) (by kernel_rfl) ?_
    repeat (go_big_quiet_step ((first | rfl | (go_at_call 36;exact bk_call _ (jSo _)) | (go_at_call 28;exact bk_call _ (jIf _)) | (go_at_call 33;first | exact bk_call _ (jIl _) | exact bk_call _ (jIm _)))))
    refine wpQuiet_nil ?_
    intro wE hw'
    obtain ⟨⟨w11,hb11⟩,hw''⟩ := hw'
    have hwe : wE = w11 := hw''
    clear hw''
    subst hwe
    try go_wp2_with fail
    go_meet
    exact ⟨rfl,v8.trans (hb11.mono v8.size)⟩
   | true =>
    obtain rfl : L2 = false := hLn rfl
    refine wp_region_bk (by kernel_rfl) (by kernel_rfl) ?_
    repeat (go_big_quiet_step ((first | rfl | (go_at_call 36;exact bk_call _ (jSo _)) | (go_at_call 28;exact bk_call _ (jIf _)) | (go_at_call 33;first | exact bk_call _ (jIl _) | exact bk_call _ (jIm _)))))
    refine wpQuiet_nil ?_
    intro wE hw'
    obtain ⟨⟨w11,hb11⟩,hw''⟩ := hw'
    have hwe : wE = w11 := hw''
    clear hw''
    subst hwe
    try go_wp2_with fail
    go_meet
    exact ⟨rfl,v8.trans (hb11.mono v8.size)⟩
  case rest =>
   obtain ⟨rfl,hBc⟩ := hcut
   clear KS dSo dIf dIl cIl bd v8
   generalize wc = V at *
   have ra := HA0.out.below hBc
   have rb := HB0.out.below hBc
   have bV : Below w.heap.size w V := HBW.out.trans (hBc.mono HBW.out.size)
   clear hBc HA0 HB0 HBW
   cases Q with
   | false =>
    have HE : Hid (Below w.heap.size w V) := bV
    clear ra rb bV
    go_wp2
    go_ret
    exact ⟨rfl,HE.out⟩
   | true =>
    obtain ⟨i0,hi0,hz0,hz1,hz2⟩ := info_parts9 Try.info9
    have hobl : ob < V.heap.size := rb.box.lt
    have hoal : oa < V.heap.size := ra.box.lt
    obtain ⟨⟨c0,c1,c2,c3⟩,c4,c5,c6,c7⟩ := Bx.r8 rb.box
    go_upto_region 15 with fail
    clear c0 c1 c2 c3 c4 c5 c6 c7
    have hbC := oneA16 V (.cells #[.int .i64 s.ver,.slice B.ta s.txt.length B.tc,.slice B.ga s.got.length B.gc,.slice B.sa s.sus.length B.sc,.bool s.wed,.bool s.rdy,.int .i64 s.by_,.slice B.ma s.trm.length B.mc] 35)
    have BC := Bx.new V 35 #[.int .i64 s.ver,.slice B.ta s.txt.length B.tc,.slice B.ga s.got.length B.gc,.slice B.sa s.sus.length B.sc,.bool s.wed,.bool s.rdy,.int .i64 s.by_,.slice B.ma s.trm.length B.mc]
    generalize hV1 : V.alloc (.cells #[.int .i64 s.ver,.slice B.ta s.txt.length B.tc,.slice B.ga s.got.length B.gc,.slice B.sa s.sus.length B.sc,.bool s.wed,.bool s.rdy,.int .i64 s.by_,.slice B.ma s.trm.length B.mc] 35) = V1 at *
    have hoc : V.heap.size < V1.heap.size := BC.lt
    have ra1 := ra.below hbC
    have rb1 := rb.below hbC
    have hA1 : ∀ Z,Same Z (V1.alloc (.cells #[] 9)) → ∃ v' w4,(Builtin.append_ #[33,33] 33 #[.slice (some ⟨V1.heap.size,0,none⟩) 0 0,.slice B.ta s.txt.length B.tc]).run Try.prog Z = .ok v' w4 ∧ ∃ a' c' f,v' = .slice a' s.txt.length c' ∧ Cel.ow w4 (scl s.txt) (.slice a' s.txt.length c') f ∧ (∀ b,f b → V1.heap.size ≤ b) ∧ Below V1.heap.size V1 w4 := by
     intro Z hZ
     have hbZ : Below V1.heap.size V1 Z := (oneA16 V1 _).trans (hZ.below.mono (oneA16 V1 _).size)
     obtain ⟨a6,c6,w6,fp6,hr6,ho6,hw6,hf6⟩ := txs_copied (P := Try.prog) (w := Z) 33 33 9 i0 Try.underlying33 hi0 hz0 hz1 hz2 (plainS V1.heap.size 0) (x := B.ta) (c := B.tc) (rb1.rw.txt.txs.below hbZ) (by have := hSs.tl;omega)
     exact ⟨_,w6,hr6,a6,c6,fp6,rfl,ho6,fun b hb => by have := hf6 b hb;have := hbZ.size;omega,hw6.below hbZ hbZ.size (fun b h => absurd h id)⟩
    have hA2 : ∀ (w4 : World) (a' : Option Addr) (c' : Nat) (f : Fp),Cel.ow w4 (scl s.txt) (.slice a' s.txt.length c') f → (∀ b,f b → V1.heap.size ≤ b) → Below V1.heap.size V1 w4 → ∀ Z,Same Z (w4.alloc (.cells #[.string ⟨#[116]⟩] 9)) → ∃ v' w5,(Builtin.append_ #[33,33] 33 #[.slice a' s.txt.length c',.slice (some ⟨w4.heap.size,0,none⟩) 1 1]).run Try.prog Z = .ok v' w5 ∧ ∃ a2 c2 f2,v' = .slice a2 (s.txt.length + 1) c2 ∧ Cel.ow w5 (scl (s.txt ++ [[116]])) (.slice a2 (s.txt.length + 1) c2) f2 ∧ (∀ b,f2 b → V1.heap.size ≤ b) ∧ Below V1.heap.size V1 w5 := by
     intro w4 a' c' f ho hf hb4 Z hZ
     have hbZ : Below w4.heap.size w4 Z := (oneA16 w4 _).trans (hZ.below.mono (oneA16 w4 _).size)
     have ho4 := Cel.ow_below ho hbZ
     obtain ⟨ta',tc',G,e,hO,hG⟩ := ow_scl.1 ho4
     cases e
     have hnew : Z.heap[w4.heap.size]? = some (.cells #[.string (sv [116])] 9) := by rw [hZ.heap,← one_sv];exact heap_alloc_new w4 _
     obtain ⟨a6,c6,G6,w6,hr6,ho6,hg6,hat⟩ := run_append_oo (P := Try.prog) Z 33 33 9 i0 _ 1 16 Try.underlying33 hi0 hz0 hz1 hz2 rfl (by omega) a' s.txt.length c' (svs s.txt) G hO (some ⟨w4.heap.size,0,none⟩) 1 1 [.string (sv [116])] rfl (.inr ⟨_,rfl,World.news_of_block (cs := #[.string (sv [116])]) (t := 9) (fr := (0,0)) hnew⟩) (by simp [Value.oneCell']) (by have := hSs.tl;unfold maxLen;omega) (by have := hSs.tl;omega)
     have hl4 := hb4.size
     have hlZ := hbZ.size
     refine ⟨_,w6,hr6,a6,c6,fun b => G6 = some b,rfl,ow_scl.2 ⟨a6,c6,G6,by simp,by rw [svs_app,List.length_append];exact ho6,fun b => Iff.rfl⟩,fun b hb => ?_,(Wrt.of_grown hg6).below (hb4.trans (hbZ.mono hl4)) (by omega) (fun b hb => hf b ((hG b).2 hb))⟩
     rcases hat with e | e
     ·exact hf b ((hG b).2 (e ▸ hb))
     ·rw [e] at hb;cases hb;omega
    have HRA : Hid (Rb V oa A r) := ra
    have HRB : Hid (Rb V ob B s) := rb
    have HB1 : Hid (Rb V1 ob B s) := rb1
    have HA1 : Hid (Rb V1 oa A r) := ra1
    have HBC : Hid (Bx V1 V.heap.size 35 #[.int .i64 s.ver,.slice B.ta s.txt.length B.tc,.slice B.ga s.got.length B.gc,.slice B.sa s.sus.length B.sc,.bool s.wed,.bool s.rdy,.int .i64 s.by_,.slice B.ma s.trm.length B.mc]) := BC
    have HBV : Hid (Below w.heap.size w V ∧ Below V.heap.size V V1) := ⟨bV,hbC⟩
    have x1 := (Bx.r8 rb1.box).1.2.1
    have x2 := (Bx.r8 (rb1.below (oneA16 V1 (.cells #[] 9))).box).1.2.1
    have HSs : Hid (SmW s) := hSs
    have hoc2 : V.heap.size < V1.heap.size := hoc
    clear ra rb ra1 rb1 BC hbC bV hSs hSr
    go_upto_region 16 with (first | (at_builtin;refine wpList_append_of (by rfl) _ _ _ _ (by rfl) _ _ (by rfl) (by rfl) (hA2 w4 a4 c4 f4 ho4 hf4 hb4) ⟨rfl,rfl,rfl,rfl⟩ ?_;rintro v5 w5 ⟨a5,c5,f5,rfl,ho5,hf5,hb5⟩;have B5 := HBC.out.below hb5;have y1 := (Bx.r8 B5).1.2.1;have y2 := B5.f 1;clear hb4 ho4 hf4) | (at_builtin;refine wpList_append_of (by rfl) _ _ _ _ (by rfl) _ _ (by rfl) (by rfl) hA1 ⟨rfl,rfl,rfl,rfl⟩ ?_;rintro v4 w4 ⟨a4,c4,f4,rfl,ho4,hf4,hb4⟩))
    have hbU : Below V.heap.size V w5 := HBV.out.2.trans (hb5.mono HBV.out.2.size)
    have hbU1 : Below V.heap.size V (w5.setCell ⟨V.heap.size,1,none⟩ (.slice a5 (s.txt.length + 1) c5)) := hbU.setCell (p := ⟨V.heap.size,1,none⟩) (Nat.le_refl _) _
    have hbU2 : Below V.heap.size V ((w5.setCell ⟨V.heap.size,1,none⟩ (.slice a5 (s.txt.length + 1) c5)).setCell ⟨V.heap.size,0,none⟩ (.int .i64 (s.ver + 1))) := hbU1.setCell (p := ⟨V.heap.size,0,none⟩) (Nat.le_refl _) _
    have rbU := (HB1.out.below hb5).box.far (i := 1) (g := V.heap.size) (by omega) (.slice a5 (s.txt.length + 1) c5)
    have B6 := B5.setC 1 (.slice a5 (s.txt.length + 1) c5)
    have z1 := (Bx.r8 rbU).1.1
    have z2 : (w5.setCell ⟨V.heap.size,1,none⟩ (.slice a5 (s.txt.length + 1) c5)).cell? ⟨V.heap.size,0,none⟩ = some (.int .i64 s.ver) := B6.at 0 (by simp)
    have z3 := B6.f 0
    have B7 : Bx ((w5.setCell ⟨V.heap.size,1,none⟩ (.slice a5 (s.txt.length + 1) c5)).setCell ⟨V.heap.size,0,none⟩ (.int .i64 (s.ver + 1))) V.heap.size 35 #[.int .i64 (s.ver + 1),.slice a5 (s.txt.length + 1) c5,.slice B.ga s.got.length B.gc,.slice B.sa s.sus.length B.sc,.bool s.wed,.bool s.rdy,.int .i64 s.by_,.slice B.ma s.trm.length B.mc] := by simpa using B6.setC 0 (.int .i64 (s.ver + 1))
    have rb7 : Bx ((w5.setCell ⟨V.heap.size,1,none⟩ (.slice a5 (s.txt.length + 1) c5)).setCell ⟨V.heap.size,0,none⟩ (.int .i64 (s.ver + 1))) ob 35 _ := rbU.far (i := 0) (g := V.heap.size) (by omega) (.int .i64 (s.ver + 1))
    have ra7 : Bx ((w5.setCell ⟨V.heap.size,1,none⟩ (.slice a5 (s.txt.length + 1) c5)).setCell ⟨V.heap.size,0,none⟩ (.int .i64 (s.ver + 1))) oa 35 _ := ((HA1.out.below hb5).box.far (i := 1) (g := V.heap.size) (by omega) (.slice a5 (s.txt.length + 1) c5)).far (i := 0) (g := V.heap.size) (by omega) (.int .i64 (s.ver + 1))
    have o7 : Cel.ow ((w5.setCell ⟨V.heap.size,1,none⟩ (.slice a5 (s.txt.length + 1) c5)).setCell ⟨V.heap.size,0,none⟩ (.int .i64 (s.ver + 1))) (scl (s.txt ++ [[116]])) (.slice a5 (s.txt.length + 1) c5) f5 := Cel.ow_wrt (Cel.ow_wrt ho5 (Wrt.set w5 V.heap.size 1 _) (fun b hb e => by have := hf5 b hb;omega)) (Wrt.set _ V.heap.size 0 _) (fun b hb e => by have := hf5 b hb;omega)
    have eL : (s.txt ++ [[116]]).length = s.txt.length + 1 := by simp
    have hver := HSs.out.ver
    have w1b : s.ver + 1 ≤ 9223372036854775807 := by omega
    have w2b : -9223372036854775808 ≤ s.ver + 1 := by omega
    have hsz : szRw { s with ver := s.ver + 1,txt := s.txt ++ [[116]] } ≤ 1048576 := by
     have h1 := totS_le (snoc_short (s := [116]) HSs.out.ts (by simp)) (s.txt ++ [[116]]).length (Nat.le_refl _)
     have h2 := HSs.out.tl
     have h3 := HSs.out.gl
     have h4 := HSs.out.sl
     have h5 := HSs.out.ml
     have h6 : (s.txt ++ [[116]]).length * 21 ≤ 26 * 21 := Nat.mul_le_mul_right 21 (by rw [eL];omega)
     unfold szRw
     simp only
     omega
    generalize hU2 : (w5.setCell ⟨V.heap.size,1,none⟩ (.slice a5 (s.txt.length + 1) c5)).setCell ⟨V.heap.size,0,none⟩ (.int .i64 (s.ver + 1)) = U2 at *
    skip
    have HC7 : Hid (RwP U2 { B with ta := a5,tc := c5 } { s with ver := s.ver + 1,txt := s.txt ++ [[116]] }) := by
     have hq := HRB.out.rw.below hbU2
     exact ⟨ow_txp (by rw [eL];exact o7),hq.got,hq.sus,hq.trm,⟨⟨by simp only;omega,by simp only;omega⟩,HSs.out.i64.2⟩,hsz⟩
    have HRA7 : Hid (RwP U2 A r) := HRA.out.rw.below hbU2
    have HRB7 : Hid (RwP U2 B s) := HRB.out.rw.below hbU2
    obtain ⟨Q1,hQ1⟩ : ∃ q,Hid (folB s { s with ver := s.ver + 1,txt := s.txt ++ [[116]] } n = q) := ⟨_,rfl⟩
    have hF1 := hFo B { B with ta := a5,tc := c5 } s { s with ver := s.ver + 1,txt := s.txt ++ [[116]] } n U2 HRB7.out HC7.out hn64
    rw [hQ1.out] at hF1
    have hF2 : Q1 = true → ∀ X,Below U2.heap.size U2 X → Calls Try.prog 28 #[rwV A r,rwV { B with ta := a5,tc := c5 } { s with ver := s.ver + 1,txt := s.txt ++ [[116]] },.int .i64 n] X fun e w' => e = .returned (.bool true) ∧ Below X.heap.size X w' := fun h X hX => by
     have := hFo A { B with ta := a5,tc := c5 } r { s with ver := s.ver + 1,txt := s.txt ++ [[116]] } n X (HRA7.out.below hX) (HC7.out.below hX) hn64
     rw [fol_trans (a := r) (b := s) hQ.out (by rw [hQ1.out];exact h)] at this
     exact this
    unfold rwV rwC at hF1 hF2
    simp only [eL] at hF1 hF2
    have HBE : Hid (Below w.heap.size w U2) := HBV.out.1.trans (hbU2.mono HBV.out.1.size)
    obtain ⟨⟨p0,p1,p2,p3⟩,p4,p5,p6,p7⟩ := Bx.r8 rb7
    obtain ⟨⟨q0,q1,q2,q3⟩,q4,q5,q6,q7⟩ := Bx.r8 B7
    skip
    have HKa : Hid (Bx U2 oa 35 #[.int .i64 r.ver,.slice A.ta r.txt.length A.tc,.slice A.ga r.got.length A.gc,.slice A.sa r.sus.length A.sc,.bool r.wed,.bool r.rdy,.int .i64 r.by_,.slice A.ma r.trm.length A.mc]) := ra7
    have HKc : Hid (Bx U2 V.heap.size 35 #[.int .i64 (s.ver + 1),.slice a5 (s.txt.length + 1) c5,.slice B.ga s.got.length B.gc,.slice B.sa s.sus.length B.sc,.bool s.wed,.bool s.rdy,.int .i64 s.by_,.slice B.ma s.trm.length B.mc]) := B7
    clear hbU hbU1 hbU2 rbU B5 B6 B7 rb7 ra7 o7 hsz HC7 HRA7 HRB7 hb5 ho5 hf5 y1 y2 hA1 hA2 HB1 HA1 HBC HBV HRA HRB hver x1 x2 eL
    go_wp2_with fail
    refine hF1.mono ?_
    rintro e U3 ⟨rfl,hb9⟩
    have HB9 : Hid (Below U2.heap.size U2 U3) := hb9
    clear hF1 p0 p1 p2 p3 p4 p5 p6 p7 q0 q1 q2 q3 q4 q5 q6 q7 hb9 z1 z2 z3
    cases Q1 with
    | false =>
     go_wp2
     go_ret
     exact ⟨rfl,HBE.out.trans (HB9.out.mono HBE.out.size)⟩
    | true =>
     have hF3 := hF2 rfl U3 HB9.out
     obtain ⟨⟨p0,p1,p2,p3⟩,p4,p5,p6,p7⟩ := Bx.r8 (HKa.out.below HB9.out)
     obtain ⟨⟨q0,q1,q2,q3⟩,q4,q5,q6,q7⟩ := Bx.r8 (HKc.out.below HB9.out)
     clear hF2 HKa HKc
     go_wp2_with fail
     refine hF3.mono ?_
     rintro e U4 ⟨rfl,hb10⟩
     have HB10 : Hid (Below w.heap.size w U4) := (HBE.out.trans (HB9.out.mono HBE.out.size)).trans (hb10.mono (HBE.out.trans (HB9.out.mono HBE.out.size)).size)
     clear hF3 hb10 p0 p1 p2 p3 p4 p5 p6 p7 q0 q1 q2 q3 q4 q5 q6 q7
     go_wp2
     go_ret
     exact ⟨rfl,HB10.out⟩
end Go.Proofs.Ytlnmdfgcpfbleaa
namespace Go.Proofs.Ytlnmdfgcpfbleaa
set_option linter.unusedSimpArgs false
set_option linter.unusedVariables false
open Go.RowKit
theorem IsRow.bvec {w : World} {a : Option Addr} {len cap : Nat} {zs : List Int} (h : IsRow .u8 w a len cap zs) : BVec w a len (fun i => zs.getD i 0) := by
 rcases h with ⟨rfl,rfl,rfl,rfl⟩ | ⟨x,rfl,hl,hm,hz,hcell,hwz⟩
 ·exact ⟨fun i hi => absurd hi (Nat.not_lt_zero _),.inl rfl⟩
 ·refine ⟨fun i hi => ?_, ?_⟩
  ·have := bounds_u8 (hwz (zs.getD i 0) (by
    have hi' : i < zs.length := by omega
    simp [hi']))
   omega
  ·by_cases h0 : len = 0
   ·exact .inl h0
   ·obtain ⟨b,off,spot⟩ := x
    have hc := hcell 0 (by omega)
    have hspot : spot = none := by simpa [Addr.add] using World.cell?_spot hc
    subst hspot
    refine .inr ⟨b,off,rfl,fun i hi => ?_⟩
    have := hcell i (by omega)
    by_cases hi0 : i = 0
    ·subst hi0;simpa [Addr.add] using this
    ·simpa [Addr.add,hi0] using this
end Go.Proofs.Ytlnmdfgcpfbleaa
namespace Go.Proofs.Ytlnmdfgcpfbleaa
set_option linter.unusedVariables false
set_option linter.unusedSimpArgs false
open Go.RowKit Go.Sort
set_option maxHeartbeats 400000 in
theorem isW14_any (n last : Int) (w : World) : Calls Try.prog 114 #[.int .i64 n,.int .i64 last] w fun e w' => e = .returned (.bool (inB n 0 last)) ∧ w' = w := by
 by_cases h0 : (0 : Int) ≤ n
 ·have H : Hid (inB n 0 last = decide (n ≤ last)) := by rw [Hid,inB];simp [h0]
  go_enter Try.func114,Try.ntmps114
  go_wp2
  go_ret
  exact ⟨ret_bool (by rw [H.out]),rfl⟩
 ·have H : Hid (inB n 0 last = false) := by rw [Hid,inB];simp [h0]
  go_enter Try.func114,Try.ntmps114
  go_wp2
  go_ret
  exact ⟨ret_bool (by rw [H.out]),rfl⟩
set_option maxHeartbeats 800000 in
theorem rw14_any (a : Option Addr) (len cap : Nat) (B : Int) (xs : List Int) (w : World) (hv : Vec w a len xs) (hm : len ≤ maxLen) :
  Calls Try.prog 117 #[.slice a len cap,.int .i64 (B - 1)] w fun e w' => e = .returned (.bool (decide (okRow B xs))) ∧ w' = w := by
 unfold maxLen at hm
 have HL : Hid (xs.length = len) := hv.1
 have hc := hv.2.2
 clear hv
 go_enter Try.func117,Try.ntmps117
 go_wp2
 go_loop [9] (fun i => ∃ k : Nat,k ≤ len ∧ i = .int .i64 k ∧ (∀ j,j < k → 0 ≤ el xs j ∧ el xs j ≤ B - 1) ∧ ∀ j,j + 1 < k → el xs j < el xs (j + 1)) (fun i => len - (intOf i).toNat)
 case atStart => exact ⟨0,Nat.zero_le _,rfl,fun j hj => by omega,fun j hj => by omega⟩
 case round =>
  obtain ⟨k,hk,rfl,hin,hri⟩ := hrel
  have HI : Hid (∀ j,j < k → 0 ≤ el xs j ∧ el xs j ≤ B - 1) := hin
  have HR : Hid (∀ j,j + 1 < k → el xs j < el xs (j + 1)) := hri
  clear hin hri
  by_cases hlt : k < len
  ·rcases hc with h0 | ⟨b,off,rfl,hc⟩
   ·omega
   have hck := hc k hlt
   have k0 : (0 : Int) ≤ (k : Int) := by omega
   have k1 : (k : Int) < (len : Int) := by omega
   cases e4 : inB (el xs k) 0 (B - 1) with
   | false =>
    have HF : Hid (decide (okRow B xs) = false) := decide_eq_false (fun h => by
     have := h.1 k (by rw [HL.out];exact hlt)
     rw [inB7.2 this] at e4
     cases e4)
    go_wp2_with (go_at_call 114;refine (isW14_any _ _ _).mono ?_;rintro e w' ⟨rfl,hw'⟩;rw [hw'];clear hw')
    go_ret
    exact ⟨ret_bool (by rw [HF.out]),rfl⟩
   | true =>
    have HX : Hid (0 ≤ el xs k ∧ el xs k ≤ B - 1) := inB7.1 e4
    by_cases hk0 : 0 < k
    ·obtain ⟨q,rfl⟩ : ∃ q,k = q + 1 := ⟨k - 1,by omega⟩
     have hcq := hc q (by omega)
     have hg : decide (((q + 1 : Nat) : Int) > 0) = true := decide_eq_true (by omega)
     have g0 : (0 : Int) < ((q + 1 : Nat) : Int) := by omega
     have hq : wrap64 (((q + 1 : Nat) : Int) - 1) = (q : Int) := by unfold wrap64;omega
     have q0 : (0 : Int) ≤ (q : Int) := by omega
     have q1 : (q : Int) < (len : Int) := by omega
     by_cases hx : el xs q < el xs (q + 1)
     ·have hd : decide (el xs (q + 1) ≤ el xs q) = false := by simp;omega
      have HY : Hid (el xs q < el xs (q + 1)) := hx
      clear hx
      go_wp2_with (go_at_call 114;refine (isW14_any _ _ _).mono ?_;rintro e w' ⟨rfl,hw'⟩;rw [hw'];clear hw')
      go_round
      case rel => exact ⟨q + 1 + 1,by omega,by go_num,fun j hj => by
       rcases Nat.lt_succ_iff_lt_or_eq.1 hj with h | h
       ·exact HI.out j h
       ·rw [h];exact HX.out,fun j hj => by
       rcases Nat.lt_succ_iff_lt_or_eq.1 hj with h | h
       ·exact HR.out j h
       ·have : j = q := by omega
        rw [this];exact HY.out⟩
      case measure => simp [intOf];omega
     ·have hd : decide (el xs (q + 1) ≤ el xs q) = true := by simp;omega
      have HF : Hid (decide (okRow B xs) = false) := decide_eq_false (fun h => hx (h.2 q (by rw [HL.out];omega)))
      clear hx
      go_wp2_with (go_at_call 114;refine (isW14_any _ _ _).mono ?_;rintro e w' ⟨rfl,hw'⟩;rw [hw'];clear hw')
      go_ret
      exact ⟨ret_bool (by rw [HF.out]),rfl⟩
    ·obtain rfl : k = 0 := by omega
     rw [Nat.add_zero] at hck
     go_wp2_with (go_at_call 114;refine (isW14_any _ _ _).mono ?_;rintro e w' ⟨rfl,hw'⟩;rw [hw'];clear hw')
     go_round
     case rel => exact ⟨1,by omega,by go_num,fun j hj => by
      obtain rfl : j = 0 := by omega
      exact HX.out,fun j hj => by omega⟩
     case measure => simp [intOf];omega
  ·have hkl : k = len := by omega
   have HF : Hid (decide (okRow B xs) = true) := decide_eq_true ⟨fun j hj => HI.out j (by rw [HL.out] at hj;omega),fun j hj => HR.out j (by rw [HL.out] at hj;omega)⟩
   subst hkl
   clear hc
   go_wp2
   go_ret
   exact ⟨ret_bool (by rw [HF.out]),rfl⟩
def IsIdx (xs : List Int) (x z : Int) : Prop := (∃ k : Nat,k < xs.length ∧ z = (k : Int) ∧ el xs k = x ∧ ∀ j,j < k → el xs j ≠ x) ∨ (z = -1 ∧ ∀ j,j < xs.length → el xs j ≠ x)
theorem IsIdx.mem {xs : List Int} {x z : Int} (h : IsIdx xs x z) : decide (0 ≤ z) = decide (x ∈ xs) := by
 rcases h with ⟨k,hk,rfl,rfl,_⟩ | ⟨rfl,h⟩
 ·rw [decide_eq_true (el_in hk),decide_eq_true (by omega)]
 ·rw [decide_eq_false (by omega),decide_eq_false (fun hx => by obtain ⟨i,hi,e⟩ := el_of hx;exact h i hi e)]
set_option maxHeartbeats 800000 in
theorem idx14_any (a : Option Addr) (cap : Nat) (xs : List Int) (x : Int) (w : World) (hv : Vec w a xs.length xs) (hm : xs.length ≤ maxLen) :
  Calls Try.prog 146 #[.slice a xs.length cap,.int .i64 x] w fun e w' => (∃ z : Int,e = .returned (.int .i64 z) ∧ IsIdx xs x z) ∧ w' = w := by
 unfold maxLen at hm
 have hc := hv.2.2
 clear hv
 go_enter Try.func146,Try.ntmps146
 go_wp2
 go_loop [8] (fun i => ∃ k : Nat,k ≤ xs.length ∧ i = .int .i64 k ∧ ∀ j,j < k → el xs j ≠ x) (fun i => xs.length - (intOf i).toNat)
 case atStart => exact ⟨0,Nat.zero_le _,rfl,fun j hj => by omega⟩
 case round =>
  obtain ⟨k,hk,rfl,hall⟩ := hrel
  have HA : Hid (∀ j,j < k → el xs j ≠ x) := hall
  clear hall
  by_cases hlt : k < xs.length
  ·rcases hc with h0 | ⟨b,off,rfl,hc⟩
   ·omega
   have hck := hc k hlt
   clear hc
   have k0 : (0 : Int) ≤ (k : Int) := by omega
   have k1 : (k : Int) < (xs.length : Int) := by omega
   by_cases hx : el xs k = x
   ·have HX : Hid (IsIdx xs x (k : Int)) := .inl ⟨k,hlt,rfl,hx,HA.out⟩
    have hq : (x == el xs k) = true := by simp [hx]
    clear hx
    generalize el xs k = E at *
    go_wp2
    go_ret
    exact ⟨⟨_,rfl,HX.out⟩,rfl⟩
   ·have HX : Hid (∀ j,j < k + 1 → el xs j ≠ x) := fun j hj => by
     by_cases e : j = k
     ·rw [e];exact hx
     ·exact HA.out j (by omega)
    have hq : (x == el xs k) = false := by simp [Ne.symm hx]
    clear hx
    generalize el xs k = E at *
    go_wp2
    go_round
    case rel => exact ⟨k + 1,by omega,by go_num,HX.out⟩
    case measure => simp [intOf];omega
  ·have k1 : ¬ ((k : Int) < (xs.length : Int)) := by omega
   obtain rfl : k = xs.length := by omega
   clear hc
   go_wp2
   go_ret
   exact ⟨⟨_,rfl,.inr ⟨rfl,HA.out⟩⟩,rfl⟩
set_option maxHeartbeats 400000 in
theorem con14_any (a : Option Addr) (cap : Nat) (xs : List Int) (x : Int) (w : World) (hv : Vec w a xs.length xs) (hm : xs.length ≤ maxLen) :
  Calls Try.prog 138 #[.slice a xs.length cap,.int .i64 x] w fun e w' => e = .returned (.bool (decide (x ∈ xs))) ∧ w' = w := by
 have hI := idx14_any a cap xs x w hv hm
 clear hv
 go_enter Try.func138,Try.ntmps138
 go_wp2_with (go_at_call 146;refine hI.mono ?_;rintro e w' ⟨⟨z,rfl,hz⟩,hw'⟩;rw [hw'];clear hw';have HZ : Hid (IsIdx xs x z) := hz;clear hz)
 go_ret
 exact ⟨ret_bool (by rw [← HZ.out.mem]),rfl⟩
end Go.Proofs.Ytlnmdfgcpfbleaa
namespace Go.Proofs.Ytlnmdfgcpfbleaa
set_option linter.unusedVariables false
set_option linter.unusedSimpArgs false
open Go.RowKit Go.Sort
set_option maxHeartbeats 400000 in
theorem isRl_any (n : Int) (w : World) : Calls Try.prog 84 #[.int .i64 n] w fun e w' => e = .returned (.bool (inB n 1 5)) ∧ w' = w := by
 by_cases h0 : (1 : Int) ≤ n
 ·have H : Hid (inB n 1 5 = decide (n ≤ 5)) := by rw [Hid,inB];simp [h0]
  go_enter Try.func84,Try.ntmps84
  go_wp2
  go_ret
  exact ⟨ret_bool (by rw [H.out]),rfl⟩
 ·have H : Hid (inB n 1 5 = false) := by rw [Hid,inB];simp [h0]
  go_enter Try.func84,Try.ntmps84
  go_wp2
  go_ret
  exact ⟨ret_bool (by rw [H.out]),rfl⟩
def txB (T : List (List UInt8)) : Bool := decide (T.length ≤ 12) && T.all (fun t => decide (t.length ≤ 20))
theorem txB_long {T : List (List UInt8)} {k : Nat} (hk : k < T.length) (h : ¬ (T.getD k []).length ≤ 20) : txB T = false := by
 have : T.all (fun t => decide (t.length ≤ 20)) = false := by
  rw [List.all_eq_false]
  refine ⟨T[k],List.getElem_mem hk, ?_⟩
  rw [List.getD_eq_getElem?_getD,List.getElem?_eq_getElem hk] at h
  simpa using h
 rw [txB,this]
 simp
theorem txB_all {T : List (List UInt8)} (h0 : T.length ≤ 12) (h : ∀ k,k < T.length → (T.getD k []).length ≤ 20) : txB T = true := by
 have : T.all (fun t => decide (t.length ≤ 20)) = true := by
  rw [List.all_eq_true]
  intro t ht
  obtain ⟨j,hj,rfl⟩ := List.mem_iff_getElem.1 ht
  have := h j hj
  rw [List.getD_eq_getElem?_getD,List.getElem?_eq_getElem hj] at this
  simpa using this
 rw [txB,decide_eq_true h0,this]
 rfl
attribute [local irreducible] sv
set_option maxHeartbeats 800000 in
theorem areTx_any (a : Option Addr) (cap : Nat) (T : List (List UInt8)) (w : World) (hv : TxS w a T) (hm : T.length ≤ maxLen) :
  Calls Try.prog 115 #[.slice a T.length cap] w fun e w' => e = .returned (.bool (txB T)) ∧ w' = w := by
 unfold maxLen at hm
 by_cases h12 : T.length ≤ 12
 ·have g12 : ¬ ((12 : Int) < (T.length : Int)) := by omega
  have H12 : Hid (T.length ≤ 12) := h12
  have HV : Hid (TxS w a T) := hv
  clear hv h12
  go_enter Try.func115,Try.ntmps115
  go_wp2
  go_loop [10] (fun i => ∃ k : Nat,k ≤ T.length ∧ i = .int .i64 k ∧ ∀ j,j < k → (T.getD j []).length ≤ 20) (fun i => T.length - (intOf i).toNat)
  case atStart => exact ⟨0,Nat.zero_le _,rfl,fun j hj => by omega⟩
  case round =>
   obtain ⟨k,hk,rfl,hall⟩ := hrel
   have HA : Hid (∀ j,j < k → (T.getD j []).length ≤ 20) := hall
   clear hall
   by_cases hlt : k < T.length
   ·rcases HV.out with h0 | ⟨b,off,rfl,hc⟩
    ·omega
    have hck := hc k hlt
    have k1 : (k : Int) < (T.length : Int) := by omega
    have k0 : (0 : Int) ≤ (k : Int) := by omega
    clear hc
    by_cases h20 : (T.getD k []).length ≤ 20
    ·have g20 : ¬ ((20 : Int) < ((T.getD k []).length : Int)) := by omega
     have HN : Hid (∀ j,j < k + 1 → (T.getD j []).length ≤ 20) := fun j hj => by
      rcases Nat.lt_succ_iff_lt_or_eq.1 hj with h1 | h1
      ·exact HA.out j h1
      ·rw [h1];exact h20
     generalize T.getD k [] = t at *
     have hz : (sv t).size = t.length := sv_size t
     clear h20
     go_wp2
     go_round
     case rel => exact ⟨k + 1,by omega,by go_num,HN.out⟩
     case measure => simp [intOf];omega
    ·have g20 : (20 : Int) < ((T.getD k []).length : Int) := by omega
     have HZ : Hid (txB T = false) := txB_long (k := k) hlt h20
     generalize T.getD k [] = t at *
     have hz : (sv t).size = t.length := sv_size t
     clear h20
     go_wp2
     go_ret
     exact ⟨ret_bool (by rw [HZ.out]),rfl⟩
   ·have k1 : ¬ ((k : Int) < (T.length : Int)) := by omega
    have HZ : Hid (txB T = true) := txB_all H12.out (fun j hj => HA.out j (by omega))
    go_wp2
    go_ret
    exact ⟨ret_bool (by rw [HZ.out]),rfl⟩
 ·have g12 : (12 : Int) < (T.length : Int) := by omega
  have HZ : Hid (txB T = false) := by rw [Hid,txB,decide_eq_false h12];rfl
  clear hv h12
  go_enter Try.func115,Try.ntmps115
  go_wp2
  go_ret
  exact ⟨ret_bool (by rw [HZ.out]),rfl⟩
theorem hi16 {x m : Int} : ∀ {xs : List Int},hiL x xs ≤ m ↔ x ≤ m ∧ ∀ y ∈ xs,y ≤ m := by
 intro xs
 induction xs generalizing x with
 | nil => simp [hiL]
 | cons y ys ih =>
  show hiL (max x y) ys ≤ m ↔ _
  rw [ih]
  simp only [List.mem_cons]
  constructor
  ·rintro ⟨h1,h2⟩
   exact ⟨by omega,fun z hz => by rcases hz with rfl | hz;omega;exact h2 z hz⟩
  ·rintro ⟨h1,h2⟩
   exact ⟨by have := h2 y (.inl rfl);omega,fun z hz => h2 z (.inr hz)⟩
theorem sm_gr {v : List Int} {n : Int} (h1 : (v.length : Int) = n) (h2 : okB v = true) : smB v n = decide (hiL (el v 0) v.tail ≤ 12) := by
 have hl := (okB_len h2).1
 rw [smB,h2,decide_eq_true h1,Bool.true_and,Bool.true_and,Bool.eq_iff_iff,decide_eq_true_eq,hi16,List.all_eq_true]
 cases v with
 | nil => simp at hl
 | cons x xs =>
  simp only [decide_eq_true_eq,List.mem_cons,List.tail_cons]
  constructor
  ·intro h
   exact ⟨h _ (.inl rfl),fun y hy => h y (.inr hy)⟩
  ·rintro ⟨h,h'⟩ y hy
   rcases hy with rfl | hy
   ·exact h
   ·exact h' y hy
set_option maxRecDepth 100000 in
set_option maxHeartbeats 800000 in
theorem areCt_any (a : Option Addr) (cap : Nat) (v : List Int) (n : Int) (w : World) (hv : Vec w a v.length v) (hcap : v.length ≤ cap) (hm : cap ≤ maxLen) :
  Calls Try.prog 116 #[.slice a v.length cap,.int .i64 n] w fun e w' => e = .returned (.bool (smB v n)) ∧ ∃ m,w' = w.drewN m := by
 have hV := vok_any a v.length cap v w hv hcap hm
 have hml : v.length ≤ maxLen := Nat.le_trans hcap hm
 unfold maxLen at hml
 by_cases hl : (v.length : Int) = n
 ·have e1 : ((v.length : Int) == n) = true := by simpa using hl
  cases hb : okB v with
  | false =>
   rw [hb] at hV
   have HZ : Hid (smB v n = false) := by rw [Hid,smB,hb];rfl
   clear hb hl hv
   go_enter Try.func116,Try.ntmps116
   go_wp2_with (go_at_call 72;refine hV.mono ?_;rintro e w' ⟨rfl,n1,rfl⟩)
   go_ret
   exact ⟨ret_bool (by rw [HZ.out]),_,rfl⟩
  | true =>
   rw [hb] at hV
   have HZ : Hid (smB v n = decide (hiL (el v 0) v.tail ≤ 12)) := sm_gr hl hb
   have h18 := okB_len hb
   clear hb hl
   obtain ⟨_,hf,hcs⟩ := hv
   have hG : Hid (∀ n,Calls Try.prog 111 #[.slice a v.length cap] (w.drewN n) fun e w' => e = .returned (.int .i64 (hiL (el v 0) v.tail)) ∧ ∃ m,w' = (w.drewN n).drewN m) := by
    intro n
    rcases hcs with h0 | ⟨b,off,rfl,hc⟩
    ·omega
    ·exact vgreatest_any b off v.length cap v _ rfl hf (fun k hk => by rw [World.cell?_drewN];exact hc k hk) (by omega) hcap hm
   clear hcs hf h18
   generalize hiL (el v 0) v.tail = G at *
   go_enter Try.func116,Try.ntmps116
   go_wp2_with (first | (go_at_call 72;refine hV.mono ?_;rintro e w' ⟨rfl,n1,rfl⟩) | (go_at_call 111;refine (hG.out _).mono ?_;rintro e w' ⟨rfl,n2,rfl⟩))
   go_ret
   exact ⟨ret_bool (by rw [HZ.out]),_,rfl⟩
 ·have e1 : ((v.length : Int) == n) = false := by simpa using hl
  have HZ : Hid (smB v n = false) := by rw [Hid,smB,decide_eq_false hl];simp
  clear hl hv hV
  go_enter Try.func116,Try.ntmps116
  go_wp2
  go_ret
  exact ⟨ret_bool (by rw [HZ.out]),0,rfl⟩
theorem sus_row (n : Int) (l : List Int) : decide (okRow n l) = susB l n := by
 rw [Bool.eq_iff_iff,decide_eq_true_eq,susB,Bool.and_eq_true,List.all_eq_true,okRow,risB,decide_eq_true_eq]
 constructor
 ·rintro ⟨h1,h2⟩
  refine ⟨fun x hx => ?_,h2⟩
  obtain ⟨j,hj,rfl⟩ := List.mem_iff_getElem.1 hx
  have := h1 j hj
  rw [el_eq hj] at this
  exact inB7.2 this
 ·rintro ⟨h1,h2⟩
  exact ⟨fun i hi => inB7.1 (h1 _ (el_mem hi)),h2⟩
set_option maxHeartbeats 800000 in
theorem eqTx_any (a a' : Option Addr) (cap cap' : Nat) (S T : List (List UInt8)) (w : World) (hv : TxS w a S) (hv' : TxS w a' T) (hm : S.length ≤ maxLen) (hl : S.length = T.length) :
  Calls Try.prog 176 #[.slice a S.length cap,.slice a' T.length cap'] w fun e w' => e = .returned (.bool (decide (S = T))) ∧ ∃ n,w' = w.drewN n := by
 unfold maxLen at hm
 have hne : ((S.length : Int) != (T.length : Int)) = false := by simp [hl]
 have HL : Hid (S.length = T.length) := hl
 have HV : Hid (TxS w a S) := hv
 have HV' : Hid (TxS w a' T) := hv'
 clear hl hv hv'
 go_enter Try.func176,Try.ntmps176
 go_wp2
 go_loopw [13] (fun i wr => ∃ k : Nat,k ≤ S.length ∧ i = .int .i64 k ∧ (∀ j,j < k → S.getD j [] = T.getD j []) ∧ ∃ n,wr = w.drewN n) (fun i _ => S.length - (intOf i).toNat)
 case atStart => exact ⟨0,Nat.zero_le _,rfl,fun j hj => by omega,0,rfl⟩
 case round =>
  obtain ⟨k,hk,rfl,hall,n,rfl⟩ := hrel
  have HA : Hid (∀ j,j < k → S.getD j [] = T.getD j []) := hall
  clear hall
  by_cases hlt : k < S.length
  ·have hlq : k < T.length := by rw [← HL.out];exact hlt
   rcases HV.out with h0 | ⟨b,off,rfl,hc⟩
   ·omega
   rcases HV'.out with h0 | ⟨b2,off2,rfl,hc2⟩
   ·omega
   have hck := hc k hlt
   have hck2 := hc2 k hlq
   have k1 : (k : Int) < (S.length : Int) := by omega
   have k2 : (k : Int) < (T.length : Int) := by omega
   have k0 : (0 : Int) ≤ (k : Int) := by omega
   clear hc hc2
   by_cases he : S.getD k [] = T.getD k []
   ·have HN : Hid (∀ j,j < k + 1 → S.getD j [] = T.getD j []) := fun j hj => by
     rcases Nat.lt_succ_iff_lt_or_eq.1 hj with h1 | h1
     ·exact HA.out j h1
     ·rw [h1];exact he
    rw [← he] at hck2
    generalize S.getD k [] = t at *
    have ns : ((sv t).toList == (sv t).toList) = true := by simp
    clear he
    go_wp2_with fail
    go_quiet (fail)
    go_wp2
    go_roundw
    case rel => exact ⟨k + 1,by omega,by go_num,HN.out,_,rfl⟩
    case measure => simp [intOf];omega
   ·have HZ : Hid (decide (S = T) = false) := decide_eq_false (fun h => he (by rw [h]))
    have ns : ((sv (S.getD k [])).toList == (sv (T.getD k [])).toList) = false := by rw [sv_list,sv_list];simpa using he
    generalize S.getD k [] = t at *
    generalize T.getD k [] = t2 at *
    clear he
    go_wp2_with fail
    go_quiet (fail)
    go_wp2
    go_ret
    exact ⟨ret_bool (by rw [HZ.out]),_,World.drewN_drewN _ _ _⟩
  ·have k1 : ¬ ((k : Int) < (S.length : Int)) := by omega
   have HZ : Hid (decide (S = T) = true) := decide_eq_true (List.ext_getElem HL.out (fun i h1 h2 => by
    have := HA.out i (by omega)
    rwa [List.getD_eq_getElem?_getD,List.getElem?_eq_getElem h1,List.getD_eq_getElem?_getD,List.getElem?_eq_getElem h2] at this))
   go_wp2
   go_ret
   exact ⟨ret_bool (by rw [HZ.out]),_,rfl⟩
theorem take_tx {w : World} {a : Option Addr} {cap : Nat} {T : List (List UInt8)} (hv : TxP w a cap T) {j : Nat} (hj : j ≤ T.length) :
  ∃ a' c',(∀ X,(Instr.slice 33 (.slice a T.length cap) none (some (.int .i64 (j : Int))) none).run Try.prog X = .ok (.slice a' j c') X) ∧ TxS w a' (T.take j) := by
 obtain ⟨i0,hi0,hz0,hz1,hz2⟩ := info_parts9 Try.info9
 have hcap : T.length ≤ cap := by
  rcases hv with ⟨rfl,rfl,_⟩ | ⟨b,off,_,h,_⟩
  ·exact Nat.le_refl _
  ·exact h
 have hs : ∀ X,(Instr.slice 33 (.slice a T.length cap) none (some (.int .i64 (j : Int))) none).run Try.prog X = .ok (sliced a 0 j cap 1) X := fun X => by
  rw [run_slice_h X 33 a T.length cap (by kernel_rfl) .i64 (j : Int) (by omega) (by omega)]
  rw [show Try.prog.elem 33 = 9 by kernel_rfl]
  rw [run_sizeOf X hi0,show Try.prog.cellsOf 9 = 1 by kernel_rfl]
  simp [Result.andThen]
 have hs2 : ∀ X,(Instr.slice 33 (.slice a T.length cap) none (some (.int .i64 (j : Int))) none).run Try.prog X = .ok (.slice a j cap) X := fun X => by
  rw [hs X]
  have e : (if cap = 0 then a else a.map (·.add (0 * 1))) = a := by
   split
   ·rfl
   ·rcases hv with ⟨rfl,rfl,_⟩ | ⟨b,off,rfl,_⟩
    ·omega
    ·simp [Addr.add]
  simp only [sliced,e,Nat.sub_zero]
 refine ⟨_,_,hs2,hv.txs.take j⟩
def begB (T S : List (List UInt8)) : Bool := decide (S.length ≤ T.length) && decide (T.take S.length = S)
set_option maxHeartbeats 800000 in
theorem begW_any (a b : Option Addr) (cap c : Nat) (T S : List (List UInt8)) (w : World) (hv : TxP w a cap T) (hu : TxS w b S) (hm : T.length ≤ maxLen) (hm2 : S.length ≤ maxLen) :
  Calls Try.prog 174 #[.slice a T.length cap,.slice b S.length c] w fun e w' => e = .returned (.bool (begB T S)) ∧ ∃ n,w' = w.drewN n := by
 by_cases hl : S.length ≤ T.length
 ·have k1 : (S.length : Int) ≤ (T.length : Int) := by omega
  obtain ⟨a',c',hs,ht⟩ := take_tx hv hl
  have hE : Calls Try.prog 176 #[.slice b S.length c,.slice a' S.length c'] w fun e w' => e = .returned (.bool (decide (S = T.take S.length))) ∧ ∃ n,w' = w.drewN n := by
   have := eqTx_any b a' c c' S (T.take S.length) w hu ht hm2 (by rw [List.length_take];omega)
   rw [List.length_take,Nat.min_eq_left hl] at this
   exact this
  have HZ : Hid (begB T S = decide (S = T.take S.length)) := by
   rw [Hid,begB,decide_eq_true hl,Bool.true_and]
   exact decide_eq_decide.2 eq_comm
  generalize decide (S = T.take S.length) = Q at *
  unfold maxLen at hm hm2
  clear hv hu ht hl
  go_enter Try.func174,Try.ntmps174
  go_wp2_with (go_at_call 176;refine hE.mono ?_;rintro e w' ⟨rfl,n1,rfl⟩)
  go_ret
  exact ⟨ret_bool (by rw [HZ.out]),_,rfl⟩
 ·have k1 : ¬ ((S.length : Int) ≤ (T.length : Int)) := by omega
  have HZ : Hid (begB T S = false) := by rw [Hid,begB,decide_eq_false hl,Bool.false_and]
  unfold maxLen at hm hm2
  clear hv hu hl
  go_enter Try.func174,Try.ntmps174
  go_wp2
  go_ret
  exact ⟨ret_bool (by rw [HZ.out]),0,rfl⟩
set_option maxHeartbeats 800000 in
theorem ammI_any (a b : Option Addr) (c d : Nat) (l o : List Int) (w : World) (hv : Vec w a l.length l) (hu : Vec w b o.length o) (hm : l.length ≤ maxLen) (hm2 : o.length ≤ maxLen) :
  Calls Try.prog 175 #[.slice b o.length d,.slice a l.length c] w fun e w' => e = .returned (.bool (o.all (fun x => decide (x ∈ l)))) ∧ w' = w := by
 have hH := fun x => con14_any a c l x w hv hm
 have HU : Hid (Vec w b o.length o) := hu
 unfold maxLen at hm hm2
 clear hu hv
 go_enter Try.func175,Try.ntmps175
 go_wp2
 go_loop [9] (fun i => ∃ k : Nat,k ≤ o.length ∧ i = .int .i64 k ∧ ∀ j,j < k → el o j ∈ l) (fun i => o.length - (intOf i).toNat)
 case atStart => exact ⟨0,Nat.zero_le _,rfl,fun j hj => by omega⟩
 case round =>
  obtain ⟨k,hk,rfl,hall⟩ := hrel
  have HA : Hid (∀ j,j < k → el o j ∈ l) := hall
  clear hall
  by_cases hlt : k < o.length
  ·rcases HU.out.2.2 with h0 | ⟨b',off,rfl,hc⟩
   ·omega
   have hck := hc k hlt
   have k1 : (k : Int) < (o.length : Int) := by omega
   have k0 : (0 : Int) ≤ (k : Int) := by omega
   have hI := hH (el o k)
   clear hc hH
   by_cases hb : el o k ∈ l
   ·rw [decide_eq_true hb] at hI
    have HN : Hid (∀ j,j < k + 1 → el o j ∈ l) := fun j hj => by
     rcases Nat.lt_succ_iff_lt_or_eq.1 hj with h1 | h1
     ·exact HA.out j h1
     ·rw [h1];exact hb
    generalize el o k = x at *
    clear hb
    go_wp2_with (go_at_call 138;refine hI.mono ?_;rintro e w' ⟨rfl,hw'⟩;rw [hw'];clear hw')
    go_round
    case rel => exact ⟨k + 1,by omega,by go_num,HN.out⟩
    case measure => simp [intOf];omega
   ·rw [decide_eq_false hb] at hI
    have HZ : Hid (o.all (fun x => decide (x ∈ l)) = false) := all_miss16 hlt hb
    generalize el o k = x at *
    clear hb
    go_wp2_with (go_at_call 138;refine hI.mono ?_;rintro e w' ⟨rfl,hw'⟩;rw [hw'];clear hw')
    go_ret
    exact ⟨ret_bool (by rw [HZ.out]),rfl⟩
  ·have k1 : ¬ ((k : Int) < (o.length : Int)) := by omega
   have HZ : Hid (o.all (fun x => decide (x ∈ l)) = true) := all_hit16 (fun j hj => HA.out j (by omega))
   go_wp2
   go_ret
   exact ⟨ret_bool (by rw [HZ.out]),rfl⟩
end Go.Proofs.Ytlnmdfgcpfbleaa
namespace Go.Proofs.Ytlnmdfgcpfbleaa
set_option linter.unusedVariables false
set_option linter.unusedSimpArgs false
open Go.RowKit Go.Sort
def stV (A : Ra) (r : Rw) : Value := if r.rdy then .iface 150 (rwV A r) else if r.wed then .iface 151 (rwV A r) else .iface 152 (rwV A r)
def flB (r : Rw) : Bool := if r.rdy then r.wed else decide (r.by_ = 0) && decide (r.trm = [])
def lsB (r : Rw) (n : Int) : Bool := !r.rdy || (inB r.by_ 0 (n - 1) && smB r.trm n)
theorem endB_fl (r : Rw) (n : Int) : endB r n = (flB r && lsB r n) := by
 unfold endB flB lsB
 cases r.rdy <;> simp
set_option maxRecDepth 100000 in
set_option maxHeartbeats 1600000 in
theorem flag_any (A : Ra) (r : Rw) (w : World) (hm : r.trm.length ≤ maxLen) :
  Calls Try.prog 118 #[rwV A r] w fun e w' => ∃ s,e = .returned (.tuple #[s,.bool (flB r)]) ∧ (flB r = true → s = stV A r) ∧ Below w.heap.size w w' := by
 have hB0 := oneA16 w (.cells (rwC A r) 35)
 have hx := Bx.new w 35 (rwC A r)
 generalize hW : w.alloc (.cells (rwC A r) 35) = W at *
 obtain ⟨ver,txt,got,sus,wed,rdy,by_,trm⟩ := r
 obtain ⟨ta,tc,ga,gc,sa,sc,ma,mc⟩ := A
 have hw0 : w.alloc (.cells #[.int .i64 ver,.slice ta txt.length tc,.slice ga got.length gc,.slice sa sus.length sc,.bool wed,.bool rdy,.int .i64 by_,.slice ma trm.length mc] 35) = W := hW
 obtain ⟨⟨c0,c1,c2,c3⟩,c4,c5,c6,c7⟩ := Bx.r8 hx
 simp only at c0 c1 c2 c3 c4 c5 c6 c7 hm
 have HB0 : Hid (Below w.heap.size w W) := hB0
 unfold maxLen at hm
 unfold rwV rwC
 clear hx hW hB0
 simp only
 cases rdy with
 | true =>
  have HZ : Hid (flB ⟨ver,txt,got,sus,wed,true,by_,trm⟩ = wed) := by rw [Hid,flB];rfl
  go_enter Try.func118,Try.ntmps118
  go_wp2_with fail
  go_quiet (fail)
  go_wp2
  refine bodyPost_ret (v := .tuple #[.iface 150 (.agg #[.int .i64 ver,.slice ta txt.length tc,.slice ga got.length gc,.slice sa sus.length sc,.bool wed,.bool true,.int .i64 by_,.slice ma trm.length mc]),.bool wed]) (by simp [results,Try.results118,go_sem, *]) rfl ?_
  exact ⟨stV ⟨ta,tc,ga,gc,sa,sc,ma,mc⟩ ⟨ver,txt,got,sus,wed,true,by_,trm⟩,by rw [HZ.out];rfl,fun _ => rfl,belowN HB0.out⟩
 | false =>
  by_cases hy : by_ = 0
  ·have e1 : (by_ != 0) = false := by simpa using hy
   by_cases ht : trm = []
   ·have g1 : ¬ ((0 : Int) < (trm.length : Int)) := by rw [ht];simp
    have HZ : Hid (flB ⟨ver,txt,got,sus,wed,false,by_,trm⟩ = true) := by rw [Hid,flB];simp [hy,ht]
    clear hy ht
    cases wed with
    | true =>
     go_enter Try.func118,Try.ntmps118
     go_wp2
     refine bodyPost_ret (v := .tuple #[.iface 151 (.agg #[.int .i64 ver,.slice ta txt.length tc,.slice ga got.length gc,.slice sa sus.length sc,.bool true,.bool false,.int .i64 by_,.slice ma trm.length mc]),.bool true]) (by simp [results,Try.results118,go_sem, *]) rfl ?_
     exact ⟨stV ⟨ta,tc,ga,gc,sa,sc,ma,mc⟩ ⟨ver,txt,got,sus,true,false,by_,trm⟩,by rw [HZ.out];rfl,fun _ => rfl,HB0.out⟩
    | false =>
     go_enter Try.func118,Try.ntmps118
     go_wp2
     refine bodyPost_ret (v := .tuple #[.iface 152 (.agg #[.int .i64 ver,.slice ta txt.length tc,.slice ga got.length gc,.slice sa sus.length sc,.bool false,.bool false,.int .i64 by_,.slice ma trm.length mc]),.bool true]) (by simp [results,Try.results118,go_sem, *]) rfl ?_
     exact ⟨stV ⟨ta,tc,ga,gc,sa,sc,ma,mc⟩ ⟨ver,txt,got,sus,false,false,by_,trm⟩,by rw [HZ.out];rfl,fun _ => rfl,HB0.out⟩
   ·have g1 : (0 : Int) < (trm.length : Int) := by
     cases trm with
     | nil => exact absurd rfl ht
     | cons x xs => simp only [List.length_cons];omega
    have HZ : Hid (flB ⟨ver,txt,got,sus,wed,false,by_,trm⟩ = false) := by rw [Hid,flB];simp [ht]
    clear hy ht
    go_enter Try.func118,Try.ntmps118
    go_wp2
    refine bodyPost_ret (v := .tuple #[.nilIface,.bool false]) (by simp [results,Try.results118,go_sem, *]) rfl ?_
    exact ⟨.nilIface,by rw [HZ.out],fun h => (by rw [HZ.out] at h;cases h),HB0.out⟩
  ·have e1 : (by_ != 0) = true := by simpa using hy
   have HZ : Hid (flB ⟨ver,txt,got,sus,wed,false,by_,trm⟩ = false) := by rw [Hid,flB];simp [hy]
   clear hy
   go_enter Try.func118,Try.ntmps118
   go_wp2
   refine bodyPost_ret (v := .tuple #[.nilIface,.bool false]) (by simp [results,Try.results118,go_sem, *]) rfl ?_
   exact ⟨.nilIface,by rw [HZ.out],fun h => (by rw [HZ.out] at h;cases h),HB0.out⟩
theorem asE_any (v : Value) (w : World) : (Instr.typeAssert (.iface 150 v) 88 154 true).run Try.prog w = .ok (.tuple #[.iface 150 v,.bool true]) w := by kernel_rfl
theorem asW_any (v : Value) (w : World) : (Instr.typeAssert (.iface 151 v) 88 154 true).run Try.prog w = .ok (.tuple #[.nilIface,.bool false]) w := run_typeAssert_lacksB Try.underlying154 (by kernel_rfl) (by kernel_rfl) v 88 w
theorem asS_any (v : Value) (w : World) : (Instr.typeAssert (.iface 152 v) 88 154 true).run Try.prog w = .ok (.tuple #[.nilIface,.bool false]) w := run_typeAssert_lacksB Try.underlying154 (by kernel_rfl) (by kernel_rfl) v 88 w
theorem mtE_any (v : Value) (w : World) : (Go.method 287 150 v "loop.example/g00266/impl.end").run Try.prog w = .ok (171, v) w := by kernel_rfl
theorem mbE_any (v : Value) (w : World) : (Go.method 287 150 v "loop.example/g00266/impl.mayBecome").run Try.prog w = .ok (172, v) w := by kernel_rfl
theorem mbW_any (v : Value) (w : World) : (Go.method 287 151 v "loop.example/g00266/impl.mayBecome").run Try.prog w = .ok (177, v) w := by kernel_rfl
theorem mbS_any (v : Value) (w : World) : (Go.method 287 152 v "loop.example/g00266/impl.mayBecome").run Try.prog w = .ok (178, v) w := by kernel_rfl
set_option maxRecDepth 100000 in
set_option maxHeartbeats 800000 in
theorem endI_any (A : Ra) (r : Rw) (w : World) :
  Calls Try.prog 171 #[rwV A r] w fun e w' => e = .returned (.tuple #[.int .i64 r.by_,.slice A.ma r.trm.length A.mc]) ∧ Below w.heap.size w w' := by
 have hB0 := oneA16 w (.cells (rwC A r) 150)
 have hx := Bx.new w 150 (rwC A r)
 generalize hW : w.alloc (.cells (rwC A r) 150) = W at *
 obtain ⟨ver,txt,got,sus,wed,rdy,by_,trm⟩ := r
 obtain ⟨ta,tc,ga,gc,sa,sc,ma,mc⟩ := A
 have hw0 : w.alloc (.cells #[.int .i64 ver,.slice ta txt.length tc,.slice ga got.length gc,.slice sa sus.length sc,.bool wed,.bool rdy,.int .i64 by_,.slice ma trm.length mc] 150) = W := hW
 obtain ⟨⟨c0,c1,c2,c3⟩,c4,c5,c6,c7⟩ := Bx.r8 hx
 simp only at c0 c1 c2 c3 c4 c5 c6 c7
 have HB0 : Hid (Below w.heap.size w W) := hB0
 unfold rwV rwC
 clear hx hW hB0
 simp only
 go_enter Try.func171,Try.ntmps171
 go_wp2_with fail
 go_quiet (fail)
 go_wp2
 refine bodyPost_ret (v := .tuple #[.int .i64 by_,.slice ma trm.length mc]) (by simp [results,Try.results171,go_sem, *]) rfl ?_
 exact ⟨rfl,belowN HB0.out⟩
set_option maxRecDepth 100000 in
set_option maxHeartbeats 1600000 in
theorem endR_any (A : Ra) (r : Rw) (n : Int) (w : World) (hv : RwP w A r) (hn : 1 ≤ n ∧ n ≤ 5) :
  Calls Try.prog 119 #[stV A r,.int .i64 n] w fun e w' => e = .returned (.bool (lsB r n)) ∧ Below w.heap.size w w' := by
 have hwn : wrap64 (n - 1) = n - 1 := by unfold wrap64;omega
 clear hn
 cases e1 : r.rdy with
 | false =>
  have HZ : Hid (lsB r n = true) := by rw [Hid,lsB,e1];rfl
  unfold stV
  rw [e1]
  clear e1 hv
  cases e2 : r.wed with
  | false =>
   clear e2
   generalize rwV A r = v
   have ha := asS_any v
   simp only [Bool.false_eq_true,if_false]
   go_enter Try.func119,Try.ntmps119
   go_wp2
   go_ret
   exact ⟨ret_bool (by rw [HZ.out]),Below.refl _ _⟩
  | true =>
   clear e2
   generalize rwV A r = v
   have ha := asW_any v
   simp only [Bool.false_eq_true,if_false,if_true]
   go_enter Try.func119,Try.ntmps119
   go_wp2
   go_ret
   exact ⟨ret_bool (by rw [HZ.out]),Below.refl _ _⟩
 | true =>
  have hE := fun X => endI_any A r X
  have HC : Hid (∀ X,Below w.heap.size w X → Calls Try.prog 116 #[.slice A.ma r.trm.length A.mc,.int .i64 n] X fun e w' => e = .returned (.bool (smB r.trm n)) ∧ ∃ m,w' = X.drewN m) := fun X h => areCt_any A.ma A.mc r.trm n X (hv.below h).trm.vec hv.trm.le hv.trm.mx
  have HZ : Hid (lsB r n = (inB r.by_ 0 (n - 1) && smB r.trm n)) := by rw [Hid,lsB,e1];rfl
  unfold stV
  rw [e1]
  clear e1 hv
  generalize rwV A r = v at *
  generalize r.by_ = Y at *
  generalize r.trm.length = L at *
  generalize smB r.trm n = Q at *
  obtain ⟨ta,tc,ga,gc,sa,sc,ma,mc⟩ := A
  simp only at hE HC
  have ha := asE_any v
  have hm := mtE_any v
  simp only [if_true]
  cases e2 : inB Y 0 (n - 1) with
  | false =>
   rw [e2] at HZ
   go_enter Try.func119,Try.ntmps119
   go_wp2_with (first | (go_at_call 171;refine (hE _).mono ?_;rintro e w1 ⟨rfl,hb1⟩) | (go_at_call 114;refine (isW14_any _ _ _).mono ?_;rintro e w' ⟨rfl,hw'⟩;rw [hw',e2];clear hw'))
   go_ret
   exact ⟨ret_bool (by rw [HZ.out];rfl),hb1⟩
  | true =>
   rw [e2] at HZ
   go_enter Try.func119,Try.ntmps119
   go_wp2_with (first | (go_at_call 171;refine (hE _).mono ?_;rintro e w1 ⟨rfl,hb1⟩) | (go_at_call 114;refine (isW14_any _ _ _).mono ?_;rintro e w' ⟨rfl,hw'⟩;rw [hw',e2];clear hw') | (go_at_call 116;refine (HC.out _ hb1).mono ?_;rintro e w' ⟨rfl,m1,rfl⟩))
   go_ret
   exact ⟨ret_bool (by rw [HZ.out];rfl),belowN hb1⟩
end Go.Proofs.Ytlnmdfgcpfbleaa