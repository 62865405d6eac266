/-
  Texts in one: Rzv.
-/
import Derived.Test.YtlnmdfgcpfbleaaJac
namespace Go.Proofs.Ytlnmdfgcpfbleaa
set_option linter.unusedVariables false
set_option linter.unusedSimpArgs false
open Go.RowKit Go.Sort
theorem mayI_any (A B : Ra) (r s : Rw) : (r.rdy = true → ∀ w,RwP w A r → RwP w B s → Calls Try.prog 172 #[rwV A r,rwV B s] w fun e w' => e = .returned (.bool (mayB r s)) ∧ Below w.heap.size w w') ∧ (r.rdy = false → r.wed = true → ∀ w,RwP w A r → RwP w B s → Calls Try.prog 177 #[rwV A r,rwV B s] w fun e w' => e = .returned (.bool (mayB r s)) ∧ Below w.heap.size w w') ∧ (r.rdy = false → r.wed = false → ∀ w,RwP w A r → RwP w B s → Calls Try.prog 178 #[rwV A r,rwV B s] w fun e w' => e = .returned (.bool (mayB r s)) ∧ Below w.heap.size w w') := by
 refine ⟨fun h w h1 h2 => ?_,fun h h' w h1 h2 => ?_,fun h h' w h1 h2 => ?_⟩
 ·have e : mayB r s = (s.rdy && (decide (r.by_ ≤ s.by_) && grwB r s)) := by rw [mayB,h];rfl
  rw [e]
  exact mbcE_any A B r s w h1 h2
 ·have e : mayB r s = (s.wed && grwB r s) := by rw [mayB,h,h'];rfl
  rw [e]
  exact mbcW_any A B r s w h1 h2
 ·have e : mayB r s = grwB r s := by rw [mayB,h,h'];rfl
  rw [e]
  exact mbcS_any A B r s w h1 h2
set_option maxRecDepth 100000 in
set_option maxHeartbeats 3200000 in
theorem folI_any (A B : Ra) (r s : Rw) (n : Int) (w : World) (hv : RwP w A r) (hu : RwP w B s) :
  Calls Try.prog 28 #[rwV A r,rwV B s,.int .i64 n] w fun e w' => e = .returned (.bool (folB r s n)) ∧ Below w.heap.size w w' := by
 obtain ⟨W,hW,hx,hy,hB0⟩ := two16 A B r s 35 w
 have h0 := hv.below hB0
 have g0 := hu.below hB0
 have hSt0 := stOf_any A r n W h0
 have hRo : ∀ X,Below W.heap.size W X → Calls Try.prog 35 #[rwV B s,.int .i64 n] X fun e w' => e = .returned (.bool (okRw s n)) ∧ Below X.heap.size X w' := fun X h => rowI_any B s n X (g0.below h)
 obtain ⟨m1,m2,m3⟩ := mayI_any A B r s
 have hM1 := fun h X hX => m1 h X (h0.below hX) (g0.below hX)
 have hM2 := fun h h' X hX => m2 h h' X (h0.below hX) (g0.below hX)
 have hM3 := fun h h' X hX => m3 h h' X (h0.below hX) (g0.below hX)
 have HY0 : Hid (∀ X,Below W.heap.size W X → Bx X (w.heap.size + 1) 35 (rwC B s)) := fun X h => hy.below h
 have HB0 : Hid (Below w.heap.size w W) := hB0
 rw [fol_may r s n]
 generalize okRw r n = o1 at *
 generalize okRw s n = o2 at *
 generalize mayB r s = G at *
 obtain ⟨pv,pt,pg,ps,pw,pd,py,pm⟩ := r
 obtain ⟨qv,qt,qg,qs,qw,qd,qy,qm⟩ := s
 obtain ⟨pA,pa,pB,pb,pC,pc,pD,pe⟩ := A
 obtain ⟨qA,qa,qB,qb,qC,qc,qD,qe⟩ := B
 have hw0 : (w.alloc (.cells #[.int .i64 pv,.slice pA pt.length pa,.slice pB pg.length pb,.slice pC ps.length pc,.bool pw,.bool pd,.int .i64 py,.slice pD pm.length pe] 35)).alloc (.cells #[.int .i64 qv,.slice qA qt.length qa,.slice qB qg.length qb,.slice qC qs.length qc,.bool qw,.bool qd,.int .i64 qy,.slice qD qm.length qe] 35) = W := hW
 have HY : Hid (∀ X,Below W.heap.size W X → Bx X (w.heap.size + 1) 35 #[.int .i64 qv,.slice qA qt.length qa,.slice qB qg.length qb,.slice qC qs.length qc,.bool qw,.bool qd,.int .i64 qy,.slice qD qm.length qe]) := HY0
 obtain ⟨⟨c0,c1,c2,c3⟩,c4,c5,c6,c7⟩ := Bx.r8 hx
 obtain ⟨⟨d0,d1,d2,d3⟩,d4,d5,d6,d7⟩ := Bx.r8 hy
 simp only [rwV,rwC] at c0 c1 c2 c3 c4 c5 c6 c7 d0 d1 d2 d3 d4 d5 d6 d7 hRo hM1 hM2 hM3
 unfold rwV rwC
 clear hv hu h0 g0 hx hy hW hB0 HY0 m1 m2 m3
 simp only
 cases o1 with
 | false =>
  have hSt : Calls Try.prog 79 #[.agg #[.int .i64 pv,.slice pA pt.length pa,.slice pB pg.length pb,.slice pC ps.length pc,.bool pw,.bool pd,.int .i64 py,.slice pD pm.length pe],.int .i64 n] W fun e w' => ∃ s,e = .returned (.tuple #[s,.bool false]) ∧ Below W.heap.size W w' := hSt0.mono (fun e w' ⟨s,h1,_,h2⟩ => ⟨s,h1,h2⟩)
  clear hSt0 hM1 hM2 hM3
  go_enter Try.func28,Try.ntmps28
  go_wp2_with (go_at_call 79;refine hSt.mono ?_;rintro e w1 ⟨s1,rfl,hb1⟩;have HB1 : Hid (Below w.heap.size w w1) := (HB0.out.trans (hb1.mono HB0.out.size));clear c0 c1 c2 c3 c4 c5 c6 c7 d0 d1 d2 d3 d4 d5 d6 d7;obtain ⟨⟨d0,d1,d2,d3⟩,d4,d5,d6,d7⟩ := Bx.r8 (HY.out w1 hb1);have hR := hRo w1 hb1;have hBW1 : Below W.heap.size W w1 := hb1;clear hb1)
  go_ret
  exact ⟨rfl,HB1.out⟩
 | true =>
 have hSt : Calls Try.prog 79 #[.agg #[.int .i64 pv,.slice pA pt.length pa,.slice pB pg.length pb,.slice pC ps.length pc,.bool pw,.bool pd,.int .i64 py,.slice pD pm.length pe],.int .i64 n] W fun e w' => e = .returned (.tuple #[stV ⟨pA,pa,pB,pb,pC,pc,pD,pe⟩ ⟨pv,pt,pg,ps,pw,pd,py,pm⟩,.bool true]) ∧ Below W.heap.size W w' := hSt0.mono (fun e w' ⟨s,h1,h2,h3⟩ => ⟨by rw [h1,h2 rfl],h3⟩)
 clear hSt0
 cases pd with
 | true =>
  have hSt : Calls Try.prog 79 #[.agg #[.int .i64 pv,.slice pA pt.length pa,.slice pB pg.length pb,.slice pC ps.length pc,.bool pw,.bool true,.int .i64 py,.slice pD pm.length pe],.int .i64 n] W fun e w' => e = .returned (.tuple #[.iface 150 (.agg #[.int .i64 pv,.slice pA pt.length pa,.slice pB pg.length pb,.slice pC ps.length pc,.bool pw,.bool true,.int .i64 py,.slice pD pm.length pe]),.bool true]) ∧ Below W.heap.size W w' := hSt
  have hMa := hM1 rfl
  clear hM1 hM2 hM3
  have hme := mbE_any (.agg #[.int .i64 pv,.slice pA pt.length pa,.slice pB pg.length pb,.slice pC ps.length pc,.bool pw,.bool true,.int .i64 py,.slice pD pm.length pe])
  cases o2 with
  | false =>
   go_enter Try.func28,Try.ntmps28
   go_wp2_with (first | (go_at_call 79;refine hSt.mono ?_;rintro e w1 ⟨rfl,hb1⟩;have HB1 : Hid (Below w.heap.size w w1) := (HB0.out.trans (hb1.mono HB0.out.size));clear c0 c1 c2 c3 c4 c5 c6 c7 d0 d1 d2 d3 d4 d5 d6 d7;obtain ⟨⟨d0,d1,d2,d3⟩,d4,d5,d6,d7⟩ := Bx.r8 (HY.out w1 hb1);have hR := hRo w1 hb1;have hBW1 : Hid (Below W.heap.size W w1) := hb1;clear hb1) | (go_at_call 35;refine hR.mono ?_;rintro e w2 ⟨rfl,hb2⟩;have HB2 : Hid (Below w.heap.size w w2) := (HB1.out.trans (hb2.mono HB1.out.size));have hBW2 : Below W.heap.size W w2 := (hBW1.out.trans (hb2.mono hBW1.out.size));clear d0 d1 d2 d3 d4 d5 d6 d7;obtain ⟨⟨d0,d1,d2,d3⟩,d4,d5,d6,d7⟩ := Bx.r8 (HY.out w2 hBW2);have hM := hMa w2 hBW2;clear hb2))
   go_ret
   exact ⟨rfl,HB2.out⟩
  | true =>
   go_enter Try.func28,Try.ntmps28
   go_wp2_with (first | (go_at_call 79;refine hSt.mono ?_;rintro e w1 ⟨rfl,hb1⟩;have HB1 : Hid (Below w.heap.size w w1) := (HB0.out.trans (hb1.mono HB0.out.size));clear c0 c1 c2 c3 c4 c5 c6 c7 d0 d1 d2 d3 d4 d5 d6 d7;obtain ⟨⟨d0,d1,d2,d3⟩,d4,d5,d6,d7⟩ := Bx.r8 (HY.out w1 hb1);have hR := hRo w1 hb1;have hBW1 : Hid (Below W.heap.size W w1) := hb1;clear hb1) | (go_at_call 35;refine hR.mono ?_;rintro e w2 ⟨rfl,hb2⟩;have HB2 : Hid (Below w.heap.size w w2) := (HB1.out.trans (hb2.mono HB1.out.size));have hBW2 : Below W.heap.size W w2 := (hBW1.out.trans (hb2.mono hBW1.out.size));clear d0 d1 d2 d3 d4 d5 d6 d7;obtain ⟨⟨d0,d1,d2,d3⟩,d4,d5,d6,d7⟩ := Bx.r8 (HY.out w2 hBW2);have hM := hMa w2 hBW2;clear hb2) | (go_at_call 172;refine hM.mono ?_;rintro e w3 ⟨rfl,hb3⟩;have HB3 : Hid (Below w.heap.size w w3) := (HB2.out.trans (hb3.mono HB2.out.size));clear hb3))
   go_ret
   exact ⟨rfl,HB3.out⟩
 | false =>
  cases pw with
  | true =>
   have hSt : Calls Try.prog 79 #[.agg #[.int .i64 pv,.slice pA pt.length pa,.slice pB pg.length pb,.slice pC ps.length pc,.bool true,.bool false,.int .i64 py,.slice pD pm.length pe],.int .i64 n] W fun e w' => e = .returned (.tuple #[.iface 151 (.agg #[.int .i64 pv,.slice pA pt.length pa,.slice pB pg.length pb,.slice pC ps.length pc,.bool true,.bool false,.int .i64 py,.slice pD pm.length pe]),.bool true]) ∧ Below W.heap.size W w' := hSt
   have hMa := hM2 rfl rfl
   clear hM1 hM2 hM3
   have hme := mbW_any (.agg #[.int .i64 pv,.slice pA pt.length pa,.slice pB pg.length pb,.slice pC ps.length pc,.bool true,.bool false,.int .i64 py,.slice pD pm.length pe])
   cases o2 with
   | false =>
    go_enter Try.func28,Try.ntmps28
    go_wp2_with (first | (go_at_call 79;refine hSt.mono ?_;rintro e w1 ⟨rfl,hb1⟩;have HB1 : Hid (Below w.heap.size w w1) := (HB0.out.trans (hb1.mono HB0.out.size));clear c0 c1 c2 c3 c4 c5 c6 c7 d0 d1 d2 d3 d4 d5 d6 d7;obtain ⟨⟨d0,d1,d2,d3⟩,d4,d5,d6,d7⟩ := Bx.r8 (HY.out w1 hb1);have hR := hRo w1 hb1;have hBW1 : Hid (Below W.heap.size W w1) := hb1;clear hb1) | (go_at_call 35;refine hR.mono ?_;rintro e w2 ⟨rfl,hb2⟩;have HB2 : Hid (Below w.heap.size w w2) := (HB1.out.trans (hb2.mono HB1.out.size));have hBW2 : Below W.heap.size W w2 := (hBW1.out.trans (hb2.mono hBW1.out.size));clear d0 d1 d2 d3 d4 d5 d6 d7;obtain ⟨⟨d0,d1,d2,d3⟩,d4,d5,d6,d7⟩ := Bx.r8 (HY.out w2 hBW2);have hM := hMa w2 hBW2;clear hb2))
    go_ret
    exact ⟨rfl,HB2.out⟩
   | true =>
    go_enter Try.func28,Try.ntmps28
    go_wp2_with (first | (go_at_call 79;refine hSt.mono ?_;rintro e w1 ⟨rfl,hb1⟩;have HB1 : Hid (Below w.heap.size w w1) := (HB0.out.trans (hb1.mono HB0.out.size));clear c0 c1 c2 c3 c4 c5 c6 c7 d0 d1 d2 d3 d4 d5 d6 d7;obtain ⟨⟨d0,d1,d2,d3⟩,d4,d5,d6,d7⟩ := Bx.r8 (HY.out w1 hb1);have hR := hRo w1 hb1;have hBW1 : Hid (Below W.heap.size W w1) := hb1;clear hb1) | (go_at_call 35;refine hR.mono ?_;rintro e w2 ⟨rfl,hb2⟩;have HB2 : Hid (Below w.heap.size w w2) := (HB1.out.trans (hb2.mono HB1.out.size));have hBW2 : Below W.heap.size W w2 := (hBW1.out.trans (hb2.mono hBW1.out.size));clear d0 d1 d2 d3 d4 d5 d6 d7;obtain ⟨⟨d0,d1,d2,d3⟩,d4,d5,d6,d7⟩ := Bx.r8 (HY.out w2 hBW2);have hM := hMa w2 hBW2;clear hb2) | (go_at_call 177;refine hM.mono ?_;rintro e w3 ⟨rfl,hb3⟩;have HB3 : Hid (Below w.heap.size w w3) := (HB2.out.trans (hb3.mono HB2.out.size));clear hb3))
    go_ret
    exact ⟨rfl,HB3.out⟩
  | false =>
   have hSt : Calls Try.prog 79 #[.agg #[.int .i64 pv,.slice pA pt.length pa,.slice pB pg.length pb,.slice pC ps.length pc,.bool false,.bool false,.int .i64 py,.slice pD pm.length pe],.int .i64 n] W fun e w' => e = .returned (.tuple #[.iface 152 (.agg #[.int .i64 pv,.slice pA pt.length pa,.slice pB pg.length pb,.slice pC ps.length pc,.bool false,.bool false,.int .i64 py,.slice pD pm.length pe]),.bool true]) ∧ Below W.heap.size W w' := hSt
   have hMa := hM3 rfl rfl
   clear hM1 hM2 hM3
   have hme := mbS_any (.agg #[.int .i64 pv,.slice pA pt.length pa,.slice pB pg.length pb,.slice pC ps.length pc,.bool false,.bool false,.int .i64 py,.slice pD pm.length pe])
   cases o2 with
   | false =>
    go_enter Try.func28,Try.ntmps28
    go_wp2_with (first | (go_at_call 79;refine hSt.mono ?_;rintro e w1 ⟨rfl,hb1⟩;have HB1 : Hid (Below w.heap.size w w1) := (HB0.out.trans (hb1.mono HB0.out.size));clear c0 c1 c2 c3 c4 c5 c6 c7 d0 d1 d2 d3 d4 d5 d6 d7;obtain ⟨⟨d0,d1,d2,d3⟩,d4,d5,d6,d7⟩ := Bx.r8 (HY.out w1 hb1);have hR := hRo w1 hb1;have hBW1 : Hid (Below W.heap.size W w1) := hb1;clear hb1) | (go_at_call 35;refine hR.mono ?_;rintro e w2 ⟨rfl,hb2⟩;have HB2 : Hid (Below w.heap.size w w2) := (HB1.out.trans (hb2.mono HB1.out.size));have hBW2 : Below W.heap.size W w2 := (hBW1.out.trans (hb2.mono hBW1.out.size));clear d0 d1 d2 d3 d4 d5 d6 d7;obtain ⟨⟨d0,d1,d2,d3⟩,d4,d5,d6,d7⟩ := Bx.r8 (HY.out w2 hBW2);have hM := hMa w2 hBW2;clear hb2))
    go_ret
    exact ⟨rfl,HB2.out⟩
   | true =>
    go_enter Try.func28,Try.ntmps28
    go_wp2_with (first | (go_at_call 79;refine hSt.mono ?_;rintro e w1 ⟨rfl,hb1⟩;have HB1 : Hid (Below w.heap.size w w1) := (HB0.out.trans (hb1.mono HB0.out.size));clear c0 c1 c2 c3 c4 c5 c6 c7 d0 d1 d2 d3 d4 d5 d6 d7;obtain ⟨⟨d0,d1,d2,d3⟩,d4,d5,d6,d7⟩ := Bx.r8 (HY.out w1 hb1);have hR := hRo w1 hb1;have hBW1 : Hid (Below W.heap.size W w1) := hb1;clear hb1) | (go_at_call 35;refine hR.mono ?_;rintro e w2 ⟨rfl,hb2⟩;have HB2 : Hid (Below w.heap.size w w2) := (HB1.out.trans (hb2.mono HB1.out.size));have hBW2 : Below W.heap.size W w2 := (hBW1.out.trans (hb2.mono hBW1.out.size));clear d0 d1 d2 d3 d4 d5 d6 d7;obtain ⟨⟨d0,d1,d2,d3⟩,d4,d5,d6,d7⟩ := Bx.r8 (HY.out w2 hBW2);have hM := hMa w2 hBW2;clear hb2) | (go_at_call 178;refine hM.mono ?_;rintro e w3 ⟨rfl,hb3⟩;have HB3 : Hid (Below w.heap.size w w3) := (HB2.out.trans (hb3.mono HB2.out.size));clear hb3))
    go_ret
    exact ⟨rfl,HB3.out⟩
theorem implFollows : ImplFollows := fun A B r s n w hv hu _ => folI_any A B r s n w hv hu
end Go.Proofs.Ytlnmdfgcpfbleaa