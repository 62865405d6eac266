/-
  Texts in one: Rcy Rdr Tlt Rds Rdt.
-/
import Derived.Test.YtlnmdfgcpfbleaaJad
import Derived.Test.YtlnmdfgcpfbleaaJab
import Derived.Test.YtlnmdfgcpfbleaaJac
import Derived.Deep.Cut
import Derived.Deep.CutRange
import Derived.Deep.RegionHeld3
namespace Go.Proofs.Ytlnmdfgcpfbleaa
set_option linter.unusedVariables false
set_option linter.unusedSimpArgs false
open Go.RowKit Go.Sort
structure CR (w X : World) (O : Array Value) (cs : List Cel) (vs : List Value) (fp : Fp) : Prop where
 out : Bx X w.heap.size 35 O
 res : Bx X (w.heap.size + 1) 35 #[.int .i64 0,.slice none 0 0,.slice none 0 0,.slice none 0 0,.bool false,.bool false,.int .i64 0,.slice none 0 0]
 own : owL X cs vs fp
 fpl : ∀ b,fp b → w.heap.size + 1 < b
 below : Below w.heap.size w X
theorem CR.put {w X Z X' : World} {O : Array Value} {cs : List Cel} {vs : List Value} {fp f : Fp} {c : Cel} {v : Value} (h : CR w X O cs vs fp) (hbZ : Below X.heap.size X Z) (hw : Wrt (fun _ => False) Z X') (ho : Cel.ow X' c v f) (hf : ∀ b,f b → b = Z.heap.size) (i : Nat) :
  CR w X' O cs vs fp ∧ ∃ fp',CR w (X'.setCell ⟨w.heap.size,i,none⟩ v) (O.setIfInBounds i v) (cs ++ [c]) (vs ++ [v]) fp' := by
 have hb : Below X.heap.size X X' := hw.below hbZ hbZ.size (fun b h => absurd h id)
 have hol := h.res.lt
 have hZ := hbZ.size
 have h1 : CR w X' O cs vs fp := ⟨h.out.below hb,h.res.below hb,owL_below h.own hb,h.fpl,h.below.trans (hb.mono h.below.size)⟩
 refine ⟨h1,fun b => fp b ∨ f b,h1.out.setC i v,h1.res.far (by omega) v,owL_wrt (owL_append h1.own (owL_one.2 ho) (fun b h2 h3 => by have := owL_lt h.own b h2;have := hf b h3;omega)) (Wrt.set X' w.heap.size i v) (fun b hb e => ?_),fun b hb => ?_,h1.below.setCell (p := ⟨w.heap.size,i,none⟩) (Nat.le_refl _) v⟩
 ·rcases hb with hb | hb
  ·have := h.fpl b hb;omega
  ·have := hf b hb;omega
 ·rcases hb with hb | hb
  ·exact h.fpl b hb
  ·have := hf b hb;omega
theorem CR.ints {w X : World} {O : Array Value} {cs : List Cel} {vs : List Value} {fp : Fp} (h : CR w X O cs vs fp) {x : Option Addr} {c : Nat} {l : List Int} (hv : Vec w x l.length l) (hl : l.length ≤ 1000000) (i : Nat) (o : Value) (hi : O[i]? = some o) (i0 : TypeInfo) (hi0 : Try.prog.info? 2 = some i0) (hz0 : i0.zero = some (.int .i64 0)) (hz1 : i0.size = 1) (hz2 : i0.bytes = 8) :
  ∀ Z,Same Z (X.alloc (.cells #[] 2)) → ∃ v' w4,(Builtin.append_ #[24,24] 24 #[.slice (some ⟨X.heap.size,0,none⟩) 0 0,.slice x l.length c]).run Try.prog Z = .ok v' w4 ∧
   ∃ a' c',v' = .slice a' l.length c' ∧ w4.cell? ⟨w.heap.size,i,none⟩ = some o ∧ w4.frozen? ⟨w.heap.size,i,none⟩ = false ∧ ∃ fp',CR w (w4.setCell ⟨w.heap.size,i,none⟩ (.slice a' l.length c')) (O.setIfInBounds i (.slice a' l.length c')) (cs ++ [icl l]) (vs ++ [.slice a' l.length c']) fp' := by
 intro Z hZ
 have hbZ : Below X.heap.size X Z := (oneA16 X _).trans (hZ.below.mono (oneA16 X _).size)
 obtain ⟨a6,c6,w6,fp6,hr6,ho6,hw6,hf6⟩ := ints_copied (P := Try.prog) (w := Z) 24 24 2 i0 Try.underlying24 hi0 hz0 hz1 hz2 (plainS X.heap.size 0) (x := x) (c := c) (hv.below (h.below.trans (hbZ.mono h.below.size)) (Nat.le_refl _)) hl
 obtain ⟨h1,fp',h2⟩ := h.put hbZ hw6 ho6 hf6 i
 exact ⟨_,w6,hr6,a6,c6,rfl,h1.out.at i hi,h1.out.f i,fp',h2⟩
theorem CR.txts {w X : World} {O : Array Value} {cs : List Cel} {vs : List Value} {fp : Fp} (h : CR w X O cs vs fp) {x : Option Addr} {c : Nat} {l : List (List UInt8)} (hv : TxS w x l) (hl : l.length ≤ 1000000) (i : Nat) (o : Value) (hi : O[i]? = some o) (i0 : TypeInfo) (hi0 : Try.prog.info? 9 = some i0) (hz0 : i0.zero = some (.string ⟨#[]⟩)) (hz1 : i0.size = 1) (hz2 : i0.bytes = 16) :
  ∀ Z,Same Z (X.alloc (.cells #[] 9)) → ∃ v' w4,(Builtin.append_ #[33,33] 33 #[.slice (some ⟨X.heap.size,0,none⟩) 0 0,.slice x l.length c]).run Try.prog Z = .ok v' w4 ∧
   ∃ a' c',v' = .slice a' l.length c' ∧ w4.cell? ⟨w.heap.size,i,none⟩ = some o ∧ w4.frozen? ⟨w.heap.size,i,none⟩ = false ∧ ∃ fp',CR w (w4.setCell ⟨w.heap.size,i,none⟩ (.slice a' l.length c')) (O.setIfInBounds i (.slice a' l.length c')) (cs ++ [scl l]) (vs ++ [.slice a' l.length c']) fp' := by
 intro Z hZ
 have hbZ : Below X.heap.size X Z := (oneA16 X _).trans (hZ.below.mono (oneA16 X _).size)
 obtain ⟨a6,c6,w6,fp6,hr6,ho6,hw6,hf6⟩ := txs_copied (P := Try.prog) (w := Z) 33 33 9 i0 Try.underlying33 hi0 hz0 hz1 hz2 (plainS X.heap.size 0) (x := x) (c := c) (hv.below (h.below.trans (hbZ.mono h.below.size))) (by omega)
 obtain ⟨h1,fp',h2⟩ := h.put hbZ hw6 ho6 hf6 i
 exact ⟨_,w6,hr6,a6,c6,rfl,h1.out.at i hi,h1.out.f i,fp',h2⟩
attribute [local irreducible] sv
set_option maxRecDepth 100000 in
set_option maxHeartbeats 3200000 in
theorem cpyRw_any (A : Ra) (r : Rw) (w : World) (hv : RwS w A r) (h1 : r.txt.length ≤ 1000000) (h2 : r.got.length ≤ 1000000) (h3 : r.sus.length ≤ 1000000) (h4 : r.trm.length ≤ 1000000) :
  Calls Try.prog 77 #[rwV A r] w fun e w' => AnsRw w w' e r := by
 obtain ⟨i0,hi0,hz0,hz1,hz2⟩ := info_parts9 Try.info9
 obtain ⟨i2,hi2,hy0,hy1,hy2⟩ := info_parts2n Try.info2n
 have HV : Hid (RwS w A r) := hv
 have T0 : CR w ((w.alloc (.cells (rwC A r) 35)).alloc (.cells #[.int .i64 0,.slice none 0 0,.slice none 0 0,.slice none 0 0,.bool false,.bool false,.int .i64 0,.slice none 0 0] 35)) (rwC A r) [] [] (fun _ => False) := by
  have x1 := Bx.new (w.alloc (.cells (rwC A r) 35)) 35 #[.int .i64 0,.slice none 0 0,.slice none 0 0,.slice none 0 0,.bool false,.bool false,.int .i64 0,.slice none 0 0]
  rw [World.size_alloc] at x1
  exact ⟨(Bx.new w _ _).alloc _,x1,⟨rfl,fun _ h => h⟩,fun b h => absurd h id,(oneA16 w _).trans ((oneA16 _ _).mono (oneA16 w _).size)⟩
 obtain ⟨ver,txt,got,sus,wed,rdy,by_,trm⟩ := r
 obtain ⟨ta,tc,ga,gc,sa,sc,ma,mc⟩ := A
 unfold rwV
 unfold rwC at *
 simp only at *
 generalize hWW : (w.alloc (.cells #[.int .i64 ver,.slice ta txt.length tc,.slice ga got.length gc,.slice sa sus.length sc,.bool wed,.bool rdy,.int .i64 by_,.slice ma trm.length mc] 35)).alloc (.cells #[.int .i64 0,.slice none 0 0,.slice none 0 0,.slice none 0 0,.bool false,.bool false,.int .i64 0,.slice none 0 0] 35) = W at *
 have hA := T0.txts (x := ta) (c := tc) (l := txt) HV.out.txt h1 1 (.slice ta txt.length tc) rfl i0 hi0 hz0 hz1 hz2
 have c1 : W.cell? ⟨w.heap.size,1,none⟩ = some (.slice ta txt.length tc) := T0.out.at 1 rfl
 have d1 : (W.alloc (.cells #[] 9)).cell? ⟨w.heap.size,1,none⟩ = some (.slice ta txt.length tc) := (T0.out.below (oneA16 W (.cells #[] 9))).at 1 rfl
 clear T0
 clear hv
 go_enter Try.func77,Try.ntmps77
 go_upto_region 1 with fail
 go_upto_region 2 with (at_builtin;refine wpList_append_of (by rfl) _ _ _ _ (by rfl) _ _ (by rfl) (by rfl) hA ⟨rfl,rfl,rfl,rfl⟩ ?_;rintro v1 w1 ⟨a1,e1,rfl,q1a,q1b,fp1,hR1⟩;have HR1 : Hid (CR w (w1.setCell ⟨w.heap.size,1,none⟩ (.slice a1 txt.length e1)) (#[.int .i64 ver,.slice ta txt.length tc,.slice ga got.length gc,.slice sa sus.length sc,.bool wed,.bool rdy,.int .i64 by_,.slice ma trm.length mc].setIfInBounds 1 (.slice a1 txt.length e1)) ([] ++ [scl txt]) ([] ++ [.slice a1 txt.length e1]) fp1) := hR1;clear hR1 hA c1 d1)
 clear q1a q1b
 generalize w1.setCell ⟨w.heap.size,1,none⟩ (.slice a1 txt.length e1) = W1 at *
 have T1 : CR w W1 #[.int .i64 ver,.slice a1 txt.length e1,.slice ga got.length gc,.slice sa sus.length sc,.bool wed,.bool rdy,.int .i64 by_,.slice ma trm.length mc] ([] ++ [scl txt]) ([] ++ [.slice a1 txt.length e1]) fp1 := by simpa using HR1.out
 clear HR1
 have hA := T1.ints (x := ga) (c := gc) (l := got) HV.out.got h2 2 (.slice ga got.length gc) rfl i2 hi2 hy0 hy1 hy2
 have c2 : W1.cell? ⟨w.heap.size,2,none⟩ = some (.slice ga got.length gc) := T1.out.at 2 rfl
 have d2 : (W1.alloc (.cells #[] 2)).cell? ⟨w.heap.size,2,none⟩ = some (.slice ga got.length gc) := (T1.out.below (oneA16 W1 (.cells #[] 2))).at 2 rfl
 clear T1
 go_upto_region 3 with (at_builtin;refine wpList_append_of (by rfl) _ _ _ _ (by rfl) _ _ (by rfl) (by rfl) hA ⟨rfl,rfl,rfl,rfl⟩ ?_;rintro v2 w2 ⟨a2,e2,rfl,q2a,q2b,fp2,hR2⟩;have HR2 : Hid (CR w (w2.setCell ⟨w.heap.size,2,none⟩ (.slice a2 got.length e2)) (#[.int .i64 ver,.slice a1 txt.length e1,.slice ga got.length gc,.slice sa sus.length sc,.bool wed,.bool rdy,.int .i64 by_,.slice ma trm.length mc].setIfInBounds 2 (.slice a2 got.length e2)) (([] ++ [scl txt]) ++ [icl got]) (([] ++ [.slice a1 txt.length e1]) ++ [.slice a2 got.length e2]) fp2) := hR2;clear hR2 hA c2 d2)
 clear q2a q2b
 generalize w2.setCell ⟨w.heap.size,2,none⟩ (.slice a2 got.length e2) = W2 at *
 have T2 : CR w W2 #[.int .i64 ver,.slice a1 txt.length e1,.slice a2 got.length e2,.slice sa sus.length sc,.bool wed,.bool rdy,.int .i64 by_,.slice ma trm.length mc] (([] ++ [scl txt]) ++ [icl got]) (([] ++ [.slice a1 txt.length e1]) ++ [.slice a2 got.length e2]) fp2 := by simpa using HR2.out
 clear HR2
 have hA := T2.ints (x := sa) (c := sc) (l := sus) HV.out.sus h3 3 (.slice sa sus.length sc) rfl i2 hi2 hy0 hy1 hy2
 have c3 : W2.cell? ⟨w.heap.size,3,none⟩ = some (.slice sa sus.length sc) := T2.out.at 3 rfl
 have d3 : (W2.alloc (.cells #[] 2)).cell? ⟨w.heap.size,3,none⟩ = some (.slice sa sus.length sc) := (T2.out.below (oneA16 W2 (.cells #[] 2))).at 3 rfl
 clear T2
 go_upto_region 4 with (at_builtin;refine wpList_append_of (by rfl) _ _ _ _ (by rfl) _ _ (by rfl) (by rfl) hA ⟨rfl,rfl,rfl,rfl⟩ ?_;rintro v3 w3 ⟨a3,e3,rfl,q3a,q3b,fp3,hR3⟩;have HR3 : Hid (CR w (w3.setCell ⟨w.heap.size,3,none⟩ (.slice a3 sus.length e3)) (#[.int .i64 ver,.slice a1 txt.length e1,.slice a2 got.length e2,.slice sa sus.length sc,.bool wed,.bool rdy,.int .i64 by_,.slice ma trm.length mc].setIfInBounds 3 (.slice a3 sus.length e3)) ((([] ++ [scl txt]) ++ [icl got]) ++ [icl sus]) ((([] ++ [.slice a1 txt.length e1]) ++ [.slice a2 got.length e2]) ++ [.slice a3 sus.length e3]) fp3) := hR3;clear hR3 hA c3 d3)
 clear q3a q3b
 generalize w3.setCell ⟨w.heap.size,3,none⟩ (.slice a3 sus.length e3) = W3 at *
 have T3 : CR w W3 #[.int .i64 ver,.slice a1 txt.length e1,.slice a2 got.length e2,.slice a3 sus.length e3,.bool wed,.bool rdy,.int .i64 by_,.slice ma trm.length mc] ((([] ++ [scl txt]) ++ [icl got]) ++ [icl sus]) ((([] ++ [.slice a1 txt.length e1]) ++ [.slice a2 got.length e2]) ++ [.slice a3 sus.length e3]) fp3 := by simpa using HR3.out
 clear HR3
 have hA := T3.ints (x := ma) (c := mc) (l := trm) HV.out.trm h4 7 (.slice ma trm.length mc) rfl i2 hi2 hy0 hy1 hy2
 have c4 : W3.cell? ⟨w.heap.size,7,none⟩ = some (.slice ma trm.length mc) := T3.out.at 7 rfl
 have d4 : (W3.alloc (.cells #[] 2)).cell? ⟨w.heap.size,7,none⟩ = some (.slice ma trm.length mc) := (T3.out.below (oneA16 W3 (.cells #[] 2))).at 7 rfl
 clear T3
 go_upto_region 5 with (at_builtin;refine wpList_append_of (by rfl) _ _ _ _ (by rfl) _ _ (by rfl) (by rfl) hA ⟨rfl,rfl,rfl,rfl⟩ ?_;rintro v4 w4 ⟨a4,e4,rfl,q4a,q4b,fp4,hR4⟩;have HR4 : Hid (CR w (w4.setCell ⟨w.heap.size,7,none⟩ (.slice a4 trm.length e4)) (#[.int .i64 ver,.slice a1 txt.length e1,.slice a2 got.length e2,.slice a3 sus.length e3,.bool wed,.bool rdy,.int .i64 by_,.slice ma trm.length mc].setIfInBounds 7 (.slice a4 trm.length e4)) (((([] ++ [scl txt]) ++ [icl got]) ++ [icl sus]) ++ [icl trm]) (((([] ++ [.slice a1 txt.length e1]) ++ [.slice a2 got.length e2]) ++ [.slice a3 sus.length e3]) ++ [.slice a4 trm.length e4]) fp4) := hR4;clear hR4 hA c4 d4)
 clear q4a q4b
 generalize w4.setCell ⟨w.heap.size,7,none⟩ (.slice a4 trm.length e4) = W4 at *
 have T4 : CR w W4 #[.int .i64 ver,.slice a1 txt.length e1,.slice a2 got.length e2,.slice a3 sus.length e3,.bool wed,.bool rdy,.int .i64 by_,.slice a4 trm.length e4] (((([] ++ [scl txt]) ++ [icl got]) ++ [icl sus]) ++ [icl trm]) (((([] ++ [.slice a1 txt.length e1]) ++ [.slice a2 got.length e2]) ++ [.slice a3 sus.length e3]) ++ [.slice a4 trm.length e4]) fp4 := by simpa using HR4.out
 clear HR4
 obtain ⟨⟨o0,o1,o2,o3⟩,o4,o5,o6,o7⟩ := Bx.r8 T4.out
 obtain ⟨⟨r0,r1,r2,r3⟩,r4,r5,r6,r7⟩ := Bx.r8 T4.res
 obtain ⟨⟨f0,f1,f2,f3⟩,f4,f5,f6,f7⟩ := T4.res.f8
 have HT : Hid (CR w W4 #[.int .i64 ver,.slice a1 txt.length e1,.slice a2 got.length e2,.slice a3 sus.length e3,.bool wed,.bool rdy,.int .i64 by_,.slice a4 trm.length e4] (((([] ++ [scl txt]) ++ [icl got]) ++ [icl sus]) ++ [icl trm]) (((([] ++ [.slice a1 txt.length e1]) ++ [.slice a2 got.length e2]) ++ [.slice a3 sus.length e3]) ++ [.slice a4 trm.length e4]) fp4) := T4
 clear T4
 go_wp2
 refine bodyPost_ret (v := .agg #[.int .i64 ver,.slice a1 txt.length e1,.slice a2 got.length e2,.slice a3 sus.length e3,.bool wed,.bool rdy,.int .i64 by_,.slice a4 trm.length e4]) (by simp [results,Try.results77,go_sem, *]) rfl ?_
 refine ⟨⟨a1,e1,a2,e2,a3,e3,a4,e4⟩,rfl,fp4,owL_wrt HT.out.own (wrt8 _ (w.heap.size + 1)) (fun b hb e => by have := HT.out.fpl b hb;omega),fun b hb => by have := HT.out.fpl b hb;omega,(wrt8 _ (w.heap.size + 1)).below HT.out.below HT.out.below.size (fun b e => by rw [e];omega)⟩
end Go.Proofs.Ytlnmdfgcpfbleaa
namespace Go.Proofs.Ytlnmdfgcpfbleaa
set_option linter.unusedVariables false
set_option linter.unusedSimpArgs false
open Go.RowKit Go.Sort
theorem totS_le {T : List (List UInt8)} {m : Nat} (h : ∀ i,i < T.length → (T.getD i []).length ≤ m) : ∀ k,k ≤ T.length → totS T k ≤ k * m
 | 0,_ => by simp [totS]
 | k + 1,hk => by
  have := totS_le h k (by omega)
  have := h k (by omega)
  rw [totS,Nat.add_mul]
  omega
theorem SmR.sz {r : Rw} (h : SmR r) : szRw r ≤ 1048576 := by
 have h1 := totS_le h.ts r.txt.length (Nat.le_refl _)
 have := h.tl
 have := h.gl
 have := h.sl
 have := h.ml
 have h2 : r.txt.length * 21 ≤ 20 * 21 := Nat.mul_le_mul_right 21 h.tl
 unfold szRw
 omega
theorem SmR.fit {r : Rw} (h : SmR r) : FitR r := ⟨h.gf,h.sf,h.mf⟩
theorem SmR.i64 {r : Rw} (h : SmR r) : Rw64 r := ⟨⟨by have := h.ver;omega,by have := h.ver;omega⟩,by have := h.bys;omega,by have := h.bys;omega⟩
theorem owL_it {w : World} {cs : List Cel} {vs : List Value} {fp : Fp} (h : owL w cs vs fp) {lo : Nat} (hl : ∀ b,fp b → lo ≤ b) : It w cs vs lo w.heap.size := ⟨fp,h,fun b hb => ⟨hl b hb,owL_lt h b hb⟩⟩
theorem SmR.rwp {w : World} {A : Ra} {r : Rw} {fp : Fp} (h : SmR r) (ho : owL w (rwCels r) (rwVals A r) fp) : RwP w A r := it_rwp (owL_it ho (lo := 0) (fun b _ => Nat.zero_le b)) h.fit h.i64 h.sz
set_option maxRecDepth 100000 in
set_option maxHeartbeats 1600000 in
theorem cntC {w X : World} {p : Nat} {a : Option Addr} {len cap : Nat} {bs : Nat → Int} (h : Cc w X p a len cap bs) :
  Calls Try.prog 75 #[.pointer (some ⟨p,0,none⟩)] X fun e w' => ∃ x : Int,e = .returned (.int .i64 x) ∧ -1 ≤ x ∧ x ≤ 6 ∧ Cc w w' p a len cap bs ∧ X.grownBy w' (some p) := by
 have hO := onceC 12 h (by omega)
 go_enter Try.func75,Try.ntmps75
 go_wp2_with fail
 refine hO.mono ?_
 rintro e Y1 ⟨t,rfl,c1,g1⟩
 clear hO
 cases t with
 | false =>
  have hB := belowC 4 4 rfl c1 (by omega) (by omega)
  have HG : Hid (X.grownBy Y1 (some p)) := g1
  clear c1 g1
  go_wp2_with fail
  refine hB.mono ?_
  rintro e Y2 ⟨v,rfl,hv,c2,g2⟩
  have HQ : Hid (Cc w Y2 p a len cap bs ∧ X.grownBy Y2 (some p)) := ⟨c2,grown_trans HG.out g2⟩
  have b1 : 1 + (v : Int) ≤ 9223372036854775807 := by omega
  have b2 : -9223372036854775808 ≤ 1 + (v : Int) := by omega
  clear hB c2 g2
  go_wp2
  go_ret
  exact ⟨1 + (v : Int),rfl,by omega,by omega,HQ.out⟩
 | true =>
  have c2 := c1.step (oneA16 Y1 (.cells #[.int .i64 (-1),.int .i64 0,.int .i64 5,.int .i64 6] 2))
  have hB := belowC 4 4 rfl c2 (by omega) (by omega)
  have hq := Bx.new Y1 2 #[.int .i64 (-1),.int .i64 0,.int .i64 5,.int .i64 6]
  have hpY : p < Y1.heap.size := c1.lt
  have HG : Hid (X.grownBy (Y1.alloc (.cells #[.int .i64 (-1),.int .i64 0,.int .i64 5,.int .i64 6] 2)) (some p)) := grown_trans g1 (World.grownBy_alloc _ _ _)
  clear c1 g1 c2
  go_wp2_with fail
  refine hB.mono ?_
  rintro e Y2 ⟨z,rfl,hz,c2,g2⟩
  have HQ : Hid (Cc w Y2 p a len cap bs ∧ X.grownBy Y2 (some p)) := ⟨c2,grown_trans HG.out g2⟩
  have hq2 := hq.grown g2 (by simp;omega)
  clear hB c2 g2 hq
  obtain rfl | rfl | rfl | rfl : z = 0 ∨ z = 1 ∨ z = 2 ∨ z = 3 := by omega
  ·have hqc : Y2.cell? ⟨Y1.heap.size,0,none⟩ = some (.int .i64 (-1)) := hq2.at 0 rfl
   clear hq2
   go_wp2
   go_ret
   exact ⟨-1,rfl,by omega,by omega,HQ.out⟩
  ·have hqc : Y2.cell? ⟨Y1.heap.size,1,none⟩ = some (.int .i64 0) := hq2.at 1 rfl
   clear hq2
   go_wp2
   go_ret
   exact ⟨0,rfl,by omega,by omega,HQ.out⟩
  ·have hqc : Y2.cell? ⟨Y1.heap.size,2,none⟩ = some (.int .i64 5) := hq2.at 2 rfl
   clear hq2
   go_wp2
   go_ret
   exact ⟨5,rfl,by omega,by omega,HQ.out⟩
  ·have hqc : Y2.cell? ⟨Y1.heap.size,3,none⟩ = some (.int .i64 6) := hq2.at 3 rfl
   clear hq2
   go_wp2
   go_ret
   exact ⟨6,rfl,by omega,by omega,HQ.out⟩
set_option maxRecDepth 100000 in
set_option maxHeartbeats 1600000 in
theorem drawNr_any (a : Option Addr) (len cap : Nat) (bs : Nat → Int) (w : World) (hv : BVec w a len bs) (hl : len ≤ 4096) :
  Calls Try.prog 31 #[.slice a len cap] w fun e w' => ∃ x : Int,e = .returned (.int .i64 x) ∧ -1 ≤ x ∧ x ≤ 6 ∧ Below w.heap.size w w' := by
 have hN := newC a len cap bs w w (Below.refl _ _) hv hl
 go_enter Try.func31,Try.ntmps31
 go_wp2_with fail
 refine hN.mono ?_
 rintro e X1 ⟨p,rfl,hp,c1,hb1⟩
 have hC := cntC c1
 clear hN c1 hb1
 go_wp2_with fail
 refine hC.mono ?_
 rintro e X2 ⟨x,rfl,h0,h1,c2,g2⟩
 have HB : Hid (Below w.heap.size w X2) := c2.below
 clear hC c2 g2
 go_wp2
 go_ret
 exact ⟨x,rfl,h0,h1,HB.out⟩
set_option maxRecDepth 100000 in
set_option maxHeartbeats 3200000 in
theorem drawRo_any (a : Option Addr) (len cap : Nat) (bs : Nat → Int) (w : World) (hv : BVec w a len bs) (hl : len ≤ 4096) :
  Calls Try.prog 30 #[.slice a len cap] w fun e w' => ∃ (A : Ra) (r : Rw) (n : Int),e = .returned (.tuple #[rwV A r,.int .i64 n]) ∧ RwP w' A r ∧ SmR r ∧ -1 ≤ n ∧ n ≤ 6 ∧ Below w.heap.size w w' := by
 have hb1 := oneA16 w (.cells #[.int .i64 0,.slice none 0 0,.slice none 0 0,.slice none 0 0,.bool false,.bool false,.int .i64 0,.slice none 0 0] 35)
 have HR : Hid (Bx (w.alloc (.cells #[.int .i64 0,.slice none 0 0,.slice none 0 0,.slice none 0 0,.bool false,.bool false,.int .i64 0,.slice none 0 0] 35)) w.heap.size 35 #[.int .i64 0,.slice none 0 0,.slice none 0 0,.slice none 0 0,.bool false,.bool false,.int .i64 0,.slice none 0 0]) := Bx.new _ _ _
 have hN := newC a len cap bs w _ hb1 hv hl
 generalize hX0 : w.alloc (.cells #[.int .i64 0,.slice none 0 0,.slice none 0 0,.slice none 0 0,.bool false,.bool false,.int .i64 0,.slice none 0 0] 35) = X0 at *
 clear hb1
 go_enter Try.func30,Try.ntmps30
 go_wp2_with fail
 refine hN.mono ?_
 rintro e X1 ⟨p,rfl,hp,c1,hb1⟩
 have R1 := HR.out.below hb1
 have hwp : w.heap.size < p := by have := HR.out.lt;omega
 have hC := cntC c1
 clear hN c1 hb1 HR
 go_wp2_with fail
 refine hC.mono ?_
 rintro e X2 ⟨x,rfl,h0,h1,c2,g2⟩
 have R2 := R1.grown g2 (by simp;omega)
 obtain ⟨N,hN1,hN5⟩ : ∃ N : Nat,max 0 (min x 5) = (N : Int) ∧ N ≤ 5 := ⟨(max 0 (min x 5)).toNat,by omega,by omega⟩
 have hD := drawRw_any N (N : Int) rfl hN5 c2
 have HR2 : Hid (Bx X2 w.heap.size 35 #[.int .i64 0,.slice none 0 0,.slice none 0 0,.slice none 0 0,.bool false,.bool false,.int .i64 0,.slice none 0 0]) := R2
 have hMi := fun X => l1Min_any x 5 X
 have hMa := fun X => l1Max_any 0 (min x 5) X
 rw [hN1] at hMa
 generalize min x 5 = mm at *
 clear hC c2 g2 R1 R2 hN1
 unfold rwV rwC at hD
 go_wp2_with (first
  | (go_at_call 66;refine (hMi _).mono ?_;rintro e w' ⟨rfl,hw'⟩;rw [hw'];clear hw')
  | (go_at_call 65;refine (hMa _).mono ?_;rintro e w' ⟨rfl,hw'⟩;rw [hw'];clear hw'))
 refine hD.mono ?_
 rintro e X3 ⟨A,r,fp,rfl,hS,ho,hf,c3,g3⟩
 have R3 := HR2.out.grown g3 (by simp;omega)
 have hb4 := oneA16 X3 (.cells (rwC A r) 35)
 have B4 := Bx.new X3 35 (rwC A r)
 have R4 := R3.below hb4
 have o4 := owL_below ho hb4
 have c4 := c3.step hb4
 have hs3 := g3.size
 have HS : Hid (SmR r) := hS
 unfold rwC at *
 generalize hX4 : X3.alloc (.cells #[.int .i64 r.ver,.slice A.ta r.txt.length A.tc,.slice A.ga r.got.length A.gc,.slice A.sa r.sus.length A.sc,.bool r.wed,.bool r.rdy,.int .i64 r.by_,.slice A.ma r.trm.length A.mc] 35) = X4 at *
 have HE : Hid (owL X4 (rwCels r) (rwVals A r) fp ∧ Cc w X4 p a len cap bs) := ⟨o4,c4⟩
 have hX2 : X2.heap.size ≤ X3.heap.size := hs3
 have HF : Hid (∀ b,fp b → w.heap.size < b) := fun b hb => by have := hf b hb;have := HR2.out.lt;omega
 obtain ⟨⟨e0,e1,e2,e3⟩,e4,e5,e6,e7⟩ := Bx.r8 B4
 obtain ⟨⟨s0,s1,s2,s3⟩,s4,s5,s6,s7⟩ := Bx.r8 R4
 obtain ⟨⟨f0,f1,f2,f3⟩,f4,f5,f6,f7⟩ := R4.f8
 clear hD ho hf c3 g3 R3 hb4 B4 R4 o4 c4 hS HR2 hMi hMa
 go_wp2
 refine bodyPost_ret (v := .tuple #[.agg #[.int .i64 r.ver,.slice A.ta r.txt.length A.tc,.slice A.ga r.got.length A.gc,.slice A.sa r.sus.length A.sc,.bool r.wed,.bool r.rdy,.int .i64 r.by_,.slice A.ma r.trm.length A.mc],.int .i64 x]) (by simp [results,Try.results30,go_sem, *]) rfl ?_
 exact ⟨A,r,x,rfl,HS.out.rwp (owL_wrt HE.out.1 (wrt8 _ w.heap.size) (fun b hb e => by have := HF.out b hb;omega)),HS.out,h0,h1,(wrt8 _ w.heap.size).below HE.out.2.below HE.out.2.below.size (fun b e => by rw [e];exact Nat.le_refl _)⟩
end Go.Proofs.Ytlnmdfgcpfbleaa
namespace Go.Proofs.Ytlnmdfgcpfbleaa
set_option linter.unusedVariables false
set_option linter.unusedSimpArgs false
open Go.RowKit Go.Sort
section
variable {P : Program} {l : List Oper} {Q : Exit → Act → World → Prop} {S : World → Prop}
end
section
variable {P : Program} {ops : Array Oper} {Q : Exit → Act → World → Prop} {md : Region.Mode} {S : World → Prop}
theorem wpAnyT_firstA {i z : Nat} {oi : Oper} {v : Value} (hi : ops[i]? = some oi) (hsel : ∀ (j : Nat) (o : Oper) cs b,ops[j]? = some o → o.op ≠ .select cs b)
  (hQ : ∀ c a w,Q (.panic c) (a.put oi.dst v) w → Q (.panic c) a w) (hz : ops.size ≤ z) :
  ∀ (fuel : Nat) (listed : Array Bool) (a : Act) (w : World),
   (∀ j oj,ops[j]? = some oj → j ≠ i → listed.getD j true = false → (∀ e ∈ oj.after,Region.binds md e = true → e.on ≠ i) → oi.apart ops oj = true) →
   i ∈ Region.ready md ops listed → YieldsIf P ops S oi v a → S w →
   wpAnyT P md ops Q S z fuel (listed.setIfInBounds i true) (a.put oi.dst v) w → wpAnyT P md ops Q S z (fuel + 1) listed a w := by
 intro fuel
 induction fuel with
 | zero =>
  intro listed a w _ hr hy hS H
  refine ⟨fun h => (by rw [h] at hr;cases hr),fun j hj => ?_⟩
  by_cases hji : j = i
  ·subst hji;exact hy.wpOp hi hS ⟨fun _ h => h,H⟩
  ·have := ready_mono hj hji
   rw [H.1] at this
   cases this
 | succ fuel ih =>
  intro listed a w hfree hr hy hS H
  have hun := (mem_ready.1 hr).1
  refine ⟨fun h => (by rw [h] at hr;cases hr),fun j hj => ?_⟩
  by_cases hji : j = i
  ·subst hji;exact hy.wpOp hi hS ⟨fun _ h => h,H⟩
  ·obtain ⟨hjun,oj,hoj,hall⟩ := mem_ready.1 hj
   have hnot : ∀ e ∈ oj.after,Region.binds md e = true → e.on ≠ i := fun e he hb heq => by
    have h3 := hall e he hb
    rw [heq,getD_both hun] at h3
    cases h3
   have hjz : j ≠ z := fun e => by
    have := (Array.getElem?_eq_some_iff.1 hoj).1
    omega
   have h1 := H.2 j (ready_mono hj hji)
   have h2 := wpOp_putIf hoj (hfree j oj hoj hji hjun hnot) (fun cs b => hsel i oi cs b hi) (fun cs b => hsel j oj cs b hoj) hQ hy h1
   have hfree' : ∀ k ok,ops[k]? = some ok → k ≠ i → (listed.setIfInBounds j true).getD k true = false →
     (∀ e ∈ ok.after,Region.binds md e = true → e.on ≠ i) → oi.apart ops ok = true := fun k ok hk hki hun hno => by
    refine hfree k ok hk hki ?_ hno
    by_cases hjk : j = k
    ·subst hjk;exact hjun
    ·rw [getD_set_ne true hjk] at hun;exact hun
   refine wpOp_mono (fun a' w' h3 => ⟨h3.2.1,ih (listed.setIfInBounds j true) a' w' hfree' (ready_mono hr (Ne.symm hji)) h3.1 (h3.2.1 hjz hS) ?_⟩) h2
   rw [Array.setIfInBounds_comm _ _ hji]
   exact h3.2.2
end
section
variable {P : Program} {l : List Oper} {Q : Exit → Act → World → Prop} {S : World → Prop}
theorem gt_takeA {i z : Nat} {oi : Oper} {v : Value} {fuel : Nat} {listed : Array Bool} {a : Act} {w : World} (hi : l[i]? = some oi) (hs : Region.noSelect l.toArray = true)
  (hsk : decide (l.length ≤ z) = true) (hf : Region.free .any l.toArray listed i = true) (hr : (Region.ready .any l.toArray listed).contains i = true)
  (hQ : ∀ c a w,Q (.panic c) (a.put oi.dst v) w → Q (.panic c) a w) (hy : YieldsIf P l.toArray S oi v a) (hS : S w)
  (h : GT P l Q S z fuel (listed.setIfInBounds i true) (a.put oi.dst v) w) : GT P l Q S z (fuel + 1) listed a w := by
 have hi' : l.toArray[i]? = some oi := by simpa using hi
 exact wpAnyT_firstA hi' (Region.noSelect_spec hs) hQ (by simpa using hsk) fuel listed a w (Region.free_spec hi' hf) (by simpa using hr) hy hS h
theorem gt_end {z : Nat} {fuel : Nat} {listed : Array Bool} {a : Act} {w : World} (hr : Region.ready .any l.toArray listed = []) (h : Q .normal a w) : GT P l Q S z fuel listed a w := by
 cases fuel with
 | zero => exact ⟨hr,h⟩
 | succ f => exact ⟨fun _ => h,by rw [hr];simp⟩
end
end Go.Proofs.Ytlnmdfgcpfbleaa
namespace Go.Proofs.Ytlnmdfgcpfbleaa
set_option linter.unusedVariables false
set_option linter.unusedSimpArgs false
open Go.RowKit Go.Sort
theorem bx_set8 {w : World} {B : Nat} {T : TypeId} {y0 y1 y2 y3 y4 y5 y6 y7 x0 x1 x2 x3 x4 x5 x6 x7 : Value} (h : Bx w B T #[y0,y1,y2,y3,y4,y5,y6,y7]) : Bx ((((((((w.setCell ⟨B,0,none⟩ x0).setCell ⟨B,1,none⟩ x1).setCell ⟨B,2,none⟩ x2).setCell ⟨B,3,none⟩ x3).setCell ⟨B,4,none⟩ x4).setCell ⟨B,5,none⟩ x5).setCell ⟨B,6,none⟩ x6).setCell ⟨B,7,none⟩ x7) B T #[x0,x1,x2,x3,x4,x5,x6,x7] := by
 have := (((((((h.setC 0 x0).setC 1 x1).setC 2 x2).setC 3 x3).setC 4 x4).setC 5 x5).setC 6 x6).setC 7 x7
 simpa using this
set_option maxRecDepth 100000 in
set_option maxHeartbeats 3200000 in
theorem drawLt_any (a : Option Addr) (len cap : Nat) (bs : Nat → Int) (w : World) (hv : BVec w a len bs) (hl : len ≤ 4096) :
  Calls Try.prog 29 #[.slice a len cap] w fun e w' => ∃ (A B : Ra) (r s : Rw),e = .returned (.tuple #[rwV A r,rwV B s]) ∧ RwP w' A r ∧ RwP w' B s ∧ SmR r ∧ SmR s ∧ Below w.heap.size w w' := by
 have hmix : Try.prog.follows .mixedOrders = true := by kernel_rfl
 have hb0 : Below w.heap.size w ((w.alloc (.cells #[.int .i64 0,.slice none 0 0,.slice none 0 0,.slice none 0 0,.bool false,.bool false,.int .i64 0,.slice none 0 0] 35)).alloc (.cells #[.int .i64 0,.slice none 0 0,.slice none 0 0,.slice none 0 0,.bool false,.bool false,.int .i64 0,.slice none 0 0] 35)) := (oneA16 w _).trans ((oneA16 _ _).mono (oneA16 w _).size)
 have HR : Hid (Bx ((w.alloc (.cells #[.int .i64 0,.slice none 0 0,.slice none 0 0,.slice none 0 0,.bool false,.bool false,.int .i64 0,.slice none 0 0] 35)).alloc (.cells #[.int .i64 0,.slice none 0 0,.slice none 0 0,.slice none 0 0,.bool false,.bool false,.int .i64 0,.slice none 0 0] 35)) w.heap.size 35 #[.int .i64 0,.slice none 0 0,.slice none 0 0,.slice none 0 0,.bool false,.bool false,.int .i64 0,.slice none 0 0]) := (Bx.new _ _ _).alloc _
 have HRb : Hid (Bx ((w.alloc (.cells #[.int .i64 0,.slice none 0 0,.slice none 0 0,.slice none 0 0,.bool false,.bool false,.int .i64 0,.slice none 0 0] 35)).alloc (.cells #[.int .i64 0,.slice none 0 0,.slice none 0 0,.slice none 0 0,.bool false,.bool false,.int .i64 0,.slice none 0 0] 35)) (w.heap.size + 1) 35 #[.int .i64 0,.slice none 0 0,.slice none 0 0,.slice none 0 0,.bool false,.bool false,.int .i64 0,.slice none 0 0]) := by
  have := Bx.new (w.alloc (.cells #[.int .i64 0,.slice none 0 0,.slice none 0 0,.slice none 0 0,.bool false,.bool false,.int .i64 0,.slice none 0 0] 35)) 35 #[.int .i64 0,.slice none 0 0,.slice none 0 0,.slice none 0 0,.bool false,.bool false,.int .i64 0,.slice none 0 0]
  rw [World.size_alloc] at this
  exact this
 have hN := newC a len cap bs w _ hb0 hv hl
 generalize hX0 : (w.alloc (.cells #[.int .i64 0,.slice none 0 0,.slice none 0 0,.slice none 0 0,.bool false,.bool false,.int .i64 0,.slice none 0 0] 35)).alloc (.cells #[.int .i64 0,.slice none 0 0,.slice none 0 0,.slice none 0 0,.bool false,.bool false,.int .i64 0,.slice none 0 0] 35) = X0 at *
 clear hb0
 go_enter Try.func29,Try.ntmps29
 go_wp2_with fail
 refine hN.mono ?_
 rintro e X1 ⟨p,rfl,hp,c1,hb1⟩
 have R1 := HR.out.below hb1
 have Q1 := HRb.out.below hb1
 have hwp : w.heap.size + 1 < p := by have := HRb.out.lt;omega
 have hp1 : p < X1.heap.size := c1.lt
 have hD := drawRw_any 2 2 rfl (by omega) c1
 clear hN c1 hb1 HR HRb
 unfold rwV rwC at hD
 go_wp2_with fail
 refine hD.mono ?_
 rintro e X3 ⟨A,r,fp,rfl,hS,ho,hf,c3,g3⟩
 have hb4 := oneA16 X3 (.cells (rwC A r) 35)
 have HB4 : Hid (Bx (X3.alloc (.cells (rwC A r) 35)) X3.heap.size 35 (rwC A r)) := Bx.new X3 35 (rwC A r)
 have R4 := (R1.grown g3 (by simp;omega)).below hb4
 have Q4 := (Q1.grown g3 (by simp;omega)).below hb4
 have o4 := owL_below ho hb4
 have c4 := c3.step hb4
 have hs3 := g3.size
 have hq1 := Q1.lt
 have HS : Hid (SmR r) := hS
 have hplX : p < X3.heap.size := c3.lt
 have HF : Hid (∀ b,fp b → w.heap.size + 1 < b ∧ b ≠ p) := fun b hb => by have := hf b hb;omega
 unfold rwC at *
 go_upto_region 3 with fail
 generalize hX4 : X3.alloc (.cells #[.int .i64 r.ver,.slice A.ta r.txt.length A.tc,.slice A.ga r.got.length A.gc,.slice A.sa r.sus.length A.sc,.bool r.wed,.bool r.rdy,.int .i64 r.by_,.slice A.ma r.trm.length A.mc] 35) = X4 at *
 have hpo : p < X3.heap.size := hplX
 have hw3 : w.heap.size + 1 < X3.heap.size := by omega
 generalize X3.heap.size = o at *
 have c4d := c4.step (Same.drewN X4 1).below
 have hD2 := drawRw_any 2 2 rfl (by omega) c4d
 unfold rwV rwC at hD2
 have HE : Hid (owL (X4.drewN 1) (rwCels r) (rwVals A r) fp ∧ Bx (X4.drewN 1) o 35 #[.int .i64 r.ver,.slice A.ta r.txt.length A.tc,.slice A.ga r.got.length A.gc,.slice A.sa r.sus.length A.sc,.bool r.wed,.bool r.rdy,.int .i64 r.by_,.slice A.ma r.trm.length A.mc] ∧ Bx (X4.drewN 1) w.heap.size 35 #[.int .i64 0,.slice none 0 0,.slice none 0 0,.slice none 0 0,.bool false,.bool false,.int .i64 0,.slice none 0 0] ∧ Bx (X4.drewN 1) (w.heap.size + 1) 35 #[.int .i64 0,.slice none 0 0,.slice none 0 0,.slice none 0 0,.bool false,.bool false,.int .i64 0,.slice none 0 0]) := ⟨owL_below o4 (Same.drewN X4 1).below,HB4.out,R4,Q4⟩
 have x1 := Bx.r8 HB4.out
 have hlo : ∀ b,fp b → b < X4.heap.size := owL_lt o4
 have HLO : Hid (∀ b,fp b → b < X4.heap.size) := hlo
 have hs4 : w.heap.size + 1 < X4.heap.size := Q4.lt
 have ho4 : o < X4.heap.size := HB4.out.lt
 clear hD hf c3 g3 R1 Q1 R4 Q4 o4 c4 c4d hS hb4 HB4 ho hs3 hlo
 refine gt_begin (S := fun X : World => (X.cell? ⟨o,0,none⟩ = some (.int .i64 r.ver) ∧ X.cell? ⟨o,1,none⟩ = some (.slice A.ta r.txt.length A.tc) ∧ X.cell? ⟨o,2,none⟩ = some (.slice A.ga r.got.length A.gc) ∧ X.cell? ⟨o,3,none⟩ = some (.slice A.sa r.sus.length A.sc)) ∧ X.cell? ⟨o,4,none⟩ = some (.bool r.wed) ∧ X.cell? ⟨o,5,none⟩ = some (.bool r.rdy) ∧ X.cell? ⟨o,6,none⟩ = some (.int .i64 r.by_) ∧ X.cell? ⟨o,7,none⟩ = some (.slice A.ma r.trm.length A.mc)) 4 hmix (by kernel_rfl) ?_
 have hHeld : (fun X : World => (X.cell? ⟨o,0,none⟩ = some (.int .i64 r.ver) ∧ X.cell? ⟨o,1,none⟩ = some (.slice A.ta r.txt.length A.tc) ∧ X.cell? ⟨o,2,none⟩ = some (.slice A.ga r.got.length A.gc) ∧ X.cell? ⟨o,3,none⟩ = some (.slice A.sa r.sus.length A.sc)) ∧ X.cell? ⟨o,4,none⟩ = some (.bool r.wed) ∧ X.cell? ⟨o,5,none⟩ = some (.bool r.rdy) ∧ X.cell? ⟨o,6,none⟩ = some (.int .i64 r.by_) ∧ X.cell? ⟨o,7,none⟩ = some (.slice A.ma r.trm.length A.mc)) X4.drew := x1
 refine gt_take (i := 0) (v := ?_) rfl (by kernel_rfl) (by kernel_rfl) (by kernel_rfl) (by kernel_rfl) (fun _ _ _ h => h) (Or.inl ⟨by rfl, ?_⟩) hHeld ?_
 rotate_left
 ·(intro X hSX;(try dsimp only at hSX);obtain ⟨⟨g0,g1,g2,g3⟩,g4,g5,g6,g7⟩ := hSX;go_simp;try with_reducible rfl)
 try simp only [Act.put,List.setIfInBounds_toArray,List.set_cons_zero,List.set_cons_succ]
 refine gt_pure (i := 1) (v := ?_) rfl (by kernel_rfl) (by kernel_rfl) (by kernel_rfl) (fun _ _ _ h => h) (Or.inl ⟨by rfl, ?_⟩) ?_
 rotate_left
 ·(intro X;go_simp;try with_reducible rfl)
 try simp only [Act.put,List.setIfInBounds_toArray,List.set_cons_zero,List.set_cons_succ]
 refine gt_one (i := 2) rfl (by kernel_rfl) (by kernel_rfl) (fun K hK => ?_)
 go_simp
 go_at_call 76
 refine hD2.mono ?_
 rintro e X5 ⟨B,s,fq,rfl,hT,hq,hfq,c5,g5⟩
 have hs5 := g5.size
 have B5 := HE.out.2.1.grown g5 (by simp;omega)
 have R5 := HE.out.2.2.1.grown g5 (by simp;omega)
 have Q5 := HE.out.2.2.2.grown g5 (by simp;omega)
 have o5 : owL X5 (rwCels r) (rwVals A r) fp := owL_wrt HE.out.1 (Wrt.of_grown g5) (fun b hb e => by cases e;exact (HF.out _ hb).2 rfl)
 refine hK.out _ _ (Bx.r8 B5) (fun hHeld2 => ?_)
 clear hK hHeld
 have hHeld := hHeld2
 try simp only [Act.put,List.setIfInBounds_toArray,List.set_cons_zero,List.set_cons_succ]
 have HG : Hid (owL X5 (rwCels r) (rwVals A r) fp ∧ owL X5 (rwCels s) (rwVals B s) fq ∧ (∀ b,fq b → w.heap.size + 1 < b) ∧ Cc w X5 p a len cap bs ∧ SmR s) := ⟨o5,hq,fun b hb => by have := hfq b hb;rw [World.heap_drewN] at this;omega,c5,hT⟩
 have R6 : Bx ((((((((X5.setCell ⟨w.heap.size,0,none⟩ (.int .i64 r.ver)).setCell ⟨w.heap.size,1,none⟩ (.slice A.ta r.txt.length A.tc)).setCell ⟨w.heap.size,2,none⟩ (.slice A.ga r.got.length A.gc)).setCell ⟨w.heap.size,3,none⟩ (.slice A.sa r.sus.length A.sc)).setCell ⟨w.heap.size,4,none⟩ (.bool r.wed)).setCell ⟨w.heap.size,5,none⟩ (.bool r.rdy)).setCell ⟨w.heap.size,6,none⟩ (.int .i64 r.by_)).setCell ⟨w.heap.size,7,none⟩ (.slice A.ma r.trm.length A.mc)) w.heap.size 35 #[.int .i64 r.ver,.slice A.ta r.txt.length A.tc,.slice A.ga r.got.length A.gc,.slice A.sa r.sus.length A.sc,.bool r.wed,.bool r.rdy,.int .i64 r.by_,.slice A.ma r.trm.length A.mc] := bx_set8 R5
 have Q6 : Bx ((((((((X5.setCell ⟨w.heap.size,0,none⟩ (.int .i64 r.ver)).setCell ⟨w.heap.size,1,none⟩ (.slice A.ta r.txt.length A.tc)).setCell ⟨w.heap.size,2,none⟩ (.slice A.ga r.got.length A.gc)).setCell ⟨w.heap.size,3,none⟩ (.slice A.sa r.sus.length A.sc)).setCell ⟨w.heap.size,4,none⟩ (.bool r.wed)).setCell ⟨w.heap.size,5,none⟩ (.bool r.rdy)).setCell ⟨w.heap.size,6,none⟩ (.int .i64 r.by_)).setCell ⟨w.heap.size,7,none⟩ (.slice A.ma r.trm.length A.mc)) (w.heap.size + 1) 35 #[.int .i64 0,.slice none 0 0,.slice none 0 0,.slice none 0 0,.bool false,.bool false,.int .i64 0,.slice none 0 0] := Q5.wrt (wrt8 X5 w.heap.size) (by omega)
 have B6 : Bx ((((((((X5.setCell ⟨w.heap.size,0,none⟩ (.int .i64 r.ver)).setCell ⟨w.heap.size,1,none⟩ (.slice A.ta r.txt.length A.tc)).setCell ⟨w.heap.size,2,none⟩ (.slice A.ga r.got.length A.gc)).setCell ⟨w.heap.size,3,none⟩ (.slice A.sa r.sus.length A.sc)).setCell ⟨w.heap.size,4,none⟩ (.bool r.wed)).setCell ⟨w.heap.size,5,none⟩ (.bool r.rdy)).setCell ⟨w.heap.size,6,none⟩ (.int .i64 r.by_)).setCell ⟨w.heap.size,7,none⟩ (.slice A.ma r.trm.length A.mc)) o 35 #[.int .i64 r.ver,.slice A.ta r.txt.length A.tc,.slice A.ga r.got.length A.gc,.slice A.sa r.sus.length A.sc,.bool r.wed,.bool r.rdy,.int .i64 r.by_,.slice A.ma r.trm.length A.mc] := B5.wrt (wrt8 X5 w.heap.size) (by omega)
 obtain ⟨⟨s0,s1,s2,s3⟩,s4,s5,s6,s7⟩ := Bx.r8 R5
 obtain ⟨⟨f0,f1,f2,f3⟩,f4,f5,f6,f7⟩ := R5.f8
 clear hD2 HE hq hfq c5 g5 o5 hT R5 Q5 B5
 refine gt_one (i := 3) rfl (by kernel_rfl) (by kernel_rfl) (fun K hK => ?_)
 go_simp
 refine hK.out _ _ (Bx.r8 B6) (fun hHeld3 => ?_)
 clear hK hHeld s0 s1 s2 s3 s4 s5 s6 s7 f0 f1 f2 f3 f4 f5 f6 f7
 have hHeld := hHeld3
 try simp only [Act.put,List.setIfInBounds_toArray,List.set_cons_zero,List.set_cons_succ]
 have hW6 : Wrt (fun b => b = w.heap.size) X5 ((((((((X5.setCell ⟨w.heap.size,0,none⟩ (.int .i64 r.ver)).setCell ⟨w.heap.size,1,none⟩ (.slice A.ta r.txt.length A.tc)).setCell ⟨w.heap.size,2,none⟩ (.slice A.ga r.got.length A.gc)).setCell ⟨w.heap.size,3,none⟩ (.slice A.sa r.sus.length A.sc)).setCell ⟨w.heap.size,4,none⟩ (.bool r.wed)).setCell ⟨w.heap.size,5,none⟩ (.bool r.rdy)).setCell ⟨w.heap.size,6,none⟩ (.int .i64 r.by_)).setCell ⟨w.heap.size,7,none⟩ (.slice A.ma r.trm.length A.mc)) := wrt8 X5 w.heap.size
 generalize ((((((((X5.setCell ⟨w.heap.size,0,none⟩ (.int .i64 r.ver)).setCell ⟨w.heap.size,1,none⟩ (.slice A.ta r.txt.length A.tc)).setCell ⟨w.heap.size,2,none⟩ (.slice A.ga r.got.length A.gc)).setCell ⟨w.heap.size,3,none⟩ (.slice A.sa r.sus.length A.sc)).setCell ⟨w.heap.size,4,none⟩ (.bool r.wed)).setCell ⟨w.heap.size,5,none⟩ (.bool r.rdy)).setCell ⟨w.heap.size,6,none⟩ (.int .i64 r.by_)).setCell ⟨w.heap.size,7,none⟩ (.slice A.ma r.trm.length A.mc)) = X6 at *
 have R7 : Bx ((((((((X6.setCell ⟨w.heap.size + 1,0,none⟩ (.int .i64 s.ver)).setCell ⟨w.heap.size + 1,1,none⟩ (.slice B.ta s.txt.length B.tc)).setCell ⟨w.heap.size + 1,2,none⟩ (.slice B.ga s.got.length B.gc)).setCell ⟨w.heap.size + 1,3,none⟩ (.slice B.sa s.sus.length B.sc)).setCell ⟨w.heap.size + 1,4,none⟩ (.bool s.wed)).setCell ⟨w.heap.size + 1,5,none⟩ (.bool s.rdy)).setCell ⟨w.heap.size + 1,6,none⟩ (.int .i64 s.by_)).setCell ⟨w.heap.size + 1,7,none⟩ (.slice B.ma s.trm.length B.mc)) w.heap.size 35 #[.int .i64 r.ver,.slice A.ta r.txt.length A.tc,.slice A.ga r.got.length A.gc,.slice A.sa r.sus.length A.sc,.bool r.wed,.bool r.rdy,.int .i64 r.by_,.slice A.ma r.trm.length A.mc] := R6.wrt (wrt8 X6 (w.heap.size + 1)) (by omega)
 have Q7 : Bx ((((((((X6.setCell ⟨w.heap.size + 1,0,none⟩ (.int .i64 s.ver)).setCell ⟨w.heap.size + 1,1,none⟩ (.slice B.ta s.txt.length B.tc)).setCell ⟨w.heap.size + 1,2,none⟩ (.slice B.ga s.got.length B.gc)).setCell ⟨w.heap.size + 1,3,none⟩ (.slice B.sa s.sus.length B.sc)).setCell ⟨w.heap.size + 1,4,none⟩ (.bool s.wed)).setCell ⟨w.heap.size + 1,5,none⟩ (.bool s.rdy)).setCell ⟨w.heap.size + 1,6,none⟩ (.int .i64 s.by_)).setCell ⟨w.heap.size + 1,7,none⟩ (.slice B.ma s.trm.length B.mc)) (w.heap.size + 1) 35 #[.int .i64 s.ver,.slice B.ta s.txt.length B.tc,.slice B.ga s.got.length B.gc,.slice B.sa s.sus.length B.sc,.bool s.wed,.bool s.rdy,.int .i64 s.by_,.slice B.ma s.trm.length B.mc] := bx_set8 Q6
 obtain ⟨⟨s0,s1,s2,s3⟩,s4,s5,s6,s7⟩ := Bx.r8 Q6
 obtain ⟨⟨f0,f1,f2,f3⟩,f4,f5,f6,f7⟩ := Q6.f8
 refine gt_last rfl (by kernel_rfl) (by kernel_rfl) (fun K hK => ?_)
 go_simp
 refine hK.out _ _ ?_
 have hW7 := wrt8 X6 (w.heap.size + 1) (a := .int .i64 s.ver) (b := .slice B.ta s.txt.length B.tc) (c := .slice B.ga s.got.length B.gc) (d := .slice B.sa s.sus.length B.sc) (e := .bool s.wed) (f := .bool s.rdy) (h := .int .i64 s.by_) (i := .slice B.ma s.trm.length B.mc)
 clear s0 s1 s2 s3 s4 s5 s6 s7 f0 f1 f2 f3 f4 f5 f6 f7 hHeld3 hHeld hK B6 Q6 R6
 generalize ((((((((X6.setCell ⟨w.heap.size + 1,0,none⟩ (.int .i64 s.ver)).setCell ⟨w.heap.size + 1,1,none⟩ (.slice B.ta s.txt.length B.tc)).setCell ⟨w.heap.size + 1,2,none⟩ (.slice B.ga s.got.length B.gc)).setCell ⟨w.heap.size + 1,3,none⟩ (.slice B.sa s.sus.length B.sc)).setCell ⟨w.heap.size + 1,4,none⟩ (.bool s.wed)).setCell ⟨w.heap.size + 1,5,none⟩ (.bool s.rdy)).setCell ⟨w.heap.size + 1,6,none⟩ (.int .i64 s.by_)).setCell ⟨w.heap.size + 1,7,none⟩ (.slice B.ma s.trm.length B.mc)) = X7 at *
 obtain ⟨⟨s0,s1,s2,s3⟩,s4,s5,s6,s7⟩ := Bx.r8 Q7
 obtain ⟨⟨t0,t1,t2,t3⟩,t4,t5,t6,t7⟩ := Bx.r8 R7
 clear Q7 R7
 go_wp2
 refine bodyPost_ret (v := .tuple #[.agg #[.int .i64 r.ver,.slice A.ta r.txt.length A.tc,.slice A.ga r.got.length A.gc,.slice A.sa r.sus.length A.sc,.bool r.wed,.bool r.rdy,.int .i64 r.by_,.slice A.ma r.trm.length A.mc],.agg #[.int .i64 s.ver,.slice B.ta s.txt.length B.tc,.slice B.ga s.got.length B.gc,.slice B.sa s.sus.length B.sc,.bool s.wed,.bool s.rdy,.int .i64 s.by_,.slice B.ma s.trm.length B.mc]]) (by simp [results,Try.results29,go_sem, *]) rfl ?_
 exact ⟨A,B,r,s,rfl,HS.out.rwp (owL_wrt (owL_wrt HG.out.1 hW6 (fun b hb e => by have := (HF.out b hb).1;omega)) hW7 (fun b hb e => by have := (HF.out b hb).1;omega)),HG.out.2.2.2.2.rwp (owL_wrt (owL_wrt HG.out.2.1 hW6 (fun b hb e => by have := HG.out.2.2.1 b hb;omega)) hW7 (fun b hb e => by have := HG.out.2.2.1 b hb;omega)),HS.out,HG.out.2.2.2.2,hW7.below (hW6.below HG.out.2.2.2.1.below HG.out.2.2.2.1.below.size (fun b e => by rw [e];exact Nat.le_refl _)) (Nat.le_trans HG.out.2.2.2.1.below.size hW6.size) (fun b e => by rw [e];omega)⟩
end Go.Proofs.Ytlnmdfgcpfbleaa
namespace Go.Proofs.Ytlnmdfgcpfbleaa
set_option linter.unusedVariables false
set_option linter.unusedSimpArgs false
open Go.RowKit Go.Sort
structure SmW (r : Rw) : Prop where
 ver : -20 ≤ r.ver ∧ r.ver ≤ 1000030
 tl : r.txt.length ≤ 25
 ts : ∀ i,i < r.txt.length → (r.txt.getD i []).length ≤ 21
 gl : r.got.length ≤ 16
 gf : Fits r.got
 sl : r.sus.length ≤ 16
 sf : Fits r.sus
 ml : r.trm.length ≤ 16
 mf : Fits r.trm
 bys : -1 ≤ r.by_ ∧ r.by_ ≤ 7
theorem SmR.w {r : Rw} (h : SmR r) : SmW r := ⟨by have := h.ver;omega,by have := h.tl;omega,h.ts,h.gl,h.gf,h.sl,h.sf,h.ml,h.mf,h.bys⟩
theorem SmW.sz {r : Rw} (h : SmW r) : szRw r ≤ 10000 := by
 have h1 := totS_le h.ts r.txt.length (Nat.le_refl _)
 have := h.tl
 have := h.gl
 have := h.sl
 have := h.ml
 have h2 : r.txt.length * 21 ≤ 25 * 21 := Nat.mul_le_mul_right 21 h.tl
 unfold szRw
 omega
theorem SmW.fit {r : Rw} (h : SmW r) : FitR r := ⟨h.gf,h.sf,h.mf⟩
theorem SmW.i64 {r : Rw} (h : SmW r) : Rw64 r := ⟨⟨by have := h.ver;omega,by have := h.ver;omega⟩,by have := h.bys;omega,by have := h.bys;omega⟩
theorem SmW.rwp {w : World} {A : Ra} {r : Rw} {fp : Fp} (h : SmW r) (ho : owL w (rwCels r) (rwVals A r) fp) : RwP w A r := it_rwp (owL_it ho (lo := 0) (fun b _ => Nat.zero_le b)) h.fit h.i64 (by have := h.sz;omega)
theorem more_sv : (⟨#[109,111,114,101]⟩ : ByteArray) = sv [109,111,114,101] := by unfold sv;rfl
theorem wrapA {a b : Int} (h : -9223372036854775808 ≤ a + b ∧ a + b ≤ 9223372036854775807) : IntKind.i64.wrap (a + b) = a + b := by rw [IntKind.wrap_i64];omega
theorem wrap_in (x : Int) : -9223372036854775808 ≤ IntKind.i64.wrap x ∧ IntKind.i64.wrap x ≤ 9223372036854775807 := by rw [IntKind.wrap_i64];omega
attribute [local irreducible] sv
set_option maxRecDepth 100000 in
set_option maxHeartbeats 12800000 in
theorem drawFo_any (a : Option Addr) (len cap : Nat) (bs : Nat → Int) (w : World) (hv : BVec w a len bs) (hl : len ≤ 4096) :
  Calls Try.prog 27 #[.slice a len cap] w fun e w' => ∃ (A B : Ra) (r s : Rw) (n : Int),e = .returned (.tuple #[rwV A r,rwV B s,.int .i64 n]) ∧ RwP w' A r ∧ RwP w' B s ∧ SmW r ∧ SmW s ∧ (-1 ≤ n ∧ n ≤ 6) ∧ Below w.heap.size w w' := by
 have hmix : Try.prog.follows .mixedOrders = true := by kernel_rfl
 obtain ⟨i0,hi0,hz0,hz1,hz2⟩ := info_parts9 Try.info9
 have hb0 : Below w.heap.size w ((w.alloc (.cells #[.int .i64 0,.slice none 0 0,.slice none 0 0,.slice none 0 0,.bool false,.bool false,.int .i64 0,.slice none 0 0] 35)).alloc (.cells #[.int .i64 0,.slice none 0 0,.slice none 0 0,.slice none 0 0,.bool false,.bool false,.int .i64 0,.slice none 0 0] 35)) := (oneA16 w _).trans ((oneA16 _ _).mono (oneA16 w _).size)
 have HR : Hid (Bx ((w.alloc (.cells #[.int .i64 0,.slice none 0 0,.slice none 0 0,.slice none 0 0,.bool false,.bool false,.int .i64 0,.slice none 0 0] 35)).alloc (.cells #[.int .i64 0,.slice none 0 0,.slice none 0 0,.slice none 0 0,.bool false,.bool false,.int .i64 0,.slice none 0 0] 35)) w.heap.size 35 #[.int .i64 0,.slice none 0 0,.slice none 0 0,.slice none 0 0,.bool false,.bool false,.int .i64 0,.slice none 0 0]) := (Bx.new _ _ _).alloc _
 have HRb : Hid (Bx ((w.alloc (.cells #[.int .i64 0,.slice none 0 0,.slice none 0 0,.slice none 0 0,.bool false,.bool false,.int .i64 0,.slice none 0 0] 35)).alloc (.cells #[.int .i64 0,.slice none 0 0,.slice none 0 0,.slice none 0 0,.bool false,.bool false,.int .i64 0,.slice none 0 0] 35)) (w.heap.size + 1) 35 #[.int .i64 0,.slice none 0 0,.slice none 0 0,.slice none 0 0,.bool false,.bool false,.int .i64 0,.slice none 0 0]) := by
  have := Bx.new (w.alloc (.cells #[.int .i64 0,.slice none 0 0,.slice none 0 0,.slice none 0 0,.bool false,.bool false,.int .i64 0,.slice none 0 0] 35)) 35 #[.int .i64 0,.slice none 0 0,.slice none 0 0,.slice none 0 0,.bool false,.bool false,.int .i64 0,.slice none 0 0]
  rw [World.size_alloc] at this
  exact this
 have hN := newC a len cap bs w _ hb0 hv hl
 generalize hX0 : ((w.alloc (.cells #[.int .i64 0,.slice none 0 0,.slice none 0 0,.slice none 0 0,.bool false,.bool false,.int .i64 0,.slice none 0 0] 35)).alloc (.cells #[.int .i64 0,.slice none 0 0,.slice none 0 0,.slice none 0 0,.bool false,.bool false,.int .i64 0,.slice none 0 0] 35)) = X0 at *
 clear hb0
 go_enter Try.func27,Try.ntmps27
 go_wp2_with fail
 refine hN.mono ?_
 rintro e X1 ⟨p,rfl,hp,c1,hb1⟩
 have R1 := HR.out.below hb1
 have Q1 := HRb.out.below hb1
 have hwp : w.heap.size + 1 < p := by have := HRb.out.lt;omega
 have hC := cntC c1
 clear hN c1 hb1 HR HRb
 go_wp2_with fail
 refine hC.mono ?_
 rintro e X2 ⟨x,rfl,h0,h1,c2,g2⟩
 have R2 := R1.grown g2 (by simp;omega)
 have Q2 := Q1.grown g2 (by simp;omega)
 have hp2 : p < X2.heap.size := c2.lt
 obtain ⟨N,hN1,hN5⟩ : ∃ N : Nat,max 0 (min x 5) = (N : Int) ∧ N ≤ 5 := ⟨(max 0 (min x 5)).toNat,by omega,by omega⟩
 have hD := drawRw_any N (N : Int) rfl hN5 c2
 have hMi := fun X => l1Min_any x 5 X
 have hMa := fun X => l1Max_any 0 (min x 5) X
 rw [hN1] at hMa
 generalize min x 5 = mm at *
 clear hC c2 g2 R1 Q1 hN1
 unfold rwV rwC at hD
 go_wp2_with (first
  | (go_at_call 66;refine (hMi _).mono ?_;rintro e w' ⟨rfl,hw'⟩;rw [hw'];clear hw')
  | (go_at_call 65;refine (hMa _).mono ?_;rintro e w' ⟨rfl,hw'⟩;rw [hw'];clear hw'))
 refine hD.mono ?_
 rintro e Xa ⟨A,r,fp,rfl,hS,ho,hf,c3,g3⟩
 have R3 := R2.grown g3 (by simp;omega)
 have Q3 := Q2.grown g3 (by simp;omega)
 have hq3 := Q3.lt
 have hs3 := g3.size
 have hb4 := oneA16 Xa (.cells (rwC A r) 35)
 have B4 := Bx.new Xa 35 (rwC A r)
 have c4 := c3.step hb4
 have HS : Hid (SmR r) := hS
 have o4 := owL_below ho hb4
 have HA : Hid (owL Xa (rwCels r) (rwVals A r) fp ∧ (∀ b,fp b → p < b ∧ b < Xa.heap.size) ∧ Bx Xa w.heap.size 35 #[.int .i64 0,.slice none 0 0,.slice none 0 0,.slice none 0 0,.bool false,.bool false,.int .i64 0,.slice none 0 0] ∧ Bx Xa (w.heap.size + 1) 35 #[.int .i64 0,.slice none 0 0,.slice none 0 0,.slice none 0 0,.bool false,.bool false,.int .i64 0,.slice none 0 0] ∧ p < Xa.heap.size) := ⟨ho,fun b hb => ⟨by have := hf b hb;omega,owL_lt ho b hb⟩,R3,Q3,c3.lt⟩
 have hCy := cpyRw_any A r _ (hS.rwp o4).rws (by have := hS.tl;omega) (by have := hS.gl;omega) (by have := hS.sl;omega) (by have := hS.ml;omega)
 unfold AnsRw rwV rwC at hCy
 unfold rwC at B4 c4 hb4 o4
 have HG4 : Hid (Xa.grownBy (Xa.alloc (.cells #[.int .i64 r.ver,.slice A.ta r.txt.length A.tc,.slice A.ga r.got.length A.gc,.slice A.sa r.sus.length A.sc,.bool r.wed,.bool r.rdy,.int .i64 r.by_,.slice A.ma r.trm.length A.mc] 35)) (some p)) := World.grownBy_alloc _ _ _
 generalize hX4 : Xa.alloc (.cells #[.int .i64 r.ver,.slice A.ta r.txt.length A.tc,.slice A.ga r.got.length A.gc,.slice A.sa r.sus.length A.sc,.bool r.wed,.bool r.rdy,.int .i64 r.by_,.slice A.ma r.trm.length A.mc] 35) = X4 at *
 have hl4 : Xa.heap.size < X4.heap.size := B4.lt
 obtain ⟨⟨e0,e1,e2,e3⟩,e4,e5,e6,e7⟩ := Bx.r8 B4
 have HB4 : Hid (Bx X4 Xa.heap.size 35 #[.int .i64 r.ver,.slice A.ta r.txt.length A.tc,.slice A.ga r.got.length A.gc,.slice A.sa r.sus.length A.sc,.bool r.wed,.bool r.rdy,.int .i64 r.by_,.slice A.ma r.trm.length A.mc] ∧ Cc w X4 p a len cap bs) := ⟨B4,c4⟩
 clear hD hS ho hf c3 g3 R2 Q2 R3 Q3 hb4 B4 c4 o4
 go_wp2_with fail
 refine hCy.mono ?_
 rintro e X5 ⟨B,rfl,fq,hoB,hfB,hb5⟩
 have hl5 := hb5.size
 have hoB5 := owL_lt hoB
 have R6 : RD w Xa (X5.alloc (.cells #[.int .i64 r.ver,.slice B.ta r.txt.length B.tc,.slice B.ga r.got.length B.gc,.slice B.sa r.sus.length B.sc,.bool r.wed,.bool r.rdy,.int .i64 r.by_,.slice B.ma r.trm.length B.mc] 35)) p a len cap bs X5.heap.size (rwC A r) B r fq := by
  have hb6 := oneA16 X5 (.cells (rwC B r) 35)
  exact ⟨(HB4.out.2.step hb5).step hb6,(HB4.out.1.below hb5).below hb6,Bx.new _ _ _,owL_below hoB hb6,fun b hb => ⟨by have := hfB b hb;omega,by have := hoB5 b hb;omega⟩,HA.out.2.2.2.2,by omega,grown_trans HG4.out (grown_trans ⟨hb5.os,hb5.tape,hb5.output,hb5.size,fun x hx _ => hb5.block x hx⟩ (World.grownBy_alloc _ _ _))⟩
 have hO := onceC 3 R6.cc (by omega)
 have HR6 : Hid (RD w Xa (X5.alloc (.cells #[.int .i64 r.ver,.slice B.ta r.txt.length B.tc,.slice B.ga r.got.length B.gc,.slice B.sa r.sus.length B.sc,.bool r.wed,.bool r.rdy,.int .i64 r.by_,.slice B.ma r.trm.length B.mc] 35)) p a len cap bs X5.heap.size (rwC A r) B r fq) := R6
 clear R6 hCy hoB hfB hb5 HB4 HG4 e0 e1 e2 e3 e4 e5 e6 e7 hoB5
 go_wp2_with fail
 refine hO.mono ?_
 rintro e Y1 ⟨t,rfl,c6,g6⟩
 have HR7 : Hid (RD w Xa Y1 p a len cap bs X5.heap.size (rwC A r) B r fq) := HR6.out.drawn g6 c6
 clear hO c6 g6 HR6
 generalize X5.heap.size = ob at *
 go_upto_if 21 with fail
 go_cut [21] from 22 to 26 (fun _ wx => ∃ (B : Ra) (s : Rw) (fq : Fp),RD w Xa wx p a len cap bs ob (rwC A r) B s fq ∧ SmR s)
 case first =>
  cases t with
  | false =>
   go_wp2
   go_meet
   case rel => exact ⟨B,r,fq,HR7.out,HS.out⟩
  | true =>
   have hD2 := drawRw_any N (N : Int) rfl hN5 HR7.out.cc
   unfold rwV rwC at hD2
   go_wp2_with (first
    | (go_at_call 66;refine (hMi _).mono ?_;rintro e w' ⟨rfl,hw'⟩;rw [hw'];clear hw')
    | (go_at_call 65;refine (hMa _).mono ?_;rintro e w' ⟨rfl,hw'⟩;rw [hw'];clear hw'))
   refine hD2.mono ?_
   rintro e Y2 ⟨B2,s2,fq2,rfl,hS2,ho2,hf2,c7,g7⟩
   have R8 := HR7.out.drawn g7 c7
   have hY1 := HR7.out.own.lt
   have hXo := HR7.out.ho
   have R9 : RD w Xa ((((((((Y2.setCell ⟨ob,0,none⟩ (.int .i64 s2.ver)).setCell ⟨ob,1,none⟩ (.slice B2.ta s2.txt.length B2.tc)).setCell ⟨ob,2,none⟩ (.slice B2.ga s2.got.length B2.gc)).setCell ⟨ob,3,none⟩ (.slice B2.sa s2.sus.length B2.sc)).setCell ⟨ob,4,none⟩ (.bool s2.wed)).setCell ⟨ob,5,none⟩ (.bool s2.rdy)).setCell ⟨ob,6,none⟩ (.int .i64 s2.by_)).setCell ⟨ob,7,none⟩ (.slice B2.ma s2.trm.length B2.mc)) p a len cap bs ob (rwC A r) B2 s2 fq2 := by
    have hW := wrt8 Y2 ob (a := .int .i64 s2.ver) (b := .slice B2.ta s2.txt.length B2.tc) (c := .slice B2.ga s2.got.length B2.gc) (d := .slice B2.sa s2.sus.length B2.sc) (e := .bool s2.wed) (f := .bool s2.rdy) (h := .int .i64 s2.by_) (i := .slice B2.ma s2.trm.length B2.mc)
    have h3 := SD.lt R8
    have h4 := R8.hpo
    exact ⟨R8.cc.wrt hW (by omega) (fun b e => by omega),R8.res.wrt hW (by omega),bx_set8 R8.own,owL_wrt ho2 hW (fun b hb e => by have := hf2 b hb;omega),fun b hb => by have := hf2 b hb;omega,h4,hXo,grown_wrt R8.gr hW (fun b e => by omega)⟩
   have HR9 : Hid (∃ (B : Ra) (s : Rw) (fq : Fp),RD w Xa ((((((((Y2.setCell ⟨ob,0,none⟩ (.int .i64 s2.ver)).setCell ⟨ob,1,none⟩ (.slice B2.ta s2.txt.length B2.tc)).setCell ⟨ob,2,none⟩ (.slice B2.ga s2.got.length B2.gc)).setCell ⟨ob,3,none⟩ (.slice B2.sa s2.sus.length B2.sc)).setCell ⟨ob,4,none⟩ (.bool s2.wed)).setCell ⟨ob,5,none⟩ (.bool s2.rdy)).setCell ⟨ob,6,none⟩ (.int .i64 s2.by_)).setCell ⟨ob,7,none⟩ (.slice B2.ma s2.trm.length B2.mc)) p a len cap bs ob (rwC A r) B s fq ∧ SmR s) := ⟨_,_,_,R9,hS2⟩
   obtain ⟨⟨e0,e1,e2,e3⟩,e4,e5,e6,e7⟩ := R8.c8
   have f0 := R8.fo 0
   have f1 := R8.fo 1
   have f2 := R8.fo 2
   have f3 := R8.fo 3
   have f4 := R8.fo 4
   have f5 := R8.fo 5
   have f6 := R8.fo 6
   have f7 := R8.fo 7
   clear hD2 R8 R9 ho2 hf2 hS2 c7 g7 HR7
   go_wp2
   go_meet
   case rel => exact HR9.out
 case rest =>
  clear HR7 hMi hMa
  obtain ⟨B,s,fq,hR,hW⟩ := hcut
  skip
  have HW : Hid (SmR s) := hW
  have hR1 := hR.drewN 1
  have hF := fromC (-1) 3 (by omega) (by omega) (by omega) hR1.cc
  have x1 := hR.c8.1.1
  have HR : Hid (RD w Xa (wc.drewN 1) p a len cap bs ob (rwC A r) B s fq) := hR1
  clear hR hR1 hW
  go_upto_region 7 with fail
  go_cut [32] from 27 to 32 (fun _ wx => ∃ (v : Int),RD w Xa wx p a len cap bs ob (rwC A r) B { s with ver := v } fq ∧ (s.ver - 1 ≤ v ∧ v ≤ s.ver + 3))
  case first =>
   refine gt_begin (S := fun X : World => X.cell? ⟨ob,0,none⟩ = some (.int .i64 s.ver)) 6 hmix (by kernel_rfl) ?_
   have hHeld : (fun X : World => X.cell? ⟨ob,0,none⟩ = some (.int .i64 s.ver)) wc.drew := x1
   refine gt_take (i := 0) (v := ?_) rfl (by kernel_rfl) (by kernel_rfl) (by kernel_rfl) (by kernel_rfl) (fun _ _ _ h => h) (Or.inl ⟨by rfl, ?_⟩) hHeld ?_
   rotate_left
   ·(intro X hSX;(try dsimp only at hSX);obtain g0 := hSX;go_simp;try with_reducible rfl)
   try simp only [Act.put,List.setIfInBounds_toArray,List.set_cons_zero,List.set_cons_succ]
   refine gt_take (i := 1) (v := ?_) rfl (by kernel_rfl) (by kernel_rfl) (by kernel_rfl) (by kernel_rfl) (fun _ _ _ h => h) (Or.inl ⟨by rfl, ?_⟩) hHeld ?_
   rotate_left
   ·(intro X hSX;(try dsimp only at hSX);obtain g0 := hSX;go_simp;try with_reducible rfl)
   try simp only [Act.put,List.setIfInBounds_toArray,List.set_cons_zero,List.set_cons_succ]
   refine gt_pure (i := 2) (v := ?_) rfl (by kernel_rfl) (by kernel_rfl) (by kernel_rfl) (fun _ _ _ h => h) (Or.inl ⟨by rfl, ?_⟩) ?_
   rotate_left
   ·(intro X;go_simp;try with_reducible rfl)
   try simp only [Act.put,List.setIfInBounds_toArray,List.set_cons_zero,List.set_cons_succ]
   refine gt_one (i := 3) rfl (by kernel_rfl) (by kernel_rfl) (fun K hK => ?_)
   go_simp
   go_at_call 78
   refine hF.mono ?_
   rintro e Y3 ⟨z,rfl,hz0b,hz1b,c8,g8⟩
   have R10 := HR.out.drawn g8 c8
   refine hK.out _ _ R10.c8.1.1 (fun hHeld2 => ?_)
   clear hK hHeld
   have hHeld := hHeld2
   try simp only [Act.put,List.setIfInBounds_toArray,List.set_cons_zero,List.set_cons_succ]
   have hwr := wrapA (a := s.ver) (b := z) (by have := HW.out.ver;omega)
   have d2 := R10.fo 0
   have HR11 : Hid (RD w Xa (Y3.setCell ⟨ob,0,none⟩ (.int .i64 (s.ver + z))) p a len cap bs ob (rwC A r) B { s with ver := s.ver + z } fq) := R10.ver (s.ver + z)
   clear R10 hF c8 g8 HR
   refine gt_pure (i := 4) (v := ?_) rfl (by kernel_rfl) (by kernel_rfl) (by kernel_rfl) (fun _ _ _ h => h) (Or.inl ⟨by rfl, ?_⟩) ?_
   rotate_left
   ·(intro X;go_simp;try with_reducible rfl)
   try simp only [Act.put,List.setIfInBounds_toArray,List.set_cons_zero,List.set_cons_succ]
   refine gt_take (i := 5) (v := ?_) rfl (by kernel_rfl) (by kernel_rfl) (by kernel_rfl) (by kernel_rfl) (fun _ _ _ h => h) (Or.inl ⟨by rfl, ?_⟩) hHeld ?_
   rotate_left
   ·(intro X hSX;(try dsimp only at hSX);obtain g0 := hSX;go_simp;try with_reducible rfl)
   try simp only [Act.put,List.setIfInBounds_toArray,List.set_cons_zero,List.set_cons_succ]
   refine gt_last rfl (by kernel_rfl) (by kernel_rfl) (fun K hK => ?_)
   go_simp
   refine hK.out _ _ ?_
   try go_wp2_with fail
   go_meet
   exact ⟨s.ver + z,HR11.out,by omega,by omega⟩
  case rest =>
   clear HR hF x1
   obtain ⟨v,hR,hv1,hv2⟩ := hcut
   obtain ⟨s1,HR1,HW1,HT1⟩ : ∃ s1 : Rw,Hid (RD w Xa wc p a len cap bs ob (rwC A r) B s1 fq) ∧ Hid (SmW s1) ∧ Hid (s1.txt.length ≤ 20) := ⟨_,hR,⟨by have := HW.out.ver;simp only;omega,by have := HW.out.tl;simp only;omega,HW.out.ts,HW.out.gl,HW.out.gf,HW.out.sl,HW.out.sf,HW.out.ml,HW.out.mf,HW.out.bys⟩,HW.out.tl⟩
   clear hR HW hv1 hv2
   have hO := onceC 2 HR1.out.cc (by omega)
   go_wp2_with fail
   refine hO.mono ?_
   rintro e Y4 ⟨t,rfl,c9,g9⟩
   have HR2 : Hid (RD w Xa Y4 p a len cap bs ob (rwC A r) B s1 fq) := HR1.out.drawn g9 c9
   clear hO c9 g9 HR1
   go_upto_if 34 with fail
   go_cut [34] from 35 to 39 (fun _ wx => ∃ (B : Ra) (s : Rw) (fq : Fp),RD w Xa wx p a len cap bs ob (rwC A r) B s fq ∧ SmW s)
   case first =>
    cases t with
    | false =>
     go_wp2
     go_meet
     case rel => exact ⟨B,s1,fq,HR2.out,HW1.out⟩
    | true =>
     have hA := HR2.out.app i0 hi0 hz0 hz1 hz2 [109,111,114,101] (by have := HT1.out;omega)
     rw [← more_sv] at hA
     have x1 := HR2.out.c8.1.2.1
     have x2 := (HR2.out.step (oneA16 Y4 (.cells #[.string ⟨#[109,111,114,101]⟩] 9))).c8.1.2.1
     go_wp2_with (at_builtin;refine wpList_append_of (by rfl) _ _ _ _ (by rfl) _ _ (by rfl) (by rfl) hA ⟨rfl,rfl,rfl,rfl⟩ ?_;rintro v5 w5 ⟨a5,c5,rfl,q1,q2,fp5,hR5⟩;have HR5 : Hid (∃ (B : Ra) (s : Rw) (fq : Fp),RD w Xa (w5.setCell ⟨ob,1,none⟩ (.slice a5 (s1.txt.length + 1) c5)) p a len cap bs ob (rwC A r) B s fq ∧ SmW s) := ⟨_,_,_,hR5,⟨HW1.out.ver,by have := HT1.out;simp;omega,snoc_short HW1.out.ts (by simp),HW1.out.gl,HW1.out.gf,HW1.out.sl,HW1.out.sf,HW1.out.ml,HW1.out.mf,HW1.out.bys⟩⟩;clear hR5 hA x1 x2)
     go_meet
     case rel => exact HR5.out
   case rest =>
    clear HR2 HW1 HT1
    obtain ⟨B,s,fq,hR,hW⟩ := hcut
    have HW : Hid (SmW s) := hW
    have hO := onceC 2 hR.cc (by omega)
    have HR : Hid (RD w Xa wc p a len cap bs ob (rwC A r) B s fq) := hR
    clear hR hW
    go_upto_region 10 with fail
    go_cut [47] from 40 to 47 (fun s47 wx => ∃ b : Bool,s47 = .bool b ∧ (b = true → 0 < s.got.length) ∧ RD w Xa wx p a len cap bs ob (rwC A r) B s fq)
    case first =>
     go_wp2_with fail
     refine hO.mono ?_
     rintro e Y5 ⟨t,rfl,c10,g10⟩
     have HR4 : Hid (RD w Xa Y5 p a len cap bs ob (rwC A r) B s fq) := HR.out.drawn g10 c10
     have x2 := HR4.out.c8.1.2.2.1
     clear hO c10 g10 HR
     cases t with
     | false =>
      go_wp2
      go_meet
      case rel => exact ⟨false,rfl,fun h => (by cases h),HR4.out⟩
     | true =>
      by_cases hNp : 0 < s.got.length
      ·have hNi : (0 : Int) < (s.got.length : Int) := by omega
       go_wp2
       go_meet
       case rel => exact ⟨true,rfl,fun _ => hNp,HR4.out⟩
      ·have hNi : ¬ ((0 : Int) < (s.got.length : Int)) := by omega
       go_wp2
       go_meet
       case rel => exact ⟨false,rfl,fun h => (by cases h),HR4.out⟩
    case rest =>
     obtain ⟨bb,rfl,hbN,hR4⟩ := hcut
     have HR4 : Hid (RD w Xa wc p a len cap bs ob (rwC A r) B s fq) := hR4
     have HBN : Hid (bb = true → 0 < s.got.length) := hbN
     clear hR4 hbN HR hO
     generalize wc = Y6 at *
     go_upto_if 47 with fail
     go_cut [47] from 48 to 57 (fun _ wx => ∃ (B : Ra) (s : Rw) (fq : Fp),RD w Xa wx p a len cap bs ob (rwC A r) B s fq ∧ SmW s)
     case first =>
      cases bb with
      | false =>
       go_wp2
       go_meet
       case rel => exact ⟨B,s,fq,HR4.out,HW.out⟩
      | true =>
       have hgl : 0 < s.got.length := HBN.out rfl
       have hgi : (0 : Int) < (s.got.length : Int) := by omega
       obtain ⟨ta,tc,ga,gc,sa,sc,ma,mc⟩ := B
       obtain ⟨g,off,hga,⟨y1,y2⟩,_⟩ := HR4.out.gotAt (i := 0) hgl
       simp only at hga
       subst hga
       rw [Nat.add_zero] at y1
       have x1 := HR4.out.c8.1.2.2.1
       simp only at x1
       have hR1 := HR4.out.drewN 1
       have hF := fromC (-1) 3 (by omega) (by omega) (by omega) hR1.cc
       have HR5 : Hid (RD w Xa (Y6.drewN 1) p a len cap bs ob (rwC A r) ⟨ta,tc,some ⟨g,off,none⟩,gc,sa,sc,ma,mc⟩ s fq) := hR1
       clear hR1 HR4 y2 HBN
       go_wp2_with fail
       refine gt_begin (S := fun X : World => X.cell? ⟨ob,2,none⟩ = some (.slice (some ⟨g,off,none⟩) s.got.length gc) ∧ X.cell? ⟨g,off,none⟩ = some (.int .i64 (el s.got 0))) 10 hmix (by kernel_rfl) ?_
       have hHeld : (fun X : World => X.cell? ⟨ob,2,none⟩ = some (.slice (some ⟨g,off,none⟩) s.got.length gc) ∧ X.cell? ⟨g,off,none⟩ = some (.int .i64 (el s.got 0))) Y6.drew := ⟨x1,y1⟩
       refine gt_take (i := 0) (v := ?_) rfl (by kernel_rfl) (by kernel_rfl) (by kernel_rfl) (by kernel_rfl) (fun _ _ _ h => h) (Or.inl ⟨by rfl, ?_⟩) hHeld ?_
       rotate_left
       ·(intro X hSX;(try dsimp only at hSX);obtain ⟨g0,g1⟩ := hSX;go_simp;try with_reducible rfl)
       try simp only [Act.put,List.setIfInBounds_toArray,List.set_cons_zero,List.set_cons_succ]
       refine gt_take (i := 1) (v := ?_) rfl (by kernel_rfl) (by kernel_rfl) (by kernel_rfl) (by kernel_rfl) (fun _ _ _ h => h) (Or.inl ⟨by rfl, ?_⟩) hHeld ?_
       rotate_left
       ·(intro X hSX;(try dsimp only at hSX);obtain ⟨g0,g1⟩ := hSX;go_simp;try with_reducible rfl)
       try simp only [Act.put,List.setIfInBounds_toArray,List.set_cons_zero,List.set_cons_succ]
       refine gt_take (i := 2) (v := ?_) rfl (by kernel_rfl) (by kernel_rfl) (by kernel_rfl) (by kernel_rfl) (fun _ _ _ h => h) (Or.inl ⟨by rfl, ?_⟩) hHeld ?_
       rotate_left
       ·(intro X hSX;(try dsimp only at hSX);obtain ⟨g0,g1⟩ := hSX;go_simp;try with_reducible rfl)
       try simp only [Act.put,List.setIfInBounds_toArray,List.set_cons_zero,List.set_cons_succ]
       refine gt_take (i := 3) (v := ?_) rfl (by kernel_rfl) (by kernel_rfl) (by kernel_rfl) (by kernel_rfl) (fun _ _ _ h => h) (Or.inl ⟨by rfl, ?_⟩) hHeld ?_
       rotate_left
       ·(intro X hSX;(try dsimp only at hSX);obtain ⟨g0,g1⟩ := hSX;go_simp;try with_reducible rfl)
       try simp only [Act.put,List.setIfInBounds_toArray,List.set_cons_zero,List.set_cons_succ]
       refine gt_take (i := 4) (v := ?_) rfl (by kernel_rfl) (by kernel_rfl) (by kernel_rfl) (by kernel_rfl) (fun _ _ _ h => h) (Or.inl ⟨by rfl, ?_⟩) hHeld ?_
       rotate_left
       ·(intro X hSX;(try dsimp only at hSX);obtain ⟨g0,g1⟩ := hSX;go_simp;try with_reducible rfl)
       try simp only [Act.put,List.setIfInBounds_toArray,List.set_cons_zero,List.set_cons_succ]
       refine gt_take (i := 5) (v := ?_) rfl (by kernel_rfl) (by kernel_rfl) (by kernel_rfl) (by kernel_rfl) (fun _ _ _ h => h) (Or.inl ⟨by rfl, ?_⟩) hHeld ?_
       rotate_left
       ·(intro X hSX;(try dsimp only at hSX);obtain ⟨g0,g1⟩ := hSX;go_simp;try with_reducible rfl)
       try simp only [Act.put,List.setIfInBounds_toArray,List.set_cons_zero,List.set_cons_succ]
       refine gt_pure (i := 6) (v := ?_) rfl (by kernel_rfl) (by kernel_rfl) (by kernel_rfl) (fun _ _ _ h => h) (Or.inl ⟨by rfl, ?_⟩) ?_
       rotate_left
       ·(intro X;go_simp;try with_reducible rfl)
       try simp only [Act.put,List.setIfInBounds_toArray,List.set_cons_zero,List.set_cons_succ]
       refine gt_one (i := 7) rfl (by kernel_rfl) (by kernel_rfl) (fun K hK => ?_)
       go_simp
       go_at_call 78
       refine hF.mono ?_
       rintro e Y7 ⟨z,rfl,hz0b,hz1b,c11,g11⟩
       have R7 := HR5.out.drawn g11 c11
       obtain ⟨g2b,off2,hga2,⟨y3,y4⟩,hput⟩ := R7.gotAt (i := 0) hgl
       simp only at hga2
       cases hga2
       rw [Nat.add_zero] at y3 y4 hput
       refine hK.out _ _ ⟨R7.c8.1.2.2.1,y3⟩ (fun hHeld2 => ?_)
       clear hK hHeld
       have hHeld := hHeld2
       try simp only [Act.put,List.setIfInBounds_toArray,List.set_cons_zero,List.set_cons_succ]
       obtain ⟨fq8,R8⟩ := hput (IntKind.i64.wrap (el s.got 0 + z))
       have HR8 : Hid (∃ (B9 : Ra) (s9 : Rw) (f9 : Fp),RD w Xa (Y7.setCell ⟨g,off,none⟩ (.int .i64 (IntKind.i64.wrap (el s.got 0 + z)))) p a len cap bs ob (rwC A r) B9 s9 f9 ∧ SmW s9) := ⟨_,_,fq8,R8,⟨HW.out.ver,HW.out.tl,HW.out.ts,by simp only [List.length_set];exact HW.out.gl,fits_set HW.out.gf 0 (wrap_in _),HW.out.sl,HW.out.sf,HW.out.ml,HW.out.mf,HW.out.bys⟩⟩
       clear R7 R8 hput hF c11 g11 HR5
       skip
       refine gt_pure (i := 8) (v := ?_) rfl (by kernel_rfl) (by kernel_rfl) (by kernel_rfl) (fun _ _ _ h => h) (Or.inl ⟨by rfl, ?_⟩) ?_
       rotate_left
       ·(intro X;go_simp;try with_reducible rfl)
       try simp only [Act.put,List.setIfInBounds_toArray,List.set_cons_zero,List.set_cons_succ]
       refine gt_pure (i := 9) (v := ?_) rfl (by kernel_rfl) (by kernel_rfl) (by kernel_rfl) (fun _ _ _ h => h) (Or.inl ⟨by rfl, ?_⟩) ?_
       rotate_left
       ·(intro X;go_simp;try with_reducible rfl)
       try simp only [Act.put,List.setIfInBounds_toArray,List.set_cons_zero,List.set_cons_succ]
       refine gt_last rfl (by kernel_rfl) (by kernel_rfl) (fun K hK => ?_)
       go_simp
       refine hK.out _ _ ?_
       go_wp2
       go_meet
       case rel => exact HR8.out
     case rest =>
      clear HR4 HBN HW
      obtain ⟨B,s,fq,hR,hW⟩ := hcut
      have HW : Hid (SmW s) := hW
      have hXo := hR.ho
      have hpo := hR.hpo
      have BA : Bx wc Xa.heap.size 35 (rwC A r) := hR.res
      have BB : Bx wc ob 35 (rwC B s) := hR.own
      have hGr := hR.gr
      have RA : Bx wc w.heap.size 35 #[.int .i64 0,.slice none 0 0,.slice none 0 0,.slice none 0 0,.bool false,.bool false,.int .i64 0,.slice none 0 0] := HA.out.2.2.1.grown hGr (by simp;omega)
      have RB : Bx wc (w.heap.size + 1) 35 #[.int .i64 0,.slice none 0 0,.slice none 0 0,.slice none 0 0,.bool false,.bool false,.int .i64 0,.slice none 0 0] := HA.out.2.2.2.1.grown hGr (by simp;omega)
      have oA : owL wc (rwCels r) (rwVals A r) fp := owL_wrt HA.out.1 (Wrt.of_grown hGr) (fun b hb e => by cases e;have := (HA.out.2.1 _ hb).1;omega)
      have hdr : Below wc.heap.size wc wc.drew := (Same.drewN wc 1).below
      have HG : Hid (owL wc.drew (rwCels r) (rwVals A r) fp ∧ owL wc.drew (rwCels s) (rwVals B s) fq ∧ (∀ b,fp b → w.heap.size + 1 < b) ∧ (∀ b,fq b → w.heap.size + 1 < b) ∧ Cc w wc.drew p a len cap bs) := ⟨owL_below oA hdr,owL_below hR.ls hdr,fun b hb => by have := (HA.out.2.1 b hb).1;omega,fun b hb => by have := (hR.fpl b hb).1;omega,hR.cc.step hdr⟩
      clear hR hW oA hGr HA hdr
      unfold rwC at BA BB
      have x1 := Bx.r8 BA
      have x2 := Bx.r8 BB
      generalize hoa : Xa.heap.size = oa at *
      have hwo : w.heap.size + 1 < oa := by omega
      go_wp2_with fail
      refine gt_begin (S := fun X : World => ((X.cell? ⟨oa,0,none⟩ = some (.int .i64 r.ver) ∧ X.cell? ⟨oa,1,none⟩ = some (.slice A.ta r.txt.length A.tc) ∧ X.cell? ⟨oa,2,none⟩ = some (.slice A.ga r.got.length A.gc) ∧ X.cell? ⟨oa,3,none⟩ = some (.slice A.sa r.sus.length A.sc)) ∧ X.cell? ⟨oa,4,none⟩ = some (.bool r.wed) ∧ X.cell? ⟨oa,5,none⟩ = some (.bool r.rdy) ∧ X.cell? ⟨oa,6,none⟩ = some (.int .i64 r.by_) ∧ X.cell? ⟨oa,7,none⟩ = some (.slice A.ma r.trm.length A.mc)) ∧ ((X.cell? ⟨ob,0,none⟩ = some (.int .i64 s.ver) ∧ X.cell? ⟨ob,1,none⟩ = some (.slice B.ta s.txt.length B.tc) ∧ X.cell? ⟨ob,2,none⟩ = some (.slice B.ga s.got.length B.gc) ∧ X.cell? ⟨ob,3,none⟩ = some (.slice B.sa s.sus.length B.sc)) ∧ X.cell? ⟨ob,4,none⟩ = some (.bool s.wed) ∧ X.cell? ⟨ob,5,none⟩ = some (.bool s.rdy) ∧ X.cell? ⟨ob,6,none⟩ = some (.int .i64 s.by_) ∧ X.cell? ⟨ob,7,none⟩ = some (.slice B.ma s.trm.length B.mc))) 6 hmix (by kernel_rfl) ?_
      have hHeld : (fun X : World => ((X.cell? ⟨oa,0,none⟩ = some (.int .i64 r.ver) ∧ X.cell? ⟨oa,1,none⟩ = some (.slice A.ta r.txt.length A.tc) ∧ X.cell? ⟨oa,2,none⟩ = some (.slice A.ga r.got.length A.gc) ∧ X.cell? ⟨oa,3,none⟩ = some (.slice A.sa r.sus.length A.sc)) ∧ X.cell? ⟨oa,4,none⟩ = some (.bool r.wed) ∧ X.cell? ⟨oa,5,none⟩ = some (.bool r.rdy) ∧ X.cell? ⟨oa,6,none⟩ = some (.int .i64 r.by_) ∧ X.cell? ⟨oa,7,none⟩ = some (.slice A.ma r.trm.length A.mc)) ∧ ((X.cell? ⟨ob,0,none⟩ = some (.int .i64 s.ver) ∧ X.cell? ⟨ob,1,none⟩ = some (.slice B.ta s.txt.length B.tc) ∧ X.cell? ⟨ob,2,none⟩ = some (.slice B.ga s.got.length B.gc) ∧ X.cell? ⟨ob,3,none⟩ = some (.slice B.sa s.sus.length B.sc)) ∧ X.cell? ⟨ob,4,none⟩ = some (.bool s.wed) ∧ X.cell? ⟨ob,5,none⟩ = some (.bool s.rdy) ∧ X.cell? ⟨ob,6,none⟩ = some (.int .i64 s.by_) ∧ X.cell? ⟨ob,7,none⟩ = some (.slice B.ma s.trm.length B.mc))) wc.drew := ⟨x1,x2⟩
      refine gt_takeA (i := 0) (v := ?_) rfl (by kernel_rfl) (by kernel_rfl) (by kernel_rfl) (by kernel_rfl) (fun _ _ _ h => h) (Or.inl ⟨by rfl, ?_⟩) hHeld ?_
      rotate_left
      ·(intro X hSX;(try dsimp only at hSX);obtain ⟨⟨⟨g0,g1,g2,g3⟩,g4,g5,g6,g7⟩,⟨k0,k1,k2,k3⟩,k4,k5,k6,k7⟩ := hSX;go_simp;try with_reducible rfl)
      try simp only [Act.put,List.setIfInBounds_toArray,List.set_cons_zero,List.set_cons_succ]
      refine gt_takeA (i := 1) (v := ?_) rfl (by kernel_rfl) (by kernel_rfl) (by kernel_rfl) (by kernel_rfl) (fun _ _ _ h => h) (Or.inl ⟨by rfl, ?_⟩) hHeld ?_
      rotate_left
      ·(intro X hSX;(try dsimp only at hSX);obtain ⟨⟨⟨g0,g1,g2,g3⟩,g4,g5,g6,g7⟩,⟨k0,k1,k2,k3⟩,k4,k5,k6,k7⟩ := hSX;go_simp;try with_reducible rfl)
      try simp only [Act.put,List.setIfInBounds_toArray,List.set_cons_zero,List.set_cons_succ]
      refine gt_pure (i := 2) (v := ?_) rfl (by kernel_rfl) (by kernel_rfl) (by kernel_rfl) (fun _ _ _ h => h) (Or.inl ⟨by rfl, ?_⟩) ?_
      rotate_left
      ·(intro X;go_simp;try with_reducible rfl)
      try simp only [Act.put,List.setIfInBounds_toArray,List.set_cons_zero,List.set_cons_succ]
      have R0 : Bx wc.drew w.heap.size 35 #[.int .i64 0,.slice none 0 0,.slice none 0 0,.slice none 0 0,.bool false,.bool false,.int .i64 0,.slice none 0 0] := RA
      have Q0 : Bx wc.drew (w.heap.size + 1) 35 #[.int .i64 0,.slice none 0 0,.slice none 0 0,.slice none 0 0,.bool false,.bool false,.int .i64 0,.slice none 0 0] := RB
      have A0 : Bx wc.drew oa 35 #[.int .i64 r.ver,.slice A.ta r.txt.length A.tc,.slice A.ga r.got.length A.gc,.slice A.sa r.sus.length A.sc,.bool r.wed,.bool r.rdy,.int .i64 r.by_,.slice A.ma r.trm.length A.mc] := BA
      have B0 : Bx wc.drew ob 35 #[.int .i64 s.ver,.slice B.ta s.txt.length B.tc,.slice B.ga s.got.length B.gc,.slice B.sa s.sus.length B.sc,.bool s.wed,.bool s.rdy,.int .i64 s.by_,.slice B.ma s.trm.length B.mc] := BB
      clear RA RB BA BB x1 x2
      generalize wc.drew = WD at *
      have R6 : Bx ((((((((WD.setCell ⟨w.heap.size,0,none⟩ (.int .i64 r.ver)).setCell ⟨w.heap.size,1,none⟩ (.slice A.ta r.txt.length A.tc)).setCell ⟨w.heap.size,2,none⟩ (.slice A.ga r.got.length A.gc)).setCell ⟨w.heap.size,3,none⟩ (.slice A.sa r.sus.length A.sc)).setCell ⟨w.heap.size,4,none⟩ (.bool r.wed)).setCell ⟨w.heap.size,5,none⟩ (.bool r.rdy)).setCell ⟨w.heap.size,6,none⟩ (.int .i64 r.by_)).setCell ⟨w.heap.size,7,none⟩ (.slice A.ma r.trm.length A.mc)) w.heap.size 35 #[.int .i64 r.ver,.slice A.ta r.txt.length A.tc,.slice A.ga r.got.length A.gc,.slice A.sa r.sus.length A.sc,.bool r.wed,.bool r.rdy,.int .i64 r.by_,.slice A.ma r.trm.length A.mc] := bx_set8 R0
      have Q6 : Bx ((((((((WD.setCell ⟨w.heap.size,0,none⟩ (.int .i64 r.ver)).setCell ⟨w.heap.size,1,none⟩ (.slice A.ta r.txt.length A.tc)).setCell ⟨w.heap.size,2,none⟩ (.slice A.ga r.got.length A.gc)).setCell ⟨w.heap.size,3,none⟩ (.slice A.sa r.sus.length A.sc)).setCell ⟨w.heap.size,4,none⟩ (.bool r.wed)).setCell ⟨w.heap.size,5,none⟩ (.bool r.rdy)).setCell ⟨w.heap.size,6,none⟩ (.int .i64 r.by_)).setCell ⟨w.heap.size,7,none⟩ (.slice A.ma r.trm.length A.mc)) (w.heap.size + 1) 35 #[.int .i64 0,.slice none 0 0,.slice none 0 0,.slice none 0 0,.bool false,.bool false,.int .i64 0,.slice none 0 0] := Q0.wrt (wrt8 WD w.heap.size) (by omega)
      have A6 : Bx ((((((((WD.setCell ⟨w.heap.size,0,none⟩ (.int .i64 r.ver)).setCell ⟨w.heap.size,1,none⟩ (.slice A.ta r.txt.length A.tc)).setCell ⟨w.heap.size,2,none⟩ (.slice A.ga r.got.length A.gc)).setCell ⟨w.heap.size,3,none⟩ (.slice A.sa r.sus.length A.sc)).setCell ⟨w.heap.size,4,none⟩ (.bool r.wed)).setCell ⟨w.heap.size,5,none⟩ (.bool r.rdy)).setCell ⟨w.heap.size,6,none⟩ (.int .i64 r.by_)).setCell ⟨w.heap.size,7,none⟩ (.slice A.ma r.trm.length A.mc)) oa 35 #[.int .i64 r.ver,.slice A.ta r.txt.length A.tc,.slice A.ga r.got.length A.gc,.slice A.sa r.sus.length A.sc,.bool r.wed,.bool r.rdy,.int .i64 r.by_,.slice A.ma r.trm.length A.mc] := A0.wrt (wrt8 WD w.heap.size) (by omega)
      have B6 : Bx ((((((((WD.setCell ⟨w.heap.size,0,none⟩ (.int .i64 r.ver)).setCell ⟨w.heap.size,1,none⟩ (.slice A.ta r.txt.length A.tc)).setCell ⟨w.heap.size,2,none⟩ (.slice A.ga r.got.length A.gc)).setCell ⟨w.heap.size,3,none⟩ (.slice A.sa r.sus.length A.sc)).setCell ⟨w.heap.size,4,none⟩ (.bool r.wed)).setCell ⟨w.heap.size,5,none⟩ (.bool r.rdy)).setCell ⟨w.heap.size,6,none⟩ (.int .i64 r.by_)).setCell ⟨w.heap.size,7,none⟩ (.slice A.ma r.trm.length A.mc)) ob 35 #[.int .i64 s.ver,.slice B.ta s.txt.length B.tc,.slice B.ga s.got.length B.gc,.slice B.sa s.sus.length B.sc,.bool s.wed,.bool s.rdy,.int .i64 s.by_,.slice B.ma s.trm.length B.mc] := B0.wrt (wrt8 WD w.heap.size) (by omega)
      obtain ⟨⟨s0,s1,s2,s3⟩,s4,s5,s6,s7⟩ := Bx.r8 R0
      obtain ⟨⟨f0,f1,f2,f3⟩,f4,f5,f6,f7⟩ := R0.f8
      clear R0 Q0 A0 B0
      refine gt_one (i := 3) rfl (by kernel_rfl) (by kernel_rfl) (fun K hK => ?_)
      go_simp
      refine hK.out _ _ ⟨Bx.r8 A6,Bx.r8 B6⟩ (fun hHeld3 => ?_)
      clear hK hHeld
      have hHeld := hHeld3
      try simp only [Act.put,List.setIfInBounds_toArray,List.set_cons_zero,List.set_cons_succ]
      clear s0 s1 s2 s3 s4 s5 s6 s7 f0 f1 f2 f3 f4 f5 f6 f7 hHeld3
      have hW6 : Wrt (fun b => b = w.heap.size) WD ((((((((WD.setCell ⟨w.heap.size,0,none⟩ (.int .i64 r.ver)).setCell ⟨w.heap.size,1,none⟩ (.slice A.ta r.txt.length A.tc)).setCell ⟨w.heap.size,2,none⟩ (.slice A.ga r.got.length A.gc)).setCell ⟨w.heap.size,3,none⟩ (.slice A.sa r.sus.length A.sc)).setCell ⟨w.heap.size,4,none⟩ (.bool r.wed)).setCell ⟨w.heap.size,5,none⟩ (.bool r.rdy)).setCell ⟨w.heap.size,6,none⟩ (.int .i64 r.by_)).setCell ⟨w.heap.size,7,none⟩ (.slice A.ma r.trm.length A.mc)) := wrt8 WD w.heap.size
      generalize ((((((((WD.setCell ⟨w.heap.size,0,none⟩ (.int .i64 r.ver)).setCell ⟨w.heap.size,1,none⟩ (.slice A.ta r.txt.length A.tc)).setCell ⟨w.heap.size,2,none⟩ (.slice A.ga r.got.length A.gc)).setCell ⟨w.heap.size,3,none⟩ (.slice A.sa r.sus.length A.sc)).setCell ⟨w.heap.size,4,none⟩ (.bool r.wed)).setCell ⟨w.heap.size,5,none⟩ (.bool r.rdy)).setCell ⟨w.heap.size,6,none⟩ (.int .i64 r.by_)).setCell ⟨w.heap.size,7,none⟩ (.slice A.ma r.trm.length A.mc)) = X6 at *
      have R7 : Bx ((((((((X6.setCell ⟨w.heap.size + 1,0,none⟩ (.int .i64 s.ver)).setCell ⟨w.heap.size + 1,1,none⟩ (.slice B.ta s.txt.length B.tc)).setCell ⟨w.heap.size + 1,2,none⟩ (.slice B.ga s.got.length B.gc)).setCell ⟨w.heap.size + 1,3,none⟩ (.slice B.sa s.sus.length B.sc)).setCell ⟨w.heap.size + 1,4,none⟩ (.bool s.wed)).setCell ⟨w.heap.size + 1,5,none⟩ (.bool s.rdy)).setCell ⟨w.heap.size + 1,6,none⟩ (.int .i64 s.by_)).setCell ⟨w.heap.size + 1,7,none⟩ (.slice B.ma s.trm.length B.mc)) w.heap.size 35 #[.int .i64 r.ver,.slice A.ta r.txt.length A.tc,.slice A.ga r.got.length A.gc,.slice A.sa r.sus.length A.sc,.bool r.wed,.bool r.rdy,.int .i64 r.by_,.slice A.ma r.trm.length A.mc] := R6.wrt (wrt8 X6 (w.heap.size + 1)) (by omega)
      have Q7 : Bx ((((((((X6.setCell ⟨w.heap.size + 1,0,none⟩ (.int .i64 s.ver)).setCell ⟨w.heap.size + 1,1,none⟩ (.slice B.ta s.txt.length B.tc)).setCell ⟨w.heap.size + 1,2,none⟩ (.slice B.ga s.got.length B.gc)).setCell ⟨w.heap.size + 1,3,none⟩ (.slice B.sa s.sus.length B.sc)).setCell ⟨w.heap.size + 1,4,none⟩ (.bool s.wed)).setCell ⟨w.heap.size + 1,5,none⟩ (.bool s.rdy)).setCell ⟨w.heap.size + 1,6,none⟩ (.int .i64 s.by_)).setCell ⟨w.heap.size + 1,7,none⟩ (.slice B.ma s.trm.length B.mc)) (w.heap.size + 1) 35 #[.int .i64 s.ver,.slice B.ta s.txt.length B.tc,.slice B.ga s.got.length B.gc,.slice B.sa s.sus.length B.sc,.bool s.wed,.bool s.rdy,.int .i64 s.by_,.slice B.ma s.trm.length B.mc] := bx_set8 Q6
      have A7 : Bx ((((((((X6.setCell ⟨w.heap.size + 1,0,none⟩ (.int .i64 s.ver)).setCell ⟨w.heap.size + 1,1,none⟩ (.slice B.ta s.txt.length B.tc)).setCell ⟨w.heap.size + 1,2,none⟩ (.slice B.ga s.got.length B.gc)).setCell ⟨w.heap.size + 1,3,none⟩ (.slice B.sa s.sus.length B.sc)).setCell ⟨w.heap.size + 1,4,none⟩ (.bool s.wed)).setCell ⟨w.heap.size + 1,5,none⟩ (.bool s.rdy)).setCell ⟨w.heap.size + 1,6,none⟩ (.int .i64 s.by_)).setCell ⟨w.heap.size + 1,7,none⟩ (.slice B.ma s.trm.length B.mc)) oa 35 #[.int .i64 r.ver,.slice A.ta r.txt.length A.tc,.slice A.ga r.got.length A.gc,.slice A.sa r.sus.length A.sc,.bool r.wed,.bool r.rdy,.int .i64 r.by_,.slice A.ma r.trm.length A.mc] := A6.wrt (wrt8 X6 (w.heap.size + 1)) (by omega)
      have B7 : Bx ((((((((X6.setCell ⟨w.heap.size + 1,0,none⟩ (.int .i64 s.ver)).setCell ⟨w.heap.size + 1,1,none⟩ (.slice B.ta s.txt.length B.tc)).setCell ⟨w.heap.size + 1,2,none⟩ (.slice B.ga s.got.length B.gc)).setCell ⟨w.heap.size + 1,3,none⟩ (.slice B.sa s.sus.length B.sc)).setCell ⟨w.heap.size + 1,4,none⟩ (.bool s.wed)).setCell ⟨w.heap.size + 1,5,none⟩ (.bool s.rdy)).setCell ⟨w.heap.size + 1,6,none⟩ (.int .i64 s.by_)).setCell ⟨w.heap.size + 1,7,none⟩ (.slice B.ma s.trm.length B.mc)) ob 35 #[.int .i64 s.ver,.slice B.ta s.txt.length B.tc,.slice B.ga s.got.length B.gc,.slice B.sa s.sus.length B.sc,.bool s.wed,.bool s.rdy,.int .i64 s.by_,.slice B.ma s.trm.length B.mc] := B6.wrt (wrt8 X6 (w.heap.size + 1)) (by omega)
      obtain ⟨⟨s0,s1,s2,s3⟩,s4,s5,s6,s7⟩ := Bx.r8 Q6
      obtain ⟨⟨f0,f1,f2,f3⟩,f4,f5,f6,f7⟩ := Q6.f8
      refine gt_one (i := 4) rfl (by kernel_rfl) (by kernel_rfl) (fun K hK => ?_)
      go_simp
      refine hK.out _ _ ⟨Bx.r8 A7,Bx.r8 B7⟩ (fun hHeld4 => ?_)
      clear hK hHeld
      have hHeld := hHeld4
      try simp only [Act.put,List.setIfInBounds_toArray,List.set_cons_zero,List.set_cons_succ]
      have hW7 := wrt8 X6 (w.heap.size + 1) (a := .int .i64 s.ver) (b := .slice B.ta s.txt.length B.tc) (c := .slice B.ga s.got.length B.gc) (d := .slice B.sa s.sus.length B.sc) (e := .bool s.wed) (f := .bool s.rdy) (h := .int .i64 s.by_) (i := .slice B.ma s.trm.length B.mc)
      clear s0 s1 s2 s3 s4 s5 s6 s7 f0 f1 f2 f3 f4 f5 f6 f7 hHeld4 Q6 R6 A6 B6 A7 B7
      generalize ((((((((X6.setCell ⟨w.heap.size + 1,0,none⟩ (.int .i64 s.ver)).setCell ⟨w.heap.size + 1,1,none⟩ (.slice B.ta s.txt.length B.tc)).setCell ⟨w.heap.size + 1,2,none⟩ (.slice B.ga s.got.length B.gc)).setCell ⟨w.heap.size + 1,3,none⟩ (.slice B.sa s.sus.length B.sc)).setCell ⟨w.heap.size + 1,4,none⟩ (.bool s.wed)).setCell ⟨w.heap.size + 1,5,none⟩ (.bool s.rdy)).setCell ⟨w.heap.size + 1,6,none⟩ (.int .i64 s.by_)).setCell ⟨w.heap.size + 1,7,none⟩ (.slice B.ma s.trm.length B.mc)) = X7 at *
      refine gt_pure (i := 5) (v := ?_) rfl (by kernel_rfl) (by kernel_rfl) (by kernel_rfl) (fun _ _ _ h => h) (Or.inl ⟨by rfl, ?_⟩) ?_
      rotate_left
      ·(intro X;go_simp;try with_reducible rfl)
      try simp only [Act.put,List.setIfInBounds_toArray,List.set_cons_zero,List.set_cons_succ]
      clear hHeld
      refine gt_end (by kernel_rfl) ?_
      obtain ⟨⟨s0,s1,s2,s3⟩,s4,s5,s6,s7⟩ := Bx.r8 Q7
      obtain ⟨⟨t0,t1,t2,t3⟩,t4,t5,t6,t7⟩ := Bx.r8 R7
      clear Q7 R7
      go_wp2
      refine bodyPost_ret (v := .tuple #[.agg #[.int .i64 r.ver,.slice A.ta r.txt.length A.tc,.slice A.ga r.got.length A.gc,.slice A.sa r.sus.length A.sc,.bool r.wed,.bool r.rdy,.int .i64 r.by_,.slice A.ma r.trm.length A.mc],.agg #[.int .i64 s.ver,.slice B.ta s.txt.length B.tc,.slice B.ga s.got.length B.gc,.slice B.sa s.sus.length B.sc,.bool s.wed,.bool s.rdy,.int .i64 s.by_,.slice B.ma s.trm.length B.mc],.int .i64 x]) (by simp [results,Try.results27,go_sem, *]) rfl ?_
      have hG1 := HG.out.2.2.1
      have hG2 := HG.out.2.2.2.1
      have hcB := HG.out.2.2.2.2.below
      exact ⟨A,B,r,s,x,rfl,HS.out.rwp (owL_wrt (owL_wrt HG.out.1 hW6 (fun b hb e => by have := hG1 b hb;omega)) hW7 (fun b hb e => by have := hG1 b hb;omega)),HW.out.rwp (owL_wrt (owL_wrt HG.out.2.1 hW6 (fun b hb e => by have := hG2 b hb;omega)) hW7 (fun b hb e => by have := hG2 b hb;omega)),HS.out.w,HW.out,⟨h0,h1⟩,hW7.below (hW6.below hcB hcB.size (fun b e => by rw [e];exact Nat.le_refl _)) (Nat.le_trans hcB.size hW6.size) (fun b e => by rw [e];omega)⟩
end Go.Proofs.Ytlnmdfgcpfbleaa