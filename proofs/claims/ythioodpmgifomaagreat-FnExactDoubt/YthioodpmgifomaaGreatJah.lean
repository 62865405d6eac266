/-
  Texts in one: Nmh Rzi Rzj Rzk Rzu Rzv.
-/
import Derived.Test.YthioodpmgifomaaGreatJag
import Derived.Test.YthioodpmgifomaaGreatJac
import Derived.BigQuiet
import Derived.Stop.Asserts
namespace Go.Proofs.YthioodpmgifomaaGreat
set_option linter.unusedVariables false
set_option linter.unusedSimpArgs false
open Go.RowKit Go.Sort
attribute [local irreducible] sv
set_option maxRecDepth 100000 in
set_option maxHeartbeats 3200000 in
theorem anw_any (A : Ra) (r : Rw) (w : World) (hv : RwP w A r) (hg : 0 < r.got.length) (hs : szRw r ≤ 1000) :
  Calls Tryz.prog 126 #[rwV A r] w fun e w' => AnsRw w w' e r := by
 have hmix := mixed17
 unfold szRw at hs
 have hb1 := oneA16 w (.cells #[.int .i64 r.ver,.slice A.ta r.txt.length A.tc,.slice A.ga r.got.length A.gc,.slice A.sa r.sus.length A.sc,.bool r.wed,.bool r.rdy,.int .i64 r.by_,.slice A.ma r.trm.length A.mc] 37)
 have hb2 := oneA16 (w.alloc (.cells #[.int .i64 r.ver,.slice A.ta r.txt.length A.tc,.slice A.ga r.got.length A.gc,.slice A.sa r.sus.length A.sc,.bool r.wed,.bool r.rdy,.int .i64 r.by_,.slice A.ma r.trm.length A.mc] 37)) (.cells #[.int .i64 0,.slice none 0 0,.slice none 0 0,.slice none 0 0,.bool false,.bool false,.int .i64 0,.slice none 0 0] 37)
 have hb3 := oneA16 ((w.alloc (.cells #[.int .i64 r.ver,.slice A.ta r.txt.length A.tc,.slice A.ga r.got.length A.gc,.slice A.sa r.sus.length A.sc,.bool r.wed,.bool r.rdy,.int .i64 r.by_,.slice A.ma r.trm.length A.mc] 37)).alloc (.cells #[.int .i64 0,.slice none 0 0,.slice none 0 0,.slice none 0 0,.bool false,.bool false,.int .i64 0,.slice none 0 0] 37)) (.cells #[] 9)
 have hx1 : Bx (((w.alloc (.cells #[.int .i64 r.ver,.slice A.ta r.txt.length A.tc,.slice A.ga r.got.length A.gc,.slice A.sa r.sus.length A.sc,.bool r.wed,.bool r.rdy,.int .i64 r.by_,.slice A.ma r.trm.length A.mc] 37)).alloc (.cells #[.int .i64 0,.slice none 0 0,.slice none 0 0,.slice none 0 0,.bool false,.bool false,.int .i64 0,.slice none 0 0] 37)).alloc (.cells #[] 9)) w.heap.size 37 #[.int .i64 r.ver,.slice A.ta r.txt.length A.tc,.slice A.ga r.got.length A.gc,.slice A.sa r.sus.length A.sc,.bool r.wed,.bool r.rdy,.int .i64 r.by_,.slice A.ma r.trm.length A.mc] := ((Bx.new w 37 #[.int .i64 r.ver,.slice A.ta r.txt.length A.tc,.slice A.ga r.got.length A.gc,.slice A.sa r.sus.length A.sc,.bool r.wed,.bool r.rdy,.int .i64 r.by_,.slice A.ma r.trm.length A.mc]).alloc _).alloc _
 have hx2 : Bx (((w.alloc (.cells #[.int .i64 r.ver,.slice A.ta r.txt.length A.tc,.slice A.ga r.got.length A.gc,.slice A.sa r.sus.length A.sc,.bool r.wed,.bool r.rdy,.int .i64 r.by_,.slice A.ma r.trm.length A.mc] 37)).alloc (.cells #[.int .i64 0,.slice none 0 0,.slice none 0 0,.slice none 0 0,.bool false,.bool false,.int .i64 0,.slice none 0 0] 37)).alloc (.cells #[] 9)) (w.heap.size + 1) 37 #[.int .i64 0,.slice none 0 0,.slice none 0 0,.slice none 0 0,.bool false,.bool false,.int .i64 0,.slice none 0 0] := by
  have := (Bx.new (w.alloc (.cells #[.int .i64 r.ver,.slice A.ta r.txt.length A.tc,.slice A.ga r.got.length A.gc,.slice A.sa r.sus.length A.sc,.bool r.wed,.bool r.rdy,.int .i64 r.by_,.slice A.ma r.trm.length A.mc] 37)) 37 #[.int .i64 0,.slice none 0 0,.slice none 0 0,.slice none 0 0,.bool false,.bool false,.int .i64 0,.slice none 0 0]).alloc (.cells #[] 9)
  simp only [World.size_alloc] at this
  exact this
 have hb12 : Below w.heap.size w ((w.alloc (.cells #[.int .i64 r.ver,.slice A.ta r.txt.length A.tc,.slice A.ga r.got.length A.gc,.slice A.sa r.sus.length A.sc,.bool r.wed,.bool r.rdy,.int .i64 r.by_,.slice A.ma r.trm.length A.mc] 37)).alloc (.cells #[.int .i64 0,.slice none 0 0,.slice none 0 0,.slice none 0 0,.bool false,.bool false,.int .i64 0,.slice none 0 0] 37)) := hb1.trans (hb2.mono hb1.size)
 have hb13 : Below w.heap.size w (((w.alloc (.cells #[.int .i64 r.ver,.slice A.ta r.txt.length A.tc,.slice A.ga r.got.length A.gc,.slice A.sa r.sus.length A.sc,.bool r.wed,.bool r.rdy,.int .i64 r.by_,.slice A.ma r.trm.length A.mc] 37)).alloc (.cells #[.int .i64 0,.slice none 0 0,.slice none 0 0,.slice none 0 0,.bool false,.bool false,.int .i64 0,.slice none 0 0] 37)).alloc (.cells #[] 9)) := hb12.trans (hb3.mono hb12.size)
 have HO0 : Hid (Cel.ow (((w.alloc (.cells #[.int .i64 r.ver,.slice A.ta r.txt.length A.tc,.slice A.ga r.got.length A.gc,.slice A.sa r.sus.length A.sc,.bool r.wed,.bool r.rdy,.int .i64 r.by_,.slice A.ma r.trm.length A.mc] 37)).alloc (.cells #[.int .i64 0,.slice none 0 0,.slice none 0 0,.slice none 0 0,.bool false,.bool false,.int .i64 0,.slice none 0 0] 37)).alloc (.cells #[] 9)) (scl []) (.slice (some ⟨w.heap.size + 1 + 1,0,none⟩) 0 0) (fun _ => False)) := ow_scl.2 ⟨_,0,none,rfl,OSo.nil _ _ (plainS _ _),fun b => by simp⟩
 have HX1 : Hid (Bx (((w.alloc (.cells #[.int .i64 r.ver,.slice A.ta r.txt.length A.tc,.slice A.ga r.got.length A.gc,.slice A.sa r.sus.length A.sc,.bool r.wed,.bool r.rdy,.int .i64 r.by_,.slice A.ma r.trm.length A.mc] 37)).alloc (.cells #[.int .i64 0,.slice none 0 0,.slice none 0 0,.slice none 0 0,.bool false,.bool false,.int .i64 0,.slice none 0 0] 37)).alloc (.cells #[] 9)) w.heap.size 37 #[.int .i64 r.ver,.slice A.ta r.txt.length A.tc,.slice A.ga r.got.length A.gc,.slice A.sa r.sus.length A.sc,.bool r.wed,.bool r.rdy,.int .i64 r.by_,.slice A.ma r.trm.length A.mc]) := hx1
 have HX2 : Hid (Bx (((w.alloc (.cells #[.int .i64 r.ver,.slice A.ta r.txt.length A.tc,.slice A.ga r.got.length A.gc,.slice A.sa r.sus.length A.sc,.bool r.wed,.bool r.rdy,.int .i64 r.by_,.slice A.ma r.trm.length A.mc] 37)).alloc (.cells #[.int .i64 0,.slice none 0 0,.slice none 0 0,.slice none 0 0,.bool false,.bool false,.int .i64 0,.slice none 0 0] 37)).alloc (.cells #[] 9)) (w.heap.size + 1) 37 #[.int .i64 0,.slice none 0 0,.slice none 0 0,.slice none 0 0,.bool false,.bool false,.int .i64 0,.slice none 0 0]) := hx2
 have HB0 : Hid (Below w.heap.size w (((w.alloc (.cells #[.int .i64 r.ver,.slice A.ta r.txt.length A.tc,.slice A.ga r.got.length A.gc,.slice A.sa r.sus.length A.sc,.bool r.wed,.bool r.rdy,.int .i64 r.by_,.slice A.ma r.trm.length A.mc] 37)).alloc (.cells #[.int .i64 0,.slice none 0 0,.slice none 0 0,.slice none 0 0,.bool false,.bool false,.int .i64 0,.slice none 0 0] 37)).alloc (.cells #[] 9))) := hb13
 have HV : Hid (RwP w A r) := hv
 have hsz : w.heap.size + 1 + 1 ≤ (((w.alloc (.cells #[.int .i64 r.ver,.slice A.ta r.txt.length A.tc,.slice A.ga r.got.length A.gc,.slice A.sa r.sus.length A.sc,.bool r.wed,.bool r.rdy,.int .i64 r.by_,.slice A.ma r.trm.length A.mc] 37)).alloc (.cells #[.int .i64 0,.slice none 0 0,.slice none 0 0,.slice none 0 0,.bool false,.bool false,.int .i64 0,.slice none 0 0] 37)).alloc (.cells #[] 9)).heap.size := by simp only [World.size_alloc];omega
 have HSz : Hid (w.heap.size + 1 + 1 ≤ (((w.alloc (.cells #[.int .i64 r.ver,.slice A.ta r.txt.length A.tc,.slice A.ga r.got.length A.gc,.slice A.sa r.sus.length A.sc,.bool r.wed,.bool r.rdy,.int .i64 r.by_,.slice A.ma r.trm.length A.mc] 37)).alloc (.cells #[.int .i64 0,.slice none 0 0,.slice none 0 0,.slice none 0 0,.bool false,.bool false,.int .i64 0,.slice none 0 0] 37)).alloc (.cells #[] 9)).heap.size) := hsz
 obtain ⟨⟨c0,c1,c2,c3⟩,c4,c5,c6,c7⟩ := Bx.r8 hx1
 clear hb1 hb2 hb3 hb12 hb13 hx1 hx2 hv hsz
 unfold rwV rwC
 go_enter Tryz.func126,Tryz.ntmps126
 go_wp2_with fail
 generalize ((w.alloc (.cells #[.int .i64 r.ver,.slice A.ta r.txt.length A.tc,.slice A.ga r.got.length A.gc,.slice A.sa r.sus.length A.sc,.bool r.wed,.bool r.rdy,.int .i64 r.by_,.slice A.ma r.trm.length A.mc] 37)).alloc (.cells #[.int .i64 0,.slice none 0 0,.slice none 0 0,.slice none 0 0,.bool false,.bool false,.int .i64 0,.slice none 0 0] 37)).alloc (.cells #[] 9) = W0 at *
 clear c0 c1 c2 c3 c4 c5 c6 c7
 go_loopw [3,10] (fun v k wr => ∃ (j : Nat) (a : Option Addr) (cc : Nat) (Z : List (List UInt8)) (fz : Fp),j ≤ r.txt.length ∧ k = .int .i64 (j : Int) ∧ v = .slice a Z.length cc ∧ Hid (Z = r.txt.take j) ∧ Cel.ow wr (scl Z) (.slice a Z.length cc) fz ∧ (∀ b,fz b → w.heap.size + 1 + 1 ≤ b) ∧ Bx wr w.heap.size 37 #[.int .i64 r.ver,.slice A.ta r.txt.length A.tc,.slice A.ga r.got.length A.gc,.slice A.sa r.sus.length A.sc,.bool r.wed,.bool r.rdy,.int .i64 r.by_,.slice A.ma r.trm.length A.mc] ∧ Bx wr (w.heap.size + 1) 37 #[.int .i64 0,.slice none 0 0,.slice none 0 0,.slice none 0 0,.bool false,.bool false,.int .i64 0,.slice none 0 0] ∧ Below w.heap.size w wr) (fun _ k _ => r.txt.length - (intOf k).toNat)
 case atStart => exact ⟨0,some ⟨w.heap.size + 1 + 1,0,none⟩,0,[],_,Nat.zero_le _,rfl,rfl,rfl,HO0.out,fun b h => h.elim,HX1.out,HX2.out,HB0.out⟩
 case round =>
  obtain ⟨j,a,cc,Z,fz,hj,rfl,rfl,hZ,hO,hfz,hx1,hx2,hb⟩ := hrel
  have HO : Hid (Cel.ow wr (scl Z) (.slice a Z.length cc) fz) := hO
  have HY1 : Hid (Bx wr w.heap.size 37 #[.int .i64 r.ver,.slice A.ta r.txt.length A.tc,.slice A.ga r.got.length A.gc,.slice A.sa r.sus.length A.sc,.bool r.wed,.bool r.rdy,.int .i64 r.by_,.slice A.ma r.trm.length A.mc]) := hx1
  have HY2 : Hid (Bx wr (w.heap.size + 1) 37 #[.int .i64 0,.slice none 0 0,.slice none 0 0,.slice none 0 0,.bool false,.bool false,.int .i64 0,.slice none 0 0]) := hx2
  have HB : Hid (Below w.heap.size w wr) := hb
  have hsr := hx2.lt
  clear hO HX1 HX2 HB0 HO0 HSz
  by_cases hlt : j < r.txt.length
  ·rcases (HV.out.below hb).txt.txs with h0 | ⟨tb,tq,hta,htc⟩
   ·omega
   have hck := htc j hlt
   have hlen : (r.txt.getD j []).length ≤ 1048576 := by have := totS_at r.txt hlt;omega
   have hC := clone_any (r.txt.getD j []) wr hlen
   have HN : Hid (r.txt.take (j + 1) = Z ++ [r.txt.getD j []]) := by rw [Hid,hZ.out,List.take_succ_eq_append_getElem hlt];simp [List.getD,hlt]
   have HZl : Hid (Z.length ≤ 1000000) := by rw [Hid,hZ.out,List.length_take];omega
   have k0 : (0 : Int) ≤ (j : Int) := by omega
   have k1 : (j : Int) < (r.txt.length : Int) := by omega
   rw [hta]
   clear hx1 hx2 hb htc hZ hlen
   generalize r.txt.getD j [] = t at *
   go_wp2_with (first | (go_at_call 118;refine hC.mono ?_;rintro e w1 ⟨rfl,hb1⟩;have HY1a : Hid (Bx w1 w.heap.size 37 #[.int .i64 r.ver,.slice A.ta r.txt.length A.tc,.slice A.ga r.got.length A.gc,.slice A.sa r.sus.length A.sc,.bool r.wed,.bool r.rdy,.int .i64 r.by_,.slice A.ma r.trm.length A.mc]) := HY1.out.below hb1;have HY2a : Hid (Bx w1 (w.heap.size + 1) 37 #[.int .i64 0,.slice none 0 0,.slice none 0 0,.slice none 0 0,.bool false,.bool false,.int .i64 0,.slice none 0 0]) := HY2.out.below hb1;have HB1 : Hid (Below w.heap.size w w1) := HB.out.trans (hb1.mono HB.out.size);have hs1 := hb1.size;obtain ⟨a',c',ea,hA⟩ := ow_txt_app t (Cel.ow_below HO.out hb1) HZl.out;cases ea;clear hb1 hck) | (at_builtin;refine wpList_append_of (by rfl) _ _ _ _ (by rfl) _ _ (by rfl) (by rfl) hA ⟨rfl,rfl,rfl,rfl⟩ ?_;rintro v1 w2 ⟨a1,e1,f1,rfl,q1,q2,q3⟩;have HQ1 : Hid (Cel.ow w2 (scl (Z ++ [t])) (.slice a1 (Z.length + 1) e1) f1) := q1;have HQ2 : Hid (∀ b,f1 b → fz b ∨ w1.heap.size ≤ b) := q2;have HQ3 : Hid (Wrt fz w1 w2) := q3;clear q1 q2 q3 hA))
   have HL : Hid ((Z ++ [t]).length = Z.length + 1) := by rw [Hid,List.length_append];rfl
   go_roundw
   case rel => exact ⟨j + 1,a1,e1,Z ++ [t],f1,by omega,by go_num,by rw [HL.out],HN.out.symm,by rw [HL.out];exact HQ1.out,fun b hb => (HQ2.out b hb).elim (hfz b) (fun h => by omega),by rw [← hta];exact HY1a.out.wrt HQ3.out (fun k => by have := hfz _ k;omega),HY2a.out.wrt HQ3.out (fun k => by have := hfz _ k;omega),HQ3.out.below HB1.out HB1.out.size (fun b hb => by have := hfz b hb;omega)⟩
   case measure => simp [intOf];omega
  ·have k1 : ¬ ((j : Int) < (r.txt.length : Int)) := by omega
   have ej : j = r.txt.length := by omega
   have eZ : Z = r.txt := by rw [hZ.out,ej,List.take_length]
   subst eZ
   have hrp := HV.out.below hb
   have KS : ∀ X,Below wr.heap.size wr X → X.cell? ⟨w.heap.size,2,none⟩ = some (.slice A.ga r.got.length A.gc) ∧ X.cell? ⟨w.heap.size,3,none⟩ = some (.slice A.sa r.sus.length A.sc) ∧ X.cell? ⟨w.heap.size,7,none⟩ = some (.slice A.ma r.trm.length A.mc) := fun X hX => by
    obtain ⟨⟨d0,d1,d2,d3⟩,d4,d5,d6,d7⟩ := Bx.r8 (HY1.out.below hX)
    exact ⟨d2,d3,d7⟩
   have hbd : Below wr.heap.size wr wr.drew := (Same.drewN wr 1).below
   have hC1 := cln_any A.ga A.gc r.got wr.drew (hrp.below hbd).got.vec (by omega)
   have HC2 : Hid (∀ X,Below wr.heap.size wr X → Calls Tryz.prog 176 #[.slice A.sa r.sus.length A.sc] X fun e w' => AnsL X w' e r.sus) := fun X hX => cln_any A.sa A.sc r.sus X (hrp.below hX).sus.vec (by omega)
   have HC3 : Hid (∀ X,Below wr.heap.size wr X → Calls Tryz.prog 176 #[.slice A.ma r.trm.length A.mc] X fun e w' => AnsL X w' e r.trm) := fun X hX => cln_any A.ma A.mc r.trm X (hrp.below hX).trm.vec (by omega)
   have HGa : Hid (∃ gb go,A.ga = some ⟨gb,go,none⟩ ∧ gb < w.heap.size) := by
    rcases HV.out.got.vec.2.2 with h | ⟨gb,go,e,h⟩
    ·omega
    ·exact ⟨gb,go,e,World.block_lt_of_cell? _ _ (h 0 hg)⟩
   have hwr := HB.out.size
   clear hrp hx1 hx2 hb hZ hs ej HV
   go_wp2_with fail
   refine gt_begin (S := fun X : World => X.cell? ⟨w.heap.size,2,none⟩ = some (.slice A.ga r.got.length A.gc) ∧ X.cell? ⟨w.heap.size,3,none⟩ = some (.slice A.sa r.sus.length A.sc) ∧ X.cell? ⟨w.heap.size,7,none⟩ = some (.slice A.ma r.trm.length A.mc)) 13 hmix (by kernel_rfl) ?_
   have hHeld : (fun X : World => X.cell? ⟨w.heap.size,2,none⟩ = some (.slice A.ga r.got.length A.gc) ∧ X.cell? ⟨w.heap.size,3,none⟩ = some (.slice A.sa r.sus.length A.sc) ∧ X.cell? ⟨w.heap.size,7,none⟩ = some (.slice A.ma r.trm.length A.mc)) wr.drew := (KS _ hbd)
   refine gt_take (i := 0) (v := ?_) rfl (by kernel_rfl) (by kernel_rfl) (by kernel_rfl) (by kernel_rfl) (fun _ _ _ h => h) (Or.inl ⟨by rfl, ?_⟩) hHeld ?_
   rotate_left
   ·(intro X hSX;(try dsimp only at hSX);obtain ⟨g0,g1,g2⟩ := hSX;go_simp;try with_reducible rfl)
   try simp only [Act.put,List.setIfInBounds_toArray,List.set_cons_zero,List.set_cons_succ]
   refine gt_take (i := 1) (v := ?_) rfl (by kernel_rfl) (by kernel_rfl) (by kernel_rfl) (by kernel_rfl) (fun _ _ _ h => h) (Or.inl ⟨by rfl, ?_⟩) hHeld ?_
   rotate_left
   ·(intro X hSX;(try dsimp only at hSX);obtain ⟨g0,g1,g2⟩ := hSX;go_simp;try with_reducible rfl)
   try simp only [Act.put,List.setIfInBounds_toArray,List.set_cons_zero,List.set_cons_succ]
   refine gt_take (i := 2) (v := ?_) rfl (by kernel_rfl) (by kernel_rfl) (by kernel_rfl) (by kernel_rfl) (fun _ _ _ h => h) (Or.inl ⟨by rfl, ?_⟩) hHeld ?_
   rotate_left
   ·(intro X hSX;(try dsimp only at hSX);obtain ⟨g0,g1,g2⟩ := hSX;go_simp;try with_reducible rfl)
   try simp only [Act.put,List.setIfInBounds_toArray,List.set_cons_zero,List.set_cons_succ]
   refine gt_take (i := 4) (v := ?_) rfl (by kernel_rfl) (by kernel_rfl) (by kernel_rfl) (by kernel_rfl) (fun _ _ _ h => h) (Or.inl ⟨by rfl, ?_⟩) hHeld ?_
   rotate_left
   ·(intro X hSX;(try dsimp only at hSX);obtain ⟨g0,g1,g2⟩ := hSX;go_simp;try with_reducible rfl)
   try simp only [Act.put,List.setIfInBounds_toArray,List.set_cons_zero,List.set_cons_succ]
   refine gt_take (i := 5) (v := ?_) rfl (by kernel_rfl) (by kernel_rfl) (by kernel_rfl) (by kernel_rfl) (fun _ _ _ h => h) (Or.inl ⟨by rfl, ?_⟩) hHeld ?_
   rotate_left
   ·(intro X hSX;(try dsimp only at hSX);obtain ⟨g0,g1,g2⟩ := hSX;go_simp;try with_reducible rfl)
   try simp only [Act.put,List.setIfInBounds_toArray,List.set_cons_zero,List.set_cons_succ]
   refine gt_take (i := 7) (v := ?_) rfl (by kernel_rfl) (by kernel_rfl) (by kernel_rfl) (by kernel_rfl) (fun _ _ _ h => h) (Or.inl ⟨by rfl, ?_⟩) hHeld ?_
   rotate_left
   ·(intro X hSX;(try dsimp only at hSX);obtain ⟨g0,g1,g2⟩ := hSX;go_simp;try with_reducible rfl)
   try simp only [Act.put,List.setIfInBounds_toArray,List.set_cons_zero,List.set_cons_succ]
   refine gt_take (i := 8) (v := ?_) rfl (by kernel_rfl) (by kernel_rfl) (by kernel_rfl) (by kernel_rfl) (fun _ _ _ h => h) (Or.inl ⟨by rfl, ?_⟩) hHeld ?_
   rotate_left
   ·(intro X hSX;(try dsimp only at hSX);obtain ⟨g0,g1,g2⟩ := hSX;go_simp;try with_reducible rfl)
   try simp only [Act.put,List.setIfInBounds_toArray,List.set_cons_zero,List.set_cons_succ]
   refine gt_pure (i := 10) (v := ?_) rfl (by kernel_rfl) (by kernel_rfl) (by kernel_rfl) (fun _ _ _ h => h) (Or.inl ⟨by rfl, ?_⟩) ?_
   rotate_left
   ·(intro X;go_simp;try with_reducible rfl)
   try simp only [Act.put,List.setIfInBounds_toArray,List.set_cons_zero,List.set_cons_succ]
   refine gt_one (i := 3) rfl (by kernel_rfl) (by kernel_rfl) (fun K hK => ?_)
   go_simp
   go_at_call 176
   refine hC1.mono ?_
   rintro e V1 ⟨a1,e1,rfl,f1,o1,p1,b1⟩
   have hbV1 : Below wr.heap.size wr V1 := hbd.trans (b1.mono hbd.size)
   refine hK.out _ _ (KS _ hbV1) (fun hHeldN => ?_)
   clear hK hHeld
   have hHeld := hHeldN
   try simp only [Act.put,List.setIfInBounds_toArray,List.set_cons_zero,List.set_cons_succ]
   refine gt_one (i := 6) rfl (by kernel_rfl) (by kernel_rfl) (fun K hK => ?_)
   go_simp
   go_at_call 176
   refine (HC2.out V1 hbV1).mono ?_
   rintro e V2 ⟨a2,e2,rfl,f2,o2,p2,b2⟩
   have hbV2 : Below wr.heap.size wr V2 := hbV1.trans (b2.mono hbV1.size)
   refine hK.out _ _ (KS _ hbV2) (fun hHeldN => ?_)
   clear hK hHeld
   have hHeld := hHeldN
   try simp only [Act.put,List.setIfInBounds_toArray,List.set_cons_zero,List.set_cons_succ]
   refine gt_one (i := 9) rfl (by kernel_rfl) (by kernel_rfl) (fun K hK => ?_)
   go_simp
   go_at_call 176
   refine (HC3.out V2 hbV2).mono ?_
   rintro e V3 ⟨a3,e3,rfl,f3,o3,p3,b3⟩
   have hbV3 : Below wr.heap.size wr V3 := hbV2.trans (b3.mono hbV2.size)
   refine hK.out _ _ (KS _ hbV3) (fun hHeldN => ?_)
   clear hK hHeld
   have hHeld := hHeldN
   try simp only [Act.put,List.setIfInBounds_toArray,List.set_cons_zero,List.set_cons_succ]
   have hX3 : Bx V3 w.heap.size 37 #[.int .i64 r.ver,.slice A.ta r.txt.length A.tc,.slice A.ga r.got.length A.gc,.slice A.sa r.sus.length A.sc,.bool r.wed,.bool r.rdy,.int .i64 r.by_,.slice A.ma r.trm.length A.mc] := HY1.out.below hbV3
   have hX4 : Bx (V3.setCell ⟨w.heap.size,1,none⟩ (.slice a r.txt.length cc)) w.heap.size 37 #[.int .i64 r.ver,.slice a r.txt.length cc,.slice A.ga r.got.length A.gc,.slice A.sa r.sus.length A.sc,.bool r.wed,.bool r.rdy,.int .i64 r.by_,.slice A.ma r.trm.length A.mc] := by simpa using hX3.setC 1 (.slice a r.txt.length cc)
   have hX5 : Bx ((V3.setCell ⟨w.heap.size,1,none⟩ (.slice a r.txt.length cc)).setCell ⟨w.heap.size,2,none⟩ (.slice a1 r.got.length e1)) w.heap.size 37 #[.int .i64 r.ver,.slice a r.txt.length cc,.slice a1 r.got.length e1,.slice A.sa r.sus.length A.sc,.bool r.wed,.bool r.rdy,.int .i64 r.by_,.slice A.ma r.trm.length A.mc] := by simpa using hX4.setC 2 (.slice a1 r.got.length e1)
   have hX6 : Bx (((V3.setCell ⟨w.heap.size,1,none⟩ (.slice a r.txt.length cc)).setCell ⟨w.heap.size,2,none⟩ (.slice a1 r.got.length e1)).setCell ⟨w.heap.size,3,none⟩ (.slice a2 r.sus.length e2)) w.heap.size 37 #[.int .i64 r.ver,.slice a r.txt.length cc,.slice a1 r.got.length e1,.slice a2 r.sus.length e2,.bool r.wed,.bool r.rdy,.int .i64 r.by_,.slice A.ma r.trm.length A.mc] := by simpa using hX5.setC 3 (.slice a2 r.sus.length e2)
   have hX7 : Bx ((((V3.setCell ⟨w.heap.size,1,none⟩ (.slice a r.txt.length cc)).setCell ⟨w.heap.size,2,none⟩ (.slice a1 r.got.length e1)).setCell ⟨w.heap.size,3,none⟩ (.slice a2 r.sus.length e2)).setCell ⟨w.heap.size,7,none⟩ (.slice a3 r.trm.length e3)) w.heap.size 37 #[.int .i64 r.ver,.slice a r.txt.length cc,.slice a1 r.got.length e1,.slice a2 r.sus.length e2,.bool r.wed,.bool r.rdy,.int .i64 r.by_,.slice a3 r.trm.length e3] := by simpa using hX6.setC 7 (.slice a3 r.trm.length e3)
   have hs3 := hbV3.size
   have hs12 := b2.size
   have hs23 := b3.size
   have hs2 := hbV2.size
   have hs1 := hbV1.size
   have hW7 : Wrt (fun x => x = w.heap.size) V3 ((((V3.setCell ⟨w.heap.size,1,none⟩ (.slice a r.txt.length cc)).setCell ⟨w.heap.size,2,none⟩ (.slice a1 r.got.length e1)).setCell ⟨w.heap.size,3,none⟩ (.slice a2 r.sus.length e2)).setCell ⟨w.heap.size,7,none⟩ (.slice a3 r.trm.length e3)) := (((Wrt.set V3 w.heap.size 1 _).trans (Wrt.set _ w.heap.size 2 _) (fun _ _ h => h)).trans (Wrt.set _ w.heap.size 3 _) (fun _ _ h => h)).trans (Wrt.set _ w.heap.size 7 _) (fun _ _ h => h)
   have hR3 : Bx V3 (w.heap.size + 1) 37 #[.int .i64 0,.slice none 0 0,.slice none 0 0,.slice none 0 0,.bool false,.bool false,.int .i64 0,.slice none 0 0] := HY2.out.below hbV3
   have HNe : Hid (∀ X : World,X.cell? ⟨w.heap.size,2,none⟩ = some (.slice a1 r.got.length e1) → ¬ (X.cell? ⟨w.heap.size,2,none⟩ = some (.slice A.ga r.got.length A.gc) ∧ X.cell? ⟨w.heap.size,3,none⟩ = some (.slice A.sa r.sus.length A.sc) ∧ X.cell? ⟨w.heap.size,7,none⟩ = some (.slice A.ma r.trm.length A.mc))) := fun X h hk => by
    have e := Option.some.inj (h.symm.trans hk.1)
    obtain ⟨g1,q1,k1,e',hf1,_⟩ := ow_int_set o1 hg
    obtain ⟨gb,go,hga,hlt⟩ := HGa.out
    rw [hga] at e
    rw [e] at e'
    cases e'
    have := p1 _ hf1
    have hd : wr.drew.heap.size = wr.heap.size := rfl
    omega
   have HFin : Hid (Bx ((((V3.setCell ⟨w.heap.size,1,none⟩ (.slice a r.txt.length cc)).setCell ⟨w.heap.size,2,none⟩ (.slice a1 r.got.length e1)).setCell ⟨w.heap.size,3,none⟩ (.slice a2 r.sus.length e2)).setCell ⟨w.heap.size,7,none⟩ (.slice a3 r.trm.length e3)) w.heap.size 37 #[.int .i64 r.ver,.slice a r.txt.length cc,.slice a1 r.got.length e1,.slice a2 r.sus.length e2,.bool r.wed,.bool r.rdy,.int .i64 r.by_,.slice a3 r.trm.length e3] ∧ Bx ((((V3.setCell ⟨w.heap.size,1,none⟩ (.slice a r.txt.length cc)).setCell ⟨w.heap.size,2,none⟩ (.slice a1 r.got.length e1)).setCell ⟨w.heap.size,3,none⟩ (.slice a2 r.sus.length e2)).setCell ⟨w.heap.size,7,none⟩ (.slice a3 r.trm.length e3)) (w.heap.size + 1) 37 #[.int .i64 0,.slice none 0 0,.slice none 0 0,.slice none 0 0,.bool false,.bool false,.int .i64 0,.slice none 0 0] ∧ ∃ f,owL ((((V3.setCell ⟨w.heap.size,1,none⟩ (.slice a r.txt.length cc)).setCell ⟨w.heap.size,2,none⟩ (.slice a1 r.got.length e1)).setCell ⟨w.heap.size,3,none⟩ (.slice a2 r.sus.length e2)).setCell ⟨w.heap.size,7,none⟩ (.slice a3 r.trm.length e3)) (rwCels r) (rwVals ⟨a,cc,a1,e1,a2,e2,a3,e3⟩ r) f ∧ (∀ b,f b → w.heap.size + 1 + 1 ≤ b) ∧ Below w.heap.size w ((((V3.setCell ⟨w.heap.size,1,none⟩ (.slice a r.txt.length cc)).setCell ⟨w.heap.size,2,none⟩ (.slice a1 r.got.length e1)).setCell ⟨w.heap.size,3,none⟩ (.slice a2 r.sus.length e2)).setCell ⟨w.heap.size,7,none⟩ (.slice a3 r.trm.length e3))) := by
    have hd : wr.drew.heap.size = wr.heap.size := rfl
    have q0 : Cel.ow V3 (scl r.txt) (.slice a r.txt.length cc) fz := Cel.ow_below HO.out hbV3
    have q1 : Cel.ow V3 (icl r.got) (.slice a1 r.got.length e1) f1 := Cel.ow_below (Cel.ow_below o1 b2) b3
    have q2 : Cel.ow V3 (icl r.sus) (.slice a2 r.sus.length e2) f2 := Cel.ow_below o2 b3
    have l0 := Cel.ow_lt HO.out
    have l1 := Cel.ow_lt o1
    have l2 := Cel.ow_lt o2
    have hall : ∀ b,(fz b ∨ f1 b ∨ f2 b ∨ f3 b) → w.heap.size + 1 + 1 ≤ b := by
     rintro b (k | k | k | k)
     ·exact hfz b k
     ·have := p1 b k;omega
     ·have := p2 b k;omega
     ·have := p3 b k;omega
    have hL := owL4 q0 q1 q2 o3 (fun b k k' => by
     have := l0 b k
     rcases k' with k' | k' | k'
     ·have := p1 b k';omega
     ·have := p2 b k';omega
     ·have := p3 b k';omega) (fun b k k' => by
     have := l1 b k
     rcases k' with k' | k'
     ·have := p2 b k';omega
     ·have := p3 b k';omega) (fun b k k' => by
     have := l2 b k
     have := p3 b k'
     omega)
    have hB3 : Below w.heap.size w V3 := HB.out.trans (hbV3.mono HB.out.size)
    exact ⟨hX7,hR3.wrt hW7 (fun e => by omega),_,owL_wrt hL hW7 (fun b hb e => by have := hall b hb;omega),hall,hW7.below hB3 hB3.size (fun b e => by omega)⟩
   have x1 := hX3.at 1 (v := .slice A.ta r.txt.length A.tc) rfl
   have y1 := hX3.f 1
   have x2 := hX4.at 2 (v := .slice A.ga r.got.length A.gc) rfl
   have y2 := hX4.f 2
   have x3 := hX5.at 3 (v := .slice A.sa r.sus.length A.sc) rfl
   have y3 := hX5.f 3
   have x7 := hX6.at 7 (v := .slice A.ma r.trm.length A.mc) rfl
   have y7 := hX6.f 7
   have n5 := HNe.out _ (hX5.at 2 (v := .slice a1 r.got.length e1) rfl)
   have n6 := HNe.out _ (hX6.at 2 (v := .slice a1 r.got.length e1) rfl)
   have k4 : (V3.setCell ⟨w.heap.size,1,none⟩ (.slice a r.txt.length cc)).cell? ⟨w.heap.size,2,none⟩ = some (.slice A.ga r.got.length A.gc) ∧ (V3.setCell ⟨w.heap.size,1,none⟩ (.slice a r.txt.length cc)).cell? ⟨w.heap.size,3,none⟩ = some (.slice A.sa r.sus.length A.sc) ∧ (V3.setCell ⟨w.heap.size,1,none⟩ (.slice a r.txt.length cc)).cell? ⟨w.heap.size,7,none⟩ = some (.slice A.ma r.trm.length A.mc) := ⟨x2,hX4.at 3 (v := .slice A.sa r.sus.length A.sc) rfl,hX4.at 7 (v := .slice A.ma r.trm.length A.mc) rfl⟩
   clear o1 o2 o3 p1 p2 p3 b1 b2 b3 hX3 hX4 hX5 hX6 hX7 hW7 hR3 HNe HY1 HY2 HC2 HC3 hbV1 hbV2 hbV3 hbd KS HGa
   refine gt_one (i := 11) rfl (by kernel_rfl) (by kernel_rfl) (fun K hK => ?_)
   go_simp
   refine hK.out _ _ k4 (fun hHeldN => ?_)
   clear hK hHeld
   have hHeld := hHeldN
   try simp only [Act.put,List.setIfInBounds_toArray,List.set_cons_zero,List.set_cons_succ]
   refine gt_pure (i := 12) (v := ?_) rfl (by kernel_rfl) (by kernel_rfl) (by kernel_rfl) (fun _ _ _ h => h) (Or.inl ⟨by rfl, ?_⟩) ?_
   rotate_left
   ·(intro X;go_simp;try with_reducible rfl)
   try simp only [Act.put,List.setIfInBounds_toArray,List.set_cons_zero,List.set_cons_succ]
   refine gt_oneZ rfl (by kernel_rfl) (fun K hK => ?_)
   go_simp
   refine hK.out _ _ ?_
   try simp only [Act.put,List.setIfInBounds_toArray,List.set_cons_zero,List.set_cons_succ]
   refine gt_pure (i := 14) (v := ?_) rfl (by kernel_rfl) (by kernel_rfl) (by kernel_rfl) (fun _ _ _ h => h) (Or.inl ⟨by rfl, ?_⟩) ?_
   rotate_left
   ·(intro X;go_simp;try with_reducible rfl)
   try simp only [Act.put,List.setIfInBounds_toArray,List.set_cons_zero,List.set_cons_succ]
   refine gt_oneN (i := 15) n5 rfl (by kernel_rfl) (fun K hK => ?_)
   go_simp
   refine hK.out _ _ ?_
   try simp only [Act.put,List.setIfInBounds_toArray,List.set_cons_zero,List.set_cons_succ]
   refine gt_pure (i := 16) (v := ?_) rfl (by kernel_rfl) (by kernel_rfl) (by kernel_rfl) (fun _ _ _ h => h) (Or.inl ⟨by rfl, ?_⟩) ?_
   rotate_left
   ·(intro X;go_simp;try with_reducible rfl)
   try simp only [Act.put,List.setIfInBounds_toArray,List.set_cons_zero,List.set_cons_succ]
   refine gt_oneN (i := 17) n6 rfl (by kernel_rfl) (fun K hK => ?_)
   go_simp
   refine hK.out _ _ ?_
   try simp only [Act.put,List.setIfInBounds_toArray,List.set_cons_zero,List.set_cons_succ]
   refine gt_end (by kernel_rfl) ?_
   clear hHeld x1 x2 x3 x7 y1 y2 y3 y7 n5 n6 k4
   obtain ⟨hX7,hR7,f,hL7,hf7,hB7⟩ := HFin.out
   generalize (((V3.setCell ⟨w.heap.size,1,none⟩ (.slice a r.txt.length cc)).setCell ⟨w.heap.size,2,none⟩ (.slice a1 r.got.length e1)).setCell ⟨w.heap.size,3,none⟩ (.slice a2 r.sus.length e2)).setCell ⟨w.heap.size,7,none⟩ (.slice a3 r.trm.length e3) = W7 at *
   have HN : Hid (∀ {z0 z1 z2 z3 z4 z5 z6 z7 : Value},NewL w ((((((((W7.setCell ⟨w.heap.size + 1,0,none⟩ z0).setCell ⟨w.heap.size + 1,1,none⟩ z1).setCell ⟨w.heap.size + 1,2,none⟩ z2).setCell ⟨w.heap.size + 1,3,none⟩ z3).setCell ⟨w.heap.size + 1,4,none⟩ z4).setCell ⟨w.heap.size + 1,5,none⟩ z5).setCell ⟨w.heap.size + 1,6,none⟩ z6).setCell ⟨w.heap.size + 1,7,none⟩ z7) (rwCels r) (rwVals ⟨a,cc,a1,e1,a2,e2,a3,e3⟩ r)) := fun {z0 z1 z2 z3 z4 z5 z6 z7} => ⟨f,owL_wrt hL7 (wrt8 W7 (w.heap.size + 1)) (fun b hb e => by have := hf7 b hb;omega),fun b hb => by have := hf7 b hb;omega,(wrt8 W7 (w.heap.size + 1)).below hB7 hB7.size (fun b e => by omega)⟩
   obtain ⟨⟨x0,x1,x2,x3⟩,x4,x5,x6,x7⟩ := Bx.r8 hX7
   obtain ⟨⟨z0,z1,z2,z3⟩,z4,z5,z6,z7⟩ := Bx.r8 hR7
   obtain ⟨⟨f0,f1',f2',f3'⟩,f4,f5,f6,f7⟩ := hR7.f8
   clear HFin hX7 hR7 hL7 hf7 hB7
   go_wp2
   refine bodyPost_ret (v := rwV ⟨a,cc,a1,e1,a2,e2,a3,e3⟩ r) (by simp [results,Tryz.results126,go_sem,rwV,rwC, *]) rfl ?_
   exact ⟨_,rfl,HN.out⟩
end Go.Proofs.YthioodpmgifomaaGreat
namespace Go.Proofs.YthioodpmgifomaaGreat
set_option linter.unusedVariables false
set_option linter.unusedSimpArgs false
open Go.RowKit Go.Sort
set_option maxHeartbeats 400000 in
theorem isRl_any (n : Int) (w : World) : Calls Tryz.prog 99 #[.int .i64 n] w fun e w' => e = .returned (.bool (inB n 1 5)) ∧ w' = w := by
 by_cases h0 : (1 : Int) ≤ n
 ·have H : Hid (inB n 1 5 = decide (n ≤ 5)) := by rw [Hid,inB];simp [h0]
  go_enter Tryz.func99,Tryz.ntmps99
  go_wp2
  go_ret
  exact ⟨ret_bool (by rw [H.out]),rfl⟩
 ·have H : Hid (inB n 1 5 = false) := by rw [Hid,inB];simp [h0]
  go_enter Tryz.func99,Tryz.ntmps99
  go_wp2
  go_ret
  exact ⟨ret_bool (by rw [H.out]),rfl⟩
def txB (T : List (List UInt8)) : Bool := decide (T.length ≤ 12) && T.all (fun t => decide (t.length ≤ 20))
theorem txB_long {T : List (List UInt8)} {k : Nat} (hk : k < T.length) (h : ¬ (T.getD k []).length ≤ 20) : txB T = false := by
 have : T.all (fun t => decide (t.length ≤ 20)) = false := by
  rw [List.all_eq_false]
  refine ⟨T[k],List.getElem_mem hk, ?_⟩
  rw [List.getD_eq_getElem?_getD,List.getElem?_eq_getElem hk] at h
  simpa using h
 rw [txB,this]
 simp
theorem txB_all {T : List (List UInt8)} (h0 : T.length ≤ 12) (h : ∀ k,k < T.length → (T.getD k []).length ≤ 20) : txB T = true := by
 have : T.all (fun t => decide (t.length ≤ 20)) = true := by
  rw [List.all_eq_true]
  intro t ht
  obtain ⟨j,hj,rfl⟩ := List.mem_iff_getElem.1 ht
  have := h j hj
  rw [List.getD_eq_getElem?_getD,List.getElem?_eq_getElem hj] at this
  simpa using this
 rw [txB,decide_eq_true h0,this]
 rfl
attribute [local irreducible] sv
set_option maxHeartbeats 800000 in
theorem areTx_any (a : Option Addr) (cap : Nat) (T : List (List UInt8)) (w : World) (hv : TxS w a T) (hm : T.length ≤ maxLen) :
  Calls Tryz.prog 151 #[.slice a T.length cap] w fun e w' => e = .returned (.bool (txB T)) ∧ w' = w := by
 unfold maxLen at hm
 by_cases h12 : T.length ≤ 12
 ·have g12 : ¬ ((12 : Int) < (T.length : Int)) := by omega
  have H12 : Hid (T.length ≤ 12) := h12
  have HV : Hid (TxS w a T) := hv
  clear hv h12
  go_enter Tryz.func151,Tryz.ntmps151
  go_wp2
  go_loop [10] (fun i => ∃ k : Nat,k ≤ T.length ∧ i = .int .i64 k ∧ ∀ j,j < k → (T.getD j []).length ≤ 20) (fun i => T.length - (intOf i).toNat)
  case atStart => exact ⟨0,Nat.zero_le _,rfl,fun j hj => by omega⟩
  case round =>
   obtain ⟨k,hk,rfl,hall⟩ := hrel
   have HA : Hid (∀ j,j < k → (T.getD j []).length ≤ 20) := hall
   clear hall
   by_cases hlt : k < T.length
   ·rcases HV.out with h0 | ⟨b,off,rfl,hc⟩
    ·omega
    have hck := hc k hlt
    have k1 : (k : Int) < (T.length : Int) := by omega
    have k0 : (0 : Int) ≤ (k : Int) := by omega
    clear hc
    by_cases h20 : (T.getD k []).length ≤ 20
    ·have g20 : ¬ ((20 : Int) < ((T.getD k []).length : Int)) := by omega
     have HN : Hid (∀ j,j < k + 1 → (T.getD j []).length ≤ 20) := fun j hj => by
      rcases Nat.lt_succ_iff_lt_or_eq.1 hj with h1 | h1
      ·exact HA.out j h1
      ·rw [h1];exact h20
     generalize T.getD k [] = t at *
     have hz : (sv t).size = t.length := sv_size t
     clear h20
     go_wp2
     go_round
     case rel => exact ⟨k + 1,by omega,by go_num,HN.out⟩
     case measure => simp [intOf];omega
    ·have g20 : (20 : Int) < ((T.getD k []).length : Int) := by omega
     have HZ : Hid (txB T = false) := txB_long (k := k) hlt h20
     generalize T.getD k [] = t at *
     have hz : (sv t).size = t.length := sv_size t
     clear h20
     go_wp2
     go_ret
     exact ⟨ret_bool (by rw [HZ.out]),rfl⟩
   ·have k1 : ¬ ((k : Int) < (T.length : Int)) := by omega
    have HZ : Hid (txB T = true) := txB_all H12.out (fun j hj => HA.out j (by omega))
    go_wp2
    go_ret
    exact ⟨ret_bool (by rw [HZ.out]),rfl⟩
 ·have g12 : (12 : Int) < (T.length : Int) := by omega
  have HZ : Hid (txB T = false) := by rw [Hid,txB,decide_eq_false h12];rfl
  clear hv h12
  go_enter Tryz.func151,Tryz.ntmps151
  go_wp2
  go_ret
  exact ⟨ret_bool (by rw [HZ.out]),rfl⟩
theorem hi16 {x m : Int} : ∀ {xs : List Int},hiL x xs ≤ m ↔ x ≤ m ∧ ∀ y ∈ xs,y ≤ m := by
 intro xs
 induction xs generalizing x with
 | nil => simp [hiL]
 | cons y ys ih =>
  show hiL (max x y) ys ≤ m ↔ _
  rw [ih]
  simp only [List.mem_cons]
  constructor
  ·rintro ⟨h1,h2⟩
   exact ⟨by omega,fun z hz => by rcases hz with rfl | hz;omega;exact h2 z hz⟩
  ·rintro ⟨h1,h2⟩
   exact ⟨by have := h2 y (.inl rfl);omega,fun z hz => h2 z (.inr hz)⟩
theorem sm_gr {v : List Int} {n : Int} (h1 : (v.length : Int) = n) (h2 : okB v = true) : smB v n = decide (hiL (el v 0) v.tail ≤ 12) := by
 have hl := (okB_len h2).1
 rw [smB,h2,decide_eq_true h1,Bool.true_and,Bool.true_and,Bool.eq_iff_iff,decide_eq_true_eq,hi16,List.all_eq_true]
 cases v with
 | nil => simp at hl
 | cons x xs =>
  simp only [decide_eq_true_eq,List.mem_cons,List.tail_cons]
  constructor
  ·intro h
   exact ⟨h _ (.inl rfl),fun y hy => h y (.inr hy)⟩
  ·rintro ⟨h,h'⟩ y hy
   rcases hy with rfl | hy
   ·exact h
   ·exact h' y hy
set_option maxRecDepth 100000 in
set_option maxHeartbeats 800000 in
theorem areCt_any (a : Option Addr) (cap : Nat) (v : List Int) (n : Int) (w : World) (hv : Vec w a v.length v) (hcap : v.length ≤ cap) (hm : cap ≤ maxLen) :
  Calls Tryz.prog 152 #[.slice a v.length cap,.int .i64 n] w fun e w' => e = .returned (.bool (smB v n)) ∧ ∃ m,w' = w.drewN m := by
 have hV := vok_any a v.length cap v w hv hcap hm
 have hml : v.length ≤ maxLen := Nat.le_trans hcap hm
 unfold maxLen at hml
 by_cases hl : (v.length : Int) = n
 ·have e1 : ((v.length : Int) == n) = true := by simpa using hl
  cases hb : okB v with
  | false =>
   rw [hb] at hV
   have HZ : Hid (smB v n = false) := by rw [Hid,smB,hb];rfl
   clear hb hl hv
   go_enter Tryz.func152,Tryz.ntmps152
   go_wp2_with (go_at_call 192;refine hV.mono ?_;rintro e w' ⟨rfl,n1,rfl⟩)
   go_ret
   exact ⟨ret_bool (by rw [HZ.out]),_,rfl⟩
  | true =>
   rw [hb] at hV
   have HZ : Hid (smB v n = decide (hiL (el v 0) v.tail ≤ 12)) := sm_gr hl hb
   have h18 := okB_len hb
   clear hb hl
   obtain ⟨_,hf,hcs⟩ := hv
   have hG : Hid (∀ n,Calls Tryz.prog 193 #[.slice a v.length cap] (w.drewN n) fun e w' => e = .returned (.int .i64 (hiL (el v 0) v.tail)) ∧ ∃ m,w' = (w.drewN n).drewN m) := by
    intro n
    rcases hcs with h0 | ⟨b,off,rfl,hc⟩
    ·omega
    ·exact vgreatest_any b off v.length cap v _ rfl hf (fun k hk => by rw [World.cell?_drewN];exact hc k hk) (by omega) hcap hm
   clear hcs hf h18
   generalize hiL (el v 0) v.tail = G at *
   go_enter Tryz.func152,Tryz.ntmps152
   go_wp2_with (first | (go_at_call 192;refine hV.mono ?_;rintro e w' ⟨rfl,n1,rfl⟩) | (go_at_call 193;refine (hG.out _).mono ?_;rintro e w' ⟨rfl,n2,rfl⟩))
   go_ret
   exact ⟨ret_bool (by rw [HZ.out]),_,rfl⟩
 ·have e1 : ((v.length : Int) == n) = false := by simpa using hl
  have HZ : Hid (smB v n = false) := by rw [Hid,smB,decide_eq_false hl];simp
  clear hl hv hV
  go_enter Tryz.func152,Tryz.ntmps152
  go_wp2
  go_ret
  exact ⟨ret_bool (by rw [HZ.out]),0,rfl⟩
theorem sus_row (n : Int) (l : List Int) : decide (okRow n l) = susB l n := by
 rw [Bool.eq_iff_iff,decide_eq_true_eq,susB,Bool.and_eq_true,List.all_eq_true,okRow,risB,decide_eq_true_eq]
 constructor
 ·rintro ⟨h1,h2⟩
  refine ⟨fun x hx => ?_,h2⟩
  obtain ⟨j,hj,rfl⟩ := List.mem_iff_getElem.1 hx
  have := h1 j hj
  rw [el_eq hj] at this
  exact inB7.2 this
 ·rintro ⟨h1,h2⟩
  exact ⟨fun i hi => inB7.1 (h1 _ (el_mem hi)),h2⟩
end Go.Proofs.YthioodpmgifomaaGreat
namespace Go.Proofs.YthioodpmgifomaaGreat
set_option linter.unusedVariables false
set_option linter.unusedSimpArgs false
open Go.RowKit Go.Sort
def stV (A : Ra) (r : Rw) : Value := if r.rdy then .iface 185 (rwV A r) else if r.wed then .iface 186 (rwV A r) else .iface 187 (rwV A r)
def flB (r : Rw) : Bool := if r.rdy then r.wed else decide (r.by_ = 0) && decide (r.trm = [])
def lsB (r : Rw) (n : Int) : Bool := !r.rdy || (inB r.by_ 0 (n - 1) && smB r.trm n)
theorem endB_fl (r : Rw) (n : Int) : endB r n = (flB r && lsB r n) := by
 unfold endB flB lsB
 cases r.rdy <;> simp
set_option maxRecDepth 100000 in
set_option maxHeartbeats 1600000 in
theorem flag_any (A : Ra) (r : Rw) (w : World) (hm : r.trm.length ≤ maxLen) :
  Calls Tryz.prog 153 #[rwV A r] w fun e w' => ∃ s,e = .returned (.tuple #[s,.bool (flB r)]) ∧ (flB r = true → s = stV A r) ∧ Below w.heap.size w w' := by
 have hB0 := oneA16 w (.cells (rwC A r) 37)
 have hx := Bx.new w 37 (rwC A r)
 generalize hW : w.alloc (.cells (rwC A r) 37) = W at *
 obtain ⟨ver,txt,got,sus,wed,rdy,by_,trm⟩ := r
 obtain ⟨ta,tc,ga,gc,sa,sc,ma,mc⟩ := A
 have hw0 : w.alloc (.cells #[.int .i64 ver,.slice ta txt.length tc,.slice ga got.length gc,.slice sa sus.length sc,.bool wed,.bool rdy,.int .i64 by_,.slice ma trm.length mc] 37) = W := hW
 obtain ⟨⟨c0,c1,c2,c3⟩,c4,c5,c6,c7⟩ := Bx.r8 hx
 simp only at c0 c1 c2 c3 c4 c5 c6 c7 hm
 have HB0 : Hid (Below w.heap.size w W) := hB0
 unfold maxLen at hm
 unfold rwV rwC
 clear hx hW hB0
 simp only
 cases rdy with
 | true =>
  have HZ : Hid (flB ⟨ver,txt,got,sus,wed,true,by_,trm⟩ = wed) := by rw [Hid,flB];rfl
  go_enter Tryz.func153,Tryz.ntmps153
  go_wp2_with fail
  go_quiet (fail)
  go_wp2
  refine bodyPost_ret (v := .tuple #[.iface 185 (.agg #[.int .i64 ver,.slice ta txt.length tc,.slice ga got.length gc,.slice sa sus.length sc,.bool wed,.bool true,.int .i64 by_,.slice ma trm.length mc]),.bool wed]) (by simp [results,Tryz.results153,go_sem, *]) rfl ?_
  exact ⟨stV ⟨ta,tc,ga,gc,sa,sc,ma,mc⟩ ⟨ver,txt,got,sus,wed,true,by_,trm⟩,by rw [HZ.out];rfl,fun _ => rfl,belowN HB0.out⟩
 | false =>
  by_cases hy : by_ = 0
  ·have e1 : (by_ != 0) = false := by simpa using hy
   by_cases ht : trm = []
   ·have g1 : ¬ ((0 : Int) < (trm.length : Int)) := by rw [ht];simp
    have HZ : Hid (flB ⟨ver,txt,got,sus,wed,false,by_,trm⟩ = true) := by rw [Hid,flB];simp [hy,ht]
    clear hy ht
    cases wed with
    | true =>
     go_enter Tryz.func153,Tryz.ntmps153
     go_wp2
     refine bodyPost_ret (v := .tuple #[.iface 186 (.agg #[.int .i64 ver,.slice ta txt.length tc,.slice ga got.length gc,.slice sa sus.length sc,.bool true,.bool false,.int .i64 by_,.slice ma trm.length mc]),.bool true]) (by simp [results,Tryz.results153,go_sem, *]) rfl ?_
     exact ⟨stV ⟨ta,tc,ga,gc,sa,sc,ma,mc⟩ ⟨ver,txt,got,sus,true,false,by_,trm⟩,by rw [HZ.out];rfl,fun _ => rfl,HB0.out⟩
    | false =>
     go_enter Tryz.func153,Tryz.ntmps153
     go_wp2
     refine bodyPost_ret (v := .tuple #[.iface 187 (.agg #[.int .i64 ver,.slice ta txt.length tc,.slice ga got.length gc,.slice sa sus.length sc,.bool false,.bool false,.int .i64 by_,.slice ma trm.length mc]),.bool true]) (by simp [results,Tryz.results153,go_sem, *]) rfl ?_
     exact ⟨stV ⟨ta,tc,ga,gc,sa,sc,ma,mc⟩ ⟨ver,txt,got,sus,false,false,by_,trm⟩,by rw [HZ.out];rfl,fun _ => rfl,HB0.out⟩
   ·have g1 : (0 : Int) < (trm.length : Int) := by
     cases trm with
     | nil => exact absurd rfl ht
     | cons x xs => simp only [List.length_cons];omega
    have HZ : Hid (flB ⟨ver,txt,got,sus,wed,false,by_,trm⟩ = false) := by rw [Hid,flB];simp [ht]
    clear hy ht
    go_enter Tryz.func153,Tryz.ntmps153
    go_wp2
    refine bodyPost_ret (v := .tuple #[.nilIface,.bool false]) (by simp [results,Tryz.results153,go_sem, *]) rfl ?_
    exact ⟨.nilIface,by rw [HZ.out],fun h => (by rw [HZ.out] at h;cases h),HB0.out⟩
  ·have e1 : (by_ != 0) = true := by simpa using hy
   have HZ : Hid (flB ⟨ver,txt,got,sus,wed,false,by_,trm⟩ = false) := by rw [Hid,flB];simp [hy]
   clear hy
   go_enter Tryz.func153,Tryz.ntmps153
   go_wp2
   refine bodyPost_ret (v := .tuple #[.nilIface,.bool false]) (by simp [results,Tryz.results153,go_sem, *]) rfl ?_
   exact ⟨.nilIface,by rw [HZ.out],fun h => (by rw [HZ.out] at h;cases h),HB0.out⟩
theorem asE_any (v : Value) (w : World) : (Instr.typeAssert (.iface 185 v) 109 189 true).run Tryz.prog w = .ok (.tuple #[.iface 185 v,.bool true]) w := by kernel_rfl
theorem asW_any (v : Value) (w : World) : (Instr.typeAssert (.iface 186 v) 109 189 true).run Tryz.prog w = .ok (.tuple #[.nilIface,.bool false]) w := run_typeAssert_lacksB Tryz.underlying189 (by kernel_rfl) (by kernel_rfl) v 109 w
theorem asS_any (v : Value) (w : World) : (Instr.typeAssert (.iface 187 v) 109 189 true).run Tryz.prog w = .ok (.tuple #[.nilIface,.bool false]) w := run_typeAssert_lacksB Tryz.underlying189 (by kernel_rfl) (by kernel_rfl) v 109 w
theorem mtE_any (v : Value) (w : World) : (Go.method 350 185 v "loop.example/g00266/impl.end").run Tryz.prog w = .ok (253, v) w := by kernel_rfl
set_option maxRecDepth 100000 in
set_option maxHeartbeats 800000 in
theorem endI_any (A : Ra) (r : Rw) (w : World) :
  Calls Tryz.prog 253 #[rwV A r] w fun e w' => e = .returned (.tuple #[.int .i64 r.by_,.slice A.ma r.trm.length A.mc]) ∧ Below w.heap.size w w' := by
 have hB0 := oneA16 w (.cells (rwC A r) 185)
 have hx := Bx.new w 185 (rwC A r)
 generalize hW : w.alloc (.cells (rwC A r) 185) = W at *
 obtain ⟨ver,txt,got,sus,wed,rdy,by_,trm⟩ := r
 obtain ⟨ta,tc,ga,gc,sa,sc,ma,mc⟩ := A
 have hw0 : w.alloc (.cells #[.int .i64 ver,.slice ta txt.length tc,.slice ga got.length gc,.slice sa sus.length sc,.bool wed,.bool rdy,.int .i64 by_,.slice ma trm.length mc] 185) = W := hW
 obtain ⟨⟨c0,c1,c2,c3⟩,c4,c5,c6,c7⟩ := Bx.r8 hx
 simp only at c0 c1 c2 c3 c4 c5 c6 c7
 have HB0 : Hid (Below w.heap.size w W) := hB0
 unfold rwV rwC
 clear hx hW hB0
 simp only
 go_enter Tryz.func253,Tryz.ntmps253
 go_wp2_with fail
 go_quiet (fail)
 go_wp2
 refine bodyPost_ret (v := .tuple #[.int .i64 by_,.slice ma trm.length mc]) (by simp [results,Tryz.results253,go_sem, *]) rfl ?_
 exact ⟨rfl,belowN HB0.out⟩
set_option maxRecDepth 100000 in
set_option maxHeartbeats 1600000 in
theorem endR_any (A : Ra) (r : Rw) (n : Int) (w : World) (hv : RwP w A r) (hn : 1 ≤ n ∧ n ≤ 5) :
  Calls Tryz.prog 154 #[stV A r,.int .i64 n] w fun e w' => e = .returned (.bool (lsB r n)) ∧ Below w.heap.size w w' := by
 have hwn : wrap64 (n - 1) = n - 1 := by unfold wrap64;omega
 clear hn
 cases e1 : r.rdy with
 | false =>
  have HZ : Hid (lsB r n = true) := by rw [Hid,lsB,e1];rfl
  unfold stV
  rw [e1]
  clear e1 hv
  cases e2 : r.wed with
  | false =>
   clear e2
   generalize rwV A r = v
   have ha := asS_any v
   simp only [Bool.false_eq_true,if_false]
   go_enter Tryz.func154,Tryz.ntmps154
   go_wp2
   go_ret
   exact ⟨ret_bool (by rw [HZ.out]),Below.refl _ _⟩
  | true =>
   clear e2
   generalize rwV A r = v
   have ha := asW_any v
   simp only [Bool.false_eq_true,if_false,if_true]
   go_enter Tryz.func154,Tryz.ntmps154
   go_wp2
   go_ret
   exact ⟨ret_bool (by rw [HZ.out]),Below.refl _ _⟩
 | true =>
  have hE := fun X => endI_any A r X
  have HC : Hid (∀ X,Below w.heap.size w X → Calls Tryz.prog 152 #[.slice A.ma r.trm.length A.mc,.int .i64 n] X fun e w' => e = .returned (.bool (smB r.trm n)) ∧ ∃ m,w' = X.drewN m) := fun X h => areCt_any A.ma A.mc r.trm n X (hv.below h).trm.vec hv.trm.le hv.trm.mx
  have HZ : Hid (lsB r n = (inB r.by_ 0 (n - 1) && smB r.trm n)) := by rw [Hid,lsB,e1];rfl
  unfold stV
  rw [e1]
  clear e1 hv
  generalize rwV A r = v at *
  generalize r.by_ = Y at *
  generalize r.trm.length = L at *
  generalize smB r.trm n = Q at *
  obtain ⟨ta,tc,ga,gc,sa,sc,ma,mc⟩ := A
  simp only at hE HC
  have ha := asE_any v
  have hm := mtE_any v
  simp only [if_true]
  cases e2 : inB Y 0 (n - 1) with
  | false =>
   rw [e2] at HZ
   go_enter Tryz.func154,Tryz.ntmps154
   go_wp2_with (first | (go_at_call 253;refine (hE _).mono ?_;rintro e w1 ⟨rfl,hb1⟩) | (go_at_call 129;refine (isW14_any _ _ _).mono ?_;rintro e w' ⟨rfl,hw'⟩;rw [hw',e2];clear hw'))
   go_ret
   exact ⟨ret_bool (by rw [HZ.out];rfl),hb1⟩
  | true =>
   rw [e2] at HZ
   go_enter Tryz.func154,Tryz.ntmps154
   go_wp2_with (first | (go_at_call 253;refine (hE _).mono ?_;rintro e w1 ⟨rfl,hb1⟩) | (go_at_call 129;refine (isW14_any _ _ _).mono ?_;rintro e w' ⟨rfl,hw'⟩;rw [hw',e2];clear hw') | (go_at_call 152;refine (HC.out _ hb1).mono ?_;rintro e w' ⟨rfl,m1,rfl⟩))
   go_ret
   exact ⟨ret_bool (by rw [HZ.out];rfl),belowN hb1⟩
end Go.Proofs.YthioodpmgifomaaGreat
namespace Go.Proofs.YthioodpmgifomaaGreat
set_option linter.unusedVariables false
set_option linter.unusedSimpArgs false
open Go.RowKit Go.Sort
theorem okRw_tx {r : Rw} {n : Int} (h : txB r.txt = false) : okRw r n = false := by
 rw [txB,Bool.and_eq_false_iff] at h
 rw [okRw]
 rcases h with h | h <;> simp [h]
theorem okRw_ends {r : Rw} {n : Int} (h1 : inB n 1 5 = true) (h2 : inB r.ver 0 1000000 = true) (h3 : txB r.txt = true) (h4 : smB r.got n = true) (h5 : susB r.sus n = true) : okRw r n = (flB r && lsB r n) := by
 rw [txB,Bool.and_eq_true] at h3
 rw [← endB_fl,okRw,h1,h2,h3.1,h3.2,h4,h5]
 rfl
set_option maxRecDepth 100000 in
set_option maxHeartbeats 3200000 in
theorem stOf_any (A : Ra) (r : Rw) (n : Int) (w : World) (hv : RwP w A r) :
  Calls Tryz.prog 86 #[rwV A r,.int .i64 n] w fun e w' => ∃ s,e = .returned (.tuple #[s,.bool (okRw r n)]) ∧ (okRw r n = true → s = stV A r) ∧ Below w.heap.size w w' := by
 have hB0 := oneA16 w (.cells (rwC A r) 37)
 have hx := Bx.new w 37 (rwC A r)
 have h0 := hv.below hB0
 generalize hW : w.alloc (.cells (rwC A r) 37) = W at *
 have hS := h0.rws
 have hTx := areTx_any A.ta A.tc r.txt W h0.txt.txs hS.mt
 have hCt := areCt_any A.ga A.gc r.got n W h0.got.vec h0.got.le h0.got.mx
 have hSu : ∀ m,Calls Tryz.prog 131 #[.slice A.sa r.sus.length A.sc,.int .i64 (n - 1)] (W.drewN m) fun e w' => e = .returned (.bool (susB r.sus n)) ∧ w' = W.drewN m := fun m => by
  have := rw14_any A.sa r.sus.length A.sc n r.sus (W.drewN m) (h0.below (belowN (Below.refl _ _))).sus.vec hS.ms
  rw [sus_row] at this
  exact this
 have hFl := fun X => flag_any A r X hS.mm
 have hEn : ∀ X,Below W.heap.size W X → 1 ≤ n ∧ n ≤ 5 → Calls Tryz.prog 154 #[stV A r,.int .i64 n] X fun e w' => e = .returned (.bool (lsB r n)) ∧ Below X.heap.size X w' := fun X h hn => endR_any A r n X (h0.below h) hn
 have HZn : Hid (inB n 1 5 = false → okRw r n = false) := fun h => okRw_n h
 have HZv : Hid (inB r.ver 0 1000000 = false → okRw r n = false) := fun h => okRw_v h
 have HZt : Hid (txB r.txt = false → okRw r n = false) := fun h => okRw_tx h
 have HZg : Hid (smB r.got n = false → okRw r n = false) := fun h => okRw_g h
 have HZs : Hid (susB r.sus n = false → okRw r n = false) := fun h => okRw_s h
 have HZe : Hid (inB n 1 5 = true → inB r.ver 0 1000000 = true → txB r.txt = true → smB r.got n = true → susB r.sus n = true → okRw r n = (flB r && lsB r n)) := fun a b c d e => okRw_ends a b c d e
 have HB0 : Hid (Below w.heap.size w W) := hB0
 have HSt : Hid (∀ s : Value,s = stV A r → s = stV A r) := fun _ h => h
 generalize hq : okRw r n = Q at *
 clear hq
 generalize stV A r = V at *
 generalize flB r = fl at *
 generalize lsB r n = ls at *
 generalize txB r.txt = tb at *
 generalize smB r.got n = sg at *
 generalize susB r.sus n = sb at *
 obtain ⟨ver,txt,got,sus,wed,rdy,by_,trm⟩ := r
 obtain ⟨ta,tc,ga,gc,sa,sc,ma,mc⟩ := A
 have hw0 : w.alloc (.cells #[.int .i64 ver,.slice ta txt.length tc,.slice ga got.length gc,.slice sa sus.length sc,.bool wed,.bool rdy,.int .i64 by_,.slice ma trm.length mc] 37) = W := hW
 obtain ⟨⟨c0,c1,c2,c3⟩,c4,c5,c6,c7⟩ := Bx.r8 hx
 simp only [rwV,rwC] at c0 c1 c2 c3 c4 c5 c6 c7 hTx hCt hSu hFl HZv HZe
 unfold rwV rwC
 clear hv h0 hx hW hB0 hS
 simp only
 cases e1 : inB n 1 5 with
 | false =>
  have HZ : Hid (Q = false) := HZn.out e1
  go_enter Tryz.func86,Tryz.ntmps86
  go_wp2_with (first | (go_at_call 99;refine (isRl_any _ _).mono ?_;rintro e w' ⟨rfl,hw'⟩;rw [hw',e1];clear hw'))
  refine bodyPost_ret (v := .tuple #[.nilIface,.bool false]) (by simp [results,Tryz.results86,go_sem, *]) rfl ?_
  exact ⟨.nilIface,by rw [HZ.out],fun h => (by rw [HZ.out] at h;cases h),HB0.out⟩
 | true =>
 have hn5 := inB7.1 e1
 have hwn : wrap64 (n - 1) = n - 1 := by unfold wrap64;omega
 have hEn2 := fun X h => hEn X h hn5
 have HN1 : Hid (inB n 1 5 = true) := e1
 have hRl : ∀ X,Calls Tryz.prog 99 #[.int .i64 n] X fun e w' => e = .returned (.bool true) ∧ w' = X := fun X => by
  have := isRl_any n X
  rw [e1] at this
  exact this
 clear e1 hEn hn5
 cases e2 : inB ver 0 1000000 with
 | false =>
  have HZ : Hid (Q = false) := HZv.out e2
  go_enter Tryz.func86,Tryz.ntmps86
  go_wp2_with (first | (go_at_call 99;refine (hRl _).mono ?_;rintro e w' ⟨rfl,hw'⟩;rw [hw'];clear hw') | (go_at_call 129;refine (isW14_any _ _ _).mono ?_;rintro e w' ⟨rfl,hw'⟩;rw [hw',e2];clear hw'))
  refine bodyPost_ret (v := .tuple #[.nilIface,.bool false]) (by simp [results,Tryz.results86,go_sem, *]) rfl ?_
  exact ⟨.nilIface,by rw [HZ.out],fun h => (by rw [HZ.out] at h;cases h),HB0.out⟩
 | true =>
 have HN2 : Hid (inB ver 0 1000000 = true) := e2
 have hWi : ∀ X,Calls Tryz.prog 129 #[.int .i64 ver,.int .i64 1000000] X fun e w' => e = .returned (.bool true) ∧ w' = X := fun X => by
  have := isW14_any ver 1000000 X
  rw [e2] at this
  exact this
 clear e2
 cases tb with
 | false =>
  have HZ : Hid (Q = false) := HZt.out rfl
  go_enter Tryz.func86,Tryz.ntmps86
  go_wp2_with (first | (go_at_call 99;refine (hRl _).mono ?_;rintro e w' ⟨rfl,hw'⟩;rw [hw'];clear hw') | (go_at_call 129;refine (hWi _).mono ?_;rintro e w' ⟨rfl,hw'⟩;rw [hw'];clear hw') | (go_at_call 151;refine hTx.mono ?_;rintro e w' ⟨rfl,hw'⟩;rw [hw'];clear hw'))
  refine bodyPost_ret (v := .tuple #[.nilIface,.bool false]) (by simp [results,Tryz.results86,go_sem, *]) rfl ?_
  exact ⟨.nilIface,by rw [HZ.out],fun h => (by rw [HZ.out] at h;cases h),HB0.out⟩
 | true =>
 cases sg with
 | false =>
  have HZ : Hid (Q = false) := HZg.out rfl
  go_enter Tryz.func86,Tryz.ntmps86
  go_wp2_with (first | (go_at_call 99;refine (hRl _).mono ?_;rintro e w' ⟨rfl,hw'⟩;rw [hw'];clear hw') | (go_at_call 129;refine (hWi _).mono ?_;rintro e w' ⟨rfl,hw'⟩;rw [hw'];clear hw') | (go_at_call 151;refine hTx.mono ?_;rintro e w' ⟨rfl,hw'⟩;rw [hw'];clear hw') | (go_at_call 152;refine hCt.mono ?_;rintro e w' ⟨rfl,m1,rfl⟩))
  refine bodyPost_ret (v := .tuple #[.nilIface,.bool false]) (by simp [results,Tryz.results86,go_sem, *]) rfl ?_
  exact ⟨.nilIface,by rw [HZ.out],fun h => (by rw [HZ.out] at h;cases h),belowN HB0.out⟩
 | true =>
 cases sb with
 | false =>
  have HZ : Hid (Q = false) := HZs.out rfl
  go_enter Tryz.func86,Tryz.ntmps86
  go_wp2_with (first | (go_at_call 99;refine (hRl _).mono ?_;rintro e w' ⟨rfl,hw'⟩;rw [hw'];clear hw') | (go_at_call 129;refine (hWi _).mono ?_;rintro e w' ⟨rfl,hw'⟩;rw [hw'];clear hw') | (go_at_call 151;refine hTx.mono ?_;rintro e w' ⟨rfl,hw'⟩;rw [hw'];clear hw') | (go_at_call 152;refine hCt.mono ?_;rintro e w' ⟨rfl,m1,rfl⟩) | (go_at_call 131;refine (hSu _).mono ?_;rintro e w' ⟨rfl,hw'⟩;rw [hw'];clear hw'))
  refine bodyPost_ret (v := .tuple #[.nilIface,.bool false]) (by simp [results,Tryz.results86,go_sem, *]) rfl ?_
  exact ⟨.nilIface,by rw [HZ.out],fun h => (by rw [HZ.out] at h;cases h),belowN HB0.out⟩
 | true =>
 have HE : Hid (Q = (fl && ls)) := HZe.out HN1.out HN2.out rfl rfl rfl
 clear HZn HZv HZt HZg HZs HZe HN1 HN2
 cases fl with
 | false =>
  have HZ : Hid (Q = false) := by rw [Hid,HE.out];rfl
  go_enter Tryz.func86,Tryz.ntmps86
  go_wp2_with (first | (go_at_call 99;refine (hRl _).mono ?_;rintro e w' ⟨rfl,hw'⟩;rw [hw'];clear hw') | (go_at_call 129;refine (hWi _).mono ?_;rintro e w' ⟨rfl,hw'⟩;rw [hw'];clear hw') | (go_at_call 151;refine hTx.mono ?_;rintro e w' ⟨rfl,hw'⟩;rw [hw'];clear hw') | (go_at_call 152;refine hCt.mono ?_;rintro e w' ⟨rfl,m1,rfl⟩) | (go_at_call 131;refine (hSu _).mono ?_;rintro e w' ⟨rfl,hw'⟩;rw [hw'];clear hw') | (go_at_call 153;refine (hFl _).mono ?_;rintro e w1 ⟨s1,rfl,hs1,hb1⟩;have HB1 : Hid (Below w.heap.size w w1) := ((belowN HB0.out).trans (hb1.mono (belowN HB0.out).size));clear hb1 hs1))
  refine bodyPost_ret (v := .tuple #[s1,.bool false]) (by simp [results,Tryz.results86,go_sem, *]) rfl ?_
  exact ⟨s1,by rw [HZ.out],fun h => (by rw [HZ.out] at h;cases h),HB1.out⟩
 | true =>
  have HZ : Hid (Q = ls) := by rw [Hid,HE.out];rfl
  have hF2 : ∀ X,Calls Tryz.prog 153 #[.agg #[.int .i64 ver,.slice ta txt.length tc,.slice ga got.length gc,.slice sa sus.length sc,.bool wed,.bool rdy,.int .i64 by_,.slice ma trm.length mc]] X fun e w' => e = .returned (.tuple #[V,.bool true]) ∧ Below X.heap.size X w' := fun X => (hFl X).mono (fun e w' ⟨s,h1,h2,h3⟩ => ⟨by rw [h1,h2 rfl],h3⟩)
  clear hFl
  have HRf : Hid (∀ m,Below W.heap.size W (W.drewN m)) := fun m => belowN (Below.refl _ _)
  go_enter Tryz.func86,Tryz.ntmps86
  go_wp2_with (first | (go_at_call 99;refine (hRl _).mono ?_;rintro e w' ⟨rfl,hw'⟩;rw [hw'];clear hw') | (go_at_call 129;refine (hWi _).mono ?_;rintro e w' ⟨rfl,hw'⟩;rw [hw'];clear hw') | (go_at_call 151;refine hTx.mono ?_;rintro e w' ⟨rfl,hw'⟩;rw [hw'];clear hw') | (go_at_call 152;refine hCt.mono ?_;rintro e w' ⟨rfl,m1,rfl⟩) | (go_at_call 131;refine (hSu _).mono ?_;rintro e w' ⟨rfl,hw'⟩;rw [hw'];clear hw') | (go_at_call 153;refine (hF2 _).mono ?_;rintro e w1 ⟨rfl,hb1⟩;have HB1 : Hid (Below w.heap.size w w1) := ((belowN HB0.out).trans (hb1.mono (belowN HB0.out).size));have hE3 := hEn2 w1 ((HRf.out m1).trans (hb1.mono (HRf.out m1).size));clear hb1) | (go_at_call 154;refine hE3.mono ?_;rintro e w2 ⟨rfl,hb2⟩;have HB2 : Hid (Below w.heap.size w w2) := (HB1.out.trans (hb2.mono HB1.out.size));clear hb2))
  refine bodyPost_ret (v := .tuple #[V,.bool ls]) (by simp [results,Tryz.results86,go_sem, *]) rfl ?_
  exact ⟨V,by rw [HZ.out],fun _ => rfl,HB2.out⟩
set_option maxRecDepth 100000 in
set_option maxHeartbeats 800000 in
theorem rowI_any (A : Ra) (r : Rw) (n : Int) (w : World) (hv : RwP w A r) :
  Calls Tryz.prog 87 #[rwV A r,.int .i64 n] w fun e w' => e = .returned (.bool (okRw r n)) ∧ Below w.heap.size w w' := by
 have hB0 := oneA16 w (.cells (rwC A r) 37)
 have hx := Bx.new w 37 (rwC A r)
 have h0 := hv.below hB0
 generalize hW : w.alloc (.cells (rwC A r) 37) = W at *
 have hSt : Calls Tryz.prog 86 #[rwV A r,.int .i64 n] W fun e w' => ∃ s,e = .returned (.tuple #[s,.bool (okRw r n)]) ∧ Below W.heap.size W w' := (stOf_any A r n W h0).mono (fun e w' ⟨s,h1,_,h2⟩ => ⟨s,h1,h2⟩)
 have HB0 : Hid (Below w.heap.size w W) := hB0
 generalize okRw r n = Q at *
 obtain ⟨ver,txt,got,sus,wed,rdy,by_,trm⟩ := r
 obtain ⟨ta,tc,ga,gc,sa,sc,ma,mc⟩ := A
 have hw0 : w.alloc (.cells #[.int .i64 ver,.slice ta txt.length tc,.slice ga got.length gc,.slice sa sus.length sc,.bool wed,.bool rdy,.int .i64 by_,.slice ma trm.length mc] 37) = W := hW
 obtain ⟨⟨c0,c1,c2,c3⟩,c4,c5,c6,c7⟩ := Bx.r8 hx
 simp only [rwV,rwC] at c0 c1 c2 c3 c4 c5 c6 c7 hSt
 unfold rwV rwC
 clear hv h0 hx hW hB0
 simp only
 go_enter Tryz.func87,Tryz.ntmps87
 go_wp2_with (go_at_call 86;refine hSt.mono ?_;rintro e w1 ⟨s1,rfl,hb1⟩;have HB1 : Hid (Below w.heap.size w w1) := (HB0.out.trans (hb1.mono HB0.out.size));clear hb1)
 go_ret
 exact ⟨rfl,HB1.out⟩
end Go.Proofs.YthioodpmgifomaaGreat
namespace Go.Proofs.YthioodpmgifomaaGreat
set_option linter.unusedVariables false
set_option linter.unusedSimpArgs false
open Go.RowKit Go.Sort
end Go.Proofs.YthioodpmgifomaaGreat
namespace Go.Proofs.YthioodpmgifomaaGreat
set_option linter.unusedVariables false
set_option linter.unusedSimpArgs false
open Go.RowKit Go.Sort
end Go.Proofs.YthioodpmgifomaaGreat