/-
  Texts in one: LawSd Bvd Nmf Nms Nmt Nmu Nma Nmb.
-/
import Derived.Test.YtidnfdobljihoaaGreatJal
import Derived.Test.YtidnfdobljihoaaGreatJae
import Derived.Test.YtidnfdobljihoaaGreatJaa
import Derived.Test.YtidnfdobljihoaaGreatJab
import Derived.Test.YtidnfdobljihoaaGreatJaf
import Derived.Lib.Overlaps
import Derived.Lib.AppendZerosOnto
import Derived.Lib.SlicesSearch
import Derived.Lib.JoinLaws
import Derived.Lib.SliceRun
import Derived.Laws.IdiomCopy
import Derived.Laws.NewBlocks
import Derived.Laws.Externs
import Derived.Deep.LoopGhost
import Derived.Deep.Draws
import Derived.Lib.Walk
import Derived.Shelf.RegionOpenPlain
import Derived.Defers
import Derived.Recover
namespace Go.Proofs.YtidnfdobljihoaaGreat
set_option linter.unusedVariables false
set_option linter.unusedSimpArgs false
open Go.RowKit Go.Sort
theorem Mx.rwp {w : World} {o : Nat} {A : Ma} {m : Mb} (h : Mx w o A m) {k : Nat} (hk : k < m.rows.length) (h6 : Rw64 (rowN m.rows k)) (hs : szRw (rowN m.rows k) ≤ 1048576) : ∃ g off Ak,A.ra = some ⟨g,off,none⟩ ∧ C8 w g (off + k * 8) (.int .i64 (rowN m.rows k).ver) (.slice Ak.ta (rowN m.rows k).txt.length Ak.tc) (.slice Ak.ga (rowN m.rows k).got.length Ak.gc) (.slice Ak.sa (rowN m.rows k).sus.length Ak.sc) (.bool (rowN m.rows k).wed) (.bool (rowN m.rows k).rdy) (.int .i64 (rowN m.rows k).by_) (.slice Ak.ma (rowN m.rows k).trm.length Ak.mc) ∧ RwP w Ak (rowN m.rows k) := by
 obtain ⟨f,hf⟩ := h.own
 obtain ⟨f1,f2,o1,o2,_,_⟩ := owL_two hf
 obtain ⟨g,off,f3,hra,_,_,⟨vs,hpc,hov,_⟩,_⟩ := ow_elF rw8_len (by omega) o1 (rowN_at hk)
 obtain ⟨Ak,rfl,hl⟩ := rw8_ow hov
 have hl8 : (rwC Ak (rowN m.rows k)).toList.length = 8 := rfl
 have c := hpc.cell
 have hfit : FitR (rowN m.rows k) := h.fit.1 _ (rowN_mem hk)
 exact ⟨g,off,Ak,hra,⟨⟨c 0 (by rw [hl8];omega),c 1 (by rw [hl8];omega),c 2 (by rw [hl8];omega),c 3 (by rw [hl8];omega)⟩,c 4 (by rw [hl8];omega),c 5 (by rw [hl8];omega),c 6 (by rw [hl8];omega),c 7 (by rw [hl8];omega)⟩,it_rwp (owL_it hl (lo := 0) (fun b _ => Nat.zero_le b)) hfit h6 hs⟩
theorem OkM.rw64 {m : Mb} {i n : Nat} (h : OkM m i n) {k : Nat} (hk : k < m.rows.length) : Rw64 (rowN m.rows k) ∧ szRw (rowN m.rows k) ≤ 1048576 := ⟨h.p64.1.2.2 _ (rowN_mem hk),by have := (h.rowOk _ (rowN_mem hk)).c8.2;omega⟩
attribute [local irreducible] sv
set_option maxRecDepth 100000 in
set_option maxHeartbeats 12800000 in
theorem lawFnStepped (hSp : ImplStep1) (hVo : ImplVoice) (hMo : ImplMemberOk) (hFo : ImplFollows) (a : Option Addr) (len cap : Nat) (bs : Nat → Int) (w : World) (hv : BVec w a len bs) :
  Calls Tryz.prog 3 #[.slice a len cap] w fun e w' => e = .returned (.bool true) ∧ Below w.heap.size w w' := by
 have hmix := mixed17
 by_cases hbig : (4096 : Int) < (len : Int)
 ·have hB := big_any a len cap w
  rw [decide_eq_true hbig] at hB
  go_enter Tryz.func3,Tryz.ntmps3
  go_wp2_with fail
  refine hB.mono ?_
  rintro e w1 ⟨rfl,hw1⟩
  have HW : Hid (w1 = w) := hw1
  clear hw1
  go_wp2
  go_ret
  exact ⟨rfl,by rw [HW.out];exact Below.refl _ _⟩
 have hB := big_any a len cap w
 rw [decide_eq_false hbig] at hB
 have hl : len ≤ 4096 := by omega
 have hD := drawSt_any17 a len cap bs w hv hl
 unfold mbV mbC at hD
 go_enter Tryz.func3,Tryz.ntmps3
 go_wp2_with fail
 refine hB.mono ?_
 rintro e w0 ⟨rfl,hw0⟩
 rw [hw0]
 clear hw0 hB hbig
 go_wp2_with fail
 refine hD.mono ?_
 rintro e w1 ⟨A,m,n,rfl,hI,hS,hb1⟩
 have HS : Hid (DmS m n) := hS
 have hbx := oneA16 w1 (.cells #[.int .i64 m.id,.int .i64 m.n,.slice A.ra m.rows.length A.rc,.slice A.sa m.sung.length A.sc,.bool m.done] 27)
 have hM1 : Mx (w1.alloc (.cells #[.int .i64 m.id,.int .i64 m.n,.slice A.ra m.rows.length A.rc,.slice A.sa m.sung.length A.sc,.bool m.done] 27)) w1.heap.size A m := Mx.new hI hS.fit
 have HB1 : Hid (Below w.heap.size w (w1.alloc (.cells #[.int .i64 m.id,.int .i64 m.n,.slice A.ra m.rows.length A.rc,.slice A.sa m.sung.length A.sc,.bool m.done] 27))) := hb1.trans (hbx.mono hb1.size)
 have hSt := hSp A m (w1.alloc (.cells #[.int .i64 m.id,.int .i64 m.n,.slice A.ra m.rows.length A.rc,.slice A.sa m.sung.length A.sc,.bool m.done] 27)) (hM1.mbp hS.i64 hS.sz) hS.own
 unfold mbV mbC at hSt
 have HM1 : Hid (Mx (w1.alloc (.cells #[.int .i64 m.id,.int .i64 m.n,.slice A.ra m.rows.length A.rc,.slice A.sa m.sung.length A.sc,.bool m.done] 27)) w1.heap.size A m) := hM1
 clear hD hI hbx hM1 hb1 hS
 go_upto_region 4 with fail
 generalize hW1 : w1.alloc (.cells #[.int .i64 m.id,.int .i64 m.n,.slice A.ra m.rows.length A.rc,.slice A.sa m.sung.length A.sc,.bool m.done] 27) = W1 at *
 generalize w1.heap.size = o at *
 obtain ⟨c0,c1,c2,c3,c4⟩ := Bx.r5 HM1.out.box
 have hxs := stpM_small m
 obtain ⟨x,hxe⟩ : ∃ x,Hid (x = stpM m) := ⟨_,rfl⟩
 rw [← hxe.out] at hSt hxs
 go_wp2_with fail
 refine hSt.mono ?_
 rintro e w2 ⟨B,rfl,hN⟩
 have hI2 := It.of_new hN
 have hb2 : Below W1.heap.size W1 w2 := hN.choose_spec.2.2
 have hbx := oneA16 w2 (.cells #[.int .i64 x.id,.int .i64 x.n,.slice B.ra x.rows.length B.rc,.slice B.sa x.sung.length B.sc,.bool x.done] 27)
 have HX2 : Hid (Mx (w2.alloc (.cells #[.int .i64 x.id,.int .i64 x.n,.slice B.ra x.rows.length B.rc,.slice B.sa x.sung.length B.sc,.bool x.done] 27)) w2.heap.size B x) := Mx.new hI2 hxs.1
 have hbb := hb2.trans (hbx.mono hb2.size)
 have HM2 : Hid (Mx (w2.alloc (.cells #[.int .i64 x.id,.int .i64 x.n,.slice B.ra x.rows.length B.rc,.slice B.sa x.sung.length B.sc,.bool x.done] 27)) o A m) := HM1.out.below hbb
 have HB2 : Hid (Below w.heap.size w (w2.alloc (.cells #[.int .i64 x.id,.int .i64 x.n,.slice B.ra x.rows.length B.rc,.slice B.sa x.sung.length B.sc,.bool x.done] 27))) := HB1.out.trans (hbb.mono HB1.out.size)
 unfold mbV mbC
 clear hSt c0 c1 c2 c3 c4 hN hI2 hb2 hbx hbb HM1 HB1
 go_upto_region 5 with fail
 generalize hW2 : w2.alloc (.cells #[.int .i64 x.id,.int .i64 x.n,.slice B.ra x.rows.length B.rc,.slice B.sa x.sung.length B.sc,.bool x.done] 27) = W2 at *
 generalize w2.heap.size = o2 at *
 have hDv := drawVo_any17 a len cap bs W2 (hv.below HB2.out (Nat.le_refl _)) hl
 unfold mbV mbC at hDv
 go_wp2_with fail
 refine hDv.mono ?_
 rintro e w3 ⟨E,v,nv,rfl,hIv,hSv,hb3⟩
 have hbx := oneA16 w3 (.cells #[.int .i64 v.id,.int .i64 v.n,.slice E.ra v.rows.length E.rc,.slice E.sa v.sung.length E.sc,.bool v.done] 27)
 have hbb := hb3.trans (hbx.mono hb3.size)
 have HV3 : Hid (Mx (w3.alloc (.cells #[.int .i64 v.id,.int .i64 v.n,.slice E.ra v.rows.length E.rc,.slice E.sa v.sung.length E.sc,.bool v.done] 27)) w3.heap.size E v) := Mx.new hIv hSv.fit
 have HX3 : Hid (Mx (w3.alloc (.cells #[.int .i64 v.id,.int .i64 v.n,.slice E.ra v.rows.length E.rc,.slice E.sa v.sung.length E.sc,.bool v.done] 27)) o2 B x) := HX2.out.below hbb
 have HM3 : Hid (Mx (w3.alloc (.cells #[.int .i64 v.id,.int .i64 v.n,.slice E.ra v.rows.length E.rc,.slice E.sa v.sung.length E.sc,.bool v.done] 27)) o A m) := HM2.out.below hbb
 have HB3 : Hid (Below w.heap.size w (w3.alloc (.cells #[.int .i64 v.id,.int .i64 v.n,.slice E.ra v.rows.length E.rc,.slice E.sa v.sung.length E.sc,.bool v.done] 27))) := HB2.out.trans (hbb.mono HB2.out.size)
 have HSv : Hid (DmS v nv) := hSv
 clear hDv hIv hSv hb3 hbx hbb HX2 HM2 HB2
 go_upto_region 6 with fail
 generalize hW3 : w3.alloc (.cells #[.int .i64 v.id,.int .i64 v.n,.slice E.ra v.rows.length E.rc,.slice E.sa v.sung.length E.sc,.bool v.done] 27) = W3 at *
 generalize w3.heap.size = o3 at *
 have KS : ∀ X,Below W3.heap.size W3 X → (X.cell? ⟨o2,0,none⟩ = some (.int .i64 x.id) ∧ X.cell? ⟨o2,1,none⟩ = some (.int .i64 x.n) ∧ X.cell? ⟨o2,2,none⟩ = some (.slice B.ra x.rows.length B.rc) ∧ X.cell? ⟨o2,3,none⟩ = some (.slice B.sa x.sung.length B.sc) ∧ X.cell? ⟨o2,4,none⟩ = some (.bool x.done)) ∧ (X.cell? ⟨o,0,none⟩ = some (.int .i64 m.id) ∧ X.cell? ⟨o,1,none⟩ = some (.int .i64 m.n) ∧ X.cell? ⟨o,2,none⟩ = some (.slice A.ra m.rows.length A.rc) ∧ X.cell? ⟨o,3,none⟩ = some (.slice A.sa m.sung.length A.sc) ∧ X.cell? ⟨o,4,none⟩ = some (.bool m.done)) ∧ (X.cell? ⟨o3,0,none⟩ = some (.int .i64 v.id) ∧ X.cell? ⟨o3,1,none⟩ = some (.int .i64 v.n) ∧ X.cell? ⟨o3,2,none⟩ = some (.slice E.ra v.rows.length E.rc) ∧ X.cell? ⟨o3,3,none⟩ = some (.slice E.sa v.sung.length E.sc) ∧ X.cell? ⟨o3,4,none⟩ = some (.bool v.done)) := fun X hX => ⟨Bx.r5 (HX3.out.below hX).box,Bx.r5 (HM3.out.below hX).box,Bx.r5 (HV3.out.below hX).box⟩
 have b0 : Below W3.heap.size W3 W3.drew := (Same.drewN W3 1).below
 refine gt_begin (S := fun X : World => (X.cell? ⟨o2,0,none⟩ = some (.int .i64 x.id) ∧ X.cell? ⟨o2,1,none⟩ = some (.int .i64 x.n) ∧ X.cell? ⟨o2,2,none⟩ = some (.slice B.ra x.rows.length B.rc) ∧ X.cell? ⟨o2,3,none⟩ = some (.slice B.sa x.sung.length B.sc) ∧ X.cell? ⟨o2,4,none⟩ = some (.bool x.done)) ∧ (X.cell? ⟨o,0,none⟩ = some (.int .i64 m.id) ∧ X.cell? ⟨o,1,none⟩ = some (.int .i64 m.n) ∧ X.cell? ⟨o,2,none⟩ = some (.slice A.ra m.rows.length A.rc) ∧ X.cell? ⟨o,3,none⟩ = some (.slice A.sa m.sung.length A.sc) ∧ X.cell? ⟨o,4,none⟩ = some (.bool m.done)) ∧ (X.cell? ⟨o3,0,none⟩ = some (.int .i64 v.id) ∧ X.cell? ⟨o3,1,none⟩ = some (.int .i64 v.n) ∧ X.cell? ⟨o3,2,none⟩ = some (.slice E.ra v.rows.length E.rc) ∧ X.cell? ⟨o3,3,none⟩ = some (.slice E.sa v.sung.length E.sc) ∧ X.cell? ⟨o3,4,none⟩ = some (.bool v.done))) 13 hmix (by kernel_rfl) ?_
 have hHeld : (fun X : World => (X.cell? ⟨o2,0,none⟩ = some (.int .i64 x.id) ∧ X.cell? ⟨o2,1,none⟩ = some (.int .i64 x.n) ∧ X.cell? ⟨o2,2,none⟩ = some (.slice B.ra x.rows.length B.rc) ∧ X.cell? ⟨o2,3,none⟩ = some (.slice B.sa x.sung.length B.sc) ∧ X.cell? ⟨o2,4,none⟩ = some (.bool x.done)) ∧ (X.cell? ⟨o,0,none⟩ = some (.int .i64 m.id) ∧ X.cell? ⟨o,1,none⟩ = some (.int .i64 m.n) ∧ X.cell? ⟨o,2,none⟩ = some (.slice A.ra m.rows.length A.rc) ∧ X.cell? ⟨o,3,none⟩ = some (.slice A.sa m.sung.length A.sc) ∧ X.cell? ⟨o,4,none⟩ = some (.bool m.done)) ∧ (X.cell? ⟨o3,0,none⟩ = some (.int .i64 v.id) ∧ X.cell? ⟨o3,1,none⟩ = some (.int .i64 v.n) ∧ X.cell? ⟨o3,2,none⟩ = some (.slice E.ra v.rows.length E.rc) ∧ X.cell? ⟨o3,3,none⟩ = some (.slice E.sa v.sung.length E.sc) ∧ X.cell? ⟨o3,4,none⟩ = some (.bool v.done))) W3.drew := (KS _ b0)
 refine gt_takeA (i := 0) (v := ?_) rfl (by kernel_rfl) (by kernel_rfl) (by kernel_rfl) (by kernel_rfl) (fun _ _ _ h => h) (Or.inl ⟨by rfl, ?_⟩) hHeld ?_
 rotate_left
 ·(intro X hSX;(try dsimp only at hSX);obtain ⟨⟨g0,g1,g2,g3,g4⟩,⟨g5,g6,g7,g8,g9⟩,g10,g11,g12,g13,g14⟩ := hSX;go_simp;try with_reducible rfl)
 try simp only [Act.put,List.setIfInBounds_toArray,List.set_cons_zero,List.set_cons_succ]
 refine gt_takeA (i := 1) (v := ?_) rfl (by kernel_rfl) (by kernel_rfl) (by kernel_rfl) (by kernel_rfl) (fun _ _ _ h => h) (Or.inl ⟨by rfl, ?_⟩) hHeld ?_
 rotate_left
 ·(intro X hSX;(try dsimp only at hSX);obtain ⟨⟨g0,g1,g2,g3,g4⟩,⟨g5,g6,g7,g8,g9⟩,g10,g11,g12,g13,g14⟩ := hSX;go_simp;try with_reducible rfl)
 try simp only [Act.put,List.setIfInBounds_toArray,List.set_cons_zero,List.set_cons_succ]
 have hS5 := stpS_any A m W3.drew (HM3.out.below b0).mbs
 rw [← hxe.out] at hS5
 unfold mbV mbC at hS5
 refine gt_one (i := 2) rfl (by kernel_rfl) (by kernel_rfl) (fun K hK => ?_)
 go_simp
 go_at_call 12
 refine hS5.mono ?_
 rintro e V1 ⟨C,rfl,hN⟩
 have hbv : Below W3.drew.heap.size W3.drew V1 := hN.choose_spec.2.2
 have b1 : Below W3.heap.size W3 V1 := b0.trans (hbv.mono b0.size)
 have hL5 := likeMb_any B C x V1 (HX3.out.below b1).mbs (it_mbs (It.of_new hN) hxs.1)
 unfold mbV mbC at hL5
 unfold mbV mbC
 refine hK.out _ _ (KS _ b1) (fun hHeldN => ?_)
 clear hK hHeld
 have hHeld := hHeldN
 try simp only [Act.put,List.setIfInBounds_toArray,List.set_cons_zero,List.set_cons_succ]
 refine gt_one (i := 3) rfl (by kernel_rfl) (by kernel_rfl) (fun K hK => ?_)
 go_simp
 go_at_call 11
 refine hL5.mono ?_
 rintro e V2 ⟨rfl,hbl⟩
 have b2 : Below W3.heap.size W3 V2 := b1.trans (hbl.mono b1.size)
 clear hS5 hL5 hN hbv b1 hbl
 refine hK.out _ _ (KS _ b2) (fun hHeldN => ?_)
 clear hK hHeld
 have hHeld := hHeldN
 try simp only [Act.put,List.setIfInBounds_toArray,List.set_cons_zero,List.set_cons_succ]
 refine gt_pure (i := 4) (v := ?_) rfl (by kernel_rfl) (by kernel_rfl) (by kernel_rfl) (fun _ _ _ h => h) (Or.inl ⟨by rfl, ?_⟩) ?_
 rotate_left
 ·(intro X;go_simp;try with_reducible rfl)
 try simp only [Act.put,List.setIfInBounds_toArray,List.set_cons_zero,List.set_cons_succ]
 refine gt_pure (i := 5) (v := ?_) rfl (by kernel_rfl) (by kernel_rfl) (by kernel_rfl) (fun _ _ _ h => h) (Or.inl ⟨by rfl, ?_⟩) ?_
 rotate_left
 ·(intro X;go_simp;try with_reducible rfl)
 try simp only [Act.put,List.setIfInBounds_toArray,List.set_cons_zero,List.set_cons_succ]
 refine gt_takeA (i := 6) (v := ?_) rfl (by kernel_rfl) (by kernel_rfl) (by kernel_rfl) (by kernel_rfl) (fun _ _ _ h => h) (Or.inl ⟨by rfl, ?_⟩) hHeld ?_
 rotate_left
 ·(intro X hSX;(try dsimp only at hSX);obtain ⟨⟨g0,g1,g2,g3,g4⟩,⟨g5,g6,g7,g8,g9⟩,g10,g11,g12,g13,g14⟩ := hSX;go_simp;try with_reducible rfl)
 try simp only [Act.put,List.setIfInBounds_toArray,List.set_cons_zero,List.set_cons_succ]
 refine gt_takeA (i := 8) (v := ?_) rfl (by kernel_rfl) (by kernel_rfl) (by kernel_rfl) (by kernel_rfl) (fun _ _ _ h => h) (Or.inl ⟨by rfl, ?_⟩) hHeld ?_
 rotate_left
 ·(intro X hSX;(try dsimp only at hSX);obtain ⟨⟨g0,g1,g2,g3,g4⟩,⟨g5,g6,g7,g8,g9⟩,g10,g11,g12,g13,g14⟩ := hSX;go_simp;try with_reducible rfl)
 try simp only [Act.put,List.setIfInBounds_toArray,List.set_cons_zero,List.set_cons_succ]
 have hI7 := hVo E v V2 ((HV3.out.below b2).mbp HSv.out.i64 HSv.out.sz)
 unfold mbV mbC at hI7
 refine gt_one (i := 7) rfl (by kernel_rfl) (by kernel_rfl) (fun K hK => ?_)
 go_simp
 go_at_call 14
 refine hI7.mono ?_
 rintro e V3 ⟨va,vc,rfl,hN3⟩
 have hb9 : Below V2.heap.size V2 V3 := hN3.choose_spec.2.2
 have b3 : Below W3.heap.size W3 V3 := b2.trans (hb9.mono b2.size)
 have hI9 := voiS_any E v V3 (HV3.out.below b3).mbs
 unfold mbV mbC at hI9
 refine hK.out _ _ (KS _ b3) (fun hHeldN => ?_)
 clear hK hHeld
 have hHeld := hHeldN
 try simp only [Act.put,List.setIfInBounds_toArray,List.set_cons_zero,List.set_cons_succ]
 refine gt_one (i := 9) rfl (by kernel_rfl) (by kernel_rfl) (fun K hK => ?_)
 go_simp
 go_at_call 15
 refine hI9.mono ?_
 rintro e V4 ⟨ua,uc,rfl,hN4⟩
 have hb10 : Below V3.heap.size V3 V4 := hN4.choose_spec.2.2
 have b4 : Below W3.heap.size W3 V4 := b3.trans (hb10.mono b3.size)
 have hvl := voiM_small v
 have hT : Calls Tryz.prog 13 #[.slice va (voiM v).length vc,.slice ua (voiM v).length uc] V4 fun e w' => e = .returned (.bool true) ∧ Below V4.heap.size V4 w' := by
  obtain ⟨f1,k1,_⟩ := (It.of_newO hN3).ow1
  obtain ⟨f2,k2,_⟩ := (It.of_newO hN4).ow1
  exact (likeSV_any va ua vc uc (voiM v) V4 (ow_txp (Cel.ow_below k1 hb10)).txs (ow_txp k2).txs (by unfold maxLen;omega)).mono (fun e w' h => ⟨h.1,h.2.1⟩)
 refine hK.out _ _ (KS _ b4) (fun hHeldN => ?_)
 clear hK hHeld
 have hHeld := hHeldN
 try simp only [Act.put,List.setIfInBounds_toArray,List.set_cons_zero,List.set_cons_succ]
 refine gt_one (i := 10) rfl (by kernel_rfl) (by kernel_rfl) (fun K hK => ?_)
 go_simp
 go_at_call 13
 refine hT.mono ?_
 rintro e V5 ⟨rfl,hb12⟩
 have b5 : Below W3.heap.size W3 V5 := b4.trans (hb12.mono b4.size)
 refine hK.out _ _ (KS _ b5) (fun hHeldN => ?_)
 clear hK hHeld
 have hHeld := hHeldN
 try simp only [Act.put,List.setIfInBounds_toArray,List.set_cons_zero,List.set_cons_succ]
 refine gt_pure (i := 11) (v := ?_) rfl (by kernel_rfl) (by kernel_rfl) (by kernel_rfl) (fun _ _ _ h => h) (Or.inl ⟨by rfl, ?_⟩) ?_
 rotate_left
 ·(intro X;go_simp;try with_reducible rfl)
 try simp only [Act.put,List.setIfInBounds_toArray,List.set_cons_zero,List.set_cons_succ]
 refine gt_pure (i := 12) (v := ?_) rfl (by kernel_rfl) (by kernel_rfl) (by kernel_rfl) (fun _ _ _ h => h) (Or.inl ⟨by rfl, ?_⟩) ?_
 rotate_left
 ·(intro X;go_simp;try with_reducible rfl)
 try simp only [Act.put,List.setIfInBounds_toArray,List.set_cons_zero,List.set_cons_succ]
 refine gt_end (by kernel_rfl) ?_
 have HX5 : Hid (Mx V5 o2 B x) := HX3.out.below b5
 have HM5 : Hid (Mx V5 o A m) := HM3.out.below b5
 have HB5 : Hid (Below w.heap.size w V5) := HB3.out.trans (b5.mono HB3.out.size)
 clear hHeld KS b0 b2 b3 b4 b5 hb9 hb10 hb12 hI7 hI9 hT hN3 hN4 HX3 HM3 HB3 HV3 hvl
 have hK := mbkS_any A m V5 HM5.out.mbs
 unfold mbV mbC at hK
 obtain ⟨c0,c1,c2,c3,c4⟩ := Bx.r5 HM5.out.box
 go_upto_region 8 with fail
 cases hok : okMb m with
 | false =>
  rw [hok] at hK
  have hx0 : x = zeroMb := by rw [hxe.out,stpM,if_neg (by rw [hok];simp)]
  clear hok
  go_wp2_with fail
  refine hK.mono ?_
  rintro e V6 ⟨rfl,hb6⟩
  have hX6 := HX5.out.below hb6
  have hL : Calls Tryz.prog 11 #[.agg #[.int .i64 x.id,.int .i64 x.n,.slice B.ra x.rows.length B.rc,.slice B.sa x.sung.length B.sc,.bool x.done],.agg #[.int .i64 0,.int .i64 0,.slice none 0 0,.slice none 0 0,.bool false]] V6 fun e w' => e = .returned (.bool true) ∧ Below V6.heap.size V6 w' := by
   have h1 := hX6.mbs
   rw [hx0] at h1 ⊢
   exact likeMb_any B ⟨none,0,none,0⟩ zeroMb V6 h1 (mbs_of (owL_vw (ow_mb0 V6)) zeroMb_small.1)
  have HB6 : Hid (Below w.heap.size w V6) := HB5.out.trans (hb6.mono HB5.out.size)
  clear hK hb6 c0 c1 c2 c3 c4 hx0
  obtain ⟨e0,e1,e2,e3,e4⟩ := Bx.r5 hX6.box
  go_wp2_with fail
  refine hL.mono ?_
  rintro e V7 ⟨rfl,hb7⟩
  have HE : Hid (Below w.heap.size w V7) := HB6.out.trans (hb7.mono HB6.out.size)
  clear hL hb7 e0 e1 e2 e3 e4
  go_wp2
  go_ret
  exact ⟨rfl,HE.out⟩
 | true =>
 rw [hok] at hK
 obtain ⟨i,n',ok⟩ := okMb_iff.1 hok
 have T := stepM ok
 have hxe2 : x = stepMb m := by rw [hxe.out,stpM,if_pos hok]
 have Tok : OkM x i n' := by rw [hxe2];exact T.ok
 have HNx : Hid (Nx (rowN m.rows i) (rowN x.rows i)) := by rw [Hid,hxe2];exact T.nx
 have HOt : Hid (∀ j,j ≠ i → rowN x.rows j = rowN m.rows j) := by rw [Hid,hxe2];exact T.oth
 have HSb : Hid (∀ y ∈ m.sung,y ∈ x.sung) := by rw [Hid,hxe2];exact T.sub
 have HDn : Hid (m.done = true → x = m) := fun h => by rw [hxe2];exact T.dn h
 have HOx : Hid (okMb x = true) := okMb_iff.2 ⟨i,n',Tok⟩
 clear hok hxe2 T
 go_wp2_with fail
 refine hK.mono ?_
 rintro e V6 ⟨rfl,hb6⟩
 have HX6 : Hid (Mx V6 o2 B x) := HX5.out.below hb6
 have HM6 : Hid (Mx V6 o A m) := HM5.out.below hb6
 have HB6 : Hid (Below w.heap.size w V6) := HB5.out.trans (hb6.mono HB5.out.size)
 clear hK hb6 c0 c1 c2 c3 c4 HX5 HM5 HB5
 go_upto_region 10 with fail
 have hil : i < m.rows.length := by rw [ok.len];exact ok.lt
 have hxl : i < x.rows.length := by rw [Tok.len];exact ok.lt
 have hn5 := ok.n5
 have i0 : (0 : Int) ≤ (i : Int) := by omega
 have i1 : (i : Int) < (m.rows.length : Int) := by omega
 have i2 : (i : Int) < (x.rows.length : Int) := by omega
 obtain ⟨g,off,Ak,ea,⟨⟨d0,d1,d2,d3⟩,d4,d5,d6,d7⟩,hrs⟩ := HM6.out.rwp hil (ok.rw64 hil).1 (ok.rw64 hil).2
 obtain ⟨g',off',Bk9,eb,⟨⟨y0,y1,y2,y3⟩,y4,y5,y6,y7⟩,hrx⟩ := HX6.out.rwp hxl (Tok.rw64 hxl).1 (Tok.rw64 hxl).2
 have CM : ∀ q : Bk V6,Calls Tryz.prog 17 #[mbV B x] q.w fun e w' => e = .returned (.bool true) ∧ Below q.w.heap.size q.w w' := fun q => by
  have := hMo B x q.w ((HX6.out.below q.h).mbp Tok.p64.1 Tok.p64.2)
  rw [HOx.out] at this
  exact this
 have CF : ∀ q : Bk V6,Calls Tryz.prog 18 #[rwV Ak (rowN m.rows i),rwV Bk9 (rowN x.rows i),.int .i64 (n' : Int)] q.w fun e w' => e = .returned (.bool true) ∧ Below q.w.heap.size q.w w' := fun q => by
  have := hFo Ak Bk9 (rowN m.rows i) (rowN x.rows i) (n' : Int) q.w (hrs.below q.h) (hrx.below q.h) ⟨by omega,by omega⟩
  rw [nx_fol (ok.ok i ok.lt) (Tok.ok i ok.lt) HNx.out] at this
  exact this
 have CK : m.done = true → ∀ q : Bk V6,Calls Tryz.prog 11 #[mbV B x,mbV A m] q.w fun e w' => e = .returned (.bool true) ∧ Below q.w.heap.size q.w w' := fun hd q => by
  have h1 := (HX6.out.below q.h).mbs
  have h2 := (HM6.out.below q.h).mbs
  rw [HDn.out hd] at h1 ⊢
  exact likeMb_any B A m q.w h1 h2
 obtain ⟨c0,c1,c2,c3,c4⟩ := Bx.r5 HM6.out.box
 obtain ⟨e0,e1,e2,e3,e4⟩ := Bx.r5 HX6.out.box
 unfold mbV mbC at CM CK
 unfold rwV rwC at CF
 rw [ea] at c2
 rw [eb] at e2
 simp only [ea,eb] at CM CK
 clear ea eb
 rw [ok.hid] at c0
 rw [ok.hn] at c1
 simp only [ok.hid,ok.hn] at CK
 have T : ∀ {x v},V6.cell? x = some v → ∀ q : Bk V6,q.w.cell? x = some v := fun h q => (q.h.cell (World.block_lt_of_cell? _ _ h)).trans h
 have pc0 := T c0
 have pc1 := T c1
 have pc2 := T c2
 have pc3 := T c3
 have pc4 := T c4
 have pe0 := T e0
 have pe1 := T e1
 have pe2 := T e2
 have pe3 := T e3
 have pe4 := T e4
 have pd0 := T d0
 have pd1 := T d1
 have pd2 := T d2
 have pd3 := T d3
 have pd4 := T d4
 have pd5 := T d5
 have pd6 := T d6
 have pd7 := T d7
 have py0 := T y0
 have py1 := T y1
 have py2 := T y2
 have py3 := T y3
 have py4 := T y4
 have py5 := T y5
 have py6 := T y6
 have py7 := T y7
 clear c0 c1 c2 c3 c4 e0 e1 e2 e3 e4 d0 d1 d2 d3 d4 d5 d6 d7 y0 y1 y2 y3 y4 y5 y6 y7 T hrs hrx
 go_cut [65] from 35 to 65 (fun v X => v = .bool false ∧ Below V6.heap.size V6 X)
 case first =>
  rcases Bool.eq_false_or_eq_true m.done with hdn | hdn
  rotate_left
  ·rw [hdn] at pc4
   clear CK hdn
   refine wp_region_bk (by kernel_rfl) (by kernel_rfl) ?_
   repeat (go_big_quiet_step ((first | (go_at_call 17;exact bk_call _ (CM _)) | (go_at_call 18;exact bk_call _ (CF _)) | rfl)))
   refine wpQuiet_nil ?_
   intro wE hw'
   obtain ⟨⟨w11,hb11⟩,hw''⟩ := hw'
   have hwe : wE = w11 := hw''
   clear hw''
   subst hwe
   try go_wp2_with fail
   go_meet
   case rel => exact ⟨rfl,hb11⟩
  ·have CK2 := CK hdn
   rw [hdn] at pc4
   simp only [hdn] at CK2
   clear CK hdn
   refine wp_region_bk (by kernel_rfl) (by kernel_rfl) ?_
   repeat (go_big_quiet_step ((first | (go_at_call 17;exact bk_call _ (CM _)) | (go_at_call 18;exact bk_call _ (CF _)) | (go_at_call 11;exact bk_call _ (CK2 _)) | rfl)))
   refine wpQuiet_nil ?_
   intro wE hw'
   obtain ⟨⟨w11,hb11⟩,hw''⟩ := hw'
   have hwe : wE = w11 := hw''
   clear hw''
   subst hwe
   try go_wp2_with fail
   go_meet
   case rel => exact ⟨rfl,hb11⟩
 case rest =>
 obtain ⟨rfl,hbc⟩ := hcut
 have HX7 : Hid (Mx wc o2 B x) := HX6.out.below hbc
 have HM7 : Hid (Mx wc o A m) := HM6.out.below hbc
 have HB7 : Hid (Below w.heap.size w wc) := HB6.out.trans (hbc.mono HB6.out.size)
 clear hbc pc0 pc1 pc2 pc3 pc4 pe0 pe1 pe2 pe3 pe4 pd0 pd1 pd2 pd3 pd4 pd5 pd6 pd7 py0 py1 py2 py3 py4 py5 py6 py7 CM CF CK HX6 HM6 HB6
 generalize wc = V7 at *
 go_wp2_with fail
 go_loopw [6] (fun v wr => ∃ k : Nat,k ≤ m.sung.length ∧ v = .int .i64 (k : Int) ∧ Below V7.heap.size V7 wr) (fun v _ => m.sung.length - (intOf v).toNat)
 case atStart => exact ⟨0,Nat.zero_le _,rfl,Below.refl _ _⟩
 case round =>
  obtain ⟨k,hk,rfl,hb⟩ := hrel
  have HBr : Hid (Below V7.heap.size V7 wr) := hb
  have hM := HM7.out.below hb
  have hX := HX7.out.below hb
  have hsl := ok.sl
  obtain ⟨c0,c1,c2,c3,c4⟩ := Bx.r5 hM.box
  obtain ⟨e0,e1,e2,e3,e4⟩ := Bx.r5 hX.box
  by_cases hlt : k < m.sung.length
  ·have k1 : (k : Int) < (m.sung.length : Int) := by omega
   have k0 : (0 : Int) ≤ (k : Int) := by omega
   rcases hM.mbs.sung.2.2 with h0 | ⟨sb,so,esa,hsc⟩
   ·omega
   have hsk := hsc k hlt
   have hxv := hX.mbs
   have CH : ∀ b : Bk wr,Calls Tryz.prog 19 #[.slice B.sa x.sung.length B.sc,.int .i64 (el m.sung k)] b.w fun e w' => e = .returned (.bool true) ∧ Below b.w.heap.size b.w w' := fun b => by
    have := has17_any B.sa B.sc (el m.sung k) x.sung b.w (hxv.sung.below b.h (Nat.le_refl _)) hxv.ms
    rw [decide_eq_true (HSb.out _ (el_mem hlt))] at this
    exact this
   rw [esa] at c3
   clear esa hsc
   have T : ∀ {x v},wr.cell? x = some v → ∀ q : Bk wr,q.w.cell? x = some v := fun h q => (q.h.cell (World.block_lt_of_cell? _ _ h)).trans h
   have pc3 := T c3
   have pe3 := T e3
   have psk := T hsk
   have wk : wrap64 ((k : Int) + 1) = (k : Int) + 1 := by unfold wrap64;omega
   generalize el m.sung k = y at *
   clear hM hX hxv T hb
   go_wp2_with fail
   refine wp_region_bk (by kernel_rfl) (by kernel_rfl) ?_
   repeat (go_big_quiet_step ((first | (go_at_call 19;exact bk_call _ (CH _)) | rfl)))
   refine wpQuiet_nil ?_
   intro wE hw'
   obtain ⟨⟨w11,hb11⟩,hw''⟩ := hw'
   have hwe : wE = w11 := hw''
   clear hw''
   subst hwe
   have HB2 : Hid (Below V7.heap.size V7 wE) := HBr.out.trans (hb11.mono HBr.out.size)
   clear CH pc3 pe3 psk hsk c0 c1 c2 c3 c4 e0 e1 e2 e3 e4 hb11
   go_wp2
   go_roundw
   case rel => exact ⟨k + 1,by omega,by go_num,HB2.out⟩
   case measure => simp [intOf];omega
  ·have k1 : ¬ ((k : Int) < (m.sung.length : Int)) := by omega
   have HX8 : Hid (Mx wr o2 B x) := hX
   have HM8 : Hid (Mx wr o A m) := hM
   have HB8 : Hid (Below w.heap.size w wr) := HB7.out.trans (hb.mono HB7.out.size)
   clear hM hX hb e0 e1 e2 e3 e4
   go_wp2_with fail
   clear c0 c1 c2 c3 c4
   generalize wr = V8 at *
   clear hlt k1 hk
   go_loopw [7] (fun v wr => ∃ k : Nat,k ≤ n' ∧ v = .int .i64 (k : Int) ∧ Below V8.heap.size V8 wr) (fun v _ => n' - (intOf v).toNat)
   case atStart => exact ⟨0,Nat.zero_le _,rfl,Below.refl _ _⟩
   case round =>
    obtain ⟨j,hj,rfl,hb⟩ := hrel
    have HBr : Hid (Below V8.heap.size V8 wr) := hb
    have hM := HM8.out.below hb
    have hX := HX8.out.below hb
    have hn5 := ok.n5
    obtain ⟨c0,c1,c2,c3,c4⟩ := Bx.r5 hM.box
    obtain ⟨e0,e1,e2,e3,e4⟩ := Bx.r5 hX.box
    rw [ok.hid] at c0
    rw [ok.hn] at c1
    have wk : wrap64 ((j : Int) + 1) = (j : Int) + 1 := by unfold wrap64;omega
    have T : ∀ {x v},wr.cell? x = some v → ∀ q : Bk wr,q.w.cell? x = some v := fun h q => (q.h.cell (World.block_lt_of_cell? _ _ h)).trans h
    by_cases hlt : j < n'
    ·have k1 : (j : Int) < (n' : Int) := by omega
     by_cases hji : j = i
     ·have gj : ((j : Int) != (i : Int)) = false := by simp [hji]
      have gk : decide ((j : Int) = (i : Int)) = true := by simp [hji]
      have gl : (j : Int) = (i : Int) := by omega
      have pc0 := T c0
      clear hM hX hb T c2 c3 c4 e0 e1 e2 e3 e4 hji
      go_wp2_with fail
      refine wp_region_bk (by kernel_rfl) (by kernel_rfl) ?_
      repeat (go_big_quiet_step ((first | (go_at_call 19;exact bk_call _ (hmix _)) | rfl)))
      refine wpQuiet_nil ?_
      intro wE hw'
      obtain ⟨⟨w11,hb11⟩,hw''⟩ := hw'
      have hwe : wE = w11 := hw''
      clear hw''
      subst hwe
      have HB2 : Hid (Below V8.heap.size V8 wE) := HBr.out.trans (hb11.mono HBr.out.size)
      clear pc0 c0 c1 hb11 gj gk gl
      go_wp2
      go_roundw
      case rel => exact ⟨j + 1,by omega,by go_num,HB2.out⟩
      case measure => simp [intOf];omega
     ·have gj : ((j : Int) != (i : Int)) = true := by simp;omega
      have gl : ¬ ((j : Int) = (i : Int)) := by omega
      have hjm : j < m.rows.length := by rw [ok.len];exact hlt
      have hjx : j < x.rows.length := by rw [Tok.len];exact hlt
      have i0 : (0 : Int) ≤ (j : Int) := by omega
      have i1 : (j : Int) < (m.rows.length : Int) := by omega
      have i2 : (j : Int) < (x.rows.length : Int) := by omega
      obtain ⟨g,off,Ak,ea,⟨⟨d0,d1,d2,d3⟩,d4,d5,d6,d7⟩,hrs⟩ := hM.rwp hjm (ok.rw64 hjm).1 (ok.rw64 hjm).2
      obtain ⟨g',off',Bk9,eb,⟨⟨y0,y1,y2,y3⟩,y4,y5,y6,y7⟩,hrx⟩ := hX.rwp hjx (Tok.rw64 hjx).1 (Tok.rw64 hjx).2
      rw [HOt.out j hji] at hrx y0 y1 y2 y3 y4 y5 y6 y7
      have CL : ∀ q : Bk wr,Calls Tryz.prog 20 #[rwV Bk9 (rowN m.rows j),rwV Ak (rowN m.rows j)] q.w fun e w' => e = .returned (.bool true) ∧ Below q.w.heap.size q.w w' := fun q => (likeRw_any Bk9 Ak (rowN m.rows j) q.w (hrx.below q.h).rws (hrs.below q.h).rws).mono (fun e w' h => ⟨h.1,h.2.1⟩)
      unfold rwV rwC at CL
      rw [ea] at c2
      rw [eb] at e2
      clear ea eb
      have pc0 := T c0
      have pc1 := T c1
      have pc2 := T c2
      have pc3 := T c3
      have pc4 := T c4
      have pe0 := T e0
      have pe1 := T e1
      have pe2 := T e2
      have pe3 := T e3
      have pe4 := T e4
      have pd0 := T d0
      have pd1 := T d1
      have pd2 := T d2
      have pd3 := T d3
      have pd4 := T d4
      have pd5 := T d5
      have pd6 := T d6
      have pd7 := T d7
      have py0 := T y0
      have py1 := T y1
      have py2 := T y2
      have py3 := T y3
      have py4 := T y4
      have py5 := T y5
      have py6 := T y6
      have py7 := T y7
      clear hM hX hb T e0 e1 e2 e3 e4 d0 d1 d2 d3 d4 d5 d6 d7 y0 y1 y2 y3 y4 y5 y6 y7 hrs hrx hji hjm hjx
      go_wp2_with fail
      refine wp_region_bk (by kernel_rfl) (by kernel_rfl) ?_
      repeat (go_big_quiet_step ((first | (go_at_call 20;exact bk_call _ (CL _)) | rfl)))
      refine wpQuiet_nil ?_
      intro wE hw'
      obtain ⟨⟨w11,hb11⟩,hw''⟩ := hw'
      have hwe : wE = w11 := hw''
      clear hw''
      subst hwe
      have HB2 : Hid (Below V8.heap.size V8 wE) := HBr.out.trans (hb11.mono HBr.out.size)
      clear pc0 pc1 pc2 pc3 pc4 pe0 pe1 pe2 pe3 pe4 pd0 pd1 pd2 pd3 pd4 pd5 pd6 pd7 py0 py1 py2 py3 py4 py5 py6 py7 c0 c1 c2 c3 c4 hb11 gj gl CL i0 i1 i2
      go_wp2
      go_roundw
      case rel => exact ⟨j + 1,by omega,by go_num,HB2.out⟩
      case measure => simp [intOf];omega
    ·have k1 : ¬ ((j : Int) < (n' : Int)) := by omega
     have hR := rises17_any B.sa B.sc x.sung wr hX.mbs.sung (by have := Tok.sl;omega) Tok.ris
     have HB9 : Hid (Below w.heap.size w wr) := HB8.out.trans (hb.mono HB8.out.size)
     clear hM hX hb T
     go_wp2_with fail
     refine hR.mono ?_
     rintro e V9 ⟨rfl,hb9⟩
     have HE : Hid (Below w.heap.size w V9) := HB9.out.trans (hb9.mono HB9.out.size)
     clear hR hb9 c0 c1 c2 c3 c4 e0 e1 e2 e3 e4 k1
     go_wp2
     go_ret
     exact ⟨rfl,HE.out⟩
end Go.Proofs.YtidnfdobljihoaaGreat
namespace Go.Proofs.YtidnfdobljihoaaGreat
set_option linter.unusedSimpArgs false
set_option linter.unusedVariables false
open Go.RowKit
theorem IsRow.bvec {w : World} {a : Option Addr} {len cap : Nat} {zs : List Int} (h : IsRow .u8 w a len cap zs) : BVec w a len (fun i => zs.getD i 0) := by
 rcases h with ⟨rfl,rfl,rfl,rfl⟩ | ⟨x,rfl,hl,hm,hz,hcell,hwz⟩
 ·exact ⟨fun i hi => absurd hi (Nat.not_lt_zero _),.inl rfl⟩
 ·refine ⟨fun i hi => ?_, ?_⟩
  ·have := bounds_u8 (hwz (zs.getD i 0) (by
    have hi' : i < zs.length := by omega
    simp [hi']))
   omega
  ·by_cases h0 : len = 0
   ·exact .inl h0
   ·obtain ⟨b,off,spot⟩ := x
    have hc := hcell 0 (by omega)
    have hspot : spot = none := by simpa [Addr.add] using World.cell?_spot hc
    subst hspot
    refine .inr ⟨b,off,rfl,fun i hi => ?_⟩
    have := hcell i (by omega)
    by_cases hi0 : i = 0
    ·subst hi0;simpa [Addr.add] using this
    ·simpa [Addr.add,hi0] using this
end Go.Proofs.YtidnfdobljihoaaGreat
namespace Go.Proofs.YtidnfdobljihoaaGreat
set_option linter.unusedVariables false
set_option linter.unusedSimpArgs false
open Go.RowKit Go.Sort
set_option maxHeartbeats 400000 in
theorem nan1_any (x : Int) (w : World) : Calls Tryz.prog 203 #[.int .i64 x] w fun e w' => e = .returned (.bool false) ∧ w' = w := by
 go_enter Tryz.func203,Tryz.ntmps203
 go_wp2
 go_ret
 exact ⟨by simp,rfl⟩
set_option maxHeartbeats 400000 in
theorem nan2_any (x : Int) (w : World) : Calls Tryz.prog 195 #[.int .i64 x] w fun e w' => e = .returned (.bool false) ∧ w' = w := by
 go_enter Tryz.func195,Tryz.ntmps195
 go_wp2
 go_ret
 exact ⟨by simp,rfl⟩
set_option maxHeartbeats 400000 in
theorem less_any (x y : Int) (w : World) : Calls Tryz.prog 194 #[.int .i64 x,.int .i64 y] w fun e w' => e = .returned (.bool (decide (x < y))) ∧ w' = w := by
 go_enter Tryz.func194,Tryz.ntmps194
 go_wp2_with (go_at_call 203;refine (nan1_any _ _).mono ?_;rintro e w' ⟨rfl,rfl⟩)
 go_ret
 exact ⟨rfl,rfl⟩
theorem put_at : ∀ {zs : List Int} {k : Nat} {x : Int},k ≤ zs.length → (∀ j,j < k → el zs j < x) → (∀ j,k ≤ j → j < zs.length → x < el zs j) → zs.take k ++ x :: zs.drop k = putL zs x
 | [],0,x,_,_,_ => rfl
 | [],k + 1,x,h,_,_ => by simp at h
 | z :: zs,0,x,_,_,h2 => by
  have := h2 0 (Nat.le_refl _) (by simp)
  simp only [el,List.getD_cons_zero] at this
  rw [putL,if_neg (by omega),if_neg (by omega)]
  rfl
 | z :: zs,k + 1,x,h,h1,h2 => by
  have e := h1 0 (by omega)
  simp only [el,List.getD_cons_zero] at e
  rw [putL,if_pos e,← put_at (zs := zs) (k := k) (x := x) (by simpa using h) (fun j hj => by have := h1 (j + 1) (by omega);simpa [el] using this) (fun j hj hl => by have := h2 (j + 1) (by omega) (by simpa using hl);simpa [el] using this)]
  rfl
set_option maxHeartbeats 4000000 in
set_option maxRecDepth 1000000 in
theorem bs_any (a : Option Addr) (cap : Nat) (zs : List Int) (x : Int) (w : World) (hv : Vec w a zs.length zs) (hm : zs.length ≤ 1000) (hs : zs.Pairwise (· < ·)) :
  Calls Tryz.prog 175 #[.slice a zs.length cap,.int .i64 x] w fun e w' => ∃ k : Nat,k ≤ zs.length ∧ e = .returned (.tuple #[.int .i64 (k : Int),.bool (decide (x ∈ zs))]) ∧ w' = w ∧ (x ∉ zs → zs.take k ++ x :: zs.drop k = putL zs x) := by
 have S : Hid (∀ a b,a < b → b < zs.length → el zs a < el zs b) := fun a b hab hb => by
  have := List.pairwise_iff_getElem.1 hs a b (by omega) hb hab
  simpa [el,hb,show a < zs.length by omega] using this
 have hc := hv.2.2
 clear hs hv
 have HP : Hid (∀ k,k ≤ zs.length → (∀ t,t < k → el zs t < x) → (∀ t,k ≤ t → t < zs.length → x ≤ el zs t) → (x ∉ zs → zs.take k ++ x :: zs.drop k = putL zs x) ∧ (k < zs.length → el zs k = x → x ∈ zs) ∧ ((k < zs.length → el zs k ≠ x) → x ∉ zs)) := fun k hk h1 h2 => by
  refine ⟨fun hx => put_at hk h1 (fun j hj hl => ?_),fun hk' e => ?_,fun hne hx => ?_⟩
  ·have := h2 j hj hl
   have hne : el zs j ≠ x := fun e => hx (e ▸ el_mem hl)
   omega
  ·exact e ▸ el_mem hk'
  ·obtain ⟨j,hj,e⟩ := List.mem_iff_getElem.1 hx
   have ej : el zs j = x := by simpa [el,hj] using e
   rcases Nat.lt_or_ge j k with h | h
   ·have := h1 j h;omega
   ·rcases Nat.eq_or_lt_of_le h with h | h
    ·subst h;exact hne hj ej
    ·have a1 := S.out k j h hj
     have a2 := h2 k (Nat.le_refl _) (by omega)
     omega
 have HT : Hid ((x ∈ zs → decide (x ∈ zs) = true) ∧ (x ∉ zs → decide (x ∈ zs) = false)) := ⟨decide_eq_true,decide_eq_false⟩
 generalize decide (x ∈ zs) = D at *
 go_enter Tryz.func175,Tryz.ntmps175
 go_wp2
 go_loopg [7,8] zs.length (fun g s7 s8 wr => ∃ lo hi : Nat,s7 = .int .i64 (lo : Int) ∧ s8 = .int .i64 (hi : Int) ∧ lo ≤ hi ∧ hi ≤ zs.length ∧ hi - lo ≤ g ∧ wr = w ∧ (∀ t,t < lo → el zs t < x) ∧ (∀ t,hi ≤ t → t < zs.length → x ≤ el zs t))
 case atStart => exact ⟨0,zs.length,rfl,rfl,Nat.zero_le _,Nat.le_refl _,by omega,rfl,fun t ht => absurd ht (Nat.not_lt_zero _),fun t h1 h2 => by omega⟩
 case round =>
  obtain ⟨lo,hi,rfl,rfl,hlh,hin,hg,rfl,h1,h2⟩ := hrel
  have I : Hid ((∀ t,t < lo → el zs t < x) ∧ (∀ t,hi ≤ t → t < zs.length → x ≤ el zs t)) := ⟨h1,h2⟩
  clear h1 h2
  by_cases hlt : lo < hi
  ·rcases hc with h0 | ⟨b,off,rfl,hc⟩
   ·omega
   have cm := hc ((lo + hi) / 2) (by omega)
   clear hc
   generalize hy : el zs ((lo + hi) / 2) = y at cm
   have Y : Hid (el zs ((lo + hi) / 2) = y) := hy
   clear hy
   by_cases hyx : y < x
   ·go_wp2_with (first | (go_at_call 194;refine (less_any _ _ _).mono ?_;rintro e w' ⟨rfl,rfl⟩) | (go_at_call 195;refine (nan2_any _ _).mono ?_;rintro e w' ⟨rfl,rfl⟩))
    go_roundg (hi - ((lo + hi) / 2 + 1))
    case measure => omega
    case rel =>
     refine ⟨(lo + hi) / 2 + 1,hi,by rw [show ((lo : Int) + (hi : Int)) / 2 + 1 = (((lo + hi) / 2 + 1 : Nat) : Int) by omega],rfl,by omega,hin,Nat.le_refl _,rfl,fun t ht => ?_,I.out.2⟩
     rcases Nat.lt_or_ge t ((lo + hi) / 2) with h | h
     ·have := S.out t ((lo + hi) / 2) h (by omega)
      rw [Y.out] at this
      omega
     ·rw [show t = (lo + hi) / 2 by omega,Y.out];exact hyx
   ·go_wp2_with (first | (go_at_call 194;refine (less_any _ _ _).mono ?_;rintro e w' ⟨rfl,rfl⟩) | (go_at_call 195;refine (nan2_any _ _).mono ?_;rintro e w' ⟨rfl,rfl⟩))
    go_roundg ((lo + hi) / 2 - lo)
    case measure => omega
    case rel =>
     refine ⟨lo,(lo + hi) / 2,rfl,by rw [show ((lo : Int) + (hi : Int)) / 2 = (((lo + hi) / 2 : Nat) : Int) by omega],by omega,by omega,Nat.le_refl _,rfl,I.out.1,fun t ht htn => ?_⟩
     rcases Nat.eq_or_lt_of_le ht with h | h
     ·rw [← h,Y.out];omega
     ·have := S.out ((lo + hi) / 2) t h htn
      rw [Y.out] at this
      omega
  ·have : hi = lo := by omega
   subst this
   obtain ⟨p1,p2,p3⟩ := HP.out hi hin I.out.1 I.out.2
   have E1 : Hid (x ∉ zs → zs.take hi ++ x :: zs.drop hi = putL zs x) := p1
   by_cases hn : hi < zs.length
   ·rcases hc with h0 | ⟨b,off,rfl,hc⟩
    ·omega
    have cl := hc hi hn
    by_cases hyx : el zs hi = x
    ·have E2 : Hid (D = true) := HT.out.1 (p2 hn hyx)
     rw [hyx] at cl
     clear hc hyx p1 p2 p3
     go_wp2_with (first | (go_at_call 194;refine (less_any _ _ _).mono ?_;rintro e w' ⟨rfl,rfl⟩) | (go_at_call 195;refine (nan2_any _ _).mono ?_;rintro e w' ⟨rfl,rfl⟩))
     go_ret2
     exact ⟨hi,hin,by rw [E2.out];first | rfl | simp,rfl,E1.out⟩
    ·have E2 : Hid (D = false) := HT.out.2 (p3 (fun _ => hyx))
     have hyx' : ((el zs hi) == x) = false := by simpa using hyx
     clear hc p1 p2 p3
     generalize el zs hi = y at *
     go_wp2_with (first | (go_at_call 194;refine (less_any _ _ _).mono ?_;rintro e w' ⟨rfl,rfl⟩) | (go_at_call 195;refine (nan2_any _ _).mono ?_;rintro e w' ⟨rfl,rfl⟩))
     go_ret2
     exact ⟨hi,hin,by rw [E2.out];first | rfl | simp [hyx],rfl,E1.out⟩
   ·have E2 : Hid (D = false) := HT.out.2 (p3 (fun h => absurd h hn))
    clear hc p1 p2 p3
    go_wp2_with (first | (go_at_call 194;refine (less_any _ _ _).mono ?_;rintro e w' ⟨rfl,rfl⟩) | (go_at_call 195;refine (nan2_any _ _).mono ?_;rintro e w' ⟨rfl,rfl⟩))
    go_ret2
    exact ⟨hi,hin,by rw [E2.out];first | rfl | simp,rfl,E1.out⟩
end Go.Proofs.YtidnfdobljihoaaGreat
namespace Go.Proofs.YtidnfdobljihoaaGreat
set_option linter.unusedVariables false
set_option linter.unusedSimpArgs false
open Go.RowKit Go.Sort
theorem wp_copy17 {P : Program} (w : World) {o : Oper} {a : Act} {K : Act → World → Prop} {Q : Exit → Act → World → Prop} (d s : Operand) (t t' : TypeId)
  (ho : o.op = .call { callee := .builtin .copy,args := #[d,s],argTypes := #[t,t'] }) (v u : Value) (hd : a.eval d = v) (hs : a.eval s = u) {v' : Value} {w' : World}
  (hr : (Builtin.copy_ #[t,t'] o.type #[v,u]).run P w = .ok v' w') (h : K (a.put o.dst v') w') : o.wp P a w K Q := by
 unfold Oper.wp execOp
 simp only [ho,resolve,invoke,builtin,Sem.run_bind,Sem.run_pure,Result.andThen_ok,List.map_toArray,List.map_cons,List.map_nil,hd,hs,hr]
 exact h
theorem wpList_copy17 {P : Program} (w : World) {ops : Array Oper} {rest : List Oper} {o : Oper} {a : Act} {Q : Exit → Act → World → Prop} (hgd : o.guard = none) (d s : Operand) (t t' : TypeId)
  (ho : o.op = .call { callee := .builtin .copy,args := #[d,s],argTypes := #[t,t'] }) (v u : Value) (hd : a.eval d = v) (hs : a.eval s = u) {v' : Value} {w' : World}
  (hr : (Builtin.copy_ #[t,t'] o.type #[v,u]).run P w = .ok v' w') (h : wpList P ops Q rest (a.put o.dst v') w') : wpList P ops Q (o :: rest) a w :=
 wpList_plain hgd fun _ hK => wp_copy17 w d s t t' ho v u hd hs hr (hK _ _ h)
theorem step_copy17 {P : Program} {ops : Array Oper} {o : Oper} {a : Act} {w : World} {K : Act → World → Prop} {Q : Exit → Act → World → Prop} {E : Prop}
  (hg : o.guard = none) (d x : Operand) (dT sT : TypeId) (hop : o.op = Op.call { callee := Callee.builtin Builtin.copy,args := #[d,x],argTypes := #[dT,sT] })
  (v u : Value) (hd : a.eval d = v) (hx : a.eval x = u) {v' : Value} {w' : World} (hr : (Builtin.copy_ #[dT,sT] o.type #[v,u]).run P w = .ok v' w') (hK : K (a.put o.dst v') w') :
  if Region.wanted o (yielded ops a.tmps) = true then Oper.wp P o a w K Q else E := by
 have hw : Region.wanted o (yielded ops a.tmps) = true := by simp [Region.wanted,hg]
 rw [if_pos hw]
 unfold Oper.wp
 simp [execOp,hop,resolve,invoke,builtin,hd,hx,hr,Result.andThen]
 exact hK
theorem some_set17 (b : Nat) (vs : List Value) (o : Nat) (w : World) (h : ∀ j,j < vs.length → (w.cell? ⟨b,o + j,none⟩).isSome = true) (k : Nat) (hk : (w.cell? ⟨b,k,none⟩).isSome = true) : ((w.setCells b o vs).cell? ⟨b,k,none⟩).isSome = true := by
 by_cases hin : o ≤ k ∧ k < o + vs.length
 ·have := World.cell?_setCells_in b vs o w h (k - o) (by omega)
  rw [show o + (k - o) = k by omega] at this
  rw [this];rfl
 ·rw [World.cell?_setCells_out b vs o w ⟨b,k,none⟩ (fun _ _ => by show k < o ∨ o + vs.length ≤ k;omega)]
  exact hk
theorem ins_get {α : Type} (cs : List α) (k : Nat) (x : α) (hk : k ≤ cs.length) (j : Nat) : (cs.take k ++ x :: cs.drop k)[j]? = if j < k then cs[j]? else if j = k then some x else cs[j - 1]? := by
 have hl : (cs.take k).length = k := by rw [List.length_take];omega
 by_cases h1 : j < k
 ·rw [if_pos h1,List.getElem?_append_left (by omega),List.getElem?_take,if_pos h1]
 ·rw [if_neg h1,List.getElem?_append_right (by omega),hl]
  by_cases h2 : j = k
  ·rw [if_pos h2,h2,Nat.sub_self];rfl
  ·rw [if_neg h2,show j - k = (j - k - 1) + 1 by omega,List.getElem?_cons_succ,List.getElem?_drop]
   congr 1
   omega
theorem ins_down (W : World) (N o k c : Nat) (cs : List Value) (x : Value) (hk : k ≤ cs.length) (h0 : ∀ j,j < k → W.cell? ⟨N,o + j,none⟩ = cs[j]?) (hs : ∀ j,j < c → (W.cell? ⟨N,o + j,none⟩).isSome = true) (hc : cs.length + 1 ≤ c) :
  (∀ j,j < cs.length + 1 → ((W.setCells N (o + (k + 1)) (cs.drop k)).setCells N (o + k) [x]).cell? ⟨N,o + j,none⟩ = (cs.take k ++ x :: cs.drop k)[j]?) ∧ ∀ j,j < c → (((W.setCells N (o + (k + 1)) (cs.drop k)).setCells N (o + k) [x]).cell? ⟨N,o + j,none⟩).isSome = true := by
 have hd : (cs.drop k).length = cs.length - k := List.length_drop
 have s1 : ∀ j,j < (cs.drop k).length → (W.cell? ⟨N,o + (k + 1) + j,none⟩).isSome = true := fun j hj => by rw [Nat.add_assoc];exact hs _ (by omega)
 have s2 : ∀ j,j < c → ((W.setCells N (o + (k + 1)) (cs.drop k)).cell? ⟨N,o + j,none⟩).isSome = true := fun j hj => some_set17 N _ _ W s1 _ (hs j hj)
 have s3 : ∀ j,j < [x].length → ((W.setCells N (o + (k + 1)) (cs.drop k)).cell? ⟨N,o + k + j,none⟩).isSome = true := fun j hj => by rw [Nat.add_assoc];exact s2 _ (by simp at hj;omega)
 refine ⟨fun j hj => ?_,fun j hj => some_set17 N _ _ _ s3 _ (s2 j hj)⟩
 rw [ins_get cs k x hk j]
 by_cases h2 : j = k
 ·subst h2
  rw [if_neg (by omega),if_pos rfl]
  have := World.cell?_setCells_in N [x] (o + j) _ s3 0 (by simp)
  exact this
 ·rw [World.cell?_setCells_out N [x] (o + k) _ ⟨N,o + j,none⟩ (fun _ _ => by show o + j < o + k ∨ o + k + [x].length ≤ o + j;simp;omega),if_neg h2]
  by_cases h1 : j < k
  ·rw [if_pos h1,World.cell?_setCells_out N _ _ W ⟨N,o + j,none⟩ (fun _ _ => by show o + j < o + (k + 1) ∨ _;omega)]
   exact h0 j h1
  ·rw [if_neg h1]
   have := World.cell?_setCells_in N (cs.drop k) (o + (k + 1)) W s1 (j - (k + 1)) (by omega)
   rw [show o + (k + 1) + (j - (k + 1)) = o + j by omega] at this
   rw [this,List.getElem_drop,List.getElem?_eq_getElem (by omega)]
   congr 2
   omega
theorem ins_up (W : World) (N o k c : Nat) (cs : List Value) (x : Value) (hk : k ≤ cs.length) (h0 : ∀ j,j < k → W.cell? ⟨N,o + j,none⟩ = cs[j]?) (hs : ∀ j,j < c → (W.cell? ⟨N,o + j,none⟩).isSome = true) (hc : cs.length + 1 ≤ c) :
  (∀ j,j < cs.length + 1 → ((W.setCells N (o + k) [x]).setCells N (o + (k + 1)) (cs.drop k)).cell? ⟨N,o + j,none⟩ = (cs.take k ++ x :: cs.drop k)[j]?) ∧ ∀ j,j < c → (((W.setCells N (o + k) [x]).setCells N (o + (k + 1)) (cs.drop k)).cell? ⟨N,o + j,none⟩).isSome = true := by
 have hd : (cs.drop k).length = cs.length - k := List.length_drop
 have s3 : ∀ j,j < [x].length → (W.cell? ⟨N,o + k + j,none⟩).isSome = true := fun j hj => by rw [Nat.add_assoc];exact hs _ (by simp at hj;omega)
 have s2 : ∀ j,j < c → ((W.setCells N (o + k) [x]).cell? ⟨N,o + j,none⟩).isSome = true := fun j hj => some_set17 N _ _ W s3 _ (hs j hj)
 have s1 : ∀ j,j < (cs.drop k).length → ((W.setCells N (o + k) [x]).cell? ⟨N,o + (k + 1) + j,none⟩).isSome = true := fun j hj => by rw [Nat.add_assoc];exact s2 _ (by omega)
 refine ⟨fun j hj => ?_,fun j hj => some_set17 N _ _ _ s1 _ (s2 j hj)⟩
 rw [ins_get cs k x hk j]
 by_cases h1 : j < k + 1
 ·rw [World.cell?_setCells_out N _ _ (W.setCells N (o + k) [x]) ⟨N,o + j,none⟩ (fun _ _ => by show o + j < o + (k + 1) ∨ _;omega)]
  by_cases h2 : j = k
  ·subst h2
   rw [if_neg (by omega),if_pos rfl]
   exact World.cell?_setCells_in N [x] (o + j) W s3 0 (by simp)
  ·rw [if_pos (by omega),World.cell?_setCells_out N [x] (o + k) W ⟨N,o + j,none⟩ (fun _ _ => by show o + j < o + k ∨ _;omega)]
   exact h0 j (by omega)
 ·rw [if_neg (by omega),if_neg (by omega)]
  have := World.cell?_setCells_in N (cs.drop k) (o + (k + 1)) (W.setCells N (o + k) [x]) s1 (j - (k + 1)) (by omega)
  rw [show o + (k + 1) + (j - (k + 1)) = o + j by omega] at this
  rw [this,List.getElem_drop,List.getElem?_eq_getElem (by omega)]
  congr 2
  omega
set_option maxHeartbeats 1600000 in
set_option maxRecDepth 100000 in
theorem insS_any (b off n c i vb : Nat) (cs : List Value) (x : Int) (w : World) (hi : i < n) (hroom : n + 1 ≤ c) (hc63 : c ≤ 9223372036854775807) (hvb : vb ≠ b) (hcl : cs.length = n)
  (hcs : ∀ j v,cs[j]? = some v → w.cell? ⟨b,off + j,none⟩ = some v) (hsp : ∀ j,j < n + 1 → (w.cell? ⟨b,off + j,none⟩).isSome = true) (hfz : ∀ j,j < n + 1 → w.frozen? ⟨b,off + j,none⟩ = false)
  (hvs : w.cell? ⟨vb,0,none⟩ = some (.int .i64 x)) (h1c : ∀ v ∈ cs,v.oneCell' = true) (tA tB : TypeId) (kA kB : Nat) (hsa : w.shape? vb = some (tA,kA)) (hsb : w.shape? b = some (tB,kB)) (hkB : kB ≠ 0) (hfa : w.frozen? ⟨vb,0,none⟩ = false) (hfe : w.frozen? ⟨vb,kA,none⟩ = false) :
  Calls Tryz.prog 176 #[.slice (some ⟨b,off,none⟩) n c,.int .i64 (i : Int),.slice (some ⟨vb,0,none⟩) 1 1] w fun e w' =>
   e = .returned (.slice (some ⟨b,off,none⟩) (n + 1) c) ∧ w' = (w.drew.setCells b (off + (i + 1)) (cs.drop i)).setCells b (off + i) [.int .i64 x] := by
 have mixed := mixed17
 have hz2 : ¬ ((i : Int) = (n : Int)) := by omega
 obtain ⟨i0,hi0,hz0,hz1,hzb⟩ := info_parts2n Tryz.info2n
 have hsz : (Tryz.prog.info? 2).map (·.size) = some 1 := by rw [hi0];simp [hz1]
 have hov : ∀ lb cb,(callFunc 196 #[.slice (some ⟨vb,0,none⟩) 1 1,.slice (some ⟨b,off + (i + 1),none⟩) lb cb]).run Tryz.prog w = .ok (.value (.bool false)) w := fun lb cb => by
  rw [run_callFunc_extern Tryz.func196 (by kernel_rfl) (by kernel_rfl) (by kernel_rfl) (e := Extern.SlicesOverlaps.overlaps #[25,25] #[4]) (by kernel_rfl),
   Lib.run_overlaps_apart w 25 4 2 Tryz.underlying25 1 Tryz.sizeOf2 ⟨vb,0,none⟩ ⟨b,off + (i + 1),none⟩ 1 1 lb cb hvb tA tB kA kB hsa hsb hkB hfa hfe]
  rfl
 have hdl : (cs.drop i).length = n - i := by rw [List.length_drop,hcl]
 have hw1 : IntKind.i64.wrap ((i : Int) + 1) = (i : Int) + 1 := by rw [IntKind.wrap_i64];omega
 have hb1 : (0 : Int) ≤ (i : Int) + 1 := by omega
 have hin : i ≤ n := by omega
 have htn : ((i : Int) + 1).toNat = i + 1 := by omega
 have hb2 : ¬ (c = i + 1) := by omega
 have hb3 : (i : Int) ≤ (n : Int) + 1 := by omega
 have hb4 : ¬ (c = i) := by omega
 have hcp1 : ∀ dl sl ty dc sc,dl = n - i → sl = n + 1 - i → (Builtin.copy_ #[25,25] ty #[.slice (some ⟨b,off + (i + 1),none⟩) dl dc,.slice (some ⟨b,off + i,none⟩) sl sc]).run Tryz.prog w.drew = .ok (goInt (cs.drop i).length) (w.drew.setCells b (off + (i + 1)) (cs.drop i)) := fun dl sl ty dc sc e1 e2 =>
  run_copy_cells w.drew _ _ ty 2 b (off + (i + 1)) dl dc ⟨b,off + i,none⟩ sl sc (cs.drop i) Tryz.underlying25 hsz (by rw [hdl];simp only [Nat.min_def];split <;> omega)
   (fun j v hj => by rw [Addr.add_lit,Nat.add_assoc];exact hcs (i + j) v (by rwa [List.getElem?_drop] at hj))
   (fun j hj => by rw [Nat.add_assoc];exact hsp _ (by omega)) (fun j hj => by rw [Nat.add_assoc];exact hfz _ (by omega)) (fun v hv => h1c v (List.mem_of_mem_drop hv))
 obtain ⟨W1,hW1⟩ : ∃ W1,W1 = w.drew.setCells b (off + (i + 1)) (cs.drop i) := ⟨_,rfl⟩
 have hsp1 : ∀ k,k < n + 1 → (W1.cell? ⟨b,off + k,none⟩).isSome = true := fun k hk => by
  rw [hW1]
  exact some_set17 b _ _ _ (fun j hj => by rw [Nat.add_assoc];exact hsp _ (by omega)) _ (hsp k hk)
 have hcp2 : ∀ (W : World),(∀ x,W.cell? x = W1.cell? x) → (∀ x,W.frozen? x = W1.frozen? x) → ∀ dl ty dc,dl = n + 1 - i → (Builtin.copy_ #[25,25] ty #[.slice (some ⟨b,off + i,none⟩) dl dc,.slice (some ⟨vb,0,none⟩) 1 1]).run Tryz.prog W = .ok (goInt [Value.int .i64 x].length) (W.setCells b (off + i) [.int .i64 x]) := fun W hWc hWf dl ty dc e1 =>
  run_copy_cells W _ _ ty 2 b (off + i) dl dc ⟨vb,0,none⟩ 1 1 [.int .i64 x] Tryz.underlying25 hsz (by simp only [Nat.min_def,List.length_cons,List.length_nil];split <;> omega)
   (fun j v hj => by
    rw [Addr.add_lit,hWc,hW1,World.cell?_setCells_out b _ _ _ _ (fun h _ => absurd h hvb)]
    match j,hj with
    | 0,hj => simp at hj;rw [← hj];exact hvs)
   (fun j hj => by rw [hWc,Nat.add_assoc];exact hsp1 _ (by simp at hj;omega)) (fun j hj => by rw [hWf,hW1,World.frozen?_setCells,Nat.add_assoc];exact hfz _ (by simp at hj;omega)) (by intro v hv;simp at hv;rw [hv];rfl)
 rw [← hW1] at hcp1
 clear hcs hsp hfz hvs h1c hsp1 hsa hsb hkB hfa hfe hi0 hz0 hz1 hzb hsz
 go_enter Tryz.func176,Tryz.ntmps176
 go_wp2_with (simp only [hov])
 go_region_law_o (refine step_copy17 rfl _ _ 25 25 rfl _ _ (by simp [Act.eval,Act.put]) (by simp [Act.eval,Act.put]) (hcp1 _ _ _ _ _ (by omega) (by omega)) ?_)
 go_wp2_with (at_builtin;refine wpList_copy17 _ rfl _ _ 25 25 rfl _ _ rfl rfl (hcp2 _ (fun _ => rfl) (fun _ => rfl) _ _ _ (by omega)) ?_)
 go_ret
 first | exact ⟨rfl,rfl⟩ | exact ⟨rfl,by rw [hW1]⟩
end Go.Proofs.YtidnfdobljihoaaGreat
namespace Go.Proofs.YtidnfdobljihoaaGreat
set_option linter.unusedVariables false
set_option linter.unusedSimpArgs false
open Go.RowKit Go.Sort
set_option maxHeartbeats 1600000 in
set_option maxRecDepth 100000 in
theorem insG_any (b off n c i vb : Nat) (cs : List Value) (x : Int) (w : World) (hi : i < n) (hnc : n ≤ c) (hroom : c < n + 1) (hbig : (n + 1) * 8 ≤ 140737488355328) (hcl : cs.length = n)
  (hcs : ∀ j v,cs[j]? = some v → w.cell? ⟨b,off + j,none⟩ = some v) (hvs : w.cell? ⟨vb,0,none⟩ = some (.int .i64 x)) (h1c : ∀ v ∈ cs,v.oneCell' = true) :
  Calls Tryz.prog 176 #[.slice (some ⟨b,off,none⟩) n c,.int .i64 (i : Int),.slice (some ⟨vb,0,none⟩) 1 1] w fun e w' =>
   e = .returned (.slice (some ⟨w.heap.size,0,none⟩) (n + 1) (grownCap w (n + 1) c 2)) ∧
   w' = (((w.alloc (.cells ((cs.take i).toArray ++ Builtin.zeroCells (Value.int .i64 0).cells (n + 1 - i) ++ Builtin.zeroCells (Value.int .i64 0).cells (grownCap w (n + 1) c 2 - (n + 1))) 2)).drew.setCells w.heap.size i [.int .i64 x]).drew).setCells w.heap.size (i + 1) (cs.drop i) := by
 have mixed := mixed17
 obtain ⟨i0,hi0,hz0,hzs,hzb⟩ := info_parts2n Tryz.info2n
 have hz2 : ¬ ((i : Int) = (n : Int)) := by omega
 have hz3 : (c : Int) < (n : Int) + 1 := by omega
 have hsz : (Tryz.prog.info? 2).map (·.size) = some 1 := by rw [hi0];simp [hzs]
 have hbw : b < w.heap.size := World.block_lt_of_cell? _ _ (hcs 0 _ (List.getElem?_eq_getElem (by omega)))
 have hvw : vb < w.heap.size := World.block_lt_of_cell? _ _ hvs
 have hkk : (n : Int) + 1 - (i : Int) = ((n + 1 - i : Nat) : Int) := by omega
 have hik : i + (n + 1 - i) = n + 1 := by omega
 have hold : (Builtin.firstCells i0.size i (.slice (some ⟨b,off,none⟩) i c)).run Tryz.prog w.drew = .ok (cs.take i).toArray w.drew := by
  rw [hzs]
  exact run_firstCells_some w.drew 1 i ⟨b,off,none⟩ i c (cs.take i) (by rw [List.length_take];omega) (fun j v hj => by
   rw [Addr.add_lit]
   rw [List.getElem?_take] at hj
   split at hj
   ·exact hcs j v hj
   ·cases hj)
 have hrz : ∀ ty,(Builtin.append_ #[25,3] ty #[.slice (some ⟨b,off,none⟩) i c,.int .i64 ((n : Int) + 1 - (i : Int))]).run Tryz.prog w =
   .ok (.slice (some ⟨w.heap.size,0,none⟩) (n + 1) (grownCap w (n + 1) c 2)) (w.drew.alloc (.cells ((cs.take i).toArray ++ Builtin.zeroCells (Value.int .i64 0).cells (n + 1 - i) ++ Builtin.zeroCells (Value.int .i64 0).cells (grownCap w (n + 1) c 2 - (n + 1))) 2)) := fun ty => by
  have h := Lib.run_append_grow_zeros w 25 3 ty 2 i0 _ .i64 .i64 Tryz.underlying25 Tryz.underlying3 hi0 hz0 (some ⟨b,off,none⟩) i c (cs.take i) hold (n + 1 - i) (by omega) (by omega) (by omega) (by omega) (by rw [hzb];omega) (by rw [hzb,hik];exact growslice_fits hroom hbig)
  rw [hik] at h
  rw [hkk]
  exact h
 obtain ⟨G,hG⟩ : ∃ G,G = grownCap w (n + 1) c 2 := ⟨_,rfl⟩
 obtain ⟨ROW,hROW⟩ : ∃ ROW : Array Value,ROW = (cs.take i).toArray ++ Builtin.zeroCells (Value.int .i64 0).cells (n + 1 - i) ++ Builtin.zeroCells (Value.int .i64 0).cells (G - (n + 1)) := ⟨_,rfl⟩
 rw [← hG] at hrz ⊢
 rw [← hROW] at hrz ⊢
 have hRl : n + 1 ≤ ROW.size := by
  rw [hROW]
  simp [Builtin.zeroCells,Value.cells]
  omega
 obtain ⟨W1,hW1⟩ : ∃ W1,W1 = w.drew.alloc (.cells ROW 2) := ⟨_,rfl⟩
 rw [← hW1] at hrz
 have hN : ∀ j,j < n + 1 → (W1.cell? ⟨w.heap.size,j,none⟩).isSome = true := fun j hj => by
  rw [hW1,World.cell?_alloc_at (w := w.drew) ROW _ w.heap.size j rfl,Array.getElem?_eq_getElem (by omega)];rfl
 have hNf : ∀ j,W1.frozen? ⟨w.heap.size,j,none⟩ = false := fun j => by rw [hW1];exact World.frozen?_alloc_at (w := w.drew) ROW _ w.heap.size j rfl
 have hOb : ∀ j v,w.cell? ⟨b,j,none⟩ = some v → W1.cell? ⟨b,j,none⟩ = some v := fun j v h => by rw [hW1,World.cell?_alloc_past (w := w.drew) _ b j hbw];exact h
 have hOv : ∀ j v,w.cell? ⟨vb,j,none⟩ = some v → W1.cell? ⟨vb,j,none⟩ = some v := fun j v h => by rw [hW1,World.cell?_alloc_past (w := w.drew) _ vb j hvw];exact h
 have hcpA : ∀ (W : World),(∀ x,W.cell? x = W1.cell? x) → (∀ x,W.frozen? x = W1.frozen? x) → ∀ dl ty dc,dl = n + 1 - i → (Builtin.copy_ #[25,25] ty #[.slice (some ⟨w.heap.size,i,none⟩) dl dc,.slice (some ⟨vb,0,none⟩) 1 1]).run Tryz.prog W = .ok (goInt [Value.int .i64 x].length) (W.setCells w.heap.size i [.int .i64 x]) := fun W hWc hWf dl ty dc e1 =>
  run_copy_cells W _ _ ty 2 w.heap.size i dl dc ⟨vb,0,none⟩ 1 1 [.int .i64 x] Tryz.underlying25 hsz (by simp only [Nat.min_def,List.length_cons,List.length_nil];split <;> omega)
   (fun j v hj => by
    rw [Addr.add_lit,hWc]
    match j,hj with
    | 0,hj => simp at hj;rw [← hj];exact hOv _ _ hvs)
   (fun j hj => by rw [hWc];exact hN _ (by simp at hj;omega)) (fun j hj => by rw [hWf];exact hNf _) (by intro v hv;simp at hv;rw [hv];rfl)
 have hGn : n + 1 ≤ G := by rw [hG];exact grownCap_ge w _ _ _
 have hG63 : G ≤ 9223372036854775807 := by
  have := grownCap_le_maxLen w (n + 1) c 2 (by unfold maxLen;omega)
  rw [← hG] at this
  unfold maxLen at this
  omega
 have hGi : ¬ (G = i) := by omega
 have hGim : ¬ (G = i + 1) := by omega
 have hci : ¬ (c = i) := by omega
 have hbN : b ≠ w.heap.size := by omega
 have hdl : (cs.drop i).length = n - i := by rw [List.length_drop,hcl]
 have hcpB : ∀ (W : World),(∀ y,W.cell? y = (W1.setCells w.heap.size i [.int .i64 x]).cell? y) → (∀ y,W.frozen? y = (W1.setCells w.heap.size i [.int .i64 x]).frozen? y) → ∀ dl sl ty dc sc,dl = n - i → sl = n - i → (Builtin.copy_ #[25,25] ty #[.slice (some ⟨w.heap.size,i + 1,none⟩) dl dc,.slice (some ⟨b,off + i,none⟩) sl sc]).run Tryz.prog W = .ok (goInt (cs.drop i).length) (W.setCells w.heap.size (i + 1) (cs.drop i)) := fun W hWc hWf dl sl ty dc sc e1 e2 =>
  run_copy_cells W _ _ ty 2 w.heap.size (i + 1) dl dc ⟨b,off + i,none⟩ sl sc (cs.drop i) Tryz.underlying25 hsz (by rw [hdl];simp only [Nat.min_def];split <;> omega)
   (fun j v hj => by
    rw [Addr.add_lit,hWc,World.cell?_setCells_out _ _ _ _ _ (fun h _ => absurd h hbN),Nat.add_assoc]
    exact hOb _ v (hcs (i + j) v (by rwa [List.getElem?_drop] at hj)))
   (fun j hj => by rw [hWc];exact some_set17 _ _ _ _ (fun t ht => hN _ (by simp at ht;omega)) _ (hN _ (by omega)))
   (fun j hj => by rw [hWf,World.frozen?_setCells];exact hNf _) (fun v hv => h1c v (List.mem_of_mem_drop hv))
 subst hW1
 have hE1 : ∀ x,((w.alloc (.cells ROW 2)).drew).cell? x = (w.drew.alloc (.cells ROW 2)).cell? x := fun x => rfl
 have hE2 : ∀ x,((w.alloc (.cells ROW 2)).drew).frozen? x = (w.drew.alloc (.cells ROW 2)).frozen? x := fun x => rfl
 have hF1 : ∀ y,(((w.alloc (.cells ROW 2)).drew.setCells w.heap.size i [.int .i64 x]).drew).cell? y = ((w.drew.alloc (.cells ROW 2)).setCells w.heap.size i [.int .i64 x]).cell? y := fun y => rfl
 have hF2 : ∀ y,(((w.alloc (.cells ROW 2)).drew.setCells w.heap.size i [.int .i64 x]).drew).frozen? y = ((w.drew.alloc (.cells ROW 2)).setCells w.heap.size i [.int .i64 x]).frozen? y := fun y => rfl
 have hw1 : IntKind.i64.wrap ((i : Int) + 1) = (i : Int) + 1 := by rw [IntKind.wrap_i64];omega
 have hb1 : (0 : Int) ≤ (i : Int) + 1 := by omega
 have hin : i ≤ n := by omega
 have htn : ((i : Int) + 1).toNat = i + 1 := by omega
 have hb3 : (i : Int) ≤ (n : Int) := by omega
 clear hkk hik hold hROW hG hRl hcs hvs h1c hN hNf hOb hOv hsz hi0 hz0 hzs hzb
 go_enter Tryz.func176,Tryz.ntmps176
 go_wp2_with (first
  | (at_builtin;refine Lib.wpList_append_run _ rfl _ _ _ _ rfl _ _ rfl rfl _ _ (hrz _) ?_)
  | (at_builtin;refine wpList_copy17 _ rfl _ _ 25 25 rfl _ _ rfl rfl (hcpA _ hE1 hE2 _ _ _ (by omega)) ?_))
 go_region_law_o (refine step_copy17 rfl _ _ 25 25 rfl (.slice (some ⟨w.heap.size,i + 1,none⟩) (n - i) (G - (i + 1))) (.slice (some ⟨b,off + i,none⟩) (n - i) (c - i)) (by simp [Act.eval,Act.put]) (by simp [Act.eval,Act.put]) (hcpB _ hF1 hF2 (n - i) (n - i) 3 (G - (i + 1)) (c - i) rfl rfl) ?_)
 go_wp2
 go_ret
 exact ⟨rfl,rfl⟩
end Go.Proofs.YtidnfdobljihoaaGreat
namespace Go.Proofs.YtidnfdobljihoaaGreat
set_option linter.unusedVariables false
set_option linter.unusedSimpArgs false
open Go.RowKit Go.Sort
theorem shape_of {w : World} {b j : Nat} {v : Value} (h : w.cell? ⟨b,j,none⟩ = some v) : ∃ t k,w.shape? b = some (t,k) ∧ k ≠ 0 := by
 unfold World.cell? at h
 unfold World.shape?
 split at h
 ·rename_i c t fz hb
  refine ⟨t,c.size,by rw [hb],fun e => ?_⟩
  simp only [Option.isSome_none,Bool.false_eq_true,if_false] at h
  rw [Array.getElem?_eq_none (by omega)] at h
  cases h
 ·cases h
theorem map_ins (T : List Int) (k : Nat) (x : Int) : (T.take k ++ x :: T.drop k).map (Value.int .i64) = (T.map (Value.int .i64)).take k ++ .int .i64 x :: (T.map (Value.int .i64)).drop k := by simp [List.map_take,List.map_drop]
theorem len_ins (T : List Int) (k : Nat) (x : Int) (hk : k ≤ T.length) : (T.take k ++ x :: T.drop k).length = T.length + 1 := by simp;omega
theorem drew_set17 (b : Nat) : ∀ (vs : List Value) (o : Nat) (w : World),(w.setCells b o vs).drew = w.drew.setCells b o vs
 | [],_,_ => rfl
 | v :: r,o,w => by rw [World.setCells,World.setCells,drew_set17 b r];rfl
def InsR (w : World) (f : Fp) (n : Nat) (Tx : List Int) (e : Ending) (w' : World) : Prop := ∃ a' c' f',e = .returned (.slice a' (n + 1) c') ∧ Cel.ow w' (icl Tx) (.slice a' (n + 1) c') f' ∧ (∀ b,f' b → f b ∨ w.heap.size ≤ b) ∧ Wrt f w w'
set_option maxHeartbeats 1600000 in
set_option maxRecDepth 100000 in
theorem ins_any (a : Option Addr) (c k : Nat) (T : List Int) (x : Int) (f : Fp) (w : World) (h : Cel.ow w (icl T) (.slice a T.length c) f) (hk : k ≤ T.length) (hm : T.length ≤ 100) :
  Calls Tryz.prog 176 #[.slice a T.length c,.int .i64 (k : Int),.slice (some ⟨w.heap.size,0,none⟩) 1 1] (w.alloc (.cells #[.int .i64 x] 2)) fun e w' => InsR w f T.length (T.take k ++ x :: T.drop k) e w' := by
 have h' := h
 obtain ⟨a1,c1,G,e,ho,hf⟩ := ow_icl.1 h'
 cases e
 have hba := oneA16 w (.cells #[.int .i64 x] 2)
 have hxv := Bx.new w 2 #[.int .i64 x]
 by_cases hkl : k = T.length
 ·obtain ⟨a2,c2,e2,hA⟩ := ow_int_app x h (Nat.le_trans hm (by decide))
  cases e2
  have hle := ho.le
  have hT : T.take k ++ x :: T.drop k = T ++ [x] := by rw [hkl,List.take_length,List.drop_length]
  rw [hT]
  subst hkl
  have hpl := ho.plain
  have hcm : c ≤ 9223372036854775807 := by have := hle.2;unfold maxLen at this;omega
  clear h h' ho hf hxv hba hT
  generalize T ++ [x] = Tx at *
  generalize T.length = n at *
  generalize hWv : w.alloc (.cells #[.int .i64 x] 2) = Wv at *
  cases a with
  | none =>
   go_enter Tryz.func176,Tryz.ntmps176
   go_wp2_with (at_builtin;refine wpList_append_of (by rfl) _ _ _ _ (by rfl) _ _ (by rfl) (by rfl) hA ⟨rfl,rfl,rfl,rfl⟩ ?_;rintro v1 w1 ⟨a1,e1,f1,rfl,q1,q2,q3⟩;have HQ : Hid (Cel.ow w1 (icl Tx) (.slice a1 (n + 1) e1) f1 ∧ (∀ b,f1 b → f b ∨ w.heap.size ≤ b) ∧ Wrt f w w1) := ⟨q1,q2,q3⟩;clear q1 q2 q3 hA)
   go_ret
   exact ⟨a1,e1,f1,rfl,HQ.out⟩
  | some ad =>
   go_enter Tryz.func176,Tryz.ntmps176
   go_wp2_with (at_builtin;refine wpList_append_of (by rfl) _ _ _ _ (by rfl) _ _ (by rfl) (by rfl) hA ⟨rfl,rfl,rfl,rfl⟩ ?_;rintro v1 w1 ⟨a1,e1,f1,rfl,q1,q2,q3⟩;have HQ : Hid (Cel.ow w1 (icl Tx) (.slice a1 (n + 1) e1) f1 ∧ (∀ b,f1 b → f b ∨ w.heap.size ≤ b) ∧ Wrt f w w1) := ⟨q1,q2,q3⟩;clear q1 q2 q3 hA)
   all_goals (go_ret;exact ⟨a1,e1,f1,rfl,HQ.out⟩)
 have hklt : k < T.length := by omega
 rcases ho with ⟨h0,_⟩ | ⟨g,off,rfl,ho,rfl⟩
 ·omega
 have hcl : (T.map (Value.int .i64)).length = T.length := List.length_map _
 have hgl := ho.blk
 have e1 : (w.alloc (.cells #[.int .i64 x] 2)).heap[g]? = w.heap[g]? := hba.block g hgl
 have ho1 : OSl (w.alloc (.cells #[.int .i64 x] 2)) 1 g off T.length c (T.map (Value.int .i64)) := ho.of_block e1 (Nat.lt_of_lt_of_le hgl hba.size)
 have hcs : ∀ j v,(T.map (Value.int .i64))[j]? = some v → (w.alloc (.cells #[.int .i64 x] 2)).cell? ⟨g,off + j,none⟩ = some v := fun j v hj => by
  have hjl : j < T.length := by
   rcases Nat.lt_or_ge j T.length with h | h
   ·exact h
   ·rw [List.getElem?_eq_none (by omega)] at hj;cases hj
  rw [ho1.cell j (by omega)];exact hj
 have h1c : ∀ v ∈ T.map (Value.int .i64),v.oneCell' = true := fun v hv => by
  obtain ⟨y,_,rfl⟩ := List.mem_map.1 hv
  rfl
 have hvs := hxv.at 0 (v := .int .i64 x) rfl
 have hle := ho.le
 have hmx := ho.max
 have hne : w.heap.size ≠ g := by omega
 have hfg : ∀ b,f b ↔ b = g := fun b => (hf b).trans ⟨fun h => by cases h;rfl,fun h => by rw [h]⟩
 have hli := len_ins T k x hk
 by_cases hroom : T.length + 1 ≤ c
 ·obtain ⟨tB,kB,hsb,hkB⟩ := shape_of (hcs 0 _ (List.getElem?_eq_getElem (by omega)))
  have hsa : (w.alloc (.cells #[.int .i64 x] 2)).shape? w.heap.size = some (2,1) := by unfold World.shape?;rw [show (w.alloc (.cells #[.int .i64 x] 2)).heap[w.heap.size]? = _ from hxv];rfl
  refine (insS_any g off T.length c k w.heap.size (T.map (Value.int .i64)) x _ hklt hroom (by unfold maxLen at hmx;omega) hne hcl hcs (fun j hj => ho1.some j (by omega)) (fun j hj => ho1.free j (by omega)) hvs h1c 2 tB 1 kB hsa hsb hkB (hxv.f 0) (hxv.f 1)).mono ?_
  rintro e w' ⟨rfl,rfl⟩
  obtain ⟨k1,k2⟩ := ins_down (w.alloc (.cells #[.int .i64 x] 2)).drew g off k c (T.map (Value.int .i64)) (.int .i64 x) (by omega) (fun j hj => ho1.cell j (by omega)) (fun j hj => ho1.some j (by omega)) (by omega)
  have hW : Wrt (fun b => b = g) (w.alloc (.cells #[.int .i64 x] 2)).drew (((w.alloc (.cells #[.int .i64 x] 2)).drew.setCells g (off + (k + 1)) ((T.map (Value.int .i64)).drop k)).setCells g (off + k) [.int .i64 x]) := (Wrt.setCells g _ _ _).trans (Wrt.setCells g _ _ _) (fun _ _ h => h)
  have hbd : Below w.heap.size w (w.alloc (.cells #[.int .i64 x] 2)).drew := hba.trans ((Same.drewN _ 1).below.mono hba.size)
  refine ⟨some ⟨g,off,none⟩,c,f,rfl, ?_,fun b hb => .inl hb,((Wrt.of_below hbd).trans hW (fun b _ hb => (hfg b).2 hb))⟩
  rw [← hli]
  refine ow_icl.2 ⟨some ⟨g,off,none⟩,c,some g,rfl,.inr ⟨g,off,rfl, ?_,rfl⟩,hf⟩
  rw [hli]
  refine ⟨by rw [List.length_map,hli];omega,hroom,hmx,Nat.lt_of_lt_of_le (Nat.lt_of_lt_of_le hgl hbd.size) hW.size,fun j hj => ?_,fun j hj => k2 j (by omega),fun j hj => ?_⟩
  ·rw [map_ins];exact k1 j (by omega)
  ·rw [frz_setCells,frz_setCells];exact ho1.free j (by omega)
 ·refine (insG_any g off T.length c k w.heap.size (T.map (Value.int .i64)) x _ hklt hle (by omega) (by omega) hcl hcs hvs h1c).mono ?_
  rintro e w' ⟨rfl,rfl⟩
  have hGn : T.length + 1 ≤ grownCap (w.alloc (.cells #[.int .i64 x] 2)) (T.length + 1) c 2 := grownCap_ge _ _ _ _
  have hGm : grownCap (w.alloc (.cells #[.int .i64 x] 2)) (T.length + 1) c 2 ≤ maxLen := grownCap_le_maxLen _ _ _ _ (by unfold maxLen;omega)
  generalize grownCap (w.alloc (.cells #[.int .i64 x] 2)) (T.length + 1) c 2 = GG at *
  generalize hWv : w.alloc (.cells #[.int .i64 x] 2) = Wv at *
  generalize hROW : ((T.map (Value.int .i64)).take k).toArray ++ Builtin.zeroCells (Value.int .i64 0).cells (T.length + 1 - k) ++ Builtin.zeroCells (Value.int .i64 0).cells (GG - (T.length + 1)) = ROW at *
  have hRs : ROW.size = GG := by
   rw [← hROW]
   simp [Builtin.zeroCells,Value.cells]
   omega
  have hR0 : ∀ j,j < k → ROW[j]? = (T.map (Value.int .i64))[j]? := fun j hj => by
   rw [← hROW,Array.getElem?_append_left (by simp [Builtin.zeroCells,Value.cells];omega),Array.getElem?_append_left (by simp;omega)]
   simp [List.getElem?_take,hj]
  have hxN : Bx (Wv.alloc (.cells ROW 2)).drew Wv.heap.size 2 ROW := Bx.new Wv 2 ROW
  obtain ⟨k1,k2⟩ := ins_up (Wv.alloc (.cells ROW 2)).drew Wv.heap.size 0 k GG (T.map (Value.int .i64)) (.int .i64 x) (by omega) (fun j hj => by rw [Nat.zero_add,hxN.cell j];exact hR0 j hj) (fun j hj => by rw [Nat.zero_add,hxN.cell j,Array.getElem?_eq_getElem (by omega)];rfl) (by omega)
  simp only [Nat.zero_add] at k1 k2
  have hW : Wrt (fun b => b = Wv.heap.size) (Wv.alloc (.cells ROW 2)).drew ((((Wv.alloc (.cells ROW 2)).drew.setCells Wv.heap.size k [.int .i64 x]).drew).setCells Wv.heap.size (k + 1) ((T.map (Value.int .i64)).drop k)) := ((Wrt.setCells _ _ _ _).trans (Wrt.of_below (Same.drewN _ 1).below) (fun _ _ h => h)).trans (Wrt.setCells _ _ _ _) (fun _ _ h => h)
  have hb2 : Below Wv.heap.size Wv (Wv.alloc (.cells ROW 2)).drew := (oneA16 Wv _).trans ((Same.drewN _ 1).below.mono (oneA16 Wv _).size)
  have hbd : Below w.heap.size w (Wv.alloc (.cells ROW 2)).drew := hba.trans (hb2.mono hba.size)
  have hB9 := hW.below hbd hbd.size (fun b hb => by rw [hb];exact hba.size)
  refine ⟨some ⟨Wv.heap.size,0,none⟩,GG,fun b => b = Wv.heap.size,rfl, ?_,fun b hb => .inr (by rw [hb];exact hba.size),Wrt.of_below hB9⟩
  rw [← hli]
  refine ow_icl.2 ⟨some ⟨Wv.heap.size,0,none⟩,GG,some Wv.heap.size,rfl,.inr ⟨Wv.heap.size,0,rfl, ?_,rfl⟩,fun b => ⟨fun h => by rw [h],fun h => by cases h;rfl⟩⟩
  rw [hli]
  refine ⟨by rw [List.length_map,hli];omega,hGn,hGm,Nat.lt_of_lt_of_le hxN.lt hW.size,fun j hj => ?_,fun j hj => ?_,fun j hj => ?_⟩
  ·rw [map_ins,Nat.zero_add,← drew_set17];exact k1 j (by omega)
  ·rw [Nat.zero_add,← drew_set17];exact k2 j (by omega)
  ·rw [frz_setCells]
   show (((Wv.alloc (.cells ROW 2)).drew.setCells Wv.heap.size k [.int .i64 x]).frozen? _) = false
   rw [frz_setCells]
   exact hxN.f _
end Go.Proofs.YtidnfdobljihoaaGreat
namespace Go.Proofs.YtidnfdobljihoaaGreat
set_option linter.unusedVariables false
set_option linter.unusedSimpArgs false
open Go.RowKit Go.Sort
def mb4 (m : Mb) : List Cel := [.v (.int .i64 m.id),lcl 8 rw8 m.rows,icl m.sung,.v (.bool m.done)]
def C4 (w : World) (B : Nat) (x0 x1 x2 x3 : Value) : Prop := w.cell? ⟨B,0,none⟩ = some x0 ∧ w.cell? ⟨B,1,none⟩ = some x1 ∧ w.cell? ⟨B,2,none⟩ = some x2 ∧ w.cell? ⟨B,3,none⟩ = some x3
structure Iw (w X : World) (B : Nat) (m : Mb) (fp : Fp) (g off c : Nat) : Prop where
 bcm : Bcm w X B 0 (mb4 m) fp
 rws : X.cell? ⟨B,1,none⟩ = some (.slice (some ⟨g,off,none⟩) m.rows.length c)
theorem Iw.start {w : World} {B : Nat} {m : Mb} {fp : Fp} (h : Plc w B 0 (mb4 m) fp) (hn : 0 < m.rows.length) : ∃ g off c,Iw w w B m fp g off c := by
 obtain ⟨g,off,c,f,h1,_⟩ := h.el (F := rw8) rw8_len (by omega) (j := 1) (L := m.rows) rfl (rowN_at hn)
 exact ⟨g,off,c,Bcm.refl h,h1⟩
theorem Iw.step {w X X' : World} {B : Nat} {m : Mb} {fp : Fp} {g off c : Nat} (h : Iw w X B m fp g off c) (hb : Below X.heap.size X X') : Iw w X' B m fp g off c := ⟨h.bcm.below hb,(hb.cell (World.block_lt_of_cell? _ _ h.rws)).trans h.rws⟩
theorem Iw.box {w X : World} {B : Nat} {m : Mb} {fp : Fp} {g off c : Nat} (h : Iw w X B m fp g off c) (hf : FitM m) : ∃ sa sc,C4 X B (.int .i64 m.id) (.slice (some ⟨g,off,none⟩) m.rows.length c) (.slice sa m.sung.length sc) (.bool m.done) ∧ MbS X ⟨some ⟨g,off,none⟩,c,sa,sc⟩ m := by
 obtain ⟨fp1,hp,_⟩ := h.bcm.next
 have hv := hp.pv
 obtain ⟨u0,c0,rfl⟩ := hv.at (j := 0) rfl
 obtain ⟨u2,c2,v2⟩ := hv.at (j := 1) rfl
 obtain ⟨u3,c3,v3⟩ := hv.at (j := 2) rfl
 obtain ⟨u4,c4,rfl⟩ := hv.at (j := 3) rfl
 have e2 : u2 = .slice (some ⟨g,off,none⟩) m.rows.length c := Option.some.inj (c2.symm.trans h.rws)
 subst e2
 obtain ⟨sa,sc,rfl,s1,s2,s3⟩ := vw_icl v3 hf.2
 have k := v2
 obtain ⟨_,_,_,e,k1,k2,_⟩ := k
 cases e
 exact ⟨sa,sc,⟨c0,c2,c3,c4⟩,v2,s1,by omega,by omega,hf.1⟩
theorem Iw.id' {w X : World} {B : Nat} {m : Mb} {fp : Fp} {g off c : Nat} (h : Iw w X B m fp g off c) : X.cell? ⟨B,0,none⟩ = some (.int .i64 m.id) ∧ X.cell? ⟨B,3,none⟩ = some (.bool m.done) := by
 obtain ⟨fp1,hp,_⟩ := h.bcm.next
 have hv := hp.pv
 obtain ⟨u0,c0,rfl⟩ := hv.at (j := 0) rfl
 obtain ⟨u4,c4,rfl⟩ := hv.at (j := 3) rfl
 exact ⟨c0,c4⟩
theorem Iw.row {w X : World} {B : Nat} {m : Mb} {fp : Fp} {g off c : Nat} (h : Iw w X B m fp g off c) (hf : FitM m) {k : Nat} (hk : k < m.rows.length) : ∃ Ak : Ra,C8 X g (off + k * 8) (.int .i64 (rowN m.rows k).ver) (.slice Ak.ta (rowN m.rows k).txt.length Ak.tc) (.slice Ak.ga (rowN m.rows k).got.length Ak.gc) (.slice Ak.sa (rowN m.rows k).sus.length Ak.sc) (.bool (rowN m.rows k).wed) (.bool (rowN m.rows k).rdy) (.int .i64 (rowN m.rows k).by_) (.slice Ak.ma (rowN m.rows k).trm.length Ak.mc) ∧ RwS X Ak (rowN m.rows k) := by
 obtain ⟨sa,sc,_,h2⟩ := h.box hf
 obtain ⟨g',off',Ak,e,h3,h4⟩ := h2.row hk
 cases e
 exact ⟨Ak,h3,h4⟩
theorem Iw.at {w X : World} {B : Nat} {m : Mb} {fp : Fp} {g off c : Nat} (h : Iw w X B m fp g off c) {k : Nat} (hk : k < m.rows.length) {j : Nat} {cl : Cel} (hj : (rw8 (rowN m.rows k))[j]? = some cl) : ∃ u f,X.cell? ⟨g,off + k * 8 + j,none⟩ = some u ∧ X.frozen? ⟨g,off + k * 8 + j,none⟩ = false ∧ Cel.ow X cl u f ∧ (∀ b,f b → b < X.heap.size) ∧
  ∀ (X1 : World) (c' : Cel) (u' : Value) (f' : Fp) (r' : Rw),(rw8 (rowN m.rows k)).set j c' = rw8 r' → Wrt f X X1 → Cel.ow X1 c' u' f' → (∀ b,f' b → f b ∨ X.heap.size ≤ b) → X1.cell? ⟨g,off + k * 8 + j,none⟩ = some u ∧ X1.frozen? ⟨g,off + k * 8 + j,none⟩ = false ∧ Iw w (X1.setCell ⟨g,off + k * 8 + j,none⟩ u') B { m with rows := m.rows.set k r' } fp g off c ∧ (u' = u → Iw w X1 B { m with rows := m.rows.set k r' } fp g off c) := by
 obtain ⟨fp1,hp,hf1,hgo⟩ := h.bcm.next
 obtain ⟨g',off',c',f,h1,hgB,hfg,hfs,hpl,hput⟩ := hp.el (F := rw8) rw8_len (by omega) (j := 1) (L := m.rows) rfl (rowN_at hk)
 have e := Option.some.inj (h1.symm.trans h.rws)
 cases e
 obtain ⟨u,fj,hu,hfz,hc,hsub,hnB,hset⟩ := hpl.at hj
 have hBX := hp.lt
 refine ⟨u,fj,hu,hfz,hc,Cel.ow_lt hc,fun X1 c' u' f' r' er hw hc' hf' => ?_⟩
 obtain ⟨k1,k2,k3,k4⟩ := hset X1 c' u' f' hw hc' hf'
 rw [er] at k3 k4
 have hBf : ¬ fj B := fun hb => hp.nB (hfs B (hsub B hb))
 have hr1 : X1.cell? ⟨B,1,none⟩ = some (.slice (some ⟨g,off,none⟩) m.rows.length c) := (World.cell?_of_block (hw.block B hBX hBf)).trans h.rws
 have key : ∀ Z,Bcm X Z g (off + k * 8) (rw8 r') f → Bcm w Z B 0 (mb4 { m with rows := m.rows.set k r' }) fp := fun Z hZ => hgo Z _ rfl (hput Z r' hZ)
 refine ⟨k1,k2,⟨key _ k3, ?_⟩,fun e => ⟨key _ (k4 e), ?_⟩⟩
 ·rw [World.cell?_setCell_other _ _ _ _ (by simp only [ne_eq,Addr.mk.injEq,not_and];intro e;exact absurd e hgB),hr1]
  simp
 ·rw [hr1];simp
theorem Iw.put {w X : World} {B : Nat} {m : Mb} {fp : Fp} {g off c : Nat} (h : Iw w X B m fp g off c) {k : Nat} (hk : k < m.rows.length) {j : Nat} {x y : Value} (hj : (rw8 (rowN m.rows k))[j]? = some (.v x)) {r' : Rw} (er : (rw8 (rowN m.rows k)).set j (.v y) = rw8 r') :
  X.cell? ⟨g,off + k * 8 + j,none⟩ = some x ∧ X.frozen? ⟨g,off + k * 8 + j,none⟩ = false ∧ Iw w (X.setCell ⟨g,off + k * 8 + j,none⟩ y) B { m with rows := m.rows.set k r' } fp g off c := by
 obtain ⟨u,f,h1,h2,⟨rfl,h3⟩,_,h4⟩ := h.at hk hj
 exact ⟨h1,h2,(h4 X (.v y) y (fun _ => False) r' er (Wrt.refl _ _) ⟨rfl,fun _ h => h⟩ (fun b hb => hb.elim)).2.2.1⟩
theorem Iw.mat {w X : World} {B : Nat} {m : Mb} {fp : Fp} {g off c : Nat} (h : Iw w X B m fp g off c) {j : Nat} {cl : Cel} (hj : (mb4 m)[j]? = some cl) (hj2 : j ≠ 1) : ∃ u f,X.cell? ⟨B,0 + j,none⟩ = some u ∧ X.frozen? ⟨B,0 + j,none⟩ = false ∧ Cel.ow X cl u f ∧ (∀ b,f b → b < X.heap.size) ∧
  ∀ (X1 : World) (c' : Cel) (u' : Value) (f' : Fp) (m' : Mb),(mb4 m).set j c' = mb4 m' → m'.rows.length = m.rows.length → Wrt f X X1 → Cel.ow X1 c' u' f' → (∀ b,f' b → f b ∨ X.heap.size ≤ b) → X1.cell? ⟨B,0 + j,none⟩ = some u ∧ X1.frozen? ⟨B,0 + j,none⟩ = false ∧ Iw w (X1.setCell ⟨B,0 + j,none⟩ u') B m' fp g off c := by
 obtain ⟨fp1,hp,hf1,hgo⟩ := h.bcm.next
 obtain ⟨u,fj,hu,hfz,hc,hsub,hnB,hset⟩ := hp.at hj
 refine ⟨u,fj,hu,hfz,hc,Cel.ow_lt hc,fun X1 c' u' f' m' er hl hw hc' hf' => ?_⟩
 obtain ⟨k1,k2,k3,k4⟩ := hset X1 c' u' f' hw hc' hf'
 rw [er] at k3
 refine ⟨k1,k2,hgo _ _ rfl k3, ?_⟩
 rw [World.cell?_setCell_other _ _ _ _ (by simp only [ne_eq,Addr.mk.injEq,not_and];intro _ e;omega),World.cell?_of_block (hw.block B hp.lt hnB),h.rws,hl]
theorem Iw.free {w X : World} {B : Nat} {m : Mb} {fp : Fp} {g off c : Nat} (h : Iw w X B m fp g off c) {k : Nat} (hk : k < m.rows.length) : (X.frozen? ⟨g,off + k * 8,none⟩ = false ∧ X.frozen? ⟨g,off + k * 8 + 1,none⟩ = false ∧ X.frozen? ⟨g,off + k * 8 + 2,none⟩ = false ∧ X.frozen? ⟨g,off + k * 8 + 3,none⟩ = false) ∧ X.frozen? ⟨g,off + k * 8 + 4,none⟩ = false ∧ X.frozen? ⟨g,off + k * 8 + 5,none⟩ = false ∧ X.frozen? ⟨g,off + k * 8 + 6,none⟩ = false ∧ X.frozen? ⟨g,off + k * 8 + 7,none⟩ = false := by
 obtain ⟨fp1,hp,hf1,hgo⟩ := h.bcm.next
 obtain ⟨g',off',c',f,h1,hgB,hfg,hfs,⟨vs,hpc,hov,_⟩,hput⟩ := hp.el (F := rw8) rw8_len (by omega) (j := 1) (L := m.rows) rfl (rowN_at hk)
 have e := Option.some.inj (h1.symm.trans h.rws)
 cases e
 have hl : vs.length = 8 := owL_len hov
 exact ⟨⟨hpc.free 0 (by omega),hpc.free 1 (by omega),hpc.free 2 (by omega),hpc.free 3 (by omega)⟩,hpc.free 4 (by omega),hpc.free 5 (by omega),hpc.free 6 (by omega),hpc.free 7 (by omega)⟩
theorem Iw.sub {w X X5 : World} {B : Nat} {m : Mb} {fp : Fp} {g off c : Nat} (h : Iw w X B m fp g off c) (hb : Below X.heap.size X X5) : ∃ fp5,(∀ b,fp5 b → b < X.heap.size) ∧ B < X.heap.size ∧ (∀ b,fp5 b → fp b ∨ w.heap.size ≤ b) ∧ Iw X5 X5 B m fp5 g off c ∧ ∀ (Y : World) (m' : Mb),Iw X5 Y B m' fp5 g off c → Iw w Y B m' fp g off c := by
 obtain ⟨fp1,hp,hf1,hgo⟩ := h.bcm.next
 have hlt := hp.flt
 have hB := hp.lt
 refine ⟨fp1,hlt,hB,hf1,⟨Bcm.refl (hp.below hb),(hb.cell (World.block_lt_of_cell? _ _ h.rws)).trans h.rws⟩,fun Y m' hY => ⟨hgo Y _ rfl (hY.bcm.first hb hB hlt),hY.rws⟩⟩
theorem Iw.bx {w X : World} {B : Nat} {m : Mb} {fp : Fp} {g off c : Nat} (h : Iw w X B m fp g off c) {b : Nat} {T : TypeId} {cs : Array Value} (hx : Bx w b T cs) (h1 : ¬ fp b) (h2 : b ≠ B) : Bx X b T cs := hx.wrt h.bcm.wrt (fun k => k.elim h1 h2)
theorem Iw.cel {w X : World} {B : Nat} {m : Mb} {fp : Fp} {g off c : Nat} (h : Iw w X B m fp g off c) {cl : Cel} {u : Value} {f : Fp} (hx : Cel.ow w cl u f) (h1 : ∀ b,f b → ¬ fp b ∧ b ≠ B) : Cel.ow X cl u f := Cel.ow_wrt hx h.bcm.wrt (fun b hb k => k.elim (h1 b hb).1 (h1 b hb).2)
end Go.Proofs.YtidnfdobljihoaaGreat
namespace Go.Proofs.YtidnfdobljihoaaGreat
set_option linter.unusedVariables false
set_option linter.unusedSimpArgs false
open Go.RowKit Go.Sort
def Gu (e : Ending) : Prop := ∃ T v,e = .panicked [{ v := .iface T v,recovered := false }]
set_option maxHeartbeats 400000 in
theorem wantT (w : World) : Calls Tryz.prog 80 #[.bool true] w fun e w' => e = .returned (.tuple #[]) ∧ w' = w := by
 have hnot : ∀ (x : Bool) (w : World),(Op.unary .not (.bool x)).run Tryz.prog w = .ok (.bool (!x)) w := fun _ _ => rfl
 go_enter Tryz.func80,Tryz.ntmps80
 go_wp2
 first | go_end0 | go_ret
 exact ⟨rfl,rfl⟩
set_option maxHeartbeats 400000 in
theorem wantF (w : World) : Calls Tryz.prog 80 #[.bool false] w fun e w' => Gu e ∧ w' = w := by
 go_enter Tryz.func80,Tryz.ntmps80
 go_wp2
 exact ⟨rfl,⟨_,_,rfl⟩,rfl⟩
theorem tellP (p : Addr) (x : Value) (u : TypeId) (pv : Value) (older : List PanicEntry) (w : World) (hc : w.cell? p = some x) (hz : w.frozen? p = false) :
  CallsD Tryz.prog 99 #[.pointer (some p)] (.panicking ({ v := .iface u pv,recovered := false } :: older)) w fun e u' w' =>
   e = .returned (.tuple #[]) ∧ u' = .panicking ({ v := .iface u pv,recovered := true } :: older) ∧ w' = w.setCell p (.bool false) := by
 refine callsD_of_wpS Tryz.func99 rfl fun c₀ cs hu => ?_
 apply wpS_region
 simp [wpOpsS,go_sem,recoverD,hu,Tryz.ntmps99,hc,hz,bodyPostS,results,Tryz.results99]
theorem tellR (p : Addr) (x : Value) (w : World) (hc : w.cell? p = some x) (hz : w.frozen? p = false) :
  CallsD Tryz.prog 99 #[.pointer (some p)] .returning w fun e u' w' => e = .returned (.tuple #[]) ∧ u' = .returning ∧ w' = w.setCell p (.bool true) := by
 refine callsD_of_wpS Tryz.func99 rfl fun c₀ cs hu => ?_
 apply wpS_region
 simp [wpOpsS,go_sem,recoverD,hu,Tryz.ntmps99,hc,hz,bodyPostS,results,Tryz.results99]
 cases c₀
 simp_all
set_option maxRecDepth 100000 in
set_option maxHeartbeats 800000 in
theorem told_any (F : Nat) (C D : Array Value) (w : World) (Q : Bool → World → Prop) (hE : ∀ (args : Array Value) (w : World),(callFunc F args).run Tryz.prog w = .ok (.enter F args) w)
  (h : Calls Tryz.prog F (C ++ D) (w.alloc (.cells #[.bool false] 4)) fun e w' => (e = .returned (.tuple #[]) ∧ Q true w') ∨ (Gu e ∧ Q false w')) (hq : ∀ b w',Q b w' → Bx w' w.heap.size 4 #[.bool false]) :
  Calls Tryz.prog 43 #[.func (.func F) C D] w fun e w' => ∃ b X,e = .returned (.bool b) ∧ Q b X ∧ Wrt (fun x => x = w.heap.size) X w' := by
 have hmf : ∀ (fn : Fn) (first cap : Array Value) (w : World),(Instr.makeFunc fn first cap).run Tryz.prog w = .ok (.func fn first cap) w := fun _ _ _ _ => rfl
 have HQ : Hid (∀ b w',Q b w' → Bx w' w.heap.size 4 #[.bool false]) := hq
 clear hq
 go_enter_defers Tryz.func43,Tryz.ntmps43
 go_wp2_with fail
 refine h.mono ?_
 rintro e w1 (⟨rfl,hQ⟩ | ⟨⟨T,v,rfl⟩,hQ⟩)
 ·have hx := HQ.out _ _ hQ
  have c0 := hx.at 0 (v := .bool false) rfl
  have f0 := hx.f 0
  have HQ1 : Hid (Q true w1) := hQ
  clear hQ h hx
  go_wp2
  refine leaves_cons (f := 99) (args := #[.pointer (some ⟨w.heap.size,0,none⟩)]) (by simp) (by simp [go_sem]) ?_
  refine (tellR ⟨w.heap.size,0,none⟩ (.bool true) _ (World.cell?_setCell_same _ _ _ c0) (by rw [World.frozen?_setCell];exact f0)).mono ?_
  rintro e u' w'' ⟨rfl,rfl,rfl⟩
  have hc : ((w1.setCell ⟨w.heap.size,0,none⟩ (.bool true)).setCell ⟨w.heap.size,0,none⟩ (.bool true)).cell? ⟨w.heap.size,0,none⟩ = some (.bool true) := World.cell?_setCell_same _ _ _ (World.cell?_setCell_same _ _ _ c0)
  have hW := (Wrt.set w1 w.heap.size 0 (.bool true)).trans (Wrt.set (w1.setCell ⟨w.heap.size,0,none⟩ (.bool true)) w.heap.size 0 (.bool true)) (fun _ _ h => h)
  generalize (w1.setCell ⟨w.heap.size,0,none⟩ (.bool true)).setCell ⟨w.heap.size,0,none⟩ (.bool true) = W2 at *
  refine ⟨.bool true,by simp [results,Tryz.results43,go_sem,hc],true,w1,rfl,HQ1.out,hW⟩
 ·have hx := HQ.out _ _ hQ
  have c0 := hx.at 0 (v := .bool false) rfl
  have f0 := hx.f 0
  have HQ1 : Hid (Q false w1) := hQ
  clear hQ h hx
  simp only
  refine leaves_cons (f := 99) (args := #[.pointer (some ⟨w.heap.size,0,none⟩)]) (by simp) (by simp [go_sem]) ?_
  refine (tellP ⟨w.heap.size,0,none⟩ (.bool false) T v [] _ c0 f0).mono ?_
  rintro e u' w'' ⟨rfl,rfl,rfl⟩
  have hc : (w1.setCell ⟨w.heap.size,0,none⟩ (.bool false)).cell? ⟨w.heap.size,0,none⟩ = some (.bool false) := World.cell?_setCell_same _ _ _ c0
  have hW := Wrt.set w1 w.heap.size 0 (.bool false)
  generalize w1.setCell ⟨w.heap.size,0,none⟩ (.bool false) = W2 at *
  refine ⟨.bool false,by simp [results,Tryz.results43,go_sem,hc],false,w1,rfl,HQ1.out,hW⟩
end Go.Proofs.YtidnfdobljihoaaGreat