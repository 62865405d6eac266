/-
  Texts in one: Mcc Mbl Plo Mbi Mbj Mbz Mba Ear Mbr Mbb Mbe Rns Rwo Mca Sdk Dvo Rdk Drt Rdw Rdr Rds Mci Mcj Mck Mcd Mcf Mcq.
-/
import Derived.Test.YthioodpmgifomaaJae
import Derived.Test.YthioodpmgifomaaJaa
import Derived.Test.YthioodpmgifomaaJac
import Derived.Test.YthioodpmgifomaaJab
import Derived.Test.YthioodpmgifomaaJad
import Derived.Deep.LoopGhost
import Derived.Deep.CutRange
import Derived.Deep.Cut
import Derived.Deep.RegionHeld3
namespace Go.Proofs.Ythioodpmgifomaa
set_option linter.unusedVariables false
set_option linter.unusedSimpArgs false
open Go.RowKit Go.Sort
def hrdM (m : Mb) (fr : Int) (r : Rw) : Mb × Bool := if okMb m = true then heardMb m fr r else (zeroMb,false)
theorem Bx.pc {w : World} {B : Nat} {T : TypeId} {cs : Array Value} (h : Bx w B T cs) : Pc w B 0 cs.toList :=
 ⟨fun j hj => by
  have hj' : j < cs.size := by simpa using hj
  rw [Nat.zero_add,h.at j (Array.getElem?_eq_getElem hj')]
  simp [hj'],fun j _ => by rw [Nat.zero_add];exact h.f j,h.lt⟩
theorem box_plc {w : World} {B : Nat} {T : TypeId} {A : Ma} {m : Mb} {fp : Fp} (h : Bx w B T (mbC A m)) (hl : owL w (mbCels m) (mbVals A m) fp) (hB : ¬ fp B) : Plc w B 0 (mb5 m) fp := ⟨_,h.pc,ow_mb5 hl,hB⟩
theorem box_done {w X Y : World} {B r : Nat} {m : Mb} {fp : Fp} (h : Bcm X Y B 0 (mb5 m) fp) (hf : ∀ b,fp b → w.heap.size ≤ b ∧ b ≠ r) (hB : w.heap.size ≤ B) (hrB : r ≠ B) (hr : w.heap.size ≤ r) (hrX : r < X.heap.size) (hw : Below w.heap.size w X) {T : TypeId} {Z : Array Value} (hz : Bx X r T Z) : ∃ A : Ma,C5 Y B 0 (.int .i64 m.id) (.int .i64 m.n) (.slice A.ra m.rows.length A.rc) (.slice A.sa m.sung.length A.sc) (.bool m.done) ∧ Bx Y r T Z ∧
  ∀ {a b c d e : Value},NewL w (((((Y.setCell ⟨r,0,none⟩ a).setCell ⟨r,1,none⟩ b).setCell ⟨r,2,none⟩ c).setCell ⟨r,3,none⟩ d).setCell ⟨r,4,none⟩ e) (mbCels m) (mbVals A m) := by
 obtain ⟨fp1,hp,hs,_⟩ := h.next
 obtain ⟨vs,hpc,hov,hnB⟩ := hp
 obtain ⟨A,rfl,hl⟩ := mb5_ow hov
 have hl5 : (mbC A m).toList.length = 5 := rfl
 have c := hpc.cell
 have hXs := hw.size
 have hfp : ∀ b,fp1 b → w.heap.size ≤ b ∧ b ≠ r := fun b hb => by
  rcases hs b hb with k | k
  ·exact hf b k
  ·exact ⟨by omega,by omega⟩
 have hbY : Below w.heap.size w Y := h.wrt.below hw hXs (fun b hb => by
  rcases hb with hb | hb
  ·exact (hf b hb).1
  ·omega)
 refine ⟨A,⟨c 0 (by rw [hl5];omega),c 1 (by rw [hl5];omega),c 2 (by rw [hl5];omega),c 3 (by rw [hl5];omega),c 4 (by rw [hl5];omega)⟩,hz.wrt h.wrt (fun k => by
  rcases k with k | k
  ·exact (hf r k).2 rfl
  ·exact hrB k),fun {a b c d e} => ⟨fp1,owL_wrt hl (wrt5 Y r) (fun b hb e => (hfp b hb).2 e),fun b hb => (hfp b hb).1,(wrt5 Y r).below hbY hbY.size (fun b e => by omega)⟩⟩
attribute [local irreducible] sv
set_option maxRecDepth 100000 in
set_option maxHeartbeats 3200000 in
theorem hrdS_any (A : Ma) (m : Mb) (fr : Int) (Ar : Ra) (r : Rw) (w : World) (hv : MbS w A m) (hrw : RwS w Ar r) (h6 : I64v fr) :
  Calls Try.prog 34 #[mbV A m,.int .i64 fr,rwV Ar r] w fun e w' => AnsMf w w' e (hrdM m fr r).1 (hrdM m fr r).2 := by
 have hb0 : Below w.heap.size w (((w.alloc (.cells #[.int .i64 m.id,.int .i64 m.n,.slice A.ra m.rows.length A.rc,.slice A.sa m.sung.length A.sc,.bool m.done] 39)).alloc (.cells #[.int .i64 r.ver,.slice Ar.ta r.txt.length Ar.tc,.slice Ar.ga r.got.length Ar.gc,.slice Ar.sa r.sus.length Ar.sc,.bool r.wed,.bool r.rdy,.int .i64 r.by_,.slice Ar.ma r.trm.length Ar.mc] 51)).alloc (.cells #[.int .i64 0,.int .i64 0,.slice none 0 0,.slice none 0 0,.bool false] 39)) := ((oneA16 w _).trans ((oneA16 _ _).mono (oneA16 w _).size)).trans ((oneA16 _ _).mono ((oneA16 w _).trans ((oneA16 _ _).mono (oneA16 w _).size)).size)
 have hx0 : Bx (((w.alloc (.cells #[.int .i64 m.id,.int .i64 m.n,.slice A.ra m.rows.length A.rc,.slice A.sa m.sung.length A.sc,.bool m.done] 39)).alloc (.cells #[.int .i64 r.ver,.slice Ar.ta r.txt.length Ar.tc,.slice Ar.ga r.got.length Ar.gc,.slice Ar.sa r.sus.length Ar.sc,.bool r.wed,.bool r.rdy,.int .i64 r.by_,.slice Ar.ma r.trm.length Ar.mc] 51)).alloc (.cells #[.int .i64 0,.int .i64 0,.slice none 0 0,.slice none 0 0,.bool false] 39)) w.heap.size 39 #[.int .i64 m.id,.int .i64 m.n,.slice A.ra m.rows.length A.rc,.slice A.sa m.sung.length A.sc,.bool m.done] := ((Bx.new w _ _).alloc _).alloc _
 have hxr : Bx (((w.alloc (.cells #[.int .i64 m.id,.int .i64 m.n,.slice A.ra m.rows.length A.rc,.slice A.sa m.sung.length A.sc,.bool m.done] 39)).alloc (.cells #[.int .i64 r.ver,.slice Ar.ta r.txt.length Ar.tc,.slice Ar.ga r.got.length Ar.gc,.slice Ar.sa r.sus.length Ar.sc,.bool r.wed,.bool r.rdy,.int .i64 r.by_,.slice Ar.ma r.trm.length Ar.mc] 51)).alloc (.cells #[.int .i64 0,.int .i64 0,.slice none 0 0,.slice none 0 0,.bool false] 39)) (w.heap.size + 1) 51 #[.int .i64 r.ver,.slice Ar.ta r.txt.length Ar.tc,.slice Ar.ga r.got.length Ar.gc,.slice Ar.sa r.sus.length Ar.sc,.bool r.wed,.bool r.rdy,.int .i64 r.by_,.slice Ar.ma r.trm.length Ar.mc] := by
  have := (Bx.new (w.alloc (.cells #[.int .i64 m.id,.int .i64 m.n,.slice A.ra m.rows.length A.rc,.slice A.sa m.sung.length A.sc,.bool m.done] 39)) 51 #[.int .i64 r.ver,.slice Ar.ta r.txt.length Ar.tc,.slice Ar.ga r.got.length Ar.gc,.slice Ar.sa r.sus.length Ar.sc,.bool r.wed,.bool r.rdy,.int .i64 r.by_,.slice Ar.ma r.trm.length Ar.mc]).alloc (.cells #[.int .i64 0,.int .i64 0,.slice none 0 0,.slice none 0 0,.bool false] 39)
  rw [World.size_alloc] at this
  exact this
 have hz0 : Bx (((w.alloc (.cells #[.int .i64 m.id,.int .i64 m.n,.slice A.ra m.rows.length A.rc,.slice A.sa m.sung.length A.sc,.bool m.done] 39)).alloc (.cells #[.int .i64 r.ver,.slice Ar.ta r.txt.length Ar.tc,.slice Ar.ga r.got.length Ar.gc,.slice Ar.sa r.sus.length Ar.sc,.bool r.wed,.bool r.rdy,.int .i64 r.by_,.slice Ar.ma r.trm.length Ar.mc] 51)).alloc (.cells #[.int .i64 0,.int .i64 0,.slice none 0 0,.slice none 0 0,.bool false] 39)) (w.heap.size + 1 + 1) 39 #[.int .i64 0,.int .i64 0,.slice none 0 0,.slice none 0 0,.bool false] := by
  have := Bx.new ((w.alloc (.cells #[.int .i64 m.id,.int .i64 m.n,.slice A.ra m.rows.length A.rc,.slice A.sa m.sung.length A.sc,.bool m.done] 39)).alloc (.cells #[.int .i64 r.ver,.slice Ar.ta r.txt.length Ar.tc,.slice Ar.ga r.got.length Ar.gc,.slice Ar.sa r.sus.length Ar.sc,.bool r.wed,.bool r.rdy,.int .i64 r.by_,.slice Ar.ma r.trm.length Ar.mc] 51)) 39 #[.int .i64 0,.int .i64 0,.slice none 0 0,.slice none 0 0,.bool false]
  simp only [World.size_alloc] at this
  exact this
 have hv0 := hv.below hb0
 have hrw0 := hrw.below hb0
 unfold mbV mbC rwV rwC
 generalize hWW : ((w.alloc (.cells #[.int .i64 m.id,.int .i64 m.n,.slice A.ra m.rows.length A.rc,.slice A.sa m.sung.length A.sc,.bool m.done] 39)).alloc (.cells #[.int .i64 r.ver,.slice Ar.ta r.txt.length Ar.tc,.slice Ar.ga r.got.length Ar.gc,.slice Ar.sa r.sus.length Ar.sc,.bool r.wed,.bool r.rdy,.int .i64 r.by_,.slice Ar.ma r.trm.length Ar.mc] 51)).alloc (.cells #[.int .i64 0,.int .i64 0,.slice none 0 0,.slice none 0 0,.bool false] 39) = W0 at *
 have hK := mbkS_any A m W0 hv0
 unfold mbV mbC at hK
 have HX0 : Hid (Bx W0 w.heap.size 39 #[.int .i64 m.id,.int .i64 m.n,.slice A.ra m.rows.length A.rc,.slice A.sa m.sung.length A.sc,.bool m.done]) := hx0
 have HZ0 : Hid (Bx W0 (w.heap.size + 1 + 1) 39 #[.int .i64 0,.int .i64 0,.slice none 0 0,.slice none 0 0,.bool false]) := hz0
 have HXr : Hid (Bx W0 (w.heap.size + 1) 51 #[.int .i64 r.ver,.slice Ar.ta r.txt.length Ar.tc,.slice Ar.ga r.got.length Ar.gc,.slice Ar.sa r.sus.length Ar.sc,.bool r.wed,.bool r.rdy,.int .i64 r.by_,.slice Ar.ma r.trm.length Ar.mc]) := hxr
 have HRw : Hid (RwS W0 Ar r) := hrw0
 have HV0 : Hid (MbS W0 A m) := hv0
 have HB0 : Hid (Below w.heap.size w W0) := hb0
 obtain ⟨c0,c1,c2,c3,c4⟩ := Bx.r5 hx0
 clear hv hb0 hx0 hz0 hv0 hrw hrw0 hxr
 cases hok : okMb m with
 | false =>
  have HZ : Hid (hrdM m fr r = (zeroMb,false)) := by rw [Hid,hrdM,hok];rfl
  rw [hok] at hK
  clear hok
  go_enter Try.func34,Try.ntmps34
  go_wp2_with fail
  refine hK.mono ?_
  rintro e w1 ⟨rfl,hb1⟩
  have hz1 := HZ0.out.below hb1
  have HB1 : Hid (Below w.heap.size w w1) := HB0.out.trans (hb1.mono HB0.out.size)
  obtain ⟨z0,z1,z2,z3,z4⟩ := Bx.r5 hz1
  obtain ⟨f0,f1,f2,f3,f4⟩ := hz1.f5
  clear hz1 hb1 c0 c1 c2 c3 c4 hK
  go_wp2
  refine bodyPost_ret (v := .tuple #[mbV ⟨none,0,none,0⟩ zeroMb,.bool false]) (by simp [results,Try.results34,go_sem,mbV,mbC,zeroMb, *]) rfl ?_
  rw [HZ.out]
  exact ⟨_,rfl,ansM_zero ((wrt5 w1 (w.heap.size + 1 + 1)).below HB1.out HB1.out.size (fun b h => by omega))⟩
 | true =>
  have HZ : Hid (hrdM m fr r = heardMb m fr r) := by rw [Hid,hrdM,hok];rfl
  obtain ⟨i,n,ok⟩ := okMb_iff.1 hok
  rw [hok] at hK
  clear hok
  go_enter Try.func34,Try.ntmps34
  go_wp2_with fail
  refine hK.mono ?_
  rintro e w1 ⟨rfl,hb1⟩
  have HB1 : Hid (Below w.heap.size w w1) := HB0.out.trans (hb1.mono HB0.out.size)
  have HZ1 : Hid (Bx w1 (w.heap.size + 1 + 1) 39 #[.int .i64 0,.int .i64 0,.slice none 0 0,.slice none 0 0,.bool false]) := HZ0.out.below hb1
  have HXr1 : Hid (Bx w1 (w.heap.size + 1) 51 #[.int .i64 r.ver,.slice Ar.ta r.txt.length Ar.tc,.slice Ar.ga r.got.length Ar.gc,.slice Ar.sa r.sus.length Ar.sc,.bool r.wed,.bool r.rdy,.int .i64 r.by_,.slice Ar.ma r.trm.length Ar.mc]) := HXr.out.below hb1
  have HRw1 : Hid (RwS w1 Ar r) := HRw.out.below hb1
  have hC := cpyMb_any A m w1 (HV0.out.below hb1) ok.ln
  unfold mbV mbC at hC
  clear c0 c1 c2 c3 c4 hK
  obtain ⟨c0,c1,c2,c3,c4⟩ := Bx.r5 (HX0.out.below hb1)
  clear hb1
  go_wp2_with fail
  refine hC.mono ?_
  rintro e w2 ⟨A2,rfl,fp,hl2,hf2,hb2⟩
  have hlt2 := owL_lt hl2
  have HB2 : Hid (Below w.heap.size w w2) := HB1.out.trans (hb2.mono HB1.out.size)
  have hba := oneA16 w2 (.cells #[.int .i64 m.id,.int .i64 m.n,.slice A2.ra m.rows.length A2.rc,.slice A2.sa m.sung.length A2.sc,.bool m.done] 39)
  have hxb := Bx.new w2 39 #[.int .i64 m.id,.int .i64 m.n,.slice A2.ra m.rows.length A2.rc,.slice A2.sa m.sung.length A2.sc,.bool m.done]
  have hP : Plc (w2.alloc (.cells #[.int .i64 m.id,.int .i64 m.n,.slice A2.ra m.rows.length A2.rc,.slice A2.sa m.sung.length A2.sc,.bool m.done] 39)) w2.heap.size 0 (mb5 m) fp := box_plc hxb (owL_below hl2 hba) (fun k => by have := hlt2 _ k;omega)
  have HZ3 : Hid (Bx (w2.alloc (.cells #[.int .i64 m.id,.int .i64 m.n,.slice A2.ra m.rows.length A2.rc,.slice A2.sa m.sung.length A2.sc,.bool m.done] 39)) (w.heap.size + 1 + 1) 39 #[.int .i64 0,.int .i64 0,.slice none 0 0,.slice none 0 0,.bool false]) := (HZ1.out.below hb2).below hba
  have HB3 : Hid (Below w.heap.size w (w2.alloc (.cells #[.int .i64 m.id,.int .i64 m.n,.slice A2.ra m.rows.length A2.rc,.slice A2.sa m.sung.length A2.sc,.bool m.done] 39))) := HB2.out.trans (hba.mono HB2.out.size)
  have hr1 : (w.heap.size + 1 + 1) < w1.heap.size := HZ1.out.lt
  have hs2 := hb2.size
  have hxr3 := (HXr1.out.below hb2).below hba
  have hrw3 := (HRw1.out.below hb2).below hba
  obtain ⟨⟨x0,x1,x2,x3⟩,x4,x5,x6,x7⟩ := Bx.r8 hxr3
  have hS := hrdSp_any w2.heap.size 0 m i n fr Ar r fp _ hP ok hrw3 h6
  unfold rwV rwC at hS
  unfold mbV mbC
  generalize hV3 : w2.alloc (.cells #[.int .i64 m.id,.int .i64 m.n,.slice A2.ra m.rows.length A2.rc,.slice A2.sa m.sung.length A2.sc,.bool m.done] 39) = V3 at *
  have HF2 : Hid (∀ b,fp b → w1.heap.size ≤ b) := hf2
  have hB3 : w2.heap.size < V3.heap.size := hxb.lt
  clear hxb hP hl2 hf2 hlt2 hb2 hba c0 c1 c2 c3 c4 hC hxr3 hrw3
  go_wp2_with fail
  refine hS.mono ?_
  rintro e Y ⟨rfl,hBc⟩
  have hsw := HB1.out.size
  obtain ⟨A3,⟨y0,y1,y2,y3,y4⟩,hz3,HN⟩ := box_done (w := w) (r := (w.heap.size + 1 + 1)) hBc (fun b hb => by have := HF2.out b hb;exact ⟨by omega,by omega⟩) (by omega) (by omega) (by omega) (by have := HZ3.out.lt;omega) HB3.out HZ3.out
  simp only [Nat.zero_add] at y0 y1 y2 y3 y4
  obtain ⟨z0,z1,z2,z3,z4⟩ := Bx.r5 hz3
  obtain ⟨f0,f1,f2,f3,f4⟩ := hz3.f5
  have HNN : Hid (∀ {a b c d e : Value},NewL w (((((Y.setCell ⟨(w.heap.size + 1 + 1),0,none⟩ a).setCell ⟨(w.heap.size + 1 + 1),1,none⟩ b).setCell ⟨(w.heap.size + 1 + 1),2,none⟩ c).setCell ⟨(w.heap.size + 1 + 1),3,none⟩ d).setCell ⟨(w.heap.size + 1 + 1),4,none⟩ e) (mbCels (heardMb m fr r).1) (mbVals A3 (heardMb m fr r).1)) := HN
  generalize hpm : heardMb m fr r = pm at *
  clear hS hBc HN hz3 hpm
  go_wp2
  refine bodyPost_ret (v := .tuple #[mbV A3 pm.1,.bool pm.2]) (by simp [results,Try.results34,go_sem,mbV,mbC, *]) rfl ?_
  rw [HZ.out]
  exact ⟨_,rfl,HNN.out⟩
end Go.Proofs.Ythioodpmgifomaa
namespace Go.Proofs.Ythioodpmgifomaa
set_option linter.unusedVariables false
set_option linter.unusedSimpArgs false
open Go.RowKit Go.Sort
def AnsL (w w' : World) (e : Ending) (Z : List Int) : Prop := ∃ a c,e = .returned (.slice a Z.length c) ∧ NewO w w' (icl Z) (.slice a Z.length c)
end Go.Proofs.Ythioodpmgifomaa
namespace Go.Proofs.Ythioodpmgifomaa
set_option linter.unusedVariables false
set_option linter.unusedSimpArgs false
open Go.RowKit Go.Sort
end Go.Proofs.Ythioodpmgifomaa
namespace Go.Proofs.Ythioodpmgifomaa
set_option linter.unusedVariables false
set_option linter.unusedSimpArgs false
open Go.RowKit Go.Sort
end Go.Proofs.Ythioodpmgifomaa
namespace Go.Proofs.Ythioodpmgifomaa
set_option linter.unusedVariables false
set_option linter.unusedSimpArgs false
open Go.RowKit Go.Sort
end Go.Proofs.Ythioodpmgifomaa
namespace Go.Proofs.Ythioodpmgifomaa
set_option linter.unusedVariables false
set_option linter.unusedSimpArgs false
open Go.RowKit Go.Sort
end Go.Proofs.Ythioodpmgifomaa
namespace Go.Proofs.Ythioodpmgifomaa
set_option linter.unusedVariables false
set_option linter.unusedSimpArgs false
open Go.RowKit Go.Sort
theorem vec_copied {X : World} {x : Option Addr} {c : Nat} {xs : List Int} (hv : Vec X x xs.length xs) (hl : xs.length ≤ 1000000) :
  ∀ Z,Same Z (X.alloc (.cells #[] 2)) → ∃ v' w4,(Builtin.append_ #[24,24] 24 #[.slice (some ⟨X.heap.size,0,none⟩) 0 0,.slice x xs.length c]).run Try.prog Z = .ok v' w4 ∧ ∃ a' c' f',v' = .slice a' xs.length c' ∧ Cel.ow w4 (icl xs) v' f' ∧ (∀ b,f' b → X.heap.size ≤ b) ∧ Below X.heap.size X w4 := by
 intro Z hZ
 obtain ⟨i0,hi0,hz0,hz1,hz2⟩ := info_parts2n Try.info2n
 have hbZ : Below X.heap.size X Z := (oneA16 X _).trans (hZ.below.mono (oneA16 X _).size)
 obtain ⟨a6,c6,w6,fp6,hr6,ho6,hw6,hf6⟩ := ints_copied (P := Try.prog) (w := Z) 24 24 2 i0 Try.underlying24 hi0 hz0 hz1 hz2 (plainS X.heap.size 0) (x := x) (c := c) (hv.below hbZ (Nat.le_refl _)) hl
 exact ⟨_,w6,hr6,a6,c6,fp6,rfl,ho6,fun b hb => by have := hf6 b hb;have := hbZ.size;omega,hw6.below hbZ hbZ.size (fun b h => h.elim)⟩
end Go.Proofs.Ythioodpmgifomaa
namespace Go.Proofs.Ythioodpmgifomaa
set_option linter.unusedSimpArgs false
set_option linter.unusedVariables false
open Go.RowKit
end Go.Proofs.Ythioodpmgifomaa
namespace Go.Proofs.Ythioodpmgifomaa
set_option linter.unusedVariables false
set_option linter.unusedSimpArgs false
open Go.RowKit Go.Sort
end Go.Proofs.Ythioodpmgifomaa
namespace Go.Proofs.Ythioodpmgifomaa
set_option linter.unusedVariables false
set_option linter.unusedSimpArgs false
open Go.RowKit Go.Sort
end Go.Proofs.Ythioodpmgifomaa
namespace Go.Proofs.Ythioodpmgifomaa
set_option linter.unusedVariables false
set_option linter.unusedSimpArgs false
open Go.RowKit Go.Sort
end Go.Proofs.Ythioodpmgifomaa
namespace Go.Proofs.Ythioodpmgifomaa
set_option linter.unusedVariables false
set_option linter.unusedSimpArgs false
open Go.RowKit Go.Sort
end Go.Proofs.Ythioodpmgifomaa
namespace Go.Proofs.Ythioodpmgifomaa
set_option linter.unusedVariables false
set_option linter.unusedSimpArgs false
open Go.RowKit Go.Sort
end Go.Proofs.Ythioodpmgifomaa
namespace Go.Proofs.Ythioodpmgifomaa
set_option linter.unusedVariables false
set_option linter.unusedSimpArgs false
open Go.RowKit Go.Sort
end Go.Proofs.Ythioodpmgifomaa
namespace Go.Proofs.Ythioodpmgifomaa
set_option linter.unusedVariables false
set_option linter.unusedSimpArgs false
open Go.RowKit Go.Sort
section
variable {w X Y Y' : World} {p : Nat} {a : Option Addr} {len cap : Nat} {bs : Nat → Int} {T : TypeId} {o : Nat} {Z C : Array Value} {cs : List Cel} {vs : List Value} {fp : Fp}
end
end Go.Proofs.Ythioodpmgifomaa
namespace Go.Proofs.Ythioodpmgifomaa
set_option linter.unusedVariables false
set_option linter.unusedSimpArgs false
open Go.RowKit Go.Sort
end Go.Proofs.Ythioodpmgifomaa
namespace Go.Proofs.Ythioodpmgifomaa
set_option linter.unusedVariables false
set_option linter.unusedSimpArgs false
open Go.RowKit Go.Sort
section
variable {w X Y Y' : World} {p : Nat} {a : Option Addr} {len cap : Nat} {bs : Nat → Int} {o : Nat} {Zr : Array Value} {A : Ra} {r : Rw} {fp : Fp}
end
end Go.Proofs.Ythioodpmgifomaa
namespace Go.Proofs.Ythioodpmgifomaa
set_option linter.unusedSimpArgs false
set_option linter.unusedVariables false
open Go.RowKit Go.Sort
attribute [local irreducible] sv
end Go.Proofs.Ythioodpmgifomaa
namespace Go.Proofs.Ythioodpmgifomaa
set_option linter.unusedVariables false
set_option linter.unusedSimpArgs false
open Go.RowKit Go.Sort
attribute [local irreducible] sv
end Go.Proofs.Ythioodpmgifomaa
namespace Go.Proofs.Ythioodpmgifomaa
set_option linter.unusedVariables false
set_option linter.unusedSimpArgs false
open Go.RowKit Go.Sort
theorem totS_le {T : List (List UInt8)} {m : Nat} (h : ∀ i,i < T.length → (T.getD i []).length ≤ m) : ∀ k,k ≤ T.length → totS T k ≤ k * m
 | 0,_ => by simp [totS]
 | k + 1,hk => by
  have := totS_le h k (by omega)
  have := h k (by omega)
  rw [totS,Nat.add_mul]
  omega
theorem owL_it {w : World} {cs : List Cel} {vs : List Value} {fp : Fp} (h : owL w cs vs fp) {lo : Nat} (hl : ∀ b,fp b → lo ≤ b) : It w cs vs lo w.heap.size := ⟨fp,h,fun b hb => ⟨hl b hb,owL_lt h b hb⟩⟩
end Go.Proofs.Ythioodpmgifomaa
namespace Go.Proofs.Ythioodpmgifomaa
set_option linter.unusedVariables false
set_option linter.unusedSimpArgs false
open Go.RowKit Go.Sort
end Go.Proofs.Ythioodpmgifomaa
namespace Go.Proofs.Ythioodpmgifomaa
set_option linter.unusedVariables false
set_option linter.unusedSimpArgs false
open Go.RowKit Go.Sort
end Go.Proofs.Ythioodpmgifomaa
namespace Go.Proofs.Ythioodpmgifomaa
set_option linter.unusedVariables false
set_option linter.unusedSimpArgs false
open Go.RowKit Go.Sort
end Go.Proofs.Ythioodpmgifomaa
namespace Go.Proofs.Ythioodpmgifomaa
set_option linter.unusedVariables false
set_option linter.unusedSimpArgs false
open Go.RowKit Go.Sort
end Go.Proofs.Ythioodpmgifomaa
namespace Go.Proofs.Ythioodpmgifomaa
set_option linter.unusedVariables false
set_option linter.unusedSimpArgs false
open Go.RowKit Go.Sort
attribute [local irreducible] sv
end Go.Proofs.Ythioodpmgifomaa
namespace Go.Proofs.Ythioodpmgifomaa
set_option linter.unusedVariables false
set_option linter.unusedSimpArgs false
open Go.RowKit Go.Sort
end Go.Proofs.Ythioodpmgifomaa
namespace Go.Proofs.Ythioodpmgifomaa
set_option linter.unusedVariables false
set_option linter.unusedSimpArgs false
open Go.RowKit Go.Sort
def Mb64 (m : Mb) : Prop := I64v m.id ∧ I64v m.n ∧ ∀ r ∈ m.rows,Rw64 r
structure MbP (w : World) (A : Ma) (m : Mb) : Prop where
 own : ∃ f,owL w (mbCels m) (mbVals A m) f
 fit : FitM m
 i64 : Mb64 m
 sz : szMb m ≤ 1048576
theorem MbS.fitM {w : World} {A : Ma} {m : Mb} (h : MbS w A m) : FitM m := ⟨h.fit,h.sung.2.1⟩
theorem it_mbs {w : World} {A : Ma} {m : Mb} {lo hi : Nat} (h : It w (mbCels m) (mbVals A m) lo hi) (hf : FitM m) : MbS w A m := mbs_of h.vw hf
theorem it_mbp {w : World} {A : Ma} {m : Mb} {lo hi : Nat} (h : It w (mbCels m) (mbVals A m) lo hi) (hf : FitM m) (h6 : Mb64 m) (hs : szMb m ≤ 1048576) : MbP w A m := ⟨h.imp (fun _ h => h.1),hf,h6,hs⟩
theorem AnsMb.it {w w' : World} {e : Ending} {m : Mb} (h : AnsMb w w' e m) : ∃ A,e = .returned (mbV A m) ∧ It w' (mbCels m) (mbVals A m) w.heap.size w'.heap.size ∧ Below w.heap.size w w' := by
 obtain ⟨A,h1,h2⟩ := h
 exact ⟨A,h1,It.of_new h2,h2.choose_spec.2.2⟩
theorem AnsMf.it {w w' : World} {e : Ending} {m : Mb} {b : Bool} (h : AnsMf w w' e m b) : ∃ A,e = .returned (.tuple #[mbV A m,.bool b]) ∧ It w' (mbCels m) (mbVals A m) w.heap.size w'.heap.size ∧ Below w.heap.size w w' := by
 obtain ⟨A,h1,h2⟩ := h
 exact ⟨A,h1,It.of_new h2,h2.choose_spec.2.2⟩
def ImplHeard : Prop := ∀ (A : Ma) (m : Mb) (fr : Int) (Ar : Ra) (r : Rw) (w : World),MbP w A m → I64v fr → RwP w Ar r → Calls Try.prog 36 #[mbV A m,.int .i64 fr,rwV Ar r] w fun e w' => AnsMf w w' e (hrdM m fr r).1 (hrdM m fr r).2
theorem It.wide {w X : World} {cs : List Cel} {vs : List Value} {lo hi : Nat} (h : It w cs vs lo hi) (hs : X.heap.size ≤ w.heap.size) (hh : hi ≤ X.heap.size) : It w cs vs lo w.heap.size := by
 obtain ⟨f,h1,h2⟩ := h
 exact ⟨f,h1,fun b hb => ⟨(h2 b hb).1,by have := (h2 b hb).2;omega⟩⟩
theorem cnt8_le (r : Rw) : cnt8 r ≤ 4 + szRw r := by unfold cnt8 szRw;omega
theorem cP_le (R : List Rw) : ∀ k,k ≤ R.length → cP R k ≤ 4 * k + szP R k
 | 0,_ => by simp [cP]
 | k + 1,h => by
  have ih := cP_le R k (by omega)
  have := cnt8_le (rowN R k)
  rw [cP_next (by omega),szP_next (by omega)]
  omega
theorem cntMb_le4 (m : Mb) : cntMb m ≤ 4 * szMb m := by
 have := cP_le m.rows m.rows.length (Nat.le_refl _)
 unfold cntMb szMb szRs
 omega
theorem cntMb_le {m : Mb} {k : Nat} (hs : szMb m ≤ 1048576) (hk : k ≤ 1) : k + cntMb m ≤ 10000000 := by
 have := cntMb_le4 m
 omega
theorem rows_le {m : Mb} (hs : szMb m ≤ 1048576) : m.rows.length ≤ maxLen := by unfold szMb szRs at hs;unfold maxLen;omega
theorem cntRw_le {r : Rw} (hs : szRw r ≤ 1048576) : cntRw r ≤ 2000000 := by unfold szRw at hs;unfold cntRw;omega
def SmM (m : Mb) : Prop := FitM m ∧ cntMb m ≤ 1000 ∧ m.rows.length ≤ 5 ∧ szMb m ≤ 100000
theorem sum_le (F : Rw → Nat) (c : Nat) : ∀ (R : List Rw),(∀ r ∈ R,F r ≤ c) → (R.map F).sum ≤ c * R.length
 | [],_ => by simp
 | r :: R,h => by
  have ih := sum_le F c R (fun x hx => h x (List.mem_cons_of_mem _ hx))
  have h1 := h r List.mem_cons_self
  rw [List.map_cons,List.sum_cons,List.length_cons,Nat.mul_succ]
  omega
theorem OkR.c8 {r : Rw} {n : Nat} (h : OkR r n) : cnt8 r ≤ 31 ∧ szRw r ≤ 300 := by
 have h5 := h.n5
 have h1 := h.gl
 have h2 := h.sl
 have h3 := h.ml
 have h4 := h.tl
 have h6 : totS r.txt r.txt.length ≤ r.txt.length * 20 := totS_le (fun i hi => h.ts _ (by rw [List.getD_eq_getElem?_getD,List.getElem?_eq_getElem hi];exact List.getElem_mem hi)) _ (Nat.le_refl _)
 unfold cnt8 szRw
 omega
theorem OkM.small {m : Mb} {i n : Nat} (h : OkM m i n) : SmM m := by
 have h5 := h.n5
 have hl := h.len
 have hs := h.sl
 have e1 : cP m.rows m.rows.length ≤ 31 * m.rows.length := by
  unfold cP
  rw [List.take_length]
  exact sum_le cnt8 31 m.rows (fun r hr => (h.rowOk r hr).c8.1)
 have e2 : szP m.rows m.rows.length ≤ 300 * m.rows.length := by
  unfold szP
  rw [List.take_length]
  exact sum_le szRw 300 m.rows (fun r hr => (h.rowOk r hr).c8.2)
 refine ⟨h.fit, ?_,by omega, ?_⟩
 ·unfold cntMb;omega
 ·unfold szMb szRs;omega
theorem zeroMb_small : SmM zeroMb := ⟨⟨fun r hr => absurd hr List.not_mem_nil,fun x hx => absurd hx List.not_mem_nil⟩,by simp [cntMb,cP,zeroMb],by simp [zeroMb],by simp [szMb,szRs,szP,zeroMb]⟩
theorem hrdM_small (m : Mb) (fr : Int) (r : Rw) : SmM (hrdM m fr r).1 := by
 unfold hrdM
 split
 ·rename_i h;obtain ⟨i,n,ok⟩ := okMb_iff.1 h;exact (heard_loc ok fr r).1.small
 ·exact zeroMb_small
attribute [local irreducible] sv
set_option maxRecDepth 100000 in
set_option maxHeartbeats 1600000 in
theorem markRw_it2 (A : Ra) (r : Rw) (k0 lo hi : Nat) (w : World) (h : It w (rwCels r) (rwVals A r) lo hi) (hh : hi ≤ w.heap.size) (hk1 : 1 ≤ k0) (hk : k0 ≤ 5000000) (hn : cntRw r ≤ 2000000) :
  Calls Try.prog 38 #[rwV A r,.int .i64 (k0 : Int)] w fun e w' => e = .returned (.int .i64 ((k0 + cntRw r : Nat) : Int)) ∧ It w' (rwCels (mkRw r k0)) (rwVals A r) lo hi ∧ Wrt (Iv lo hi) w w' := by
 have hb := oneA16 w (.cells (rwC A r) 51)
 have hx := Bx.new w 51 (rwC A r)
 obtain ⟨ver,txt,got,sus,wed,rdy,by_,trm⟩ := r
 obtain ⟨ta,tc,ga,gc,sa,sc,ma,mc⟩ := A
 unfold cntRw at hn ⊢
 simp only [] at hn ⊢
 have hW0 : Wrt (Iv lo hi) w (w.alloc (.cells (rwC ⟨ta,tc,ga,gc,sa,sc,ma,mc⟩ ⟨ver,txt,got,sus,wed,rdy,by_,trm⟩) 51)) := Wrt.of_below hb
 have h0 := h.below hb
 have HX : Hid (∀ X,Wrt (Iv lo hi) (w.alloc (.cells (rwC ⟨ta,tc,ga,gc,sa,sc,ma,mc⟩ ⟨ver,txt,got,sus,wed,rdy,by_,trm⟩) 51)) X → Bx X w.heap.size 51 #[.int .i64 ver,.slice ta txt.length tc,.slice ga got.length gc,.slice sa sus.length sc,.bool wed,.bool rdy,.int .i64 by_,.slice ma trm.length mc]) := fun X hX => hx.iv hX (.inr hh)
 unfold rwV
 unfold rwC at *
 simp only at *
 generalize hWW : w.alloc (.cells #[.int .i64 ver,.slice ta txt.length tc,.slice ga got.length gc,.slice sa sus.length sc,.bool wed,.bool rdy,.int .i64 by_,.slice ma trm.length mc] 51) = W at *
 have HW0 : Hid (Wrt (Iv lo hi) w W) := hW0
 clear h hb hx hW0
 obtain ⟨u1,f1,hu1,ho1,hf1,hp1⟩ := It.at h0 (j := 0) rfl
 cases hu1
 have hM1 := markS_ow _ k0 txt f1 W ho1 hk1 (by omega) (by omega)
 obtain ⟨⟨c0,c1,c2,c3⟩,c4,c5,c6,c7⟩ := Bx.r8 (HX.out W (Wrt.refl _ _))
 clear h0 ho1
 go_enter Try.func38,Try.ntmps38
 go_wp2_with fail
 refine hM1.mono ?_
 rintro e w1 ⟨rfl,hm1,hw1⟩
 have h1 := hp1 w1 _ hm1 hw1
 have HW1 : Hid (Wrt (Iv lo hi) W w1) := hw1.iv hf1
 clear hM1 hm1 hw1 hp1 hf1 c0 c1 c2 c3 c4 c5 c6 c7
 obtain ⟨u2,f2,hu2,ho2,hf2,hp2⟩ := It.at h1 (j := 1) rfl
 cases hu2
 have hM2 := markI_ow _ (k0 + txt.length) got f2 w1 ho2 (by omega) (by omega)
 rw [show (((k0 + txt.length : Nat) : Int)) = (k0 : Int) + (txt.length : Int) by omega] at hM2
 obtain ⟨⟨c0,c1,c2,c3⟩,c4,c5,c6,c7⟩ := Bx.r8 (HX.out w1 HW1.out)
 clear h1 ho2
 go_wp2_with fail
 refine hM2.mono ?_
 rintro e w2 ⟨rfl,hm2,hw2⟩
 have h2 := hp2 w2 _ hm2 hw2
 have HW2 : Hid (Wrt (Iv lo hi) W w2) := HW1.out.trans (hw2.iv hf2) (fun _ _ h => h)
 clear hM2 hm2 hw2 hp2 hf2 c0 c1 c2 c3 c4 c5 c6 c7
 obtain ⟨u3,f3,hu3,ho3,hf3,hp3⟩ := It.at h2 (j := 2) rfl
 cases hu3
 have hM3 := markI_ow _ (k0 + txt.length + got.length) sus f3 w2 ho3 (by omega) (by omega)
 rw [show (((k0 + txt.length + got.length : Nat) : Int)) = (k0 : Int) + (txt.length : Int) + (got.length : Int) by omega] at hM3
 obtain ⟨⟨c0,c1,c2,c3⟩,c4,c5,c6,c7⟩ := Bx.r8 (HX.out w2 HW2.out)
 clear h2 ho3
 go_wp2_with fail
 refine hM3.mono ?_
 rintro e w3 ⟨rfl,hm3,hw3⟩
 have h3 := hp3 w3 _ hm3 hw3
 have HW3 : Hid (Wrt (Iv lo hi) W w3) := HW2.out.trans (hw3.iv hf3) (fun _ _ h => h)
 clear hM3 hm3 hw3 hp3 hf3 c0 c1 c2 c3 c4 c5 c6 c7
 obtain ⟨u4,f4,hu4,ho4,hf4,hp4⟩ := It.at h3 (j := 3) rfl
 cases hu4
 have hM4 := markI_ow _ (k0 + txt.length + got.length + sus.length) trm f4 w3 ho4 (by omega) (by omega)
 rw [show (((k0 + txt.length + got.length + sus.length : Nat) : Int)) = (k0 : Int) + (txt.length : Int) + (got.length : Int) + (sus.length : Int) by omega] at hM4
 obtain ⟨⟨c0,c1,c2,c3⟩,c4,c5,c6,c7⟩ := Bx.r8 (HX.out w3 HW3.out)
 clear h3 ho4
 go_wp2_with fail
 refine hM4.mono ?_
 rintro e w4 ⟨rfl,hm4,hw4⟩
 have H4 : Hid (It w4 _ _ lo hi) := hp4 w4 _ hm4 hw4
 have HW4 : Hid (Wrt (Iv lo hi) W w4) := HW3.out.trans (hw4.iv hf4) (fun _ _ h => h)
 clear hM4 hm4 hw4 hp4 hf4 c0 c1 c2 c3 c4 c5 c6 c7
 go_wp2
 go_ret
 exact ⟨ret_int (by omega),H4.out,HW0.out.trans HW4.out (fun _ _ h => h)⟩
end Go.Proofs.Ythioodpmgifomaa