/-
  Texts in one: Mcw Ozr.
-/
import Derived.Test.YthioodpmgifomaaJaf
import Derived.Test.YthioodpmgifomaaJad
import Derived.Test.YthioodpmgifomaaJac
import Derived.Deep.RegionHeld3
import Derived.Deep.CutRange
import Derived.Lib.SmallJoins
import Derived.OpenShut
import Derived.ChangeOld
import Derived.ShutString
import Derived.Deep.Matrix
import Derived.Deep.Slices
import Derived.Deep.Strs
import Derived.Deep.Grids
namespace Go.Proofs.Ythioodpmgifomaa
set_option linter.unusedVariables false
set_option linter.unusedSimpArgs false
open Go.RowKit Go.Sort
theorem bx_set5 {w : World} {B : Nat} {T : TypeId} {y0 y1 y2 y3 y4 x0 x1 x2 x3 x4 : Value} (h : Bx w B T #[y0,y1,y2,y3,y4]) : Bx (((((w.setCell ⟨B,0,none⟩ x0).setCell ⟨B,1,none⟩ x1).setCell ⟨B,2,none⟩ x2).setCell ⟨B,3,none⟩ x3).setCell ⟨B,4,none⟩ x4) B T #[x0,x1,x2,x3,x4] := by
 have := ((((h.setC 0 x0).setC 1 x1).setC 2 x2).setC 3 x3).setC 4 x4
 simpa using this
set_option maxRecDepth 100000 in
set_option maxHeartbeats 6400000 in
theorem lawHeard (hI : ImplHeard) (A0 : Ma) (m : Mb) (fr : Int) (A2 : Ra) (r : Rw) (w : World) (hv0 : MbS w A0 m) (hg0 : ∀ r ∈ m.rows,LongT r.txt) (h60 : Mb64 m) (h61 : I64v fr) (hv2 : RwS w A2 r) (hg2 : LongT r.txt) (h62 : Rw64 r) :
  Calls Try.prog 5 #[mbV A0 m,.int .i64 fr,rwV A2 r] w fun e w' => e = .returned (.bool true) ∧ Below w.heap.size w w' := by
 have hf0 : FitM m := hv0.fitM
 have hZ0 : ∀ (X : World) (left : Int),Below w.heap.size w X → (0 ≤ left ∧ left ≤ 1048576) → Calls Try.prog 26 #[mbV A0 m,.int .i64 left] X fun e w' => ∃ q : Int,e = .returned (.int .i64 q) ∧ (q = -1 ∨ 0 ≤ q ∧ q + (szMb m : Int) = left) ∧ Below X.heap.size X w' := fun X left hX hl => szMb_any A0 m left X (hv0.below hX) hg0 hl
 have hTo0 : szMb m ≤ 1048576 → ∀ X,Below w.heap.size w X → Calls Try.prog 28 #[mbV A0 m] X fun e w' => ∃ A',e = .returned (mbV A' m) ∧ It w' (mbCels m) (mbVals A' m) X.heap.size w'.heap.size ∧ Below X.heap.size X w' := fun hs X hX => (toMb_any A0 m X (hv0.below hX) hs).mono (fun e w' h => h.it)
 have hE0 : szMb m ≤ 1048576 → ∀ (X : World) (A1 A2 : Ma) {l1 h1 l2 h2 : Nat},It X (mbCels m) (mbVals A1 m) l1 h1 → It X (mbCels m) (mbVals A2 m) l2 h2 → Calls Try.prog 30 #[mbV A1 m,mbV A2 m] X fun e w' => e = .returned (.bool true) ∧ Below X.heap.size X w' := fun hs X A1 A2 l1 h1 l2 h2 i1 i2 => eqMb_any A1 A2 m X (it_mbs i1 hf0) (it_mbs i2 hf0)
 have hf2 : FitR r := hv2.fit
 have hZ2 : ∀ (X : World) (left : Int),Below w.heap.size w X → (0 ≤ left ∧ left ≤ 1048576) → Calls Try.prog 33 #[rwV A2 r,.int .i64 left] X fun e w' => ∃ q : Int,e = .returned (.int .i64 q) ∧ (q = -1 ∨ 0 ≤ q ∧ q + (szRw r : Int) = left) ∧ Below X.heap.size X w' := fun X left hX hl => szRw_any A2 r left X (hv2.below hX) hg2 hl
 have hTo2 : szRw r ≤ 1048576 → ∀ X,Below w.heap.size w X → Calls Try.prog 35 #[rwV A2 r] X fun e w' => ∃ A',e = .returned (rwV A' r) ∧ It w' (rwCels r) (rwVals A' r) X.heap.size w'.heap.size ∧ Below X.heap.size X w' := fun hs X hX => (toRw_any A2 r X (hv2.below hX) (by unfold szRw at hs;omega) (by unfold szRw at hs;omega) (by unfold szRw at hs;omega) (by unfold szRw at hs;omega)).mono (fun e w' h => h.it)
 have hE2 : szRw r ≤ 1048576 → ∀ (X : World) (A1 A2 : Ra) {l1 h1 l2 h2 : Nat},It X (rwCels r) (rwVals A1 r) l1 h1 → It X (rwCels r) (rwVals A2 r) l2 h2 → Calls Try.prog 37 #[rwV A1 r,rwV A2 r] X fun e w' => e = .returned (.bool true) ∧ Below X.heap.size X w' := fun hs X A1 A2 l1 h1 l2 h2 i1 i2 => eqRw_any A1 A2 r X (it_rws i1 hf2 hs) (it_rws i2 hf2 hs)
 have hSp : szMb m ≤ 1048576 → szRw r ≤ 1048576 → ∀ (X : World) (B0 : Ma) (B2 : Ra) {l0 u0 : Nat} {l2 u2 : Nat},It X (mbCels m) (mbVals B0 m) l0 u0 → It X (rwCels r) (rwVals B2 r) l2 u2 → Calls Try.prog 34 #[mbV B0 m,.int .i64 fr,rwV B2 r] X fun e w' => ∃ A',e = .returned (.tuple #[mbV A' ((hrdM m fr r).1),.bool (hrdM m fr r).2]) ∧ It w' (mbCels ((hrdM m fr r).1)) (mbVals A' ((hrdM m fr r).1)) X.heap.size w'.heap.size ∧ Below X.heap.size X w' := fun hs0 hs2 X B0 B2 l0 u0 l2 u2 i0 i2 => (hrdS_any B0 m fr B2 r X (it_mbs i0 hf0) (it_rws i2 hf2 hs2) h61).mono (fun e w' h => h.it)
 have hIm : szMb m ≤ 1048576 → szRw r ≤ 1048576 → ∀ (X : World) (B0 : Ma) (B2 : Ra) {l0 u0 : Nat} {l2 u2 : Nat},It X (mbCels m) (mbVals B0 m) l0 u0 → It X (rwCels r) (rwVals B2 r) l2 u2 → Calls Try.prog 36 #[mbV B0 m,.int .i64 fr,rwV B2 r] X fun e w' => ∃ A',e = .returned (.tuple #[mbV A' ((hrdM m fr r).1),.bool (hrdM m fr r).2]) ∧ It w' (mbCels ((hrdM m fr r).1)) (mbVals A' ((hrdM m fr r).1)) X.heap.size w'.heap.size ∧ Below X.heap.size X w' := fun hs0 hs2 X B0 B2 l0 u0 l2 u2 i0 i2 => (hI B0 m fr B2 r X (it_mbp i0 hf0 h60 hs0) h61 (it_rwp i2 hf2 h62 hs2)).mono (fun e w' h => h.it)
 obtain ⟨hfZ,hcZ,hrZ,hsZ⟩ := hrdM_small m fr r
 have hmix := mixed17
 generalize (hrdM m fr r) = ZZ at *
 obtain ⟨Z,ok⟩ := ZZ
 simp only at *
 have hok : (ok != ok) = false := by cases ok <;> rfl
 obtain ⟨N,hN⟩ : ∃ N : Int,Hid (N = ((1 + cntMb Z : Nat) : Int)) := ⟨_,rfl⟩
 have hN0 : decide (N < 0) = false := by rw [hN.out];simp;omega
 have hNN : (N != N) = false := by simp
 have hEz : ∀ (X : World) (A1 A2 : Ma) {l1 h1 l2 h2 : Nat},It X (mbCels Z) (mbVals A1 Z) l1 h1 → It X (mbCels Z) (mbVals A2 Z) l2 h2 → Calls Try.prog 30 #[mbV A1 Z,mbV A2 Z] X fun e w' => e = .returned (.bool true) ∧ Below X.heap.size X w' := fun X A1 A2 l1 h1 l2 h2 i1 i2 => eqMb_any A1 A2 Z X (it_mbs i1 hfZ) (it_mbs i2 hfZ)
 have hMz : ∀ (X : World) (A1 : Ma) (lo hi : Nat),It X (mbCels Z) (mbVals A1 Z) lo hi → lo ≤ X.heap.size → hi ≤ X.heap.size → Calls Try.prog 31 #[mbV A1 Z,.int .i64 1] X fun e w' => e = .returned (.int .i64 N) ∧ It w' (mbCels (mkMb Z 1)) (mbVals A1 Z) lo w'.heap.size ∧ Wrt (Iv lo hi) X w' := fun X A1 lo hi i hlo hh => by rw [hN.out];exact markMb_it A1 Z 1 lo hi X i hlo hh (by omega) (by omega) (by unfold maxLen;omega)
 have hHz : ∀ (X : World) (A1 : Ma) (lo hi : Nat),It X (mbCels (mkMb Z 1)) (mbVals A1 Z) lo hi → Calls Try.prog 32 #[mbV A1 Z,.int .i64 1] X fun e w' => e = .returned (.int .i64 N) ∧ Below X.heap.size X w' := fun X A1 lo hi i => by rw [hN.out];exact heldMb_it A1 Z 1 lo hi X i (by omega) (by omega) (by unfold maxLen;omega)
 obtain ⟨K0,hK0⟩ : ∃ K : Nat,Hid (K = 1 + cntMb m) := ⟨_,rfl⟩
 have hMx0 : szMb m ≤ 1048576 → szRw r ≤ 1048576 → ∀ (X : World) (A1 : Ma) (lo hi : Nat),It X (mbCels m) (mbVals A1 m) lo hi → lo ≤ X.heap.size → hi ≤ X.heap.size → Calls Try.prog 31 #[mbV A1 m,.int .i64 1] X fun e w' => e = .returned (.int .i64 (K0 : Int)) ∧ It w' (mbCels (mkMb m 1)) (mbVals A1 m) lo w'.heap.size ∧ Wrt (Iv lo hi) X w' := fun hs0 hs2 X A1 lo hi i hlo hh => by rw [hK0.out];exact markMb_it A1 m 1 lo hi X i hlo hh (by omega) (cntMb_le hs0 (by omega)) (rows_le hs0)
 have hKn0 : decide ((K0 : Int) < 0) = false := by simp
 obtain ⟨K2,hK2⟩ : ∃ K : Nat,Hid (K = K0 + cntRw r) := ⟨_,rfl⟩
 have hMx2 : szMb m ≤ 1048576 → szRw r ≤ 1048576 → ∀ (X : World) (A1 : Ra) (lo hi : Nat),It X (rwCels r) (rwVals A1 r) lo hi → lo ≤ X.heap.size → hi ≤ X.heap.size → Calls Try.prog 38 #[rwV A1 r,.int .i64 (K0 : Int)] X fun e w' => e = .returned (.int .i64 (K2 : Int)) ∧ It w' (rwCels (mkRw r K0)) (rwVals A1 r) lo w'.heap.size ∧ Wrt (Iv lo hi) X w' := fun hs0 hs2 X A1 lo hi i hlo hh => by rw [hK2.out];exact (markRw_it2 A1 r K0 lo hi X i hh (by have := hK0.out;have := cntMb_le4 m;omega) (by have := hK0.out;have := cntMb_le4 m;omega) (cntRw_le hs2)).mono (fun e w' ⟨h1,h2,h3⟩ => ⟨h1,h2.wide h3.size hh,h3⟩)
 have hKn2 : decide ((K2 : Int) < 0) = false := by simp
 clear hI hv0 hv2
 unfold mbV mbC rwV rwC at *
 have hb00 : Below w.heap.size w w := Below.refl _ _
 have b2 := oneA16 w (.cells #[.int .i64 m.id,.int .i64 m.n,.slice A0.ra m.rows.length A0.rc,.slice A0.sa m.sung.length A0.sc,.bool m.done] 35)
 have h3 := Bx.new w 35 #[.int .i64 m.id,.int .i64 m.n,.slice A0.ra m.rows.length A0.rc,.slice A0.sa m.sung.length A0.sc,.bool m.done]
 generalize hX1 : w.alloc (.cells #[.int .i64 m.id,.int .i64 m.n,.slice A0.ra m.rows.length A0.rc,.slice A0.sa m.sung.length A0.sc,.bool m.done] 35) = X1 at *
 have B5 : Below w.heap.size w X1 := hb00.trans (b2.mono hb00.size)
 have sB5 : w.heap.size ≤ X1.heap.size := b2.size
 clear hb00
 have k4 : w.heap.size < X1.heap.size := h3.lt
 clear b2
 have b7 := oneA16 X1 (.cells #[.int .i64 r.ver,.slice A2.ta r.txt.length A2.tc,.slice A2.ga r.got.length A2.gc,.slice A2.sa r.sus.length A2.sc,.bool r.wed,.bool r.rdy,.int .i64 r.by_,.slice A2.ma r.trm.length A2.mc] 48)
 have h8 := Bx.new X1 48 #[.int .i64 r.ver,.slice A2.ta r.txt.length A2.tc,.slice A2.ga r.got.length A2.gc,.slice A2.sa r.sus.length A2.sc,.bool r.wed,.bool r.rdy,.int .i64 r.by_,.slice A2.ma r.trm.length A2.mc]
 generalize hX6 : X1.alloc (.cells #[.int .i64 r.ver,.slice A2.ta r.txt.length A2.tc,.slice A2.ga r.got.length A2.gc,.slice A2.sa r.sus.length A2.sc,.bool r.wed,.bool r.rdy,.int .i64 r.by_,.slice A2.ma r.trm.length A2.mc] 48) = X6 at *
 have B10 : Below w.heap.size w X6 := B5.trans (b7.mono B5.size)
 have sB10 : X1.heap.size ≤ X6.heap.size := b7.size
 have h11 := h3.below b7
 clear B5 h3
 have k9 : X1.heap.size < X6.heap.size := h8.lt
 clear b7
 go_enter Try.func5,Try.ntmps5
 obtain ⟨c120,c121,c122,c123,c124⟩ := Bx.r5 h11
 go_wp2_with fail
 refine (hZ0 X6 1048576 B10 ⟨by omega,by omega⟩).mono ?_
 rintro e z0 ⟨q0,rfl,hq0,hbz0⟩
 clear c120 c121 c122 c123 c124
 have B13 : Below w.heap.size w z0 := B10.trans (hbz0.mono B10.size)
 have sB13 : X6.heap.size ≤ z0.heap.size := hbz0.size
 have h14 := h11.below hbz0
 have h15 := h8.below hbz0
 clear B10 h11 h8
 rcases hq0 with rfl | ⟨hqa0,hqb0⟩
 ·go_wp2
  go_ret
  exact ⟨rfl,B13⟩
 have hqn0 : decide (q0 < 0) = false := by simp;omega
 obtain ⟨⟨c160,c161,c162,c163⟩,c164,c165,c166,c167⟩ := Bx.r8 h15
 go_wp2_with fail
 refine (hZ2 z0 q0 B13 ⟨by omega,by omega⟩).mono ?_
 rintro e z2 ⟨q2,rfl,hq2,hbz2⟩
 clear c160 c161 c162 c163 c164 c165 c166 c167
 have B17 : Below w.heap.size w z2 := B13.trans (hbz2.mono B13.size)
 have sB17 : z0.heap.size ≤ z2.heap.size := hbz2.size
 have h18 := h14.below hbz2
 have h19 := h15.below hbz2
 clear B13 h14 h15
 rcases hq2 with rfl | ⟨hqa2,hqb2⟩
 ·go_wp2
  go_ret
  exact ⟨rfl,B17⟩
 have hqn2 : decide (q2 < 0) = false := by simp;omega
 have hs0 : szMb m ≤ 1048576 := by omega
 have hs2 : szRw r ≤ 1048576 := by omega
 have hT0 := hTo0 hs0
 have hEE0 := hE0 hs0
 have hT2 := hTo2 hs2
 have hEE2 := hE2 hs2
 have hMM0 := hMx0 hs0 hs2
 have hMM2 := hMx2 hs0 hs2
 have hS2 := hSp hs0 hs2
 have hI2 := hIm hs0 hs2
 clear hSp hIm hTo0 hE0 hZ0 hMx0 hTo2 hE2 hZ2 hMx2
 have KS : ∀ X,Below z2.heap.size z2 X → (X.cell? ⟨w.heap.size,0,none⟩ = some (.int .i64 m.id) ∧ X.cell? ⟨w.heap.size,1,none⟩ = some (.int .i64 m.n) ∧ X.cell? ⟨w.heap.size,2,none⟩ = some (.slice A0.ra m.rows.length A0.rc) ∧ X.cell? ⟨w.heap.size,3,none⟩ = some (.slice A0.sa m.sung.length A0.sc) ∧ X.cell? ⟨w.heap.size,4,none⟩ = some (.bool m.done)) ∧ ((X.cell? ⟨X1.heap.size,0,none⟩ = some (.int .i64 r.ver) ∧ X.cell? ⟨X1.heap.size,1,none⟩ = some (.slice A2.ta r.txt.length A2.tc) ∧ X.cell? ⟨X1.heap.size,2,none⟩ = some (.slice A2.ga r.got.length A2.gc) ∧ X.cell? ⟨X1.heap.size,3,none⟩ = some (.slice A2.sa r.sus.length A2.sc)) ∧ X.cell? ⟨X1.heap.size,4,none⟩ = some (.bool r.wed) ∧ X.cell? ⟨X1.heap.size,5,none⟩ = some (.bool r.rdy) ∧ X.cell? ⟨X1.heap.size,6,none⟩ = some (.int .i64 r.by_) ∧ X.cell? ⟨X1.heap.size,7,none⟩ = some (.slice A2.ma r.trm.length A2.mc)) := fun X hX => ⟨Bx.r5 (h18.below hX),Bx.r8 (h19.below hX)⟩
 have hTa := fun X (h : Below z2.heap.size z2 X) => hT0 X (B17.trans (h.mono B17.size))
 have hTb := fun X (h : Below z2.heap.size z2 X) => hT2 X (B17.trans (h.mono B17.size))
 go_upto_region 8 with fail
 go_cut [8,9] from 29 to 37 (fun s t wx => ∃ (vb : Nat) (Av : Ma) (lv hv : Nat),s = .pointer (some ⟨vb,0,none⟩) ∧ t = .bool ok ∧ Bx wx vb 39 #[.int .i64 Z.id,.int .i64 Z.n,.slice Av.ra Z.rows.length Av.rc,.slice Av.sa Z.sung.length Av.sc,.bool Z.done] ∧ It wx (mbCels Z) (mbVals Av Z) lv hv ∧ hv ≤ wx.heap.size ∧ Below z2.heap.size z2 wx)
 case first =>
  refine gt_begin (S := fun X : World => (X.cell? ⟨w.heap.size,0,none⟩ = some (.int .i64 m.id) ∧ X.cell? ⟨w.heap.size,1,none⟩ = some (.int .i64 m.n) ∧ X.cell? ⟨w.heap.size,2,none⟩ = some (.slice A0.ra m.rows.length A0.rc) ∧ X.cell? ⟨w.heap.size,3,none⟩ = some (.slice A0.sa m.sung.length A0.sc) ∧ X.cell? ⟨w.heap.size,4,none⟩ = some (.bool m.done)) ∧ ((X.cell? ⟨X1.heap.size,0,none⟩ = some (.int .i64 r.ver) ∧ X.cell? ⟨X1.heap.size,1,none⟩ = some (.slice A2.ta r.txt.length A2.tc) ∧ X.cell? ⟨X1.heap.size,2,none⟩ = some (.slice A2.ga r.got.length A2.gc) ∧ X.cell? ⟨X1.heap.size,3,none⟩ = some (.slice A2.sa r.sus.length A2.sc)) ∧ X.cell? ⟨X1.heap.size,4,none⟩ = some (.bool r.wed) ∧ X.cell? ⟨X1.heap.size,5,none⟩ = some (.bool r.rdy) ∧ X.cell? ⟨X1.heap.size,6,none⟩ = some (.int .i64 r.by_) ∧ X.cell? ⟨X1.heap.size,7,none⟩ = some (.slice A2.ma r.trm.length A2.mc))) 12 hmix (by kernel_rfl) ?_
  have b0 : Below z2.heap.size z2 z2.drew := (Same.drewN z2 1).below
  have hHeld : (fun X : World => (X.cell? ⟨w.heap.size,0,none⟩ = some (.int .i64 m.id) ∧ X.cell? ⟨w.heap.size,1,none⟩ = some (.int .i64 m.n) ∧ X.cell? ⟨w.heap.size,2,none⟩ = some (.slice A0.ra m.rows.length A0.rc) ∧ X.cell? ⟨w.heap.size,3,none⟩ = some (.slice A0.sa m.sung.length A0.sc) ∧ X.cell? ⟨w.heap.size,4,none⟩ = some (.bool m.done)) ∧ ((X.cell? ⟨X1.heap.size,0,none⟩ = some (.int .i64 r.ver) ∧ X.cell? ⟨X1.heap.size,1,none⟩ = some (.slice A2.ta r.txt.length A2.tc) ∧ X.cell? ⟨X1.heap.size,2,none⟩ = some (.slice A2.ga r.got.length A2.gc) ∧ X.cell? ⟨X1.heap.size,3,none⟩ = some (.slice A2.sa r.sus.length A2.sc)) ∧ X.cell? ⟨X1.heap.size,4,none⟩ = some (.bool r.wed) ∧ X.cell? ⟨X1.heap.size,5,none⟩ = some (.bool r.rdy) ∧ X.cell? ⟨X1.heap.size,6,none⟩ = some (.int .i64 r.by_) ∧ X.cell? ⟨X1.heap.size,7,none⟩ = some (.slice A2.ma r.trm.length A2.mc))) z2.drew := KS _ b0
  refine gt_takeA (i := 0) (v := ?_) rfl (by kernel_rfl) (by kernel_rfl) (by kernel_rfl) (by kernel_rfl) (fun _ _ _ h => h) (Or.inl ⟨by rfl, ?_⟩) hHeld ?_
  rotate_left
  ·(intro X hSX;(try dsimp only at hSX);obtain ⟨⟨g0,g1,g2,g3,g4⟩,⟨g5,g6,g7,g8⟩,g9,g10,g11,g12⟩ := hSX;go_simp;try with_reducible rfl)
  try simp only [Act.put,List.setIfInBounds_toArray,List.set_cons_zero,List.set_cons_succ]
  refine gt_takeA (i := 3) (v := ?_) rfl (by kernel_rfl) (by kernel_rfl) (by kernel_rfl) (by kernel_rfl) (fun _ _ _ h => h) (Or.inl ⟨by rfl, ?_⟩) hHeld ?_
  rotate_left
  ·(intro X hSX;(try dsimp only at hSX);obtain ⟨⟨g0,g1,g2,g3,g4⟩,⟨g5,g6,g7,g8⟩,g9,g10,g11,g12⟩ := hSX;go_simp;try with_reducible rfl)
  try simp only [Act.put,List.setIfInBounds_toArray,List.set_cons_zero,List.set_cons_succ]
  refine gt_pure (i := 2) (v := ?_) rfl (by kernel_rfl) (by kernel_rfl) (by kernel_rfl) (fun _ _ _ h => h) (Or.inl ⟨by rfl, ?_⟩) ?_
  rotate_left
  ·(intro X;go_simp;try with_reducible rfl)
  try simp only [Act.put,List.setIfInBounds_toArray,List.set_cons_zero,List.set_cons_succ]
  refine gt_two (i := 1) (j := 9) rfl rfl (by kernel_rfl) (by kernel_rfl) (fun K hK => ?_) (fun K hK => ?_)
  ·skip
   go_simp
   go_at_call 28
   refine (hTa _ b0).mono ?_
   rintro e V1 ⟨As1,rfl,is1,hb1⟩
   have bb1 : Below z2.heap.size z2 _ := b0.trans (hb1.mono b0.size)
   have hsz1 := hb1.size
   refine hK.out _ _ (KS _ bb1) (fun hHeldN => ?_)
   clear hK hHeld
   have hHeld := hHeldN
   try simp only [Act.put,List.setIfInBounds_toArray,List.set_cons_zero,List.set_cons_succ]
   refine gt_two (i := 4) (j := 9) rfl rfl (by kernel_rfl) (by kernel_rfl) (fun K hK => ?_) (fun K hK => ?_)
   ·skip
    go_simp
    go_at_call 35
    refine (hTb _ bb1).mono ?_
    rintro e V2 ⟨As2,rfl,is2,hb2⟩
    have bb2 : Below z2.heap.size z2 _ := bb1.trans (hb2.mono bb1.size)
    have is1_2 := is1.below hb2
    have hsz2 := hb2.size
    refine hK.out _ _ (KS _ bb2) (fun hHeldN => ?_)
    clear hK hHeld
    have hHeld := hHeldN
    try simp only [Act.put,List.setIfInBounds_toArray,List.set_cons_zero,List.set_cons_succ]
    refine gt_two (i := 5) (j := 9) rfl rfl (by kernel_rfl) (by kernel_rfl) (fun K hK => ?_) (fun K hK => ?_)
    ·skip
     go_simp
     refine (hS2 _ _ _ is1_2 is2).mono ?_
     rintro e V3 ⟨Av,rfl,is3,hb3⟩
     have bb3 : Below z2.heap.size z2 _ := bb2.trans (hb3.mono bb2.size)
     have is1_2_3 := is1_2.below hb3
     have is2_3 := is2.below hb3
     have hsz3 := hb3.size
     refine hK.out _ _ (KS _ bb3) (fun hHeldN => ?_)
     clear hK hHeld
     have hHeld := hHeldN
     try simp only [Act.put,List.setIfInBounds_toArray,List.set_cons_zero,List.set_cons_succ]
     refine gt_pure (i := 6) (v := ?_) rfl (by kernel_rfl) (by kernel_rfl) (by kernel_rfl) (fun _ _ _ h => h) (Or.inl ⟨by rfl, ?_⟩) ?_
     rotate_left
     ·(intro X;go_simp;try with_reducible rfl)
     try simp only [Act.put,List.setIfInBounds_toArray,List.set_cons_zero,List.set_cons_succ]
     refine gt_pure (i := 7) (v := ?_) rfl (by kernel_rfl) (by kernel_rfl) (by kernel_rfl) (fun _ _ _ h => h) (Or.inl ⟨by rfl, ?_⟩) ?_
     rotate_left
     ·(intro X;go_simp;try with_reducible rfl)
     try simp only [Act.put,List.setIfInBounds_toArray,List.set_cons_zero,List.set_cons_succ]
     refine gt_pure (i := 8) (v := ?_) rfl (by kernel_rfl) (by kernel_rfl) (by kernel_rfl) (fun _ _ _ h => h) (Or.inl ⟨by rfl, ?_⟩) ?_
     rotate_left
     ·(intro X;go_simp;try with_reducible rfl)
     try simp only [Act.put,List.setIfInBounds_toArray,List.set_cons_zero,List.set_cons_succ]
     refine gt_one (i := 9) rfl (by kernel_rfl) (by kernel_rfl) (fun K hK => ?_)
     go_simp
     have hal4 := oneA16 V3 (.cells #[.int .i64 0,.int .i64 0,.slice none 0 0,.slice none 0 0,.bool false] 39)
     have hx4 := Bx.new V3 39 #[.int .i64 0,.int .i64 0,.slice none 0 0,.slice none 0 0,.bool false]
     have bb4 : Below z2.heap.size z2 _ := bb3.trans (hal4.mono bb3.size)
     have is1_2_3_4 := is1_2_3.below hal4
     have is2_3_4 := is2_3.below hal4
     have is3_4 := is3.below hal4
     have hsz4 := hal4.size
     have hxl4 := hx4.lt
     have hbl4 := bb3.size
     generalize hV4 : V3.alloc (.cells #[.int .i64 0,.int .i64 0,.slice none 0 0,.slice none 0 0,.bool false] 39) = V4 at *
     refine hK.out _ _ (KS _ bb4) (fun hHeldN => ?_)
     clear hK hHeld
     have hHeld := hHeldN
     try simp only [Act.put,List.setIfInBounds_toArray,List.set_cons_zero,List.set_cons_succ]
     obtain ⟨y0,y1,y2,y3,y4⟩ := Bx.r5 hx4
     obtain ⟨f0,f1,f2,f3,f4⟩ := hx4.f5
     refine gt_one (i := 10) rfl (by kernel_rfl) (by kernel_rfl) (fun K hK => ?_)
     go_simp
     have hxs := bx_set5 (x0 := .int .i64 Z.id) (x1 := .int .i64 Z.n) (x2 := .slice Av.ra Z.rows.length Av.rc) (x3 := .slice Av.sa Z.sung.length Av.sc) (x4 := .bool Z.done) hx4
     have hws := wrt5 V4 V3.heap.size (a := .int .i64 Z.id) (b := .int .i64 Z.n) (c := .slice Av.ra Z.rows.length Av.rc) (d := .slice Av.sa Z.sung.length Av.sc) (e := .bool Z.done)
     have hbs : Below z2.heap.size z2 _ := hws.below bb4 bb4.size (fun b e => by have := bb4.size;rw [e];omega)
     have his := is3_4.wrt hws (fun b e => by rw [e];omega)
     have hss := hws.size
     refine hK.out _ _ (KS _ hbs) (fun hHeldN => ?_)
     clear hK hHeld
     have hHeld := hHeldN
     try simp only [Act.put,List.setIfInBounds_toArray,List.set_cons_zero,List.set_cons_succ]
     refine gt_pure (i := 11) (v := ?_) rfl (by kernel_rfl) (by kernel_rfl) (by kernel_rfl) (fun _ _ _ h => h) (Or.inl ⟨by rfl, ?_⟩) ?_
     rotate_left
     ·(intro X;go_simp;try with_reducible rfl)
     try simp only [Act.put,List.setIfInBounds_toArray,List.set_cons_zero,List.set_cons_succ]
     refine gt_end (by kernel_rfl) ?_
     try go_wp2_with fail
     go_meet
     case rel => exact ⟨_,Av,_,_,rfl,rfl,hxs,his,by omega,hbs⟩
    ·go_simp
     have hal3 := oneA16 V2 (.cells #[.int .i64 0,.int .i64 0,.slice none 0 0,.slice none 0 0,.bool false] 39)
     have hx3 := Bx.new V2 39 #[.int .i64 0,.int .i64 0,.slice none 0 0,.slice none 0 0,.bool false]
     have bb3 : Below z2.heap.size z2 _ := bb2.trans (hal3.mono bb2.size)
     have is1_2_3 := is1_2.below hal3
     have is2_3 := is2.below hal3
     have hsz3 := hal3.size
     have hxl3 := hx3.lt
     have hbl3 := bb2.size
     generalize hV3 : V2.alloc (.cells #[.int .i64 0,.int .i64 0,.slice none 0 0,.slice none 0 0,.bool false] 39) = V3 at *
     refine hK.out _ _ (KS _ bb3) (fun hHeldN => ?_)
     clear hK hHeld
     have hHeld := hHeldN
     try simp only [Act.put,List.setIfInBounds_toArray,List.set_cons_zero,List.set_cons_succ]
     refine gt_one (i := 5) rfl (by kernel_rfl) (by kernel_rfl) (fun K hK => ?_)
     go_simp
     refine (hS2 _ _ _ is1_2_3 is2_3).mono ?_
     rintro e V4 ⟨Av,rfl,is4,hb4⟩
     have bb4 : Below z2.heap.size z2 _ := bb3.trans (hb4.mono bb3.size)
     have is1_2_3_4 := is1_2_3.below hb4
     have is2_3_4 := is2_3.below hb4
     have hx4 := hx3.below hb4
     have hxl4 := hx3.lt
     have hsz4 := hb4.size
     refine hK.out _ _ (KS _ bb4) (fun hHeldN => ?_)
     clear hK hHeld
     have hHeld := hHeldN
     try simp only [Act.put,List.setIfInBounds_toArray,List.set_cons_zero,List.set_cons_succ]
     refine gt_pure (i := 6) (v := ?_) rfl (by kernel_rfl) (by kernel_rfl) (by kernel_rfl) (fun _ _ _ h => h) (Or.inl ⟨by rfl, ?_⟩) ?_
     rotate_left
     ·(intro X;go_simp;try with_reducible rfl)
     try simp only [Act.put,List.setIfInBounds_toArray,List.set_cons_zero,List.set_cons_succ]
     refine gt_pure (i := 7) (v := ?_) rfl (by kernel_rfl) (by kernel_rfl) (by kernel_rfl) (fun _ _ _ h => h) (Or.inl ⟨by rfl, ?_⟩) ?_
     rotate_left
     ·(intro X;go_simp;try with_reducible rfl)
     try simp only [Act.put,List.setIfInBounds_toArray,List.set_cons_zero,List.set_cons_succ]
     refine gt_pure (i := 8) (v := ?_) rfl (by kernel_rfl) (by kernel_rfl) (by kernel_rfl) (fun _ _ _ h => h) (Or.inl ⟨by rfl, ?_⟩) ?_
     rotate_left
     ·(intro X;go_simp;try with_reducible rfl)
     try simp only [Act.put,List.setIfInBounds_toArray,List.set_cons_zero,List.set_cons_succ]
     obtain ⟨y0,y1,y2,y3,y4⟩ := Bx.r5 hx4
     obtain ⟨f0,f1,f2,f3,f4⟩ := hx4.f5
     refine gt_one (i := 10) rfl (by kernel_rfl) (by kernel_rfl) (fun K hK => ?_)
     go_simp
     have hxs := bx_set5 (x0 := .int .i64 Z.id) (x1 := .int .i64 Z.n) (x2 := .slice Av.ra Z.rows.length Av.rc) (x3 := .slice Av.sa Z.sung.length Av.sc) (x4 := .bool Z.done) hx4
     have hws := wrt5 V4 V2.heap.size (a := .int .i64 Z.id) (b := .int .i64 Z.n) (c := .slice Av.ra Z.rows.length Av.rc) (d := .slice Av.sa Z.sung.length Av.sc) (e := .bool Z.done)
     have hbs : Below z2.heap.size z2 _ := hws.below bb4 bb4.size (fun b e => by have := bb4.size;rw [e];omega)
     have his := is4.wrt hws (fun b e => by rw [e];omega)
     have hss := hws.size
     refine hK.out _ _ (KS _ hbs) (fun hHeldN => ?_)
     clear hK hHeld
     have hHeld := hHeldN
     try simp only [Act.put,List.setIfInBounds_toArray,List.set_cons_zero,List.set_cons_succ]
     refine gt_pure (i := 11) (v := ?_) rfl (by kernel_rfl) (by kernel_rfl) (by kernel_rfl) (fun _ _ _ h => h) (Or.inl ⟨by rfl, ?_⟩) ?_
     rotate_left
     ·(intro X;go_simp;try with_reducible rfl)
     try simp only [Act.put,List.setIfInBounds_toArray,List.set_cons_zero,List.set_cons_succ]
     refine gt_end (by kernel_rfl) ?_
     try go_wp2_with fail
     go_meet
     case rel => exact ⟨_,Av,_,_,rfl,rfl,hxs,his,by omega,hbs⟩
   ·go_simp
    have hal2 := oneA16 V1 (.cells #[.int .i64 0,.int .i64 0,.slice none 0 0,.slice none 0 0,.bool false] 39)
    have hx2 := Bx.new V1 39 #[.int .i64 0,.int .i64 0,.slice none 0 0,.slice none 0 0,.bool false]
    have bb2 : Below z2.heap.size z2 _ := bb1.trans (hal2.mono bb1.size)
    have is1_2 := is1.below hal2
    have hsz2 := hal2.size
    have hxl2 := hx2.lt
    have hbl2 := bb1.size
    generalize hV2 : V1.alloc (.cells #[.int .i64 0,.int .i64 0,.slice none 0 0,.slice none 0 0,.bool false] 39) = V2 at *
    refine hK.out _ _ (KS _ bb2) (fun hHeldN => ?_)
    clear hK hHeld
    have hHeld := hHeldN
    try simp only [Act.put,List.setIfInBounds_toArray,List.set_cons_zero,List.set_cons_succ]
    refine gt_one (i := 4) rfl (by kernel_rfl) (by kernel_rfl) (fun K hK => ?_)
    go_simp
    go_at_call 35
    refine (hTb _ bb2).mono ?_
    rintro e V3 ⟨As3,rfl,is3,hb3⟩
    have bb3 : Below z2.heap.size z2 _ := bb2.trans (hb3.mono bb2.size)
    have is1_2_3 := is1_2.below hb3
    have hx3 := hx2.below hb3
    have hxl3 := hx2.lt
    have hsz3 := hb3.size
    refine hK.out _ _ (KS _ bb3) (fun hHeldN => ?_)
    clear hK hHeld
    have hHeld := hHeldN
    try simp only [Act.put,List.setIfInBounds_toArray,List.set_cons_zero,List.set_cons_succ]
    refine gt_one (i := 5) rfl (by kernel_rfl) (by kernel_rfl) (fun K hK => ?_)
    go_simp
    refine (hS2 _ _ _ is1_2_3 is3).mono ?_
    rintro e V4 ⟨Av,rfl,is4,hb4⟩
    have bb4 : Below z2.heap.size z2 _ := bb3.trans (hb4.mono bb3.size)
    have is1_2_3_4 := is1_2_3.below hb4
    have is3_4 := is3.below hb4
    have hx4 := hx3.below hb4
    have hxl4 := hx3.lt
    have hsz4 := hb4.size
    refine hK.out _ _ (KS _ bb4) (fun hHeldN => ?_)
    clear hK hHeld
    have hHeld := hHeldN
    try simp only [Act.put,List.setIfInBounds_toArray,List.set_cons_zero,List.set_cons_succ]
    refine gt_pure (i := 6) (v := ?_) rfl (by kernel_rfl) (by kernel_rfl) (by kernel_rfl) (fun _ _ _ h => h) (Or.inl ⟨by rfl, ?_⟩) ?_
    rotate_left
    ·(intro X;go_simp;try with_reducible rfl)
    try simp only [Act.put,List.setIfInBounds_toArray,List.set_cons_zero,List.set_cons_succ]
    refine gt_pure (i := 7) (v := ?_) rfl (by kernel_rfl) (by kernel_rfl) (by kernel_rfl) (fun _ _ _ h => h) (Or.inl ⟨by rfl, ?_⟩) ?_
    rotate_left
    ·(intro X;go_simp;try with_reducible rfl)
    try simp only [Act.put,List.setIfInBounds_toArray,List.set_cons_zero,List.set_cons_succ]
    refine gt_pure (i := 8) (v := ?_) rfl (by kernel_rfl) (by kernel_rfl) (by kernel_rfl) (fun _ _ _ h => h) (Or.inl ⟨by rfl, ?_⟩) ?_
    rotate_left
    ·(intro X;go_simp;try with_reducible rfl)
    try simp only [Act.put,List.setIfInBounds_toArray,List.set_cons_zero,List.set_cons_succ]
    obtain ⟨y0,y1,y2,y3,y4⟩ := Bx.r5 hx4
    obtain ⟨f0,f1,f2,f3,f4⟩ := hx4.f5
    refine gt_one (i := 10) rfl (by kernel_rfl) (by kernel_rfl) (fun K hK => ?_)
    go_simp
    have hxs := bx_set5 (x0 := .int .i64 Z.id) (x1 := .int .i64 Z.n) (x2 := .slice Av.ra Z.rows.length Av.rc) (x3 := .slice Av.sa Z.sung.length Av.sc) (x4 := .bool Z.done) hx4
    have hws := wrt5 V4 V1.heap.size (a := .int .i64 Z.id) (b := .int .i64 Z.n) (c := .slice Av.ra Z.rows.length Av.rc) (d := .slice Av.sa Z.sung.length Av.sc) (e := .bool Z.done)
    have hbs : Below z2.heap.size z2 _ := hws.below bb4 bb4.size (fun b e => by have := bb4.size;rw [e];omega)
    have his := is4.wrt hws (fun b e => by rw [e];omega)
    have hss := hws.size
    refine hK.out _ _ (KS _ hbs) (fun hHeldN => ?_)
    clear hK hHeld
    have hHeld := hHeldN
    try simp only [Act.put,List.setIfInBounds_toArray,List.set_cons_zero,List.set_cons_succ]
    refine gt_pure (i := 11) (v := ?_) rfl (by kernel_rfl) (by kernel_rfl) (by kernel_rfl) (fun _ _ _ h => h) (Or.inl ⟨by rfl, ?_⟩) ?_
    rotate_left
    ·(intro X;go_simp;try with_reducible rfl)
    try simp only [Act.put,List.setIfInBounds_toArray,List.set_cons_zero,List.set_cons_succ]
    refine gt_end (by kernel_rfl) ?_
    try go_wp2_with fail
    go_meet
    case rel => exact ⟨_,Av,_,_,rfl,rfl,hxs,his,by omega,hbs⟩
  ·go_simp
   have hal1 : Below z2.drew.heap.size z2.drew (z2.alloc (.cells #[.int .i64 0,.int .i64 0,.slice none 0 0,.slice none 0 0,.bool false] 39)).drew := oneA16 z2.drew (.cells #[.int .i64 0,.int .i64 0,.slice none 0 0,.slice none 0 0,.bool false] 39)
   have hx1 : Bx (z2.alloc (.cells #[.int .i64 0,.int .i64 0,.slice none 0 0,.slice none 0 0,.bool false] 39)).drew z2.heap.size 39 #[.int .i64 0,.int .i64 0,.slice none 0 0,.slice none 0 0,.bool false] := Bx.new z2.drew 39 #[.int .i64 0,.int .i64 0,.slice none 0 0,.slice none 0 0,.bool false]
   have bb1 : Below z2.heap.size z2 _ := b0.trans (hal1.mono b0.size)
   have hsz1 := hal1.size
   have hxl1 := hx1.lt
   have hbl1 := b0.size
   generalize hV1 : (z2.alloc (.cells #[.int .i64 0,.int .i64 0,.slice none 0 0,.slice none 0 0,.bool false] 39)).drew = V1 at *
   refine hK.out _ _ (KS _ bb1) (fun hHeldN => ?_)
   clear hK hHeld
   have hHeld := hHeldN
   try simp only [Act.put,List.setIfInBounds_toArray,List.set_cons_zero,List.set_cons_succ]
   refine gt_one (i := 1) rfl (by kernel_rfl) (by kernel_rfl) (fun K hK => ?_)
   go_simp
   go_at_call 28
   refine (hTa _ bb1).mono ?_
   rintro e V2 ⟨As2,rfl,is2,hb2⟩
   have bb2 : Below z2.heap.size z2 _ := bb1.trans (hb2.mono bb1.size)
   have hx2 := hx1.below hb2
   have hxl2 := hx1.lt
   have hsz2 := hb2.size
   refine hK.out _ _ (KS _ bb2) (fun hHeldN => ?_)
   clear hK hHeld
   have hHeld := hHeldN
   try simp only [Act.put,List.setIfInBounds_toArray,List.set_cons_zero,List.set_cons_succ]
   refine gt_one (i := 4) rfl (by kernel_rfl) (by kernel_rfl) (fun K hK => ?_)
   go_simp
   go_at_call 35
   refine (hTb _ bb2).mono ?_
   rintro e V3 ⟨As3,rfl,is3,hb3⟩
   have bb3 : Below z2.heap.size z2 _ := bb2.trans (hb3.mono bb2.size)
   have is2_3 := is2.below hb3
   have hx3 := hx2.below hb3
   have hxl3 := hx2.lt
   have hsz3 := hb3.size
   refine hK.out _ _ (KS _ bb3) (fun hHeldN => ?_)
   clear hK hHeld
   have hHeld := hHeldN
   try simp only [Act.put,List.setIfInBounds_toArray,List.set_cons_zero,List.set_cons_succ]
   refine gt_one (i := 5) rfl (by kernel_rfl) (by kernel_rfl) (fun K hK => ?_)
   go_simp
   refine (hS2 _ _ _ is2_3 is3).mono ?_
   rintro e V4 ⟨Av,rfl,is4,hb4⟩
   have bb4 : Below z2.heap.size z2 _ := bb3.trans (hb4.mono bb3.size)
   have is2_3_4 := is2_3.below hb4
   have is3_4 := is3.below hb4
   have hx4 := hx3.below hb4
   have hxl4 := hx3.lt
   have hsz4 := hb4.size
   refine hK.out _ _ (KS _ bb4) (fun hHeldN => ?_)
   clear hK hHeld
   have hHeld := hHeldN
   try simp only [Act.put,List.setIfInBounds_toArray,List.set_cons_zero,List.set_cons_succ]
   refine gt_pure (i := 6) (v := ?_) rfl (by kernel_rfl) (by kernel_rfl) (by kernel_rfl) (fun _ _ _ h => h) (Or.inl ⟨by rfl, ?_⟩) ?_
   rotate_left
   ·(intro X;go_simp;try with_reducible rfl)
   try simp only [Act.put,List.setIfInBounds_toArray,List.set_cons_zero,List.set_cons_succ]
   refine gt_pure (i := 7) (v := ?_) rfl (by kernel_rfl) (by kernel_rfl) (by kernel_rfl) (fun _ _ _ h => h) (Or.inl ⟨by rfl, ?_⟩) ?_
   rotate_left
   ·(intro X;go_simp;try with_reducible rfl)
   try simp only [Act.put,List.setIfInBounds_toArray,List.set_cons_zero,List.set_cons_succ]
   refine gt_pure (i := 8) (v := ?_) rfl (by kernel_rfl) (by kernel_rfl) (by kernel_rfl) (fun _ _ _ h => h) (Or.inl ⟨by rfl, ?_⟩) ?_
   rotate_left
   ·(intro X;go_simp;try with_reducible rfl)
   try simp only [Act.put,List.setIfInBounds_toArray,List.set_cons_zero,List.set_cons_succ]
   obtain ⟨y0,y1,y2,y3,y4⟩ := Bx.r5 hx4
   obtain ⟨f0,f1,f2,f3,f4⟩ := hx4.f5
   refine gt_one (i := 10) rfl (by kernel_rfl) (by kernel_rfl) (fun K hK => ?_)
   go_simp
   have hxs := bx_set5 (x0 := .int .i64 Z.id) (x1 := .int .i64 Z.n) (x2 := .slice Av.ra Z.rows.length Av.rc) (x3 := .slice Av.sa Z.sung.length Av.sc) (x4 := .bool Z.done) hx4
   have hws := wrt5 V4 z2.heap.size (a := .int .i64 Z.id) (b := .int .i64 Z.n) (c := .slice Av.ra Z.rows.length Av.rc) (d := .slice Av.sa Z.sung.length Av.sc) (e := .bool Z.done)
   have hbs : Below z2.heap.size z2 _ := hws.below bb4 bb4.size (fun b e => by have := bb4.size;rw [e];omega)
   have his := is4.wrt hws (fun b e => by rw [e];omega)
   have hss := hws.size
   refine hK.out _ _ (KS _ hbs) (fun hHeldN => ?_)
   clear hK hHeld
   have hHeld := hHeldN
   try simp only [Act.put,List.setIfInBounds_toArray,List.set_cons_zero,List.set_cons_succ]
   refine gt_pure (i := 11) (v := ?_) rfl (by kernel_rfl) (by kernel_rfl) (by kernel_rfl) (fun _ _ _ h => h) (Or.inl ⟨by rfl, ?_⟩) ?_
   rotate_left
   ·(intro X;go_simp;try with_reducible rfl)
   try simp only [Act.put,List.setIfInBounds_toArray,List.set_cons_zero,List.set_cons_succ]
   refine gt_end (by kernel_rfl) ?_
   try go_wp2_with fail
   go_meet
   case rel => exact ⟨_,Av,_,_,rfl,rfl,hxs,his,by omega,hbs⟩
 case rest =>
 obtain ⟨vbv,Av,lvv,hvv,rfl,rfl,xvb,iv,hhv,hbv⟩ := hcut
 clear KS hTa hTb
 generalize wc = ws at *
 have hltv := xvb.lt
 have B20 : Below w.heap.size w ws := B17.trans (hbv.mono B17.size)
 have sB20 : z2.heap.size ≤ ws.heap.size := hbv.size
 have h21 := h18.below hbv
 have h22 := h19.below hbv
 clear B17 h18 h19
 obtain ⟨c230,c231,c232,c233,c234⟩ := Bx.r5 h21
 go_wp2_with fail
 refine (hT0 ws B20).mono ?_
 rintro e wx0 ⟨Ax0,rfl,ix0,hbx0⟩
 clear c230 c231 c232 c233 c234
 have B24 : Below w.heap.size w wx0 := B20.trans (hbx0.mono B20.size)
 have sB24 : ws.heap.size ≤ wx0.heap.size := hbx0.size
 have h25 := h21.below hbx0
 have h26 := h22.below hbx0
 have h27 := iv.below hbx0
 have h28 := xvb.below hbx0
 clear B20 h21 h22 iv xvb
 have b30 := oneA16 wx0 (.cells #[.int .i64 m.id,.int .i64 m.n,.slice Ax0.ra m.rows.length Ax0.rc,.slice Ax0.sa m.sung.length Ax0.sc,.bool m.done] 39)
 have h31 := Bx.new wx0 39 #[.int .i64 m.id,.int .i64 m.n,.slice Ax0.ra m.rows.length Ax0.rc,.slice Ax0.sa m.sung.length Ax0.sc,.bool m.done]
 generalize hX29 : wx0.alloc (.cells #[.int .i64 m.id,.int .i64 m.n,.slice Ax0.ra m.rows.length Ax0.rc,.slice Ax0.sa m.sung.length Ax0.sc,.bool m.done] 39) = X29 at *
 have B33 : Below w.heap.size w X29 := B24.trans (b30.mono B24.size)
 have sB33 : wx0.heap.size ≤ X29.heap.size := b30.size
 have h34 := h25.below b30
 have h35 := h26.below b30
 have h36 := h27.below b30
 have h37 := h28.below b30
 have h38 := ix0.below b30
 clear B24 h25 h26 h27 h28 ix0
 have k32 : wx0.heap.size < X29.heap.size := h31.lt
 clear b30
 obtain ⟨⟨c390,c391,c392,c393⟩,c394,c395,c396,c397⟩ := Bx.r8 h35
 go_wp2_with fail
 refine (hT2 X29 B33).mono ?_
 rintro e wx2 ⟨Ax2,rfl,ix2,hbx2⟩
 clear c390 c391 c392 c393 c394 c395 c396 c397
 have B40 : Below w.heap.size w wx2 := B33.trans (hbx2.mono B33.size)
 have sB40 : X29.heap.size ≤ wx2.heap.size := hbx2.size
 have h41 := h34.below hbx2
 have h42 := h35.below hbx2
 have h43 := h36.below hbx2
 have h44 := h37.below hbx2
 have h45 := h38.below hbx2
 have h46 := h31.below hbx2
 clear B33 h34 h35 h36 h37 h38 h31
 have b48 := oneA16 wx2 (.cells #[.int .i64 r.ver,.slice Ax2.ta r.txt.length Ax2.tc,.slice Ax2.ga r.got.length Ax2.gc,.slice Ax2.sa r.sus.length Ax2.sc,.bool r.wed,.bool r.rdy,.int .i64 r.by_,.slice Ax2.ma r.trm.length Ax2.mc] 51)
 have h49 := Bx.new wx2 51 #[.int .i64 r.ver,.slice Ax2.ta r.txt.length Ax2.tc,.slice Ax2.ga r.got.length Ax2.gc,.slice Ax2.sa r.sus.length Ax2.sc,.bool r.wed,.bool r.rdy,.int .i64 r.by_,.slice Ax2.ma r.trm.length Ax2.mc]
 generalize hX47 : wx2.alloc (.cells #[.int .i64 r.ver,.slice Ax2.ta r.txt.length Ax2.tc,.slice Ax2.ga r.got.length Ax2.gc,.slice Ax2.sa r.sus.length Ax2.sc,.bool r.wed,.bool r.rdy,.int .i64 r.by_,.slice Ax2.ma r.trm.length Ax2.mc] 51) = X47 at *
 have B51 : Below w.heap.size w X47 := B40.trans (b48.mono B40.size)
 have sB51 : wx2.heap.size ≤ X47.heap.size := b48.size
 have h52 := h41.below b48
 have h53 := h42.below b48
 have h54 := h43.below b48
 have h55 := h44.below b48
 have h56 := h45.below b48
 have h57 := h46.below b48
 have h58 := ix2.below b48
 clear B40 h41 h42 h43 h44 h45 h46 ix2
 have k50 : wx2.heap.size < X47.heap.size := h49.lt
 clear b48
 obtain ⟨c590,c591,c592,c593,c594⟩ := Bx.r5 h57
 obtain ⟨⟨c600,c601,c602,c603⟩,c604,c605,c606,c607⟩ := Bx.r8 h49
 go_wp2_with fail
 refine (hI2 X47 _ _ h56 h58).mono ?_
 rintro e wi ⟨Ag,rfl,ig,hbg⟩
 have B61 : Below w.heap.size w wi := B51.trans (hbg.mono B51.size)
 have sB61 : X47.heap.size ≤ wi.heap.size := hbg.size
 have h62 := h52.below hbg
 have h63 := h53.below hbg
 have h64 := h54.below hbg
 have h65 := h55.below hbg
 have h66 := h56.below hbg
 have h67 := h57.below hbg
 have h68 := h58.below hbg
 have h69 := h49.below hbg
 clear B51 h52 h53 h54 h55 h56 h57 h58 h49
 have b71 := oneA16 wi (.cells #[.int .i64 Z.id,.int .i64 Z.n,.slice Ag.ra Z.rows.length Ag.rc,.slice Ag.sa Z.sung.length Ag.sc,.bool Z.done] 39)
 have h72 := Bx.new wi 39 #[.int .i64 Z.id,.int .i64 Z.n,.slice Ag.ra Z.rows.length Ag.rc,.slice Ag.sa Z.sung.length Ag.sc,.bool Z.done]
 generalize hX70 : wi.alloc (.cells #[.int .i64 Z.id,.int .i64 Z.n,.slice Ag.ra Z.rows.length Ag.rc,.slice Ag.sa Z.sung.length Ag.sc,.bool Z.done] 39) = X70 at *
 have B74 : Below w.heap.size w X70 := B61.trans (b71.mono B61.size)
 have sB74 : wi.heap.size ≤ X70.heap.size := b71.size
 have h75 := h62.below b71
 have h76 := h63.below b71
 have h77 := h64.below b71
 have h78 := h65.below b71
 have h79 := h66.below b71
 have h80 := h67.below b71
 have h81 := h68.below b71
 have h82 := h69.below b71
 have h83 := ig.below b71
 clear B61 h62 h63 h64 h65 h66 h67 h68 h69 ig
 have k73 : wi.heap.size < X70.heap.size := h72.lt
 clear b71
 clear c590 c591 c592 c593 c594 c600 c601 c602 c603 c604 c605 c606 c607
 obtain ⟨c840,c841,c842,c843,c844⟩ := Bx.r5 h72
 obtain ⟨c850,c851,c852,c853,c854⟩ := Bx.r5 h78
 go_wp2_with fail
 refine (hEz X70 _ _ h83 h77).mono ?_
 rintro e we ⟨rfl,hbwe⟩
 clear c840 c841 c842 c843 c844 c850 c851 c852 c853 c854
 have B86 : Below w.heap.size w we := B74.trans (hbwe.mono B74.size)
 have sB86 : X70.heap.size ≤ we.heap.size := hbwe.size
 have h87 := h75.below hbwe
 have h88 := h76.below hbwe
 have h89 := h77.below hbwe
 have h90 := h78.below hbwe
 have h91 := h79.below hbwe
 have h92 := h80.below hbwe
 have h93 := h81.below hbwe
 have h94 := h82.below hbwe
 have h95 := h83.below hbwe
 have h96 := h72.below hbwe
 clear B74 h75 h76 h77 h78 h79 h80 h81 h82 h83 h72
 have KS : ∀ X,Below we.heap.size we X → (X.cell? ⟨w.heap.size,0,none⟩ = some (.int .i64 m.id) ∧ X.cell? ⟨w.heap.size,1,none⟩ = some (.int .i64 m.n) ∧ X.cell? ⟨w.heap.size,2,none⟩ = some (.slice A0.ra m.rows.length A0.rc) ∧ X.cell? ⟨w.heap.size,3,none⟩ = some (.slice A0.sa m.sung.length A0.sc) ∧ X.cell? ⟨w.heap.size,4,none⟩ = some (.bool m.done)) ∧ (X.cell? ⟨wx0.heap.size,0,none⟩ = some (.int .i64 m.id) ∧ X.cell? ⟨wx0.heap.size,1,none⟩ = some (.int .i64 m.n) ∧ X.cell? ⟨wx0.heap.size,2,none⟩ = some (.slice Ax0.ra m.rows.length Ax0.rc) ∧ X.cell? ⟨wx0.heap.size,3,none⟩ = some (.slice Ax0.sa m.sung.length Ax0.sc) ∧ X.cell? ⟨wx0.heap.size,4,none⟩ = some (.bool m.done)) := fun X hX => ⟨Bx.r5 (h87.below hX),Bx.r5 (h92.below hX)⟩
 have bd : Below we.heap.size we (we.drewN 1) := belowN (Below.refl _ _)
 have hTo2 := fun X (h : Below we.heap.size we X) => hT0 X (B86.trans (h.mono B86.size))
 have hEq2 := fun X (A7 : Ma) (h : Below we.heap.size we X) (h7 : ∃ lo hi,It X (mbCels m) (mbVals A7 m) lo hi) => hEE0 X Ax0 A7 (h91.below h) h7.choose_spec.choose_spec
 go_wp2_with fail
 go_region_held3 (fun X => (X.cell? ⟨w.heap.size,0,none⟩ = some (.int .i64 m.id) ∧ X.cell? ⟨w.heap.size,1,none⟩ = some (.int .i64 m.n) ∧ X.cell? ⟨w.heap.size,2,none⟩ = some (.slice A0.ra m.rows.length A0.rc) ∧ X.cell? ⟨w.heap.size,3,none⟩ = some (.slice A0.sa m.sung.length A0.sc) ∧ X.cell? ⟨w.heap.size,4,none⟩ = some (.bool m.done)) ∧ (X.cell? ⟨wx0.heap.size,0,none⟩ = some (.int .i64 m.id) ∧ X.cell? ⟨wx0.heap.size,1,none⟩ = some (.int .i64 m.n) ∧ X.cell? ⟨wx0.heap.size,2,none⟩ = some (.slice Ax0.ra m.rows.length Ax0.rc) ∧ X.cell? ⟨wx0.heap.size,3,none⟩ = some (.slice Ax0.sa m.sung.length Ax0.sc) ∧ X.cell? ⟨wx0.heap.size,4,none⟩ = some (.bool m.done)))
  (first | exact KS _ b8 | exact KS _ b7b | exact KS _ bd)
  (first
   | (go_at_call 28;refine (hTo2 _ bd).mono ?_;rintro e t0 ⟨A7,rfl,i7,hb7⟩;have b7b : Below we.heap.size we t0 := bd.trans (hb7.mono bd.size))
   | (go_at_call 30;refine (hEq2 t0 A7 b7b ⟨_,_,i7⟩).mono ?_;rintro e u0 ⟨rfl,hb8⟩;have b8 : Below we.heap.size we u0 := b7b.trans (hb8.mono b7b.size)))
 clear KS bd hTo2 hEq2 i7 hb7 b7b hb8
 have B97 : Below w.heap.size w u0 := B86.trans (b8.mono B86.size)
 have sB97 : we.heap.size ≤ u0.heap.size := b8.size
 have h98 := h87.below b8
 have h99 := h88.below b8
 have h100 := h89.below b8
 have h101 := h90.below b8
 have h102 := h91.below b8
 have h103 := h92.below b8
 have h104 := h93.below b8
 have h105 := h94.below b8
 have h106 := h95.below b8
 have h107 := h96.below b8
 clear B86 h87 h88 h89 h90 h91 h92 h93 h94 h95 h96
 have KS : ∀ X,Below u0.heap.size u0 X → ((X.cell? ⟨X1.heap.size,0,none⟩ = some (.int .i64 r.ver) ∧ X.cell? ⟨X1.heap.size,1,none⟩ = some (.slice A2.ta r.txt.length A2.tc) ∧ X.cell? ⟨X1.heap.size,2,none⟩ = some (.slice A2.ga r.got.length A2.gc) ∧ X.cell? ⟨X1.heap.size,3,none⟩ = some (.slice A2.sa r.sus.length A2.sc)) ∧ X.cell? ⟨X1.heap.size,4,none⟩ = some (.bool r.wed) ∧ X.cell? ⟨X1.heap.size,5,none⟩ = some (.bool r.rdy) ∧ X.cell? ⟨X1.heap.size,6,none⟩ = some (.int .i64 r.by_) ∧ X.cell? ⟨X1.heap.size,7,none⟩ = some (.slice A2.ma r.trm.length A2.mc)) ∧ ((X.cell? ⟨wx2.heap.size,0,none⟩ = some (.int .i64 r.ver) ∧ X.cell? ⟨wx2.heap.size,1,none⟩ = some (.slice Ax2.ta r.txt.length Ax2.tc) ∧ X.cell? ⟨wx2.heap.size,2,none⟩ = some (.slice Ax2.ga r.got.length Ax2.gc) ∧ X.cell? ⟨wx2.heap.size,3,none⟩ = some (.slice Ax2.sa r.sus.length Ax2.sc)) ∧ X.cell? ⟨wx2.heap.size,4,none⟩ = some (.bool r.wed) ∧ X.cell? ⟨wx2.heap.size,5,none⟩ = some (.bool r.rdy) ∧ X.cell? ⟨wx2.heap.size,6,none⟩ = some (.int .i64 r.by_) ∧ X.cell? ⟨wx2.heap.size,7,none⟩ = some (.slice Ax2.ma r.trm.length Ax2.mc)) := fun X hX => ⟨Bx.r8 (h99.below hX),Bx.r8 (h105.below hX)⟩
 have bd : Below u0.heap.size u0 (u0.drewN 1) := belowN (Below.refl _ _)
 have hTo2 := fun X (h : Below u0.heap.size u0 X) => hT2 X (B97.trans (h.mono B97.size))
 have hEq2 := fun X (A7 : Ra) (h : Below u0.heap.size u0 X) (h7 : ∃ lo hi,It X (rwCels r) (rwVals A7 r) lo hi) => hEE2 X Ax2 A7 (h104.below h) h7.choose_spec.choose_spec
 go_wp2_with fail
 go_region_held3 (fun X => ((X.cell? ⟨X1.heap.size,0,none⟩ = some (.int .i64 r.ver) ∧ X.cell? ⟨X1.heap.size,1,none⟩ = some (.slice A2.ta r.txt.length A2.tc) ∧ X.cell? ⟨X1.heap.size,2,none⟩ = some (.slice A2.ga r.got.length A2.gc) ∧ X.cell? ⟨X1.heap.size,3,none⟩ = some (.slice A2.sa r.sus.length A2.sc)) ∧ X.cell? ⟨X1.heap.size,4,none⟩ = some (.bool r.wed) ∧ X.cell? ⟨X1.heap.size,5,none⟩ = some (.bool r.rdy) ∧ X.cell? ⟨X1.heap.size,6,none⟩ = some (.int .i64 r.by_) ∧ X.cell? ⟨X1.heap.size,7,none⟩ = some (.slice A2.ma r.trm.length A2.mc)) ∧ ((X.cell? ⟨wx2.heap.size,0,none⟩ = some (.int .i64 r.ver) ∧ X.cell? ⟨wx2.heap.size,1,none⟩ = some (.slice Ax2.ta r.txt.length Ax2.tc) ∧ X.cell? ⟨wx2.heap.size,2,none⟩ = some (.slice Ax2.ga r.got.length Ax2.gc) ∧ X.cell? ⟨wx2.heap.size,3,none⟩ = some (.slice Ax2.sa r.sus.length Ax2.sc)) ∧ X.cell? ⟨wx2.heap.size,4,none⟩ = some (.bool r.wed) ∧ X.cell? ⟨wx2.heap.size,5,none⟩ = some (.bool r.rdy) ∧ X.cell? ⟨wx2.heap.size,6,none⟩ = some (.int .i64 r.by_) ∧ X.cell? ⟨wx2.heap.size,7,none⟩ = some (.slice Ax2.ma r.trm.length Ax2.mc)))
  (first | exact KS _ b8 | exact KS _ b7b | exact KS _ bd)
  (first
   | (go_at_call 35;refine (hTo2 _ bd).mono ?_;rintro e t2 ⟨A7,rfl,i7,hb7⟩;have b7b : Below u0.heap.size u0 t2 := bd.trans (hb7.mono bd.size))
   | (go_at_call 37;refine (hEq2 t2 A7 b7b ⟨_,_,i7⟩).mono ?_;rintro e u2 ⟨rfl,hb8⟩;have b8 : Below u0.heap.size u0 u2 := b7b.trans (hb8.mono b7b.size)))
 clear KS bd hTo2 hEq2 i7 hb7 b7b hb8
 have B108 : Below w.heap.size w u2 := B97.trans (b8.mono B97.size)
 have sB108 : u0.heap.size ≤ u2.heap.size := b8.size
 have h109 := h98.below b8
 have h110 := h99.below b8
 have h111 := h100.below b8
 have h112 := h101.below b8
 have h113 := h102.below b8
 have h114 := h103.below b8
 have h115 := h104.below b8
 have h116 := h105.below b8
 have h117 := h106.below b8
 have h118 := h107.below b8
 clear B97 h98 h99 h100 h101 h102 h103 h104 h105 h106 h107
 obtain ⟨c1190,c1191,c1192,c1193,c1194⟩ := Bx.r5 h114
 go_wp2_with fail
 refine (hMM0 u2 _ _ _ h113 (by omega) (by omega)).mono ?_
 rintro e wq0 ⟨rfl,_,hwq0⟩
 clear c1190 c1191 c1192 c1193 c1194
 have sB120 : u2.heap.size ≤ wq0.heap.size := hwq0.size
 have B120 : Below w.heap.size w wq0 := below_iv hwq0 B108 B108.size (by omega)
 have h121 := h109.iv hwq0 (by omega)
 have h122 := h110.iv hwq0 (by omega)
 have h123 := h111.far hwq0 (by omega)
 have h124 := h112.iv hwq0 (by omega)
 have h125 := h114.iv hwq0 (by omega)
 have h126 := h115.far hwq0 (by omega)
 have h127 := h116.iv hwq0 (by omega)
 have h128 := h117.far hwq0 (by omega)
 have h129 := h118.iv hwq0 (by omega)
 clear B108 h113 h109 h110 h111 h112 h114 h115 h116 h117 h118
 obtain ⟨⟨c1300,c1301,c1302,c1303⟩,c1304,c1305,c1306,c1307⟩ := Bx.r8 h127
 go_wp2_with fail
 refine (hMM2 wq0 _ _ _ h126 (by omega) (by omega)).mono ?_
 rintro e wq2 ⟨rfl,_,hwq2⟩
 clear c1300 c1301 c1302 c1303 c1304 c1305 c1306 c1307
 have sB131 : wq0.heap.size ≤ wq2.heap.size := hwq2.size
 have B131 : Below w.heap.size w wq2 := below_iv hwq2 B120 B120.size (by omega)
 have h132 := h121.iv hwq2 (by omega)
 have h133 := h122.iv hwq2 (by omega)
 have h134 := h123.far hwq2 (by omega)
 have h135 := h124.iv hwq2 (by omega)
 have h136 := h125.iv hwq2 (by omega)
 have h137 := h127.iv hwq2 (by omega)
 have h138 := h128.far hwq2 (by omega)
 have h139 := h129.iv hwq2 (by omega)
 clear B120 h126 h121 h122 h123 h124 h125 h127 h128 h129
 obtain ⟨c1400,c1401,c1402,c1403,c1404⟩ := Bx.r5 h139
 obtain ⟨c1410,c1411,c1412,c1413,c1414⟩ := Bx.r5 h135
 go_wp2_with fail
 refine (hEz wq2 _ _ h138 h134).mono ?_
 rintro e wo ⟨rfl,hbwo⟩
 clear c1400 c1401 c1402 c1403 c1404 c1410 c1411 c1412 c1413 c1414
 have B142 : Below w.heap.size w wo := B131.trans (hbwo.mono B131.size)
 have sB142 : wq2.heap.size ≤ wo.heap.size := hbwo.size
 have h143 := h132.below hbwo
 have h144 := h133.below hbwo
 have h145 := h134.below hbwo
 have h146 := h135.below hbwo
 have h147 := h136.below hbwo
 have h148 := h137.below hbwo
 have h149 := h138.below hbwo
 have h150 := h139.below hbwo
 clear B131 h132 h133 h134 h135 h136 h137 h138 h139
 obtain ⟨c1510,c1511,c1512,c1513,c1514⟩ := Bx.r5 h150
 go_wp2_with fail
 refine (hMz wo _ _ _ h149 (by omega) (by omega)).mono ?_
 rintro e wm ⟨rfl,im,hwm⟩
 clear c1510 c1511 c1512 c1513 c1514
 have sB152 : wo.heap.size ≤ wm.heap.size := hwm.size
 have B152 : Below w.heap.size w wm := below_iv hwm B142 B142.size (by omega)
 have h153 := h143.iv hwm (by omega)
 have h154 := h144.iv hwm (by omega)
 have h155 := h145.far hwm (by omega)
 have h156 := h146.iv hwm (by omega)
 have h157 := h147.iv hwm (by omega)
 have h158 := h148.iv hwm (by omega)
 have h159 := h150.iv hwm (by omega)
 clear B142 h143 h144 h145 h146 h147 h148 h149 h150
 obtain ⟨c1600,c1601,c1602,c1603,c1604⟩ := Bx.r5 h159
 go_wp2_with fail
 refine (hHz wm _ _ _ im).mono ?_
 rintro e wh ⟨rfl,hbh⟩
 clear c1600 c1601 c1602 c1603 c1604
 have B161 : Below w.heap.size w wh := B152.trans (hbh.mono B152.size)
 have sB161 : wm.heap.size ≤ wh.heap.size := hbh.size
 have h162 := h153.below hbh
 have h163 := h154.below hbh
 have h164 := h155.below hbh
 have h165 := h156.below hbh
 have h166 := h157.below hbh
 have h167 := h158.below hbh
 have h168 := im.below hbh
 have h169 := h159.below hbh
 clear B152 h153 h154 h155 h156 h157 h158 im h159
 have KS : ∀ X,Below wh.heap.size wh X → (X.cell? ⟨w.heap.size,0,none⟩ = some (.int .i64 m.id) ∧ X.cell? ⟨w.heap.size,1,none⟩ = some (.int .i64 m.n) ∧ X.cell? ⟨w.heap.size,2,none⟩ = some (.slice A0.ra m.rows.length A0.rc) ∧ X.cell? ⟨w.heap.size,3,none⟩ = some (.slice A0.sa m.sung.length A0.sc) ∧ X.cell? ⟨w.heap.size,4,none⟩ = some (.bool m.done)) ∧ ((X.cell? ⟨X1.heap.size,0,none⟩ = some (.int .i64 r.ver) ∧ X.cell? ⟨X1.heap.size,1,none⟩ = some (.slice A2.ta r.txt.length A2.tc) ∧ X.cell? ⟨X1.heap.size,2,none⟩ = some (.slice A2.ga r.got.length A2.gc) ∧ X.cell? ⟨X1.heap.size,3,none⟩ = some (.slice A2.sa r.sus.length A2.sc)) ∧ X.cell? ⟨X1.heap.size,4,none⟩ = some (.bool r.wed) ∧ X.cell? ⟨X1.heap.size,5,none⟩ = some (.bool r.rdy) ∧ X.cell? ⟨X1.heap.size,6,none⟩ = some (.int .i64 r.by_) ∧ X.cell? ⟨X1.heap.size,7,none⟩ = some (.slice A2.ma r.trm.length A2.mc)) := fun X hX => ⟨Bx.r5 (h162.below hX),Bx.r8 (h163.below hX)⟩
 have hTa := fun X (h : Below wh.heap.size wh X) => hT0 X (B161.trans (h.mono B161.size))
 have hTb := fun X (h : Below wh.heap.size wh X) => hT2 X (B161.trans (h.mono B161.size))
 go_upto_region 31 with fail
 go_cut [17,18] from 98 to 106 (fun s t wx => ∃ (vb : Nat) (Av : Ma) (lv hv : Nat),s = .pointer (some ⟨vb,0,none⟩) ∧ t = .bool ok ∧ Bx wx vb 39 #[.int .i64 Z.id,.int .i64 Z.n,.slice Av.ra Z.rows.length Av.rc,.slice Av.sa Z.sung.length Av.sc,.bool Z.done] ∧ It wx (mbCels Z) (mbVals Av Z) lv hv ∧ hv ≤ wx.heap.size ∧ Below wh.heap.size wh wx)
 case first =>
  refine gt_begin (S := fun X : World => (X.cell? ⟨w.heap.size,0,none⟩ = some (.int .i64 m.id) ∧ X.cell? ⟨w.heap.size,1,none⟩ = some (.int .i64 m.n) ∧ X.cell? ⟨w.heap.size,2,none⟩ = some (.slice A0.ra m.rows.length A0.rc) ∧ X.cell? ⟨w.heap.size,3,none⟩ = some (.slice A0.sa m.sung.length A0.sc) ∧ X.cell? ⟨w.heap.size,4,none⟩ = some (.bool m.done)) ∧ ((X.cell? ⟨X1.heap.size,0,none⟩ = some (.int .i64 r.ver) ∧ X.cell? ⟨X1.heap.size,1,none⟩ = some (.slice A2.ta r.txt.length A2.tc) ∧ X.cell? ⟨X1.heap.size,2,none⟩ = some (.slice A2.ga r.got.length A2.gc) ∧ X.cell? ⟨X1.heap.size,3,none⟩ = some (.slice A2.sa r.sus.length A2.sc)) ∧ X.cell? ⟨X1.heap.size,4,none⟩ = some (.bool r.wed) ∧ X.cell? ⟨X1.heap.size,5,none⟩ = some (.bool r.rdy) ∧ X.cell? ⟨X1.heap.size,6,none⟩ = some (.int .i64 r.by_) ∧ X.cell? ⟨X1.heap.size,7,none⟩ = some (.slice A2.ma r.trm.length A2.mc))) 12 hmix (by kernel_rfl) ?_
  have b0 : Below wh.heap.size wh wh.drew := (Same.drewN wh 1).below
  have hHeld : (fun X : World => (X.cell? ⟨w.heap.size,0,none⟩ = some (.int .i64 m.id) ∧ X.cell? ⟨w.heap.size,1,none⟩ = some (.int .i64 m.n) ∧ X.cell? ⟨w.heap.size,2,none⟩ = some (.slice A0.ra m.rows.length A0.rc) ∧ X.cell? ⟨w.heap.size,3,none⟩ = some (.slice A0.sa m.sung.length A0.sc) ∧ X.cell? ⟨w.heap.size,4,none⟩ = some (.bool m.done)) ∧ ((X.cell? ⟨X1.heap.size,0,none⟩ = some (.int .i64 r.ver) ∧ X.cell? ⟨X1.heap.size,1,none⟩ = some (.slice A2.ta r.txt.length A2.tc) ∧ X.cell? ⟨X1.heap.size,2,none⟩ = some (.slice A2.ga r.got.length A2.gc) ∧ X.cell? ⟨X1.heap.size,3,none⟩ = some (.slice A2.sa r.sus.length A2.sc)) ∧ X.cell? ⟨X1.heap.size,4,none⟩ = some (.bool r.wed) ∧ X.cell? ⟨X1.heap.size,5,none⟩ = some (.bool r.rdy) ∧ X.cell? ⟨X1.heap.size,6,none⟩ = some (.int .i64 r.by_) ∧ X.cell? ⟨X1.heap.size,7,none⟩ = some (.slice A2.ma r.trm.length A2.mc))) wh.drew := KS _ b0
  refine gt_takeA (i := 0) (v := ?_) rfl (by kernel_rfl) (by kernel_rfl) (by kernel_rfl) (by kernel_rfl) (fun _ _ _ h => h) (Or.inl ⟨by rfl, ?_⟩) hHeld ?_
  rotate_left
  ·(intro X hSX;(try dsimp only at hSX);obtain ⟨⟨g0,g1,g2,g3,g4⟩,⟨g5,g6,g7,g8⟩,g9,g10,g11,g12⟩ := hSX;go_simp;try with_reducible rfl)
  try simp only [Act.put,List.setIfInBounds_toArray,List.set_cons_zero,List.set_cons_succ]
  refine gt_takeA (i := 3) (v := ?_) rfl (by kernel_rfl) (by kernel_rfl) (by kernel_rfl) (by kernel_rfl) (fun _ _ _ h => h) (Or.inl ⟨by rfl, ?_⟩) hHeld ?_
  rotate_left
  ·(intro X hSX;(try dsimp only at hSX);obtain ⟨⟨g0,g1,g2,g3,g4⟩,⟨g5,g6,g7,g8⟩,g9,g10,g11,g12⟩ := hSX;go_simp;try with_reducible rfl)
  try simp only [Act.put,List.setIfInBounds_toArray,List.set_cons_zero,List.set_cons_succ]
  refine gt_pure (i := 2) (v := ?_) rfl (by kernel_rfl) (by kernel_rfl) (by kernel_rfl) (fun _ _ _ h => h) (Or.inl ⟨by rfl, ?_⟩) ?_
  rotate_left
  ·(intro X;go_simp;try with_reducible rfl)
  try simp only [Act.put,List.setIfInBounds_toArray,List.set_cons_zero,List.set_cons_succ]
  refine gt_two (i := 1) (j := 9) rfl rfl (by kernel_rfl) (by kernel_rfl) (fun K hK => ?_) (fun K hK => ?_)
  ·skip
   go_simp
   go_at_call 28
   refine (hTa _ b0).mono ?_
   rintro e V1 ⟨As1,rfl,is1,hb1⟩
   have bb1 : Below wh.heap.size wh _ := b0.trans (hb1.mono b0.size)
   have hsz1 := hb1.size
   refine hK.out _ _ (KS _ bb1) (fun hHeldN => ?_)
   clear hK hHeld
   have hHeld := hHeldN
   try simp only [Act.put,List.setIfInBounds_toArray,List.set_cons_zero,List.set_cons_succ]
   refine gt_two (i := 4) (j := 9) rfl rfl (by kernel_rfl) (by kernel_rfl) (fun K hK => ?_) (fun K hK => ?_)
   ·skip
    go_simp
    go_at_call 35
    refine (hTb _ bb1).mono ?_
    rintro e V2 ⟨As2,rfl,is2,hb2⟩
    have bb2 : Below wh.heap.size wh _ := bb1.trans (hb2.mono bb1.size)
    have is1_2 := is1.below hb2
    have hsz2 := hb2.size
    refine hK.out _ _ (KS _ bb2) (fun hHeldN => ?_)
    clear hK hHeld
    have hHeld := hHeldN
    try simp only [Act.put,List.setIfInBounds_toArray,List.set_cons_zero,List.set_cons_succ]
    refine gt_two (i := 5) (j := 9) rfl rfl (by kernel_rfl) (by kernel_rfl) (fun K hK => ?_) (fun K hK => ?_)
    ·skip
     go_simp
     refine (hI2 _ _ _ is1_2 is2).mono ?_
     rintro e V3 ⟨Av,rfl,is3,hb3⟩
     have bb3 : Below wh.heap.size wh _ := bb2.trans (hb3.mono bb2.size)
     have is1_2_3 := is1_2.below hb3
     have is2_3 := is2.below hb3
     have hsz3 := hb3.size
     refine hK.out _ _ (KS _ bb3) (fun hHeldN => ?_)
     clear hK hHeld
     have hHeld := hHeldN
     try simp only [Act.put,List.setIfInBounds_toArray,List.set_cons_zero,List.set_cons_succ]
     refine gt_pure (i := 6) (v := ?_) rfl (by kernel_rfl) (by kernel_rfl) (by kernel_rfl) (fun _ _ _ h => h) (Or.inl ⟨by rfl, ?_⟩) ?_
     rotate_left
     ·(intro X;go_simp;try with_reducible rfl)
     try simp only [Act.put,List.setIfInBounds_toArray,List.set_cons_zero,List.set_cons_succ]
     refine gt_pure (i := 7) (v := ?_) rfl (by kernel_rfl) (by kernel_rfl) (by kernel_rfl) (fun _ _ _ h => h) (Or.inl ⟨by rfl, ?_⟩) ?_
     rotate_left
     ·(intro X;go_simp;try with_reducible rfl)
     try simp only [Act.put,List.setIfInBounds_toArray,List.set_cons_zero,List.set_cons_succ]
     refine gt_pure (i := 8) (v := ?_) rfl (by kernel_rfl) (by kernel_rfl) (by kernel_rfl) (fun _ _ _ h => h) (Or.inl ⟨by rfl, ?_⟩) ?_
     rotate_left
     ·(intro X;go_simp;try with_reducible rfl)
     try simp only [Act.put,List.setIfInBounds_toArray,List.set_cons_zero,List.set_cons_succ]
     refine gt_one (i := 9) rfl (by kernel_rfl) (by kernel_rfl) (fun K hK => ?_)
     go_simp
     have hal4 := oneA16 V3 (.cells #[.int .i64 0,.int .i64 0,.slice none 0 0,.slice none 0 0,.bool false] 39)
     have hx4 := Bx.new V3 39 #[.int .i64 0,.int .i64 0,.slice none 0 0,.slice none 0 0,.bool false]
     have bb4 : Below wh.heap.size wh _ := bb3.trans (hal4.mono bb3.size)
     have is1_2_3_4 := is1_2_3.below hal4
     have is2_3_4 := is2_3.below hal4
     have is3_4 := is3.below hal4
     have hsz4 := hal4.size
     have hxl4 := hx4.lt
     have hbl4 := bb3.size
     generalize hV4 : V3.alloc (.cells #[.int .i64 0,.int .i64 0,.slice none 0 0,.slice none 0 0,.bool false] 39) = V4 at *
     refine hK.out _ _ (KS _ bb4) (fun hHeldN => ?_)
     clear hK hHeld
     have hHeld := hHeldN
     try simp only [Act.put,List.setIfInBounds_toArray,List.set_cons_zero,List.set_cons_succ]
     obtain ⟨y0,y1,y2,y3,y4⟩ := Bx.r5 hx4
     obtain ⟨f0,f1,f2,f3,f4⟩ := hx4.f5
     refine gt_one (i := 10) rfl (by kernel_rfl) (by kernel_rfl) (fun K hK => ?_)
     go_simp
     have hxs := bx_set5 (x0 := .int .i64 Z.id) (x1 := .int .i64 Z.n) (x2 := .slice Av.ra Z.rows.length Av.rc) (x3 := .slice Av.sa Z.sung.length Av.sc) (x4 := .bool Z.done) hx4
     have hws := wrt5 V4 V3.heap.size (a := .int .i64 Z.id) (b := .int .i64 Z.n) (c := .slice Av.ra Z.rows.length Av.rc) (d := .slice Av.sa Z.sung.length Av.sc) (e := .bool Z.done)
     have hbs : Below wh.heap.size wh _ := hws.below bb4 bb4.size (fun b e => by have := bb4.size;rw [e];omega)
     have his := is3_4.wrt hws (fun b e => by rw [e];omega)
     have hss := hws.size
     refine hK.out _ _ (KS _ hbs) (fun hHeldN => ?_)
     clear hK hHeld
     have hHeld := hHeldN
     try simp only [Act.put,List.setIfInBounds_toArray,List.set_cons_zero,List.set_cons_succ]
     refine gt_pure (i := 11) (v := ?_) rfl (by kernel_rfl) (by kernel_rfl) (by kernel_rfl) (fun _ _ _ h => h) (Or.inl ⟨by rfl, ?_⟩) ?_
     rotate_left
     ·(intro X;go_simp;try with_reducible rfl)
     try simp only [Act.put,List.setIfInBounds_toArray,List.set_cons_zero,List.set_cons_succ]
     refine gt_end (by kernel_rfl) ?_
     try go_wp2_with fail
     go_meet
     case rel => exact ⟨_,Av,_,_,rfl,rfl,hxs,his,by omega,hbs⟩
    ·go_simp
     have hal3 := oneA16 V2 (.cells #[.int .i64 0,.int .i64 0,.slice none 0 0,.slice none 0 0,.bool false] 39)
     have hx3 := Bx.new V2 39 #[.int .i64 0,.int .i64 0,.slice none 0 0,.slice none 0 0,.bool false]
     have bb3 : Below wh.heap.size wh _ := bb2.trans (hal3.mono bb2.size)
     have is1_2_3 := is1_2.below hal3
     have is2_3 := is2.below hal3
     have hsz3 := hal3.size
     have hxl3 := hx3.lt
     have hbl3 := bb2.size
     generalize hV3 : V2.alloc (.cells #[.int .i64 0,.int .i64 0,.slice none 0 0,.slice none 0 0,.bool false] 39) = V3 at *
     refine hK.out _ _ (KS _ bb3) (fun hHeldN => ?_)
     clear hK hHeld
     have hHeld := hHeldN
     try simp only [Act.put,List.setIfInBounds_toArray,List.set_cons_zero,List.set_cons_succ]
     refine gt_one (i := 5) rfl (by kernel_rfl) (by kernel_rfl) (fun K hK => ?_)
     go_simp
     refine (hI2 _ _ _ is1_2_3 is2_3).mono ?_
     rintro e V4 ⟨Av,rfl,is4,hb4⟩
     have bb4 : Below wh.heap.size wh _ := bb3.trans (hb4.mono bb3.size)
     have is1_2_3_4 := is1_2_3.below hb4
     have is2_3_4 := is2_3.below hb4
     have hx4 := hx3.below hb4
     have hxl4 := hx3.lt
     have hsz4 := hb4.size
     refine hK.out _ _ (KS _ bb4) (fun hHeldN => ?_)
     clear hK hHeld
     have hHeld := hHeldN
     try simp only [Act.put,List.setIfInBounds_toArray,List.set_cons_zero,List.set_cons_succ]
     refine gt_pure (i := 6) (v := ?_) rfl (by kernel_rfl) (by kernel_rfl) (by kernel_rfl) (fun _ _ _ h => h) (Or.inl ⟨by rfl, ?_⟩) ?_
     rotate_left
     ·(intro X;go_simp;try with_reducible rfl)
     try simp only [Act.put,List.setIfInBounds_toArray,List.set_cons_zero,List.set_cons_succ]
     refine gt_pure (i := 7) (v := ?_) rfl (by kernel_rfl) (by kernel_rfl) (by kernel_rfl) (fun _ _ _ h => h) (Or.inl ⟨by rfl, ?_⟩) ?_
     rotate_left
     ·(intro X;go_simp;try with_reducible rfl)
     try simp only [Act.put,List.setIfInBounds_toArray,List.set_cons_zero,List.set_cons_succ]
     refine gt_pure (i := 8) (v := ?_) rfl (by kernel_rfl) (by kernel_rfl) (by kernel_rfl) (fun _ _ _ h => h) (Or.inl ⟨by rfl, ?_⟩) ?_
     rotate_left
     ·(intro X;go_simp;try with_reducible rfl)
     try simp only [Act.put,List.setIfInBounds_toArray,List.set_cons_zero,List.set_cons_succ]
     obtain ⟨y0,y1,y2,y3,y4⟩ := Bx.r5 hx4
     obtain ⟨f0,f1,f2,f3,f4⟩ := hx4.f5
     refine gt_one (i := 10) rfl (by kernel_rfl) (by kernel_rfl) (fun K hK => ?_)
     go_simp
     have hxs := bx_set5 (x0 := .int .i64 Z.id) (x1 := .int .i64 Z.n) (x2 := .slice Av.ra Z.rows.length Av.rc) (x3 := .slice Av.sa Z.sung.length Av.sc) (x4 := .bool Z.done) hx4
     have hws := wrt5 V4 V2.heap.size (a := .int .i64 Z.id) (b := .int .i64 Z.n) (c := .slice Av.ra Z.rows.length Av.rc) (d := .slice Av.sa Z.sung.length Av.sc) (e := .bool Z.done)
     have hbs : Below wh.heap.size wh _ := hws.below bb4 bb4.size (fun b e => by have := bb4.size;rw [e];omega)
     have his := is4.wrt hws (fun b e => by rw [e];omega)
     have hss := hws.size
     refine hK.out _ _ (KS _ hbs) (fun hHeldN => ?_)
     clear hK hHeld
     have hHeld := hHeldN
     try simp only [Act.put,List.setIfInBounds_toArray,List.set_cons_zero,List.set_cons_succ]
     refine gt_pure (i := 11) (v := ?_) rfl (by kernel_rfl) (by kernel_rfl) (by kernel_rfl) (fun _ _ _ h => h) (Or.inl ⟨by rfl, ?_⟩) ?_
     rotate_left
     ·(intro X;go_simp;try with_reducible rfl)
     try simp only [Act.put,List.setIfInBounds_toArray,List.set_cons_zero,List.set_cons_succ]
     refine gt_end (by kernel_rfl) ?_
     try go_wp2_with fail
     go_meet
     case rel => exact ⟨_,Av,_,_,rfl,rfl,hxs,his,by omega,hbs⟩
   ·go_simp
    have hal2 := oneA16 V1 (.cells #[.int .i64 0,.int .i64 0,.slice none 0 0,.slice none 0 0,.bool false] 39)
    have hx2 := Bx.new V1 39 #[.int .i64 0,.int .i64 0,.slice none 0 0,.slice none 0 0,.bool false]
    have bb2 : Below wh.heap.size wh _ := bb1.trans (hal2.mono bb1.size)
    have is1_2 := is1.below hal2
    have hsz2 := hal2.size
    have hxl2 := hx2.lt
    have hbl2 := bb1.size
    generalize hV2 : V1.alloc (.cells #[.int .i64 0,.int .i64 0,.slice none 0 0,.slice none 0 0,.bool false] 39) = V2 at *
    refine hK.out _ _ (KS _ bb2) (fun hHeldN => ?_)
    clear hK hHeld
    have hHeld := hHeldN
    try simp only [Act.put,List.setIfInBounds_toArray,List.set_cons_zero,List.set_cons_succ]
    refine gt_one (i := 4) rfl (by kernel_rfl) (by kernel_rfl) (fun K hK => ?_)
    go_simp
    go_at_call 35
    refine (hTb _ bb2).mono ?_
    rintro e V3 ⟨As3,rfl,is3,hb3⟩
    have bb3 : Below wh.heap.size wh _ := bb2.trans (hb3.mono bb2.size)
    have is1_2_3 := is1_2.below hb3
    have hx3 := hx2.below hb3
    have hxl3 := hx2.lt
    have hsz3 := hb3.size
    refine hK.out _ _ (KS _ bb3) (fun hHeldN => ?_)
    clear hK hHeld
    have hHeld := hHeldN
    try simp only [Act.put,List.setIfInBounds_toArray,List.set_cons_zero,List.set_cons_succ]
    refine gt_one (i := 5) rfl (by kernel_rfl) (by kernel_rfl) (fun K hK => ?_)
    go_simp
    refine (hI2 _ _ _ is1_2_3 is3).mono ?_
    rintro e V4 ⟨Av,rfl,is4,hb4⟩
    have bb4 : Below wh.heap.size wh _ := bb3.trans (hb4.mono bb3.size)
    have is1_2_3_4 := is1_2_3.below hb4
    have is3_4 := is3.below hb4
    have hx4 := hx3.below hb4
    have hxl4 := hx3.lt
    have hsz4 := hb4.size
    refine hK.out _ _ (KS _ bb4) (fun hHeldN => ?_)
    clear hK hHeld
    have hHeld := hHeldN
    try simp only [Act.put,List.setIfInBounds_toArray,List.set_cons_zero,List.set_cons_succ]
    refine gt_pure (i := 6) (v := ?_) rfl (by kernel_rfl) (by kernel_rfl) (by kernel_rfl) (fun _ _ _ h => h) (Or.inl ⟨by rfl, ?_⟩) ?_
    rotate_left
    ·(intro X;go_simp;try with_reducible rfl)
    try simp only [Act.put,List.setIfInBounds_toArray,List.set_cons_zero,List.set_cons_succ]
    refine gt_pure (i := 7) (v := ?_) rfl (by kernel_rfl) (by kernel_rfl) (by kernel_rfl) (fun _ _ _ h => h) (Or.inl ⟨by rfl, ?_⟩) ?_
    rotate_left
    ·(intro X;go_simp;try with_reducible rfl)
    try simp only [Act.put,List.setIfInBounds_toArray,List.set_cons_zero,List.set_cons_succ]
    refine gt_pure (i := 8) (v := ?_) rfl (by kernel_rfl) (by kernel_rfl) (by kernel_rfl) (fun _ _ _ h => h) (Or.inl ⟨by rfl, ?_⟩) ?_
    rotate_left
    ·(intro X;go_simp;try with_reducible rfl)
    try simp only [Act.put,List.setIfInBounds_toArray,List.set_cons_zero,List.set_cons_succ]
    obtain ⟨y0,y1,y2,y3,y4⟩ := Bx.r5 hx4
    obtain ⟨f0,f1,f2,f3,f4⟩ := hx4.f5
    refine gt_one (i := 10) rfl (by kernel_rfl) (by kernel_rfl) (fun K hK => ?_)
    go_simp
    have hxs := bx_set5 (x0 := .int .i64 Z.id) (x1 := .int .i64 Z.n) (x2 := .slice Av.ra Z.rows.length Av.rc) (x3 := .slice Av.sa Z.sung.length Av.sc) (x4 := .bool Z.done) hx4
    have hws := wrt5 V4 V1.heap.size (a := .int .i64 Z.id) (b := .int .i64 Z.n) (c := .slice Av.ra Z.rows.length Av.rc) (d := .slice Av.sa Z.sung.length Av.sc) (e := .bool Z.done)
    have hbs : Below wh.heap.size wh _ := hws.below bb4 bb4.size (fun b e => by have := bb4.size;rw [e];omega)
    have his := is4.wrt hws (fun b e => by rw [e];omega)
    have hss := hws.size
    refine hK.out _ _ (KS _ hbs) (fun hHeldN => ?_)
    clear hK hHeld
    have hHeld := hHeldN
    try simp only [Act.put,List.setIfInBounds_toArray,List.set_cons_zero,List.set_cons_succ]
    refine gt_pure (i := 11) (v := ?_) rfl (by kernel_rfl) (by kernel_rfl) (by kernel_rfl) (fun _ _ _ h => h) (Or.inl ⟨by rfl, ?_⟩) ?_
    rotate_left
    ·(intro X;go_simp;try with_reducible rfl)
    try simp only [Act.put,List.setIfInBounds_toArray,List.set_cons_zero,List.set_cons_succ]
    refine gt_end (by kernel_rfl) ?_
    try go_wp2_with fail
    go_meet
    case rel => exact ⟨_,Av,_,_,rfl,rfl,hxs,his,by omega,hbs⟩
  ·go_simp
   have hal1 : Below wh.drew.heap.size wh.drew (wh.alloc (.cells #[.int .i64 0,.int .i64 0,.slice none 0 0,.slice none 0 0,.bool false] 39)).drew := oneA16 wh.drew (.cells #[.int .i64 0,.int .i64 0,.slice none 0 0,.slice none 0 0,.bool false] 39)
   have hx1 : Bx (wh.alloc (.cells #[.int .i64 0,.int .i64 0,.slice none 0 0,.slice none 0 0,.bool false] 39)).drew wh.heap.size 39 #[.int .i64 0,.int .i64 0,.slice none 0 0,.slice none 0 0,.bool false] := Bx.new wh.drew 39 #[.int .i64 0,.int .i64 0,.slice none 0 0,.slice none 0 0,.bool false]
   have bb1 : Below wh.heap.size wh _ := b0.trans (hal1.mono b0.size)
   have hsz1 := hal1.size
   have hxl1 := hx1.lt
   have hbl1 := b0.size
   generalize hV1 : (wh.alloc (.cells #[.int .i64 0,.int .i64 0,.slice none 0 0,.slice none 0 0,.bool false] 39)).drew = V1 at *
   refine hK.out _ _ (KS _ bb1) (fun hHeldN => ?_)
   clear hK hHeld
   have hHeld := hHeldN
   try simp only [Act.put,List.setIfInBounds_toArray,List.set_cons_zero,List.set_cons_succ]
   refine gt_one (i := 1) rfl (by kernel_rfl) (by kernel_rfl) (fun K hK => ?_)
   go_simp
   go_at_call 28
   refine (hTa _ bb1).mono ?_
   rintro e V2 ⟨As2,rfl,is2,hb2⟩
   have bb2 : Below wh.heap.size wh _ := bb1.trans (hb2.mono bb1.size)
   have hx2 := hx1.below hb2
   have hxl2 := hx1.lt
   have hsz2 := hb2.size
   refine hK.out _ _ (KS _ bb2) (fun hHeldN => ?_)
   clear hK hHeld
   have hHeld := hHeldN
   try simp only [Act.put,List.setIfInBounds_toArray,List.set_cons_zero,List.set_cons_succ]
   refine gt_one (i := 4) rfl (by kernel_rfl) (by kernel_rfl) (fun K hK => ?_)
   go_simp
   go_at_call 35
   refine (hTb _ bb2).mono ?_
   rintro e V3 ⟨As3,rfl,is3,hb3⟩
   have bb3 : Below wh.heap.size wh _ := bb2.trans (hb3.mono bb2.size)
   have is2_3 := is2.below hb3
   have hx3 := hx2.below hb3
   have hxl3 := hx2.lt
   have hsz3 := hb3.size
   refine hK.out _ _ (KS _ bb3) (fun hHeldN => ?_)
   clear hK hHeld
   have hHeld := hHeldN
   try simp only [Act.put,List.setIfInBounds_toArray,List.set_cons_zero,List.set_cons_succ]
   refine gt_one (i := 5) rfl (by kernel_rfl) (by kernel_rfl) (fun K hK => ?_)
   go_simp
   refine (hI2 _ _ _ is2_3 is3).mono ?_
   rintro e V4 ⟨Av,rfl,is4,hb4⟩
   have bb4 : Below wh.heap.size wh _ := bb3.trans (hb4.mono bb3.size)
   have is2_3_4 := is2_3.below hb4
   have is3_4 := is3.below hb4
   have hx4 := hx3.below hb4
   have hxl4 := hx3.lt
   have hsz4 := hb4.size
   refine hK.out _ _ (KS _ bb4) (fun hHeldN => ?_)
   clear hK hHeld
   have hHeld := hHeldN
   try simp only [Act.put,List.setIfInBounds_toArray,List.set_cons_zero,List.set_cons_succ]
   refine gt_pure (i := 6) (v := ?_) rfl (by kernel_rfl) (by kernel_rfl) (by kernel_rfl) (fun _ _ _ h => h) (Or.inl ⟨by rfl, ?_⟩) ?_
   rotate_left
   ·(intro X;go_simp;try with_reducible rfl)
   try simp only [Act.put,List.setIfInBounds_toArray,List.set_cons_zero,List.set_cons_succ]
   refine gt_pure (i := 7) (v := ?_) rfl (by kernel_rfl) (by kernel_rfl) (by kernel_rfl) (fun _ _ _ h => h) (Or.inl ⟨by rfl, ?_⟩) ?_
   rotate_left
   ·(intro X;go_simp;try with_reducible rfl)
   try simp only [Act.put,List.setIfInBounds_toArray,List.set_cons_zero,List.set_cons_succ]
   refine gt_pure (i := 8) (v := ?_) rfl (by kernel_rfl) (by kernel_rfl) (by kernel_rfl) (fun _ _ _ h => h) (Or.inl ⟨by rfl, ?_⟩) ?_
   rotate_left
   ·(intro X;go_simp;try with_reducible rfl)
   try simp only [Act.put,List.setIfInBounds_toArray,List.set_cons_zero,List.set_cons_succ]
   obtain ⟨y0,y1,y2,y3,y4⟩ := Bx.r5 hx4
   obtain ⟨f0,f1,f2,f3,f4⟩ := hx4.f5
   refine gt_one (i := 10) rfl (by kernel_rfl) (by kernel_rfl) (fun K hK => ?_)
   go_simp
   have hxs := bx_set5 (x0 := .int .i64 Z.id) (x1 := .int .i64 Z.n) (x2 := .slice Av.ra Z.rows.length Av.rc) (x3 := .slice Av.sa Z.sung.length Av.sc) (x4 := .bool Z.done) hx4
   have hws := wrt5 V4 wh.heap.size (a := .int .i64 Z.id) (b := .int .i64 Z.n) (c := .slice Av.ra Z.rows.length Av.rc) (d := .slice Av.sa Z.sung.length Av.sc) (e := .bool Z.done)
   have hbs : Below wh.heap.size wh _ := hws.below bb4 bb4.size (fun b e => by have := bb4.size;rw [e];omega)
   have his := is4.wrt hws (fun b e => by rw [e];omega)
   have hss := hws.size
   refine hK.out _ _ (KS _ hbs) (fun hHeldN => ?_)
   clear hK hHeld
   have hHeld := hHeldN
   try simp only [Act.put,List.setIfInBounds_toArray,List.set_cons_zero,List.set_cons_succ]
   refine gt_pure (i := 11) (v := ?_) rfl (by kernel_rfl) (by kernel_rfl) (by kernel_rfl) (fun _ _ _ h => h) (Or.inl ⟨by rfl, ?_⟩) ?_
   rotate_left
   ·(intro X;go_simp;try with_reducible rfl)
   try simp only [Act.put,List.setIfInBounds_toArray,List.set_cons_zero,List.set_cons_succ]
   refine gt_end (by kernel_rfl) ?_
   try go_wp2_with fail
   go_meet
   case rel => exact ⟨_,Av,_,_,rfl,rfl,hxs,his,by omega,hbs⟩
 case rest =>
 obtain ⟨vbh,Ah,lvh,hvh,rfl,rfl,xhb,ih,hhh,hbh⟩ := hcut
 clear KS hTa hTb
 generalize wc = wj at *
 have hlth := xhb.lt
 have B170 : Below w.heap.size w wj := B161.trans (hbh.mono B161.size)
 have sB170 : wh.heap.size ≤ wj.heap.size := hbh.size
 have h171 := h162.below hbh
 have h172 := h163.below hbh
 have h173 := h164.below hbh
 have h174 := h165.below hbh
 have h175 := h166.below hbh
 have h176 := h167.below hbh
 have h177 := h168.below hbh
 have h178 := h169.below hbh
 clear B161 h162 h163 h164 h165 h166 h167 h168 h169
 obtain ⟨c1790,c1791,c1792,c1793,c1794⟩ := Bx.r5 xhb
 obtain ⟨c1800,c1801,c1802,c1803,c1804⟩ := Bx.r5 h174
 go_wp2_with fail
 refine (hEz wj _ _ ih h173).mono ?_
 rintro e wk ⟨rfl,hbwk⟩
 clear c1790 c1791 c1792 c1793 c1794 c1800 c1801 c1802 c1803 c1804
 have B181 : Below w.heap.size w wk := B170.trans (hbwk.mono B170.size)
 have sB181 : wj.heap.size ≤ wk.heap.size := hbwk.size
 have h182 := h171.below hbwk
 have h183 := h172.below hbwk
 have h184 := h173.below hbwk
 have h185 := h174.below hbwk
 have h186 := h175.below hbwk
 have h187 := h176.below hbwk
 have h188 := h177.below hbwk
 have h189 := h178.below hbwk
 have h190 := ih.below hbwk
 have h191 := xhb.below hbwk
 clear B170 h171 h172 h173 h174 h175 h176 h177 h178 ih xhb
 obtain ⟨c1920,c1921,c1922,c1923,c1924⟩ := Bx.r5 h189
 go_wp2_with fail
 refine (hHz wk _ _ _ h188).mono ?_
 rintro e wl ⟨rfl,hbl⟩
 clear c1920 c1921 c1922 c1923 c1924
 have B193 : Below w.heap.size w wl := B181.trans (hbl.mono B181.size)
 have sB193 : wk.heap.size ≤ wl.heap.size := hbl.size
 have h194 := h182.below hbl
 have h195 := h183.below hbl
 have h196 := h184.below hbl
 have h197 := h185.below hbl
 have h198 := h186.below hbl
 have h199 := h187.below hbl
 have h200 := h188.below hbl
 have h201 := h189.below hbl
 have h202 := h190.below hbl
 have h203 := h191.below hbl
 clear B181 h182 h183 h184 h185 h186 h187 h188 h189 h190 h191
 go_wp2
 go_ret
 exact ⟨rfl,B193⟩
end Go.Proofs.Ythioodpmgifomaa
namespace Go.Proofs.Ythioodpmgifomaa
set_option linter.unusedVariables false
set_option linter.unusedSimpArgs false
open Go.ChangeShapes Go.WideShapes Go.ChangeAt Go.RowKit Go.Deep
section
variable {H : Type} {enc : TypeId × Value → H} {P : Program} {W : World} {base : Nat} {held : Bool}
theorem field_of {t : TypeId} {fs : Array Field} {fuel : Nat} {cs : List Value} {x : DataW H × List MemPlace} (ht : P.underlying t = some (.struct fs)) (hone : oneCellFields P fs = true) (h : DataW.trod enc P W base (fun _ => true) held fuel t cs = some x) :
  cs.length = P.cellsOf t ∧ ∃ n,∀ (i : Nat) (f : Field) (c : Value),fs[i]? = some f → cs[i]? = some c → ∃ y,DataW.trod enc P W base (fun _ => true) held n f.type [c] = some y := by
 obtain ⟨xs,n,_,rfl,hl,hlen,hf⟩ := DataW.trod_struct ht h
 refine ⟨hl,n,fun i f c hi hc => ?_⟩
 obtain ⟨o,k⟩ := hone_of hone i f hi
 have h1 := hf i f hi
 have hix : i < xs.length := by
  rw [hlen]
  exact (Array.getElem?_eq_some_iff.1 hi).1
 have e : (cs.drop i).take 1 = [c] := by
  have hic := (List.getElem?_eq_some_iff.1 hc).1
  have hcc := (List.getElem?_eq_some_iff.1 hc).2
  rw [List.drop_eq_getElem_cons hic,hcc]
  rfl
 rw [o,k,e,List.getElem?_eq_getElem hix] at h1
 exact ⟨_,h1⟩
theorem ints_of {t e : TypeId} {fuel : Nat} {c : Value} {y : DataW H × List MemPlace} (ht : P.underlying t = some (.slice e)) (he : P.underlying e = some (.int .i64)) (hc : P.cellsOf e = 1) (h : DataW.trod enc P W base (fun _ => true) held fuel t [c] = some y) :
  ∃ a cap M,c = .slice a (List.length M) cap ∧ Vec W a (List.length M) M ∧ List.length M ≤ maxLen := by
 obtain ⟨a,len,cap,z,rfl,hw⟩ : ∃ a len cap zs,c = .slice a len cap ∧ IsRow .i64 W a len cap zs := by
  rcases open_ints ht he hc h with ⟨hcs,_⟩ | ⟨x,l,c,zs,hcs,_,hl,hm,hz,_,hcell,hwz⟩
  ·simp at hcs
   exact ⟨none,0,0,[],hcs,.inl ⟨rfl,rfl,rfl,rfl⟩⟩
  ·simp at hcs
   exact ⟨some x,l,c,zs,hcs,.inr ⟨_,rfl,hl,hm,by simpa using hz,hcell,hwz⟩⟩
 rcases hw with ⟨rfl,rfl,rfl,rfl⟩ | ⟨ad,rfl,hl,hm,hz,hcell,hwz⟩
 ·exact ⟨none,0,[],rfl,⟨rfl,fun x hx => absurd hx List.not_mem_nil,.inl rfl⟩,Nat.zero_le _⟩
 ·have hz' : z.length = cap := by simpa using hz
  have hlen : (z.take len).length = len := by rw [List.length_take];omega
  have hfit : Fits (z.take len) := fun n hn => bounds_i64 (hwz n (List.mem_of_mem_take hn))
  refine ⟨some ad,cap,z.take len,by rw [hlen],⟨rfl,hfit, ?_⟩,by rw [hlen];exact Nat.le_trans hl hm⟩
  rcases Nat.eq_zero_or_pos len with e | e
  ·exact .inl (by omega)
  ·obtain ⟨b,off,spot⟩ := ad
   have hs : spot = none := by
    have := hcell 0 (by omega)
    simpa [Addr.add] using World.cell?_spot this
   subst hs
   refine .inr ⟨b,off,rfl,fun i hi => ?_⟩
   have h1 := hcell i (by omega)
   rw [add_lit0] at h1
   rw [h1]
   simp [el,List.getD,List.getElem?_take_of_lt (show i < len by omega)]
theorem str_short16 {s : ByteArray} (h : s.size ≤ maxLen) : s.data.toList.length ≤ 9223372036854775807 := by
 have e : s.data.toList.length = s.size := by rw [Array.length_toList];rfl
 rw [e]
 unfold maxLen at h
 exact h
theorem txts_of {t e : TypeId} {fuel : Nat} {c : Value} {y : DataW H × List MemPlace} (ht : P.underlying t = some (.slice e)) (he : P.underlying e = some .string) (hc : P.cellsOf e = 1) (h : DataW.trod enc P W base (fun _ => true) held fuel t [c] = some y) :
  ∃ a cap T,c = .slice a (List.length T) cap ∧ TxS W a T ∧ LongT T ∧ List.length T ≤ maxLen := by
 rcases open_strs ht he hc h with ⟨hcs,_⟩ | ⟨ad,len,cap,m,S,hcs,_,hl,hm,hmm,_,hx⟩
 ·simp at hcs
  subst hcs
  exact ⟨none,0,[],rfl,.inl rfl,fun i hi => absurd hi (Nat.not_lt_zero _),Nat.zero_le _⟩
 ·simp at hcs
  subst hcs
  have hlm : len ≤ m := by rw [hmm];split <;> omega
  have hlen : ((List.range len).map fun r => (S r).data.toList).length = len := by simp
  have hget : ∀ i,i < len → ((List.range len).map fun r => (S r).data.toList).getD i [] = (S i).data.toList := fun i hi => by simp [List.getD,hi]
  refine ⟨some ad,cap,(List.range len).map fun r => (S r).data.toList,by rw [hlen], ?_,fun i hi => ?_,by rw [hlen];exact Nat.le_trans hl hm⟩
  ·by_cases h0 : len = 0
   ·exact .inl (by rw [hlen];exact h0)
   ·obtain ⟨b,off,spot⟩ := ad
    have hs : spot = none := by
     have := (hx 0 (by omega)).1
     simpa [Addr.add] using World.cell?_spot this
    subst hs
    refine .inr ⟨b,off,rfl,fun i hi => ?_⟩
    rw [hlen] at hi
    rw [hget i hi]
    have hc := (hx i (by omega)).1
    rw [add_lit0] at hc
    rw [hc,← sv_of]
  ·rw [hlen] at hi
   rw [hget i hi]
   exact str_short16 (hx i (by omega)).2
end
theorem list8 {α : Type} {l : List α} (h : l.length = 8) : ∃ c0 c1 c2 c3 c4 c5 c6 c7,l = [c0,c1,c2,c3,c4,c5,c6,c7] := by
 match l,h with
 | [c0,c1,c2,c3,c4,c5,c6,c7],_ => exact ⟨c0,c1,c2,c3,c4,c5,c6,c7,rfl⟩
set_option maxRecDepth 100000 in
theorem row_of {H : Type} {enc : TypeId × Value → H} {W : World} {base fuel : Nat} {held : Bool} {cs : List Value} {x : DataW H × List MemPlace} (h : DataW.trod enc Try.prog W base (fun _ => true) held fuel 48 cs = some x) :
  ∃ A r,cs = (rwC A r).toList ∧ RwS W A r ∧ LongT r.txt ∧ Rw64 r := by
 obtain ⟨hl,n,hf⟩ := field_of Try.underlying48 (by kernel_rfl) h
 rw [show Try.prog.cellsOf 48 = 8 by kernel_rfl] at hl
 obtain ⟨c0,c1,c2,c3,c4,c5,c6,c7,rfl⟩ := list8 hl
 obtain ⟨y0,g0⟩ := hf 0 _ c0 rfl rfl
 obtain ⟨y1,g1⟩ := hf 1 _ c1 rfl rfl
 obtain ⟨y2,g2⟩ := hf 2 _ c2 rfl rfl
 obtain ⟨y3,g3⟩ := hf 3 _ c3 rfl rfl
 obtain ⟨y4,g4⟩ := hf 4 _ c4 rfl rfl
 obtain ⟨y5,g5⟩ := hf 5 _ c5 rfl rfl
 obtain ⟨y6,g6⟩ := hf 6 _ c6 rfl rfl
 obtain ⟨y7,g7⟩ := hf 7 _ c7 rfl rfl
 obtain ⟨i0,e0,_,b0⟩ := DataW.trod_int Try.underlying2 g0
 obtain ⟨a1,d1,T,rfl,t1,t2,t3⟩ := txts_of Try.underlying46 Try.underlying9 (by kernel_rfl) g1
 obtain ⟨a2,d2,M2,rfl,u2,v2⟩ := ints_of Try.underlying24 Try.underlying2 (by kernel_rfl) g2
 obtain ⟨a3,d3,M3,rfl,u3,v3⟩ := ints_of Try.underlying24 Try.underlying2 (by kernel_rfl) g3
 obtain ⟨z4,e4,_⟩ := DataW.trod_bool Try.underlying4 g4
 obtain ⟨z5,e5,_⟩ := DataW.trod_bool Try.underlying4 g5
 obtain ⟨i6,e6,_,b6⟩ := DataW.trod_int Try.underlying2 g6
 obtain ⟨a7,d7,M7,rfl,u7,v7⟩ := ints_of Try.underlying24 Try.underlying2 (by kernel_rfl) g7
 simp at e0 e4 e5 e6
 subst e0 e4 e5 e6
 exact ⟨⟨a1,d1,a2,d2,a3,d3,a7,d7⟩,⟨i0,T,M2,M3,z4,z5,i6,M7⟩,rfl,⟨t1,u2,u3,u7,t3,v2,v3,v7⟩,t2,⟨bounds_i64 b0,bounds_i64 b6⟩⟩
set_option maxRecDepth 100000 in
theorem open_row {H : Type} {enc : TypeId × Value → H} {W : World} {base : Nat} {v : Value} {d : DataW H} {p : List MemPlace} (hv : Value.okWide Try.prog W .any base 48 v) (h : DataW.Trod enc Try.prog W 0 (fun _ => true) true 48 v d p) :
  ∃ A r,v = rwV A r ∧ RwS W A r ∧ LongT r.txt ∧ Rw64 r := by
 obtain ⟨cs,rfl,hsz⟩ := okWide_struct Try.underlying48 hv
 obtain ⟨fuel,hf⟩ := h
 obtain ⟨A,r,e,h1,h2,h3⟩ := row_of hf
 have e' : cs.toList = (rwC A r).toList := by simpa [Value.cells] using e
 exact ⟨A,r,by rw [rwV,Array.toList_inj.1 e'],h1,h2,h3⟩
end Go.Proofs.Ythioodpmgifomaa