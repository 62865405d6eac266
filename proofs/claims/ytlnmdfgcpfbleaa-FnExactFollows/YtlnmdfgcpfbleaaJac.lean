/-
  Texts in one: Rzx Ozr Ivk Rzi Rzj Rzk Rzu.
-/
import Derived.Test.YtlnmdfgcpfbleaaJab
import Derived.Test.YtlnmdfgcpfbleaaJaa
import Derived.Deep.RegionHeld3
import Derived.Lib.SmallJoins
import Derived.OpenShut
import Derived.ChangeOld
import Derived.ShutString
import Derived.Deep.Matrix
import Derived.Deep.Slices
import Derived.Deep.Strs
import Derived.Deep.Grids
import Derived.BigQuiet
import Derived.Stop.Asserts
namespace Go.Proofs.Ytlnmdfgcpfbleaa
set_option linter.unusedVariables false
set_option linter.unusedSimpArgs false
open Go.RowKit Go.Sort
set_option maxRecDepth 100000 in
set_option maxHeartbeats 6400000 in
theorem lawFollows (hI : ImplFollows) (A0 : Ra) (r : Rw) (A1 : Ra) (s : Rw) (n : Int) (w : World) (hv0 : RwS w A0 r) (hg0 : LongT r.txt) (h60 : Rw64 r) (hv1 : RwS w A1 s) (hg1 : LongT s.txt) (h61 : Rw64 s) (h62 : I64v n) :
  Calls Try.prog 5 #[rwV A0 r,rwV A1 s,.int .i64 n] w fun e w' => e = .returned (.bool true) ∧ Below w.heap.size w w' := by
 have hf0 : FitR r := hv0.fit
 have hZ0 : ∀ (X : World) (left : Int),Below w.heap.size w X → (0 ≤ left ∧ left ≤ 1048576) → Calls Try.prog 40 #[rwV A0 r,.int .i64 left] X fun e w' => ∃ q : Int,e = .returned (.int .i64 q) ∧ (q = -1 ∨ 0 ≤ q ∧ q + (szRw r : Int) = left) ∧ Below X.heap.size X w' := fun X left hX hl => szRw_any A0 r left X (hv0.below hX) hg0 hl
 have hTo0 : szRw r ≤ 1048576 → ∀ X,Below w.heap.size w X → Calls Try.prog 41 #[rwV A0 r] X fun e w' => ∃ A',e = .returned (rwV A' r) ∧ It w' (rwCels r) (rwVals A' r) X.heap.size w'.heap.size ∧ Below X.heap.size X w' := fun hs X hX => (toRw_any A0 r X (hv0.below hX) (by unfold szRw at hs;omega) (by unfold szRw at hs;omega) (by unfold szRw at hs;omega) (by unfold szRw at hs;omega)).mono (fun e w' h => h.it)
 have hE0 : szRw r ≤ 1048576 → ∀ (X : World) (A1 A2 : Ra) {l1 h1 l2 h2 : Nat},It X (rwCels r) (rwVals A1 r) l1 h1 → It X (rwCels r) (rwVals A2 r) l2 h2 → Calls Try.prog 42 #[rwV A1 r,rwV A2 r] X fun e w' => e = .returned (.bool true) ∧ Below X.heap.size X w' := fun hs X A1 A2 l1 h1 l2 h2 i1 i2 => eqRw_any A1 A2 r X (it_rws i1 hf0 hs) (it_rws i2 hf0 hs)
 have hf1 : FitR s := hv1.fit
 have hZ1 : ∀ (X : World) (left : Int),Below w.heap.size w X → (0 ≤ left ∧ left ≤ 1048576) → Calls Try.prog 40 #[rwV A1 s,.int .i64 left] X fun e w' => ∃ q : Int,e = .returned (.int .i64 q) ∧ (q = -1 ∨ 0 ≤ q ∧ q + (szRw s : Int) = left) ∧ Below X.heap.size X w' := fun X left hX hl => szRw_any A1 s left X (hv1.below hX) hg1 hl
 have hTo1 : szRw s ≤ 1048576 → ∀ X,Below w.heap.size w X → Calls Try.prog 41 #[rwV A1 s] X fun e w' => ∃ A',e = .returned (rwV A' s) ∧ It w' (rwCels s) (rwVals A' s) X.heap.size w'.heap.size ∧ Below X.heap.size X w' := fun hs X hX => (toRw_any A1 s X (hv1.below hX) (by unfold szRw at hs;omega) (by unfold szRw at hs;omega) (by unfold szRw at hs;omega) (by unfold szRw at hs;omega)).mono (fun e w' h => h.it)
 have hE1 : szRw s ≤ 1048576 → ∀ (X : World) (A1 A2 : Ra) {l1 h1 l2 h2 : Nat},It X (rwCels s) (rwVals A1 s) l1 h1 → It X (rwCels s) (rwVals A2 s) l2 h2 → Calls Try.prog 42 #[rwV A1 s,rwV A2 s] X fun e w' => e = .returned (.bool true) ∧ Below X.heap.size X w' := fun hs X A1 A2 l1 h1 l2 h2 i1 i2 => eqRw_any A1 A2 s X (it_rws i1 hf1 hs) (it_rws i2 hf1 hs)
 have hSp : szRw r ≤ 1048576 → szRw s ≤ 1048576 → ∀ (X : World) (B0 : Ra) (B1 : Ra) {l0 u0 : Nat} {l1 u1 : Nat},It X (rwCels r) (rwVals B0 r) l0 u0 → It X (rwCels s) (rwVals B1 s) l1 u1 → Calls Try.prog 32 #[rwV B0 r,rwV B1 s,.int .i64 n] X fun e w' => e = .returned (.bool (folB r s n)) ∧ Below X.heap.size X w' := fun hs0 hs1 X B0 B1 l0 u0 l1 u1 i0 i1 => folS_any B0 B1 r s n X (it_rws i0 hf0 hs0) (it_rws i1 hf1 hs1)
 have hIm : szRw r ≤ 1048576 → szRw s ≤ 1048576 → ∀ (X : World) (B0 : Ra) (B1 : Ra) {l0 u0 : Nat} {l1 u1 : Nat},It X (rwCels r) (rwVals B0 r) l0 u0 → It X (rwCels s) (rwVals B1 s) l1 u1 → Calls Try.prog 28 #[rwV B0 r,rwV B1 s,.int .i64 n] X fun e w' => e = .returned (.bool (folB r s n)) ∧ Below X.heap.size X w' := fun hs0 hs1 X B0 B1 l0 u0 l1 u1 i0 i1 => hI B0 B1 r s n X (it_rwp i0 hf0 h60 hs0) (it_rwp i1 hf1 h61 hs1) h62
 generalize folB r s n = Q at *
 have ne : (Q != Q) = false := by simp
 clear hI hv0 hv1
 unfold rwV rwC at *
 have hb00 : Below w.heap.size w w := Below.refl _ _
 have b2 := oneA16 w (.cells #[.int .i64 r.ver,.slice A0.ta r.txt.length A0.tc,.slice A0.ga r.got.length A0.gc,.slice A0.sa r.sus.length A0.sc,.bool r.wed,.bool r.rdy,.int .i64 r.by_,.slice A0.ma r.trm.length A0.mc] 47)
 have h3 := Bx.new w 47 #[.int .i64 r.ver,.slice A0.ta r.txt.length A0.tc,.slice A0.ga r.got.length A0.gc,.slice A0.sa r.sus.length A0.sc,.bool r.wed,.bool r.rdy,.int .i64 r.by_,.slice A0.ma r.trm.length A0.mc]
 generalize hX1 : w.alloc (.cells #[.int .i64 r.ver,.slice A0.ta r.txt.length A0.tc,.slice A0.ga r.got.length A0.gc,.slice A0.sa r.sus.length A0.sc,.bool r.wed,.bool r.rdy,.int .i64 r.by_,.slice A0.ma r.trm.length A0.mc] 47) = X1 at *
 have B5 : Below w.heap.size w X1 := hb00.trans (b2.mono hb00.size)
 have sB5 : w.heap.size ≤ X1.heap.size := b2.size
 clear hb00
 have k4 : w.heap.size < X1.heap.size := h3.lt
 clear b2
 have b7 := oneA16 X1 (.cells #[.int .i64 s.ver,.slice A1.ta s.txt.length A1.tc,.slice A1.ga s.got.length A1.gc,.slice A1.sa s.sus.length A1.sc,.bool s.wed,.bool s.rdy,.int .i64 s.by_,.slice A1.ma s.trm.length A1.mc] 47)
 have h8 := Bx.new X1 47 #[.int .i64 s.ver,.slice A1.ta s.txt.length A1.tc,.slice A1.ga s.got.length A1.gc,.slice A1.sa s.sus.length A1.sc,.bool s.wed,.bool s.rdy,.int .i64 s.by_,.slice A1.ma s.trm.length A1.mc]
 generalize hX6 : X1.alloc (.cells #[.int .i64 s.ver,.slice A1.ta s.txt.length A1.tc,.slice A1.ga s.got.length A1.gc,.slice A1.sa s.sus.length A1.sc,.bool s.wed,.bool s.rdy,.int .i64 s.by_,.slice A1.ma s.trm.length A1.mc] 47) = X6 at *
 have B10 : Below w.heap.size w X6 := B5.trans (b7.mono B5.size)
 have sB10 : X1.heap.size ≤ X6.heap.size := b7.size
 have h11 := h3.below b7
 clear B5 h3
 have k9 : X1.heap.size < X6.heap.size := h8.lt
 clear b7
 go_enter Try.func5,Try.ntmps5
 obtain ⟨⟨c120,c121,c122,c123⟩,c124,c125,c126,c127⟩ := Bx.r8 h11
 go_wp2_with fail
 refine (hZ0 X6 1048576 B10 ⟨by omega,by omega⟩).mono ?_
 rintro e z0 ⟨q0,rfl,hq0,hbz0⟩
 clear c120 c121 c122 c123 c124 c125 c126 c127
 have B13 : Below w.heap.size w z0 := B10.trans (hbz0.mono B10.size)
 have sB13 : X6.heap.size ≤ z0.heap.size := hbz0.size
 have h14 := h11.below hbz0
 have h15 := h8.below hbz0
 clear B10 h11 h8
 rcases hq0 with rfl | ⟨hqa0,hqb0⟩
 ·go_wp2
  go_ret
  exact ⟨rfl,B13⟩
 have hqn0 : decide (q0 < 0) = false := by simp;omega
 obtain ⟨⟨c160,c161,c162,c163⟩,c164,c165,c166,c167⟩ := Bx.r8 h15
 go_wp2_with fail
 refine (hZ1 z0 q0 B13 ⟨by omega,by omega⟩).mono ?_
 rintro e z1 ⟨q1,rfl,hq1,hbz1⟩
 clear c160 c161 c162 c163 c164 c165 c166 c167
 have B17 : Below w.heap.size w z1 := B13.trans (hbz1.mono B13.size)
 have sB17 : z0.heap.size ≤ z1.heap.size := hbz1.size
 have h18 := h14.below hbz1
 have h19 := h15.below hbz1
 clear B13 h14 h15
 rcases hq1 with rfl | ⟨hqa1,hqb1⟩
 ·go_wp2
  go_ret
  exact ⟨rfl,B17⟩
 have hqn1 : decide (q1 < 0) = false := by simp;omega
 have hs0 : szRw r ≤ 1048576 := by omega
 have hs1 : szRw s ≤ 1048576 := by omega
 have hT0 := hTo0 hs0
 have hEE0 := hE0 hs0
 have hT1 := hTo1 hs1
 have hEE1 := hE1 hs1
 have hS2 := hSp hs0 hs1
 have hI2 := hIm hs0 hs1
 clear hSp hIm hTo0 hE0 hZ0 hTo1 hE1 hZ1
 have KS : ∀ X,Below z1.heap.size z1 X → ((X.cell? ⟨w.heap.size,0,none⟩ = some (.int .i64 r.ver) ∧ X.cell? ⟨w.heap.size,1,none⟩ = some (.slice A0.ta r.txt.length A0.tc) ∧ X.cell? ⟨w.heap.size,2,none⟩ = some (.slice A0.ga r.got.length A0.gc) ∧ X.cell? ⟨w.heap.size,3,none⟩ = some (.slice A0.sa r.sus.length A0.sc)) ∧ X.cell? ⟨w.heap.size,4,none⟩ = some (.bool r.wed) ∧ X.cell? ⟨w.heap.size,5,none⟩ = some (.bool r.rdy) ∧ X.cell? ⟨w.heap.size,6,none⟩ = some (.int .i64 r.by_) ∧ X.cell? ⟨w.heap.size,7,none⟩ = some (.slice A0.ma r.trm.length A0.mc)) ∧ ((X.cell? ⟨X1.heap.size,0,none⟩ = some (.int .i64 s.ver) ∧ X.cell? ⟨X1.heap.size,1,none⟩ = some (.slice A1.ta s.txt.length A1.tc) ∧ X.cell? ⟨X1.heap.size,2,none⟩ = some (.slice A1.ga s.got.length A1.gc) ∧ X.cell? ⟨X1.heap.size,3,none⟩ = some (.slice A1.sa s.sus.length A1.sc)) ∧ X.cell? ⟨X1.heap.size,4,none⟩ = some (.bool s.wed) ∧ X.cell? ⟨X1.heap.size,5,none⟩ = some (.bool s.rdy) ∧ X.cell? ⟨X1.heap.size,6,none⟩ = some (.int .i64 s.by_) ∧ X.cell? ⟨X1.heap.size,7,none⟩ = some (.slice A1.ma s.trm.length A1.mc)) := fun X hX => ⟨Bx.r8 (h18.below hX),Bx.r8 (h19.below hX)⟩
 have bd : Below z1.heap.size z1 (z1.drewN 1) := belowN (Below.refl _ _)
 have hTa := fun X (h : Below z1.heap.size z1 X) => hT0 X (B17.trans (h.mono B17.size))
 have hTb := fun X (h : Below z1.heap.size z1 X) => hT1 X (B17.trans (h.mono B17.size))
 go_wp2_with fail
 go_region_held3 (fun X => ((X.cell? ⟨w.heap.size,0,none⟩ = some (.int .i64 r.ver) ∧ X.cell? ⟨w.heap.size,1,none⟩ = some (.slice A0.ta r.txt.length A0.tc) ∧ X.cell? ⟨w.heap.size,2,none⟩ = some (.slice A0.ga r.got.length A0.gc) ∧ X.cell? ⟨w.heap.size,3,none⟩ = some (.slice A0.sa r.sus.length A0.sc)) ∧ X.cell? ⟨w.heap.size,4,none⟩ = some (.bool r.wed) ∧ X.cell? ⟨w.heap.size,5,none⟩ = some (.bool r.rdy) ∧ X.cell? ⟨w.heap.size,6,none⟩ = some (.int .i64 r.by_) ∧ X.cell? ⟨w.heap.size,7,none⟩ = some (.slice A0.ma r.trm.length A0.mc)) ∧ ((X.cell? ⟨X1.heap.size,0,none⟩ = some (.int .i64 s.ver) ∧ X.cell? ⟨X1.heap.size,1,none⟩ = some (.slice A1.ta s.txt.length A1.tc) ∧ X.cell? ⟨X1.heap.size,2,none⟩ = some (.slice A1.ga s.got.length A1.gc) ∧ X.cell? ⟨X1.heap.size,3,none⟩ = some (.slice A1.sa s.sus.length A1.sc)) ∧ X.cell? ⟨X1.heap.size,4,none⟩ = some (.bool s.wed) ∧ X.cell? ⟨X1.heap.size,5,none⟩ = some (.bool s.rdy) ∧ X.cell? ⟨X1.heap.size,6,none⟩ = some (.int .i64 s.by_) ∧ X.cell? ⟨X1.heap.size,7,none⟩ = some (.slice A1.ma s.trm.length A1.mc)))
  (first | exact KS _ bws | exact KS _ bs1 | exact KS _ bs0 | exact KS _ bd)
  (first
   | (go_at_call 41;refine (hTb _ bs0).mono ?_;rintro e s1 ⟨As1,rfl,is1,hbs1⟩;have bs1 : Below z1.heap.size z1 s1 := bs0.trans (hbs1.mono bs0.size);have is2 := is0.below hbs1)
   | (go_at_call 41;refine (hTa _ bd).mono ?_;rintro e s0 ⟨As0,rfl,is0,hbs0⟩;have bs0 : Below z1.heap.size z1 s0 := bd.trans (hbs0.mono bd.size))
   | (go_at_call 32;refine (hS2 _ _ _ is2 is1).mono ?_;rintro e ws ⟨rfl,hbs⟩;have bws : Below z1.heap.size z1 ws := bs1.trans (hbs.mono bs1.size)))
 clear KS bd hTa hTb is0 is1 is2 hbs0 hbs1 bs0 bs1 hbs
 have B20 : Below w.heap.size w ws := B17.trans (bws.mono B17.size)
 have sB20 : z1.heap.size ≤ ws.heap.size := bws.size
 have h21 := h18.below bws
 have h22 := h19.below bws
 clear B17 h18 h19
 obtain ⟨⟨c230,c231,c232,c233⟩,c234,c235,c236,c237⟩ := Bx.r8 h21
 go_wp2_with fail
 refine (hT0 ws B20).mono ?_
 rintro e wx0 ⟨Ax0,rfl,ix0,hbx0⟩
 clear c230 c231 c232 c233 c234 c235 c236 c237
 have B24 : Below w.heap.size w wx0 := B20.trans (hbx0.mono B20.size)
 have sB24 : ws.heap.size ≤ wx0.heap.size := hbx0.size
 have h25 := h21.below hbx0
 have h26 := h22.below hbx0
 clear B20 h21 h22
 have b28 := oneA16 wx0 (.cells #[.int .i64 r.ver,.slice Ax0.ta r.txt.length Ax0.tc,.slice Ax0.ga r.got.length Ax0.gc,.slice Ax0.sa r.sus.length Ax0.sc,.bool r.wed,.bool r.rdy,.int .i64 r.by_,.slice Ax0.ma r.trm.length Ax0.mc] 35)
 have h29 := Bx.new wx0 35 #[.int .i64 r.ver,.slice Ax0.ta r.txt.length Ax0.tc,.slice Ax0.ga r.got.length Ax0.gc,.slice Ax0.sa r.sus.length Ax0.sc,.bool r.wed,.bool r.rdy,.int .i64 r.by_,.slice Ax0.ma r.trm.length Ax0.mc]
 generalize hX27 : wx0.alloc (.cells #[.int .i64 r.ver,.slice Ax0.ta r.txt.length Ax0.tc,.slice Ax0.ga r.got.length Ax0.gc,.slice Ax0.sa r.sus.length Ax0.sc,.bool r.wed,.bool r.rdy,.int .i64 r.by_,.slice Ax0.ma r.trm.length Ax0.mc] 35) = X27 at *
 have B31 : Below w.heap.size w X27 := B24.trans (b28.mono B24.size)
 have sB31 : wx0.heap.size ≤ X27.heap.size := b28.size
 have h32 := h25.below b28
 have h33 := h26.below b28
 have h34 := ix0.below b28
 clear B24 h25 h26 ix0
 have k30 : wx0.heap.size < X27.heap.size := h29.lt
 clear b28
 obtain ⟨⟨c350,c351,c352,c353⟩,c354,c355,c356,c357⟩ := Bx.r8 h33
 go_wp2_with fail
 refine (hT1 X27 B31).mono ?_
 rintro e wx1 ⟨Ax1,rfl,ix1,hbx1⟩
 clear c350 c351 c352 c353 c354 c355 c356 c357
 have B36 : Below w.heap.size w wx1 := B31.trans (hbx1.mono B31.size)
 have sB36 : X27.heap.size ≤ wx1.heap.size := hbx1.size
 have h37 := h32.below hbx1
 have h38 := h33.below hbx1
 have h39 := h34.below hbx1
 have h40 := h29.below hbx1
 clear B31 h32 h33 h34 h29
 have b42 := oneA16 wx1 (.cells #[.int .i64 s.ver,.slice Ax1.ta s.txt.length Ax1.tc,.slice Ax1.ga s.got.length Ax1.gc,.slice Ax1.sa s.sus.length Ax1.sc,.bool s.wed,.bool s.rdy,.int .i64 s.by_,.slice Ax1.ma s.trm.length Ax1.mc] 35)
 have h43 := Bx.new wx1 35 #[.int .i64 s.ver,.slice Ax1.ta s.txt.length Ax1.tc,.slice Ax1.ga s.got.length Ax1.gc,.slice Ax1.sa s.sus.length Ax1.sc,.bool s.wed,.bool s.rdy,.int .i64 s.by_,.slice Ax1.ma s.trm.length Ax1.mc]
 generalize hX41 : wx1.alloc (.cells #[.int .i64 s.ver,.slice Ax1.ta s.txt.length Ax1.tc,.slice Ax1.ga s.got.length Ax1.gc,.slice Ax1.sa s.sus.length Ax1.sc,.bool s.wed,.bool s.rdy,.int .i64 s.by_,.slice Ax1.ma s.trm.length Ax1.mc] 35) = X41 at *
 have B45 : Below w.heap.size w X41 := B36.trans (b42.mono B36.size)
 have sB45 : wx1.heap.size ≤ X41.heap.size := b42.size
 have h46 := h37.below b42
 have h47 := h38.below b42
 have h48 := h39.below b42
 have h49 := h40.below b42
 have h50 := ix1.below b42
 clear B36 h37 h38 h39 h40 ix1
 have k44 : wx1.heap.size < X41.heap.size := h43.lt
 clear b42
 obtain ⟨⟨c510,c511,c512,c513⟩,c514,c515,c516,c517⟩ := Bx.r8 h49
 obtain ⟨⟨c520,c521,c522,c523⟩,c524,c525,c526,c527⟩ := Bx.r8 h43
 go_wp2_with fail
 refine (hI2 X41 _ _ h48 h50).mono ?_
 rintro e wi ⟨rfl,hbi⟩
 have B53 : Below w.heap.size w wi := B45.trans (hbi.mono B45.size)
 have sB53 : X41.heap.size ≤ wi.heap.size := hbi.size
 have h54 := h46.below hbi
 have h55 := h47.below hbi
 have h56 := h48.below hbi
 have h57 := h49.below hbi
 have h58 := h50.below hbi
 have h59 := h43.below hbi
 clear B45 h46 h47 h48 h49 h50 h43
 clear c510 c511 c512 c513 c514 c515 c516 c517 c520 c521 c522 c523 c524 c525 c526 c527
 have KS : ∀ X,Below wi.heap.size wi X → ((X.cell? ⟨w.heap.size,0,none⟩ = some (.int .i64 r.ver) ∧ X.cell? ⟨w.heap.size,1,none⟩ = some (.slice A0.ta r.txt.length A0.tc) ∧ X.cell? ⟨w.heap.size,2,none⟩ = some (.slice A0.ga r.got.length A0.gc) ∧ X.cell? ⟨w.heap.size,3,none⟩ = some (.slice A0.sa r.sus.length A0.sc)) ∧ X.cell? ⟨w.heap.size,4,none⟩ = some (.bool r.wed) ∧ X.cell? ⟨w.heap.size,5,none⟩ = some (.bool r.rdy) ∧ X.cell? ⟨w.heap.size,6,none⟩ = some (.int .i64 r.by_) ∧ X.cell? ⟨w.heap.size,7,none⟩ = some (.slice A0.ma r.trm.length A0.mc)) ∧ ((X.cell? ⟨wx0.heap.size,0,none⟩ = some (.int .i64 r.ver) ∧ X.cell? ⟨wx0.heap.size,1,none⟩ = some (.slice Ax0.ta r.txt.length Ax0.tc) ∧ X.cell? ⟨wx0.heap.size,2,none⟩ = some (.slice Ax0.ga r.got.length Ax0.gc) ∧ X.cell? ⟨wx0.heap.size,3,none⟩ = some (.slice Ax0.sa r.sus.length Ax0.sc)) ∧ X.cell? ⟨wx0.heap.size,4,none⟩ = some (.bool r.wed) ∧ X.cell? ⟨wx0.heap.size,5,none⟩ = some (.bool r.rdy) ∧ X.cell? ⟨wx0.heap.size,6,none⟩ = some (.int .i64 r.by_) ∧ X.cell? ⟨wx0.heap.size,7,none⟩ = some (.slice Ax0.ma r.trm.length Ax0.mc)) := fun X hX => ⟨Bx.r8 (h54.below hX),Bx.r8 (h57.below hX)⟩
 have bd : Below wi.heap.size wi (wi.drewN 1) := belowN (Below.refl _ _)
 have hTo2 := fun X (h : Below wi.heap.size wi X) => hT0 X (B53.trans (h.mono B53.size))
 have hEq2 := fun X (A7 : Ra) (h : Below wi.heap.size wi X) (h7 : ∃ lo hi,It X (rwCels r) (rwVals A7 r) lo hi) => hEE0 X Ax0 A7 (h56.below h) h7.choose_spec.choose_spec
 skip
 go_wp2_with fail
 go_region_held3 (fun X => ((X.cell? ⟨w.heap.size,0,none⟩ = some (.int .i64 r.ver) ∧ X.cell? ⟨w.heap.size,1,none⟩ = some (.slice A0.ta r.txt.length A0.tc) ∧ X.cell? ⟨w.heap.size,2,none⟩ = some (.slice A0.ga r.got.length A0.gc) ∧ X.cell? ⟨w.heap.size,3,none⟩ = some (.slice A0.sa r.sus.length A0.sc)) ∧ X.cell? ⟨w.heap.size,4,none⟩ = some (.bool r.wed) ∧ X.cell? ⟨w.heap.size,5,none⟩ = some (.bool r.rdy) ∧ X.cell? ⟨w.heap.size,6,none⟩ = some (.int .i64 r.by_) ∧ X.cell? ⟨w.heap.size,7,none⟩ = some (.slice A0.ma r.trm.length A0.mc)) ∧ ((X.cell? ⟨wx0.heap.size,0,none⟩ = some (.int .i64 r.ver) ∧ X.cell? ⟨wx0.heap.size,1,none⟩ = some (.slice Ax0.ta r.txt.length Ax0.tc) ∧ X.cell? ⟨wx0.heap.size,2,none⟩ = some (.slice Ax0.ga r.got.length Ax0.gc) ∧ X.cell? ⟨wx0.heap.size,3,none⟩ = some (.slice Ax0.sa r.sus.length Ax0.sc)) ∧ X.cell? ⟨wx0.heap.size,4,none⟩ = some (.bool r.wed) ∧ X.cell? ⟨wx0.heap.size,5,none⟩ = some (.bool r.rdy) ∧ X.cell? ⟨wx0.heap.size,6,none⟩ = some (.int .i64 r.by_) ∧ X.cell? ⟨wx0.heap.size,7,none⟩ = some (.slice Ax0.ma r.trm.length Ax0.mc)))
  (first | exact KS _ b8 | exact KS _ b7b | exact KS _ bd)
  (first
   | (go_at_call 41;refine (hTo2 _ bd).mono ?_;rintro e t0 ⟨A7,rfl,i7,hb7⟩;have b7b : Below wi.heap.size wi t0 := bd.trans (hb7.mono bd.size))
   | (go_at_call 42;refine (hEq2 t0 A7 b7b ⟨_,_,i7⟩).mono ?_;rintro e u0 ⟨rfl,hb8⟩;have b8 : Below wi.heap.size wi u0 := b7b.trans (hb8.mono b7b.size)))
 clear KS bd hTo2 hEq2 i7 hb7 b7b hb8
 have B60 : Below w.heap.size w u0 := B53.trans (b8.mono B53.size)
 have sB60 : wi.heap.size ≤ u0.heap.size := b8.size
 have h61 := h54.below b8
 have h62 := h55.below b8
 have h63 := h56.below b8
 have h64 := h57.below b8
 have h65 := h58.below b8
 have h66 := h59.below b8
 clear B53 h54 h55 h56 h57 h58 h59
 have KS : ∀ X,Below u0.heap.size u0 X → ((X.cell? ⟨X1.heap.size,0,none⟩ = some (.int .i64 s.ver) ∧ X.cell? ⟨X1.heap.size,1,none⟩ = some (.slice A1.ta s.txt.length A1.tc) ∧ X.cell? ⟨X1.heap.size,2,none⟩ = some (.slice A1.ga s.got.length A1.gc) ∧ X.cell? ⟨X1.heap.size,3,none⟩ = some (.slice A1.sa s.sus.length A1.sc)) ∧ X.cell? ⟨X1.heap.size,4,none⟩ = some (.bool s.wed) ∧ X.cell? ⟨X1.heap.size,5,none⟩ = some (.bool s.rdy) ∧ X.cell? ⟨X1.heap.size,6,none⟩ = some (.int .i64 s.by_) ∧ X.cell? ⟨X1.heap.size,7,none⟩ = some (.slice A1.ma s.trm.length A1.mc)) ∧ ((X.cell? ⟨wx1.heap.size,0,none⟩ = some (.int .i64 s.ver) ∧ X.cell? ⟨wx1.heap.size,1,none⟩ = some (.slice Ax1.ta s.txt.length Ax1.tc) ∧ X.cell? ⟨wx1.heap.size,2,none⟩ = some (.slice Ax1.ga s.got.length Ax1.gc) ∧ X.cell? ⟨wx1.heap.size,3,none⟩ = some (.slice Ax1.sa s.sus.length Ax1.sc)) ∧ X.cell? ⟨wx1.heap.size,4,none⟩ = some (.bool s.wed) ∧ X.cell? ⟨wx1.heap.size,5,none⟩ = some (.bool s.rdy) ∧ X.cell? ⟨wx1.heap.size,6,none⟩ = some (.int .i64 s.by_) ∧ X.cell? ⟨wx1.heap.size,7,none⟩ = some (.slice Ax1.ma s.trm.length Ax1.mc)) := fun X hX => ⟨Bx.r8 (h62.below hX),Bx.r8 (h66.below hX)⟩
 have bd : Below u0.heap.size u0 (u0.drewN 1) := belowN (Below.refl _ _)
 have hTo2 := fun X (h : Below u0.heap.size u0 X) => hT1 X (B60.trans (h.mono B60.size))
 have hEq2 := fun X (A7 : Ra) (h : Below u0.heap.size u0 X) (h7 : ∃ lo hi,It X (rwCels s) (rwVals A7 s) lo hi) => hEE1 X Ax1 A7 (h65.below h) h7.choose_spec.choose_spec
 skip
 go_wp2_with fail
 go_region_held3 (fun X => ((X.cell? ⟨X1.heap.size,0,none⟩ = some (.int .i64 s.ver) ∧ X.cell? ⟨X1.heap.size,1,none⟩ = some (.slice A1.ta s.txt.length A1.tc) ∧ X.cell? ⟨X1.heap.size,2,none⟩ = some (.slice A1.ga s.got.length A1.gc) ∧ X.cell? ⟨X1.heap.size,3,none⟩ = some (.slice A1.sa s.sus.length A1.sc)) ∧ X.cell? ⟨X1.heap.size,4,none⟩ = some (.bool s.wed) ∧ X.cell? ⟨X1.heap.size,5,none⟩ = some (.bool s.rdy) ∧ X.cell? ⟨X1.heap.size,6,none⟩ = some (.int .i64 s.by_) ∧ X.cell? ⟨X1.heap.size,7,none⟩ = some (.slice A1.ma s.trm.length A1.mc)) ∧ ((X.cell? ⟨wx1.heap.size,0,none⟩ = some (.int .i64 s.ver) ∧ X.cell? ⟨wx1.heap.size,1,none⟩ = some (.slice Ax1.ta s.txt.length Ax1.tc) ∧ X.cell? ⟨wx1.heap.size,2,none⟩ = some (.slice Ax1.ga s.got.length Ax1.gc) ∧ X.cell? ⟨wx1.heap.size,3,none⟩ = some (.slice Ax1.sa s.sus.length Ax1.sc)) ∧ X.cell? ⟨wx1.heap.size,4,none⟩ = some (.bool s.wed) ∧ X.cell? ⟨wx1.heap.size,5,none⟩ = some (.bool s.rdy) ∧ X.cell? ⟨wx1.heap.size,6,none⟩ = some (.int .i64 s.by_) ∧ X.cell? ⟨wx1.heap.size,7,none⟩ = some (.slice Ax1.ma s.trm.length Ax1.mc)))
  (first | exact KS _ b8 | exact KS _ b7b | exact KS _ bd)
  (first
   | (go_at_call 41;refine (hTo2 _ bd).mono ?_;rintro e t1 ⟨A7,rfl,i7,hb7⟩;have b7b : Below u0.heap.size u0 t1 := bd.trans (hb7.mono bd.size))
   | (go_at_call 42;refine (hEq2 t1 A7 b7b ⟨_,_,i7⟩).mono ?_;rintro e u1 ⟨rfl,hb8⟩;have b8 : Below u0.heap.size u0 u1 := b7b.trans (hb8.mono b7b.size)))
 clear KS bd hTo2 hEq2 i7 hb7 b7b hb8
 have B67 : Below w.heap.size w u1 := B60.trans (b8.mono B60.size)
 have sB67 : u0.heap.size ≤ u1.heap.size := b8.size
 have h68 := h61.below b8
 have h69 := h62.below b8
 have h70 := h63.below b8
 have h71 := h64.below b8
 have h72 := h65.below b8
 have h73 := h66.below b8
 clear B60 h61 h62 h63 h64 h65 h66
 go_wp2
 go_ret
 exact ⟨rfl,B67⟩
end Go.Proofs.Ytlnmdfgcpfbleaa
namespace Go.Proofs.Ytlnmdfgcpfbleaa
set_option linter.unusedVariables false
set_option linter.unusedSimpArgs false
open Go.ChangeShapes Go.WideShapes Go.ChangeAt Go.RowKit Go.Deep
section
variable {H : Type} {enc : TypeId × Value → H} {P : Program} {W : World} {base : Nat} {held : Bool}
theorem field_of {t : TypeId} {fs : Array Field} {fuel : Nat} {cs : List Value} {x : DataW H × List MemPlace} (ht : P.underlying t = some (.struct fs)) (hone : oneCellFields P fs = true) (h : DataW.trod enc P W base (fun _ => true) held fuel t cs = some x) :
  cs.length = P.cellsOf t ∧ ∃ n,∀ (i : Nat) (f : Field) (c : Value),fs[i]? = some f → cs[i]? = some c → ∃ y,DataW.trod enc P W base (fun _ => true) held n f.type [c] = some y := by
 obtain ⟨xs,n,_,rfl,hl,hlen,hf⟩ := DataW.trod_struct ht h
 refine ⟨hl,n,fun i f c hi hc => ?_⟩
 obtain ⟨o,k⟩ := hone_of hone i f hi
 have h1 := hf i f hi
 have hix : i < xs.length := by
  rw [hlen]
  exact (Array.getElem?_eq_some_iff.1 hi).1
 have e : (cs.drop i).take 1 = [c] := by
  have hic := (List.getElem?_eq_some_iff.1 hc).1
  have hcc := (List.getElem?_eq_some_iff.1 hc).2
  rw [List.drop_eq_getElem_cons hic,hcc]
  rfl
 rw [o,k,e,List.getElem?_eq_getElem hix] at h1
 exact ⟨_,h1⟩
theorem ints_of {t e : TypeId} {fuel : Nat} {c : Value} {y : DataW H × List MemPlace} (ht : P.underlying t = some (.slice e)) (he : P.underlying e = some (.int .i64)) (hc : P.cellsOf e = 1) (h : DataW.trod enc P W base (fun _ => true) held fuel t [c] = some y) :
  ∃ a cap M,c = .slice a (List.length M) cap ∧ Vec W a (List.length M) M ∧ List.length M ≤ maxLen := by
 obtain ⟨a,len,cap,z,rfl,hw⟩ : ∃ a len cap zs,c = .slice a len cap ∧ IsRow .i64 W a len cap zs := by
  rcases open_ints ht he hc h with ⟨hcs,_⟩ | ⟨x,l,c,zs,hcs,_,hl,hm,hz,_,hcell,hwz⟩
  ·simp at hcs
   exact ⟨none,0,0,[],hcs,.inl ⟨rfl,rfl,rfl,rfl⟩⟩
  ·simp at hcs
   exact ⟨some x,l,c,zs,hcs,.inr ⟨_,rfl,hl,hm,by simpa using hz,hcell,hwz⟩⟩
 rcases hw with ⟨rfl,rfl,rfl,rfl⟩ | ⟨ad,rfl,hl,hm,hz,hcell,hwz⟩
 ·exact ⟨none,0,[],rfl,⟨rfl,fun x hx => absurd hx List.not_mem_nil,.inl rfl⟩,Nat.zero_le _⟩
 ·have hz' : z.length = cap := by simpa using hz
  have hlen : (z.take len).length = len := by rw [List.length_take];omega
  have hfit : Fits (z.take len) := fun n hn => bounds_i64 (hwz n (List.mem_of_mem_take hn))
  refine ⟨some ad,cap,z.take len,by rw [hlen],⟨rfl,hfit, ?_⟩,by rw [hlen];exact Nat.le_trans hl hm⟩
  rcases Nat.eq_zero_or_pos len with e | e
  ·exact .inl (by omega)
  ·obtain ⟨b,off,spot⟩ := ad
   have hs : spot = none := by
    have := hcell 0 (by omega)
    simpa [Addr.add] using World.cell?_spot this
   subst hs
   refine .inr ⟨b,off,rfl,fun i hi => ?_⟩
   have h1 := hcell i (by omega)
   rw [add_lit0] at h1
   rw [h1]
   simp [el,List.getD,List.getElem?_take_of_lt (show i < len by omega)]
theorem str_short16 {s : ByteArray} (h : s.size ≤ maxLen) : s.data.toList.length ≤ 9223372036854775807 := by
 have e : s.data.toList.length = s.size := by rw [Array.length_toList];rfl
 rw [e]
 unfold maxLen at h
 exact h
theorem txts_of {t e : TypeId} {fuel : Nat} {c : Value} {y : DataW H × List MemPlace} (ht : P.underlying t = some (.slice e)) (he : P.underlying e = some .string) (hc : P.cellsOf e = 1) (h : DataW.trod enc P W base (fun _ => true) held fuel t [c] = some y) :
  ∃ a cap T,c = .slice a (List.length T) cap ∧ TxS W a T ∧ LongT T ∧ List.length T ≤ maxLen := by
 rcases open_strs ht he hc h with ⟨hcs,_⟩ | ⟨ad,len,cap,m,S,hcs,_,hl,hm,hmm,_,hx⟩
 ·simp at hcs
  subst hcs
  exact ⟨none,0,[],rfl,.inl rfl,fun i hi => absurd hi (Nat.not_lt_zero _),Nat.zero_le _⟩
 ·simp at hcs
  subst hcs
  have hlm : len ≤ m := by rw [hmm];split <;> omega
  have hlen : ((List.range len).map fun r => (S r).data.toList).length = len := by simp
  have hget : ∀ i,i < len → ((List.range len).map fun r => (S r).data.toList).getD i [] = (S i).data.toList := fun i hi => by simp [List.getD,hi]
  refine ⟨some ad,cap,(List.range len).map fun r => (S r).data.toList,by rw [hlen], ?_,fun i hi => ?_,by rw [hlen];exact Nat.le_trans hl hm⟩
  ·by_cases h0 : len = 0
   ·exact .inl (by rw [hlen];exact h0)
   ·obtain ⟨b,off,spot⟩ := ad
    have hs : spot = none := by
     have := (hx 0 (by omega)).1
     simpa [Addr.add] using World.cell?_spot this
    subst hs
    refine .inr ⟨b,off,rfl,fun i hi => ?_⟩
    rw [hlen] at hi
    rw [hget i hi]
    have hc := (hx i (by omega)).1
    rw [add_lit0] at hc
    rw [hc,← sv_of]
  ·rw [hlen] at hi
   rw [hget i hi]
   exact str_short16 (hx i (by omega)).2
end
theorem list8 {α : Type} {l : List α} (h : l.length = 8) : ∃ c0 c1 c2 c3 c4 c5 c6 c7,l = [c0,c1,c2,c3,c4,c5,c6,c7] := by
 match l,h with
 | [c0,c1,c2,c3,c4,c5,c6,c7],_ => exact ⟨c0,c1,c2,c3,c4,c5,c6,c7,rfl⟩
set_option maxRecDepth 100000 in
theorem row_of {H : Type} {enc : TypeId × Value → H} {W : World} {base fuel : Nat} {held : Bool} {cs : List Value} {x : DataW H × List MemPlace} (h : DataW.trod enc Try.prog W base (fun _ => true) held fuel 47 cs = some x) :
  ∃ A r,cs = (rwC A r).toList ∧ RwS W A r ∧ LongT r.txt ∧ Rw64 r := by
 obtain ⟨hl,n,hf⟩ := field_of Try.underlying47 (by kernel_rfl) h
 rw [show Try.prog.cellsOf 47 = 8 by kernel_rfl] at hl
 obtain ⟨c0,c1,c2,c3,c4,c5,c6,c7,rfl⟩ := list8 hl
 obtain ⟨y0,g0⟩ := hf 0 _ c0 rfl rfl
 obtain ⟨y1,g1⟩ := hf 1 _ c1 rfl rfl
 obtain ⟨y2,g2⟩ := hf 2 _ c2 rfl rfl
 obtain ⟨y3,g3⟩ := hf 3 _ c3 rfl rfl
 obtain ⟨y4,g4⟩ := hf 4 _ c4 rfl rfl
 obtain ⟨y5,g5⟩ := hf 5 _ c5 rfl rfl
 obtain ⟨y6,g6⟩ := hf 6 _ c6 rfl rfl
 obtain ⟨y7,g7⟩ := hf 7 _ c7 rfl rfl
 obtain ⟨i0,e0,_,b0⟩ := DataW.trod_int Try.underlying2 g0
 obtain ⟨a1,d1,T,rfl,t1,t2,t3⟩ := txts_of Try.underlying33 Try.underlying9 (by kernel_rfl) g1
 obtain ⟨a2,d2,M2,rfl,u2,v2⟩ := ints_of Try.underlying24 Try.underlying2 (by kernel_rfl) g2
 obtain ⟨a3,d3,M3,rfl,u3,v3⟩ := ints_of Try.underlying24 Try.underlying2 (by kernel_rfl) g3
 obtain ⟨z4,e4,_⟩ := DataW.trod_bool Try.underlying4 g4
 obtain ⟨z5,e5,_⟩ := DataW.trod_bool Try.underlying4 g5
 obtain ⟨i6,e6,_,b6⟩ := DataW.trod_int Try.underlying2 g6
 obtain ⟨a7,d7,M7,rfl,u7,v7⟩ := ints_of Try.underlying24 Try.underlying2 (by kernel_rfl) g7
 simp at e0 e4 e5 e6
 subst e0 e4 e5 e6
 exact ⟨⟨a1,d1,a2,d2,a3,d3,a7,d7⟩,⟨i0,T,M2,M3,z4,z5,i6,M7⟩,rfl,⟨t1,u2,u3,u7,t3,v2,v3,v7⟩,t2,⟨bounds_i64 b0,bounds_i64 b6⟩⟩
set_option maxRecDepth 100000 in
theorem open_row {H : Type} {enc : TypeId × Value → H} {W : World} {base : Nat} {v : Value} {d : DataW H} {p : List MemPlace} (hv : Value.okWide Try.prog W .any base 47 v) (h : DataW.Trod enc Try.prog W 0 (fun _ => true) true 47 v d p) :
  ∃ A r,v = rwV A r ∧ RwS W A r ∧ LongT r.txt ∧ Rw64 r := by
 obtain ⟨cs,rfl,hsz⟩ := okWide_struct Try.underlying47 hv
 obtain ⟨fuel,hf⟩ := h
 obtain ⟨A,r,e,h1,h2,h3⟩ := row_of hf
 have e' : cs.toList = (rwC A r).toList := by simpa [Value.cells] using e
 exact ⟨A,r,by rw [rwV,Array.toList_inj.1 e'],h1,h2,h3⟩
end Go.Proofs.Ytlnmdfgcpfbleaa
namespace Go.Proofs.Ytlnmdfgcpfbleaa
set_option linter.unusedVariables false
set_option linter.unusedSimpArgs false
open Go.RowKit Go.Sort
set_option maxHeartbeats 400000 in
theorem isW14_any (n last : Int) (w : World) : Calls Try.prog 114 #[.int .i64 n,.int .i64 last] w fun e w' => e = .returned (.bool (inB n 0 last)) ∧ w' = w := by
 by_cases h0 : (0 : Int) ≤ n
 ·have H : Hid (inB n 0 last = decide (n ≤ last)) := by rw [Hid,inB];simp [h0]
  go_enter Try.func114,Try.ntmps114
  go_wp2
  go_ret
  exact ⟨ret_bool (by rw [H.out]),rfl⟩
 ·have H : Hid (inB n 0 last = false) := by rw [Hid,inB];simp [h0]
  go_enter Try.func114,Try.ntmps114
  go_wp2
  go_ret
  exact ⟨ret_bool (by rw [H.out]),rfl⟩
set_option maxHeartbeats 800000 in
theorem rw14_any (a : Option Addr) (len cap : Nat) (B : Int) (xs : List Int) (w : World) (hv : Vec w a len xs) (hm : len ≤ maxLen) :
  Calls Try.prog 117 #[.slice a len cap,.int .i64 (B - 1)] w fun e w' => e = .returned (.bool (decide (okRow B xs))) ∧ w' = w := by
 unfold maxLen at hm
 have HL : Hid (xs.length = len) := hv.1
 have hc := hv.2.2
 clear hv
 go_enter Try.func117,Try.ntmps117
 go_wp2
 go_loop [9] (fun i => ∃ k : Nat,k ≤ len ∧ i = .int .i64 k ∧ (∀ j,j < k → 0 ≤ el xs j ∧ el xs j ≤ B - 1) ∧ ∀ j,j + 1 < k → el xs j < el xs (j + 1)) (fun i => len - (intOf i).toNat)
 case atStart => exact ⟨0,Nat.zero_le _,rfl,fun j hj => by omega,fun j hj => by omega⟩
 case round =>
  obtain ⟨k,hk,rfl,hin,hri⟩ := hrel
  have HI : Hid (∀ j,j < k → 0 ≤ el xs j ∧ el xs j ≤ B - 1) := hin
  have HR : Hid (∀ j,j + 1 < k → el xs j < el xs (j + 1)) := hri
  clear hin hri
  by_cases hlt : k < len
  ·rcases hc with h0 | ⟨b,off,rfl,hc⟩
   ·omega
   have hck := hc k hlt
   have k0 : (0 : Int) ≤ (k : Int) := by omega
   have k1 : (k : Int) < (len : Int) := by omega
   cases e4 : inB (el xs k) 0 (B - 1) with
   | false =>
    have HF : Hid (decide (okRow B xs) = false) := decide_eq_false (fun h => by
     have := h.1 k (by rw [HL.out];exact hlt)
     rw [inB7.2 this] at e4
     cases e4)
    go_wp2_with (go_at_call 114;refine (isW14_any _ _ _).mono ?_;rintro e w' ⟨rfl,hw'⟩;rw [hw'];clear hw')
    go_ret
    exact ⟨ret_bool (by rw [HF.out]),rfl⟩
   | true =>
    have HX : Hid (0 ≤ el xs k ∧ el xs k ≤ B - 1) := inB7.1 e4
    by_cases hk0 : 0 < k
    ·obtain ⟨q,rfl⟩ : ∃ q,k = q + 1 := ⟨k - 1,by omega⟩
     have hcq := hc q (by omega)
     have hg : decide (((q + 1 : Nat) : Int) > 0) = true := decide_eq_true (by omega)
     have g0 : (0 : Int) < ((q + 1 : Nat) : Int) := by omega
     have hq : wrap64 (((q + 1 : Nat) : Int) - 1) = (q : Int) := by unfold wrap64;omega
     have q0 : (0 : Int) ≤ (q : Int) := by omega
     have q1 : (q : Int) < (len : Int) := by omega
     by_cases hx : el xs q < el xs (q + 1)
     ·have hd : decide (el xs (q + 1) ≤ el xs q) = false := by simp;omega
      have HY : Hid (el xs q < el xs (q + 1)) := hx
      clear hx
      go_wp2_with (go_at_call 114;refine (isW14_any _ _ _).mono ?_;rintro e w' ⟨rfl,hw'⟩;rw [hw'];clear hw')
      go_round
      case rel => exact ⟨q + 1 + 1,by omega,by go_num,fun j hj => by
       rcases Nat.lt_succ_iff_lt_or_eq.1 hj with h | h
       ·exact HI.out j h
       ·rw [h];exact HX.out,fun j hj => by
       rcases Nat.lt_succ_iff_lt_or_eq.1 hj with h | h
       ·exact HR.out j h
       ·have : j = q := by omega
        rw [this];exact HY.out⟩
      case measure => simp [intOf];omega
     ·have hd : decide (el xs (q + 1) ≤ el xs q) = true := by simp;omega
      have HF : Hid (decide (okRow B xs) = false) := decide_eq_false (fun h => hx (h.2 q (by rw [HL.out];omega)))
      clear hx
      go_wp2_with (go_at_call 114;refine (isW14_any _ _ _).mono ?_;rintro e w' ⟨rfl,hw'⟩;rw [hw'];clear hw')
      go_ret
      exact ⟨ret_bool (by rw [HF.out]),rfl⟩
    ·obtain rfl : k = 0 := by omega
     rw [Nat.add_zero] at hck
     go_wp2_with (go_at_call 114;refine (isW14_any _ _ _).mono ?_;rintro e w' ⟨rfl,hw'⟩;rw [hw'];clear hw')
     go_round
     case rel => exact ⟨1,by omega,by go_num,fun j hj => by
      obtain rfl : j = 0 := by omega
      exact HX.out,fun j hj => by omega⟩
     case measure => simp [intOf];omega
  ·have hkl : k = len := by omega
   have HF : Hid (decide (okRow B xs) = true) := decide_eq_true ⟨fun j hj => HI.out j (by rw [HL.out] at hj;omega),fun j hj => HR.out j (by rw [HL.out] at hj;omega)⟩
   subst hkl
   clear hc
   go_wp2
   go_ret
   exact ⟨ret_bool (by rw [HF.out]),rfl⟩
def IsIdx (xs : List Int) (x z : Int) : Prop := (∃ k : Nat,k < xs.length ∧ z = (k : Int) ∧ el xs k = x ∧ ∀ j,j < k → el xs j ≠ x) ∨ (z = -1 ∧ ∀ j,j < xs.length → el xs j ≠ x)
theorem IsIdx.mem {xs : List Int} {x z : Int} (h : IsIdx xs x z) : decide (0 ≤ z) = decide (x ∈ xs) := by
 rcases h with ⟨k,hk,rfl,rfl,_⟩ | ⟨rfl,h⟩
 ·rw [decide_eq_true (el_in hk),decide_eq_true (by omega)]
 ·rw [decide_eq_false (by omega),decide_eq_false (fun hx => by obtain ⟨i,hi,e⟩ := el_of hx;exact h i hi e)]
set_option maxHeartbeats 800000 in
theorem idx14_any (a : Option Addr) (cap : Nat) (xs : List Int) (x : Int) (w : World) (hv : Vec w a xs.length xs) (hm : xs.length ≤ maxLen) :
  Calls Try.prog 146 #[.slice a xs.length cap,.int .i64 x] w fun e w' => (∃ z : Int,e = .returned (.int .i64 z) ∧ IsIdx xs x z) ∧ w' = w := by
 unfold maxLen at hm
 have hc := hv.2.2
 clear hv
 go_enter Try.func146,Try.ntmps146
 go_wp2
 go_loop [8] (fun i => ∃ k : Nat,k ≤ xs.length ∧ i = .int .i64 k ∧ ∀ j,j < k → el xs j ≠ x) (fun i => xs.length - (intOf i).toNat)
 case atStart => exact ⟨0,Nat.zero_le _,rfl,fun j hj => by omega⟩
 case round =>
  obtain ⟨k,hk,rfl,hall⟩ := hrel
  have HA : Hid (∀ j,j < k → el xs j ≠ x) := hall
  clear hall
  by_cases hlt : k < xs.length
  ·rcases hc with h0 | ⟨b,off,rfl,hc⟩
   ·omega
   have hck := hc k hlt
   clear hc
   have k0 : (0 : Int) ≤ (k : Int) := by omega
   have k1 : (k : Int) < (xs.length : Int) := by omega
   by_cases hx : el xs k = x
   ·have HX : Hid (IsIdx xs x (k : Int)) := .inl ⟨k,hlt,rfl,hx,HA.out⟩
    have hq : (x == el xs k) = true := by simp [hx]
    clear hx
    generalize el xs k = E at *
    go_wp2
    go_ret
    exact ⟨⟨_,rfl,HX.out⟩,rfl⟩
   ·have HX : Hid (∀ j,j < k + 1 → el xs j ≠ x) := fun j hj => by
     by_cases e : j = k
     ·rw [e];exact hx
     ·exact HA.out j (by omega)
    have hq : (x == el xs k) = false := by simp [Ne.symm hx]
    clear hx
    generalize el xs k = E at *
    go_wp2
    go_round
    case rel => exact ⟨k + 1,by omega,by go_num,HX.out⟩
    case measure => simp [intOf];omega
  ·have k1 : ¬ ((k : Int) < (xs.length : Int)) := by omega
   obtain rfl : k = xs.length := by omega
   clear hc
   go_wp2
   go_ret
   exact ⟨⟨_,rfl,.inr ⟨rfl,HA.out⟩⟩,rfl⟩
set_option maxHeartbeats 400000 in
theorem con14_any (a : Option Addr) (cap : Nat) (xs : List Int) (x : Int) (w : World) (hv : Vec w a xs.length xs) (hm : xs.length ≤ maxLen) :
  Calls Try.prog 138 #[.slice a xs.length cap,.int .i64 x] w fun e w' => e = .returned (.bool (decide (x ∈ xs))) ∧ w' = w := by
 have hI := idx14_any a cap xs x w hv hm
 clear hv
 go_enter Try.func138,Try.ntmps138
 go_wp2_with (go_at_call 146;refine hI.mono ?_;rintro e w' ⟨⟨z,rfl,hz⟩,hw'⟩;rw [hw'];clear hw';have HZ : Hid (IsIdx xs x z) := hz;clear hz)
 go_ret
 exact ⟨ret_bool (by rw [← HZ.out.mem]),rfl⟩
end Go.Proofs.Ytlnmdfgcpfbleaa
namespace Go.Proofs.Ytlnmdfgcpfbleaa
set_option linter.unusedVariables false
set_option linter.unusedSimpArgs false
open Go.RowKit Go.Sort
set_option maxHeartbeats 400000 in
theorem isRl_any (n : Int) (w : World) : Calls Try.prog 84 #[.int .i64 n] w fun e w' => e = .returned (.bool (inB n 1 5)) ∧ w' = w := by
 by_cases h0 : (1 : Int) ≤ n
 ·have H : Hid (inB n 1 5 = decide (n ≤ 5)) := by rw [Hid,inB];simp [h0]
  go_enter Try.func84,Try.ntmps84
  go_wp2
  go_ret
  exact ⟨ret_bool (by rw [H.out]),rfl⟩
 ·have H : Hid (inB n 1 5 = false) := by rw [Hid,inB];simp [h0]
  go_enter Try.func84,Try.ntmps84
  go_wp2
  go_ret
  exact ⟨ret_bool (by rw [H.out]),rfl⟩
def txB (T : List (List UInt8)) : Bool := decide (T.length ≤ 12) && T.all (fun t => decide (t.length ≤ 20))
theorem txB_long {T : List (List UInt8)} {k : Nat} (hk : k < T.length) (h : ¬ (T.getD k []).length ≤ 20) : txB T = false := by
 have : T.all (fun t => decide (t.length ≤ 20)) = false := by
  rw [List.all_eq_false]
  refine ⟨T[k],List.getElem_mem hk, ?_⟩
  rw [List.getD_eq_getElem?_getD,List.getElem?_eq_getElem hk] at h
  simpa using h
 rw [txB,this]
 simp
theorem txB_all {T : List (List UInt8)} (h0 : T.length ≤ 12) (h : ∀ k,k < T.length → (T.getD k []).length ≤ 20) : txB T = true := by
 have : T.all (fun t => decide (t.length ≤ 20)) = true := by
  rw [List.all_eq_true]
  intro t ht
  obtain ⟨j,hj,rfl⟩ := List.mem_iff_getElem.1 ht
  have := h j hj
  rw [List.getD_eq_getElem?_getD,List.getElem?_eq_getElem hj] at this
  simpa using this
 rw [txB,decide_eq_true h0,this]
 rfl
attribute [local irreducible] sv
set_option maxHeartbeats 800000 in
theorem areTx_any (a : Option Addr) (cap : Nat) (T : List (List UInt8)) (w : World) (hv : TxS w a T) (hm : T.length ≤ maxLen) :
  Calls Try.prog 115 #[.slice a T.length cap] w fun e w' => e = .returned (.bool (txB T)) ∧ w' = w := by
 unfold maxLen at hm
 by_cases h12 : T.length ≤ 12
 ·have g12 : ¬ ((12 : Int) < (T.length : Int)) := by omega
  have H12 : Hid (T.length ≤ 12) := h12
  have HV : Hid (TxS w a T) := hv
  clear hv h12
  go_enter Try.func115,Try.ntmps115
  go_wp2
  go_loop [10] (fun i => ∃ k : Nat,k ≤ T.length ∧ i = .int .i64 k ∧ ∀ j,j < k → (T.getD j []).length ≤ 20) (fun i => T.length - (intOf i).toNat)
  case atStart => exact ⟨0,Nat.zero_le _,rfl,fun j hj => by omega⟩
  case round =>
   obtain ⟨k,hk,rfl,hall⟩ := hrel
   have HA : Hid (∀ j,j < k → (T.getD j []).length ≤ 20) := hall
   clear hall
   by_cases hlt : k < T.length
   ·rcases HV.out with h0 | ⟨b,off,rfl,hc⟩
    ·omega
    have hck := hc k hlt
    have k1 : (k : Int) < (T.length : Int) := by omega
    have k0 : (0 : Int) ≤ (k : Int) := by omega
    clear hc
    by_cases h20 : (T.getD k []).length ≤ 20
    ·have g20 : ¬ ((20 : Int) < ((T.getD k []).length : Int)) := by omega
     have HN : Hid (∀ j,j < k + 1 → (T.getD j []).length ≤ 20) := fun j hj => by
      rcases Nat.lt_succ_iff_lt_or_eq.1 hj with h1 | h1
      ·exact HA.out j h1
      ·rw [h1];exact h20
     generalize T.getD k [] = t at *
     have hz : (sv t).size = t.length := sv_size t
     clear h20
     go_wp2
     go_round
     case rel => exact ⟨k + 1,by omega,by go_num,HN.out⟩
     case measure => simp [intOf];omega
    ·have g20 : (20 : Int) < ((T.getD k []).length : Int) := by omega
     have HZ : Hid (txB T = false) := txB_long (k := k) hlt h20
     generalize T.getD k [] = t at *
     have hz : (sv t).size = t.length := sv_size t
     clear h20
     go_wp2
     go_ret
     exact ⟨ret_bool (by rw [HZ.out]),rfl⟩
   ·have k1 : ¬ ((k : Int) < (T.length : Int)) := by omega
    have HZ : Hid (txB T = true) := txB_all H12.out (fun j hj => HA.out j (by omega))
    go_wp2
    go_ret
    exact ⟨ret_bool (by rw [HZ.out]),rfl⟩
 ·have g12 : (12 : Int) < (T.length : Int) := by omega
  have HZ : Hid (txB T = false) := by rw [Hid,txB,decide_eq_false h12];rfl
  clear hv h12
  go_enter Try.func115,Try.ntmps115
  go_wp2
  go_ret
  exact ⟨ret_bool (by rw [HZ.out]),rfl⟩
theorem hi16 {x m : Int} : ∀ {xs : List Int},hiL x xs ≤ m ↔ x ≤ m ∧ ∀ y ∈ xs,y ≤ m := by
 intro xs
 induction xs generalizing x with
 | nil => simp [hiL]
 | cons y ys ih =>
  show hiL (max x y) ys ≤ m ↔ _
  rw [ih]
  simp only [List.mem_cons]
  constructor
  ·rintro ⟨h1,h2⟩
   exact ⟨by omega,fun z hz => by rcases hz with rfl | hz;omega;exact h2 z hz⟩
  ·rintro ⟨h1,h2⟩
   exact ⟨by have := h2 y (.inl rfl);omega,fun z hz => h2 z (.inr hz)⟩
theorem sm_gr {v : List Int} {n : Int} (h1 : (v.length : Int) = n) (h2 : okB v = true) : smB v n = decide (hiL (el v 0) v.tail ≤ 12) := by
 have hl := (okB_len h2).1
 rw [smB,h2,decide_eq_true h1,Bool.true_and,Bool.true_and,Bool.eq_iff_iff,decide_eq_true_eq,hi16,List.all_eq_true]
 cases v with
 | nil => simp at hl
 | cons x xs =>
  simp only [decide_eq_true_eq,List.mem_cons,List.tail_cons]
  constructor
  ·intro h
   exact ⟨h _ (.inl rfl),fun y hy => h y (.inr hy)⟩
  ·rintro ⟨h,h'⟩ y hy
   rcases hy with rfl | hy
   ·exact h
   ·exact h' y hy
set_option maxRecDepth 100000 in
set_option maxHeartbeats 800000 in
theorem areCt_any (a : Option Addr) (cap : Nat) (v : List Int) (n : Int) (w : World) (hv : Vec w a v.length v) (hcap : v.length ≤ cap) (hm : cap ≤ maxLen) :
  Calls Try.prog 116 #[.slice a v.length cap,.int .i64 n] w fun e w' => e = .returned (.bool (smB v n)) ∧ ∃ m,w' = w.drewN m := by
 have hV := vok_any a v.length cap v w hv hcap hm
 have hml : v.length ≤ maxLen := Nat.le_trans hcap hm
 unfold maxLen at hml
 by_cases hl : (v.length : Int) = n
 ·have e1 : ((v.length : Int) == n) = true := by simpa using hl
  cases hb : okB v with
  | false =>
   rw [hb] at hV
   have HZ : Hid (smB v n = false) := by rw [Hid,smB,hb];rfl
   clear hb hl hv
   go_enter Try.func116,Try.ntmps116
   go_wp2_with (go_at_call 72;refine hV.mono ?_;rintro e w' ⟨rfl,n1,rfl⟩)
   go_ret
   exact ⟨ret_bool (by rw [HZ.out]),_,rfl⟩
  | true =>
   rw [hb] at hV
   have HZ : Hid (smB v n = decide (hiL (el v 0) v.tail ≤ 12)) := sm_gr hl hb
   have h18 := okB_len hb
   clear hb hl
   obtain ⟨_,hf,hcs⟩ := hv
   have hG : Hid (∀ n,Calls Try.prog 111 #[.slice a v.length cap] (w.drewN n) fun e w' => e = .returned (.int .i64 (hiL (el v 0) v.tail)) ∧ ∃ m,w' = (w.drewN n).drewN m) := by
    intro n
    rcases hcs with h0 | ⟨b,off,rfl,hc⟩
    ·omega
    ·exact vgreatest_any b off v.length cap v _ rfl hf (fun k hk => by rw [World.cell?_drewN];exact hc k hk) (by omega) hcap hm
   clear hcs hf h18
   generalize hiL (el v 0) v.tail = G at *
   go_enter Try.func116,Try.ntmps116
   go_wp2_with (first | (go_at_call 72;refine hV.mono ?_;rintro e w' ⟨rfl,n1,rfl⟩) | (go_at_call 111;refine (hG.out _).mono ?_;rintro e w' ⟨rfl,n2,rfl⟩))
   go_ret
   exact ⟨ret_bool (by rw [HZ.out]),_,rfl⟩
 ·have e1 : ((v.length : Int) == n) = false := by simpa using hl
  have HZ : Hid (smB v n = false) := by rw [Hid,smB,decide_eq_false hl];simp
  clear hl hv hV
  go_enter Try.func116,Try.ntmps116
  go_wp2
  go_ret
  exact ⟨ret_bool (by rw [HZ.out]),0,rfl⟩
theorem sus_row (n : Int) (l : List Int) : decide (okRow n l) = susB l n := by
 rw [Bool.eq_iff_iff,decide_eq_true_eq,susB,Bool.and_eq_true,List.all_eq_true,okRow,risB,decide_eq_true_eq]
 constructor
 ·rintro ⟨h1,h2⟩
  refine ⟨fun x hx => ?_,h2⟩
  obtain ⟨j,hj,rfl⟩ := List.mem_iff_getElem.1 hx
  have := h1 j hj
  rw [el_eq hj] at this
  exact inB7.2 this
 ·rintro ⟨h1,h2⟩
  exact ⟨fun i hi => inB7.1 (h1 _ (el_mem hi)),h2⟩
set_option maxHeartbeats 800000 in
theorem eqTx_any (a a' : Option Addr) (cap cap' : Nat) (S T : List (List UInt8)) (w : World) (hv : TxS w a S) (hv' : TxS w a' T) (hm : S.length ≤ maxLen) (hl : S.length = T.length) :
  Calls Try.prog 176 #[.slice a S.length cap,.slice a' T.length cap'] w fun e w' => e = .returned (.bool (decide (S = T))) ∧ ∃ n,w' = w.drewN n := by
 unfold maxLen at hm
 have hne : ((S.length : Int) != (T.length : Int)) = false := by simp [hl]
 have HL : Hid (S.length = T.length) := hl
 have HV : Hid (TxS w a S) := hv
 have HV' : Hid (TxS w a' T) := hv'
 clear hl hv hv'
 go_enter Try.func176,Try.ntmps176
 go_wp2
 go_loopw [13] (fun i wr => ∃ k : Nat,k ≤ S.length ∧ i = .int .i64 k ∧ (∀ j,j < k → S.getD j [] = T.getD j []) ∧ ∃ n,wr = w.drewN n) (fun i _ => S.length - (intOf i).toNat)
 case atStart => exact ⟨0,Nat.zero_le _,rfl,fun j hj => by omega,0,rfl⟩
 case round =>
  obtain ⟨k,hk,rfl,hall,n,rfl⟩ := hrel
  have HA : Hid (∀ j,j < k → S.getD j [] = T.getD j []) := hall
  clear hall
  by_cases hlt : k < S.length
  ·have hlq : k < T.length := by rw [← HL.out];exact hlt
   rcases HV.out with h0 | ⟨b,off,rfl,hc⟩
   ·omega
   rcases HV'.out with h0 | ⟨b2,off2,rfl,hc2⟩
   ·omega
   have hck := hc k hlt
   have hck2 := hc2 k hlq
   have k1 : (k : Int) < (S.length : Int) := by omega
   have k2 : (k : Int) < (T.length : Int) := by omega
   have k0 : (0 : Int) ≤ (k : Int) := by omega
   clear hc hc2
   by_cases he : S.getD k [] = T.getD k []
   ·have HN : Hid (∀ j,j < k + 1 → S.getD j [] = T.getD j []) := fun j hj => by
     rcases Nat.lt_succ_iff_lt_or_eq.1 hj with h1 | h1
     ·exact HA.out j h1
     ·rw [h1];exact he
    rw [← he] at hck2
    generalize S.getD k [] = t at *
    have ns : ((sv t).toList == (sv t).toList) = true := by simp
    clear he
    go_wp2_with fail
    go_quiet (fail)
    go_wp2
    go_roundw
    case rel => exact ⟨k + 1,by omega,by go_num,HN.out,_,rfl⟩
    case measure => simp [intOf];omega
   ·have HZ : Hid (decide (S = T) = false) := decide_eq_false (fun h => he (by rw [h]))
    have ns : ((sv (S.getD k [])).toList == (sv (T.getD k [])).toList) = false := by rw [sv_list,sv_list];simpa using he
    generalize S.getD k [] = t at *
    generalize T.getD k [] = t2 at *
    clear he
    go_wp2_with fail
    go_quiet (fail)
    go_wp2
    go_ret
    exact ⟨ret_bool (by rw [HZ.out]),_,World.drewN_drewN _ _ _⟩
  ·have k1 : ¬ ((k : Int) < (S.length : Int)) := by omega
   have HZ : Hid (decide (S = T) = true) := decide_eq_true (List.ext_getElem HL.out (fun i h1 h2 => by
    have := HA.out i (by omega)
    rwa [List.getD_eq_getElem?_getD,List.getElem?_eq_getElem h1,List.getD_eq_getElem?_getD,List.getElem?_eq_getElem h2] at this))
   go_wp2
   go_ret
   exact ⟨ret_bool (by rw [HZ.out]),_,rfl⟩
theorem take_tx {w : World} {a : Option Addr} {cap : Nat} {T : List (List UInt8)} (hv : TxP w a cap T) {j : Nat} (hj : j ≤ T.length) :
  ∃ a' c',(∀ X,(Instr.slice 33 (.slice a T.length cap) none (some (.int .i64 (j : Int))) none).run Try.prog X = .ok (.slice a' j c') X) ∧ TxS w a' (T.take j) := by
 obtain ⟨i0,hi0,hz0,hz1,hz2⟩ := info_parts9 Try.info9
 have hcap : T.length ≤ cap := by
  rcases hv with ⟨rfl,rfl,_⟩ | ⟨b,off,_,h,_⟩
  ·exact Nat.le_refl _
  ·exact h
 have hs : ∀ X,(Instr.slice 33 (.slice a T.length cap) none (some (.int .i64 (j : Int))) none).run Try.prog X = .ok (sliced a 0 j cap 1) X := fun X => by
  rw [run_slice_h X 33 a T.length cap (by kernel_rfl) .i64 (j : Int) (by omega) (by omega)]
  rw [show Try.prog.elem 33 = 9 by kernel_rfl]
  rw [run_sizeOf X hi0,show Try.prog.cellsOf 9 = 1 by kernel_rfl]
  simp [Result.andThen]
 have hs2 : ∀ X,(Instr.slice 33 (.slice a T.length cap) none (some (.int .i64 (j : Int))) none).run Try.prog X = .ok (.slice a j cap) X := fun X => by
  rw [hs X]
  have e : (if cap = 0 then a else a.map (·.add (0 * 1))) = a := by
   split
   ·rfl
   ·rcases hv with ⟨rfl,rfl,_⟩ | ⟨b,off,rfl,_⟩
    ·omega
    ·simp [Addr.add]
  simp only [sliced,e,Nat.sub_zero]
 refine ⟨_,_,hs2,hv.txs.take j⟩
def begB (T S : List (List UInt8)) : Bool := decide (S.length ≤ T.length) && decide (T.take S.length = S)
set_option maxHeartbeats 800000 in
theorem begW_any (a b : Option Addr) (cap c : Nat) (T S : List (List UInt8)) (w : World) (hv : TxP w a cap T) (hu : TxS w b S) (hm : T.length ≤ maxLen) (hm2 : S.length ≤ maxLen) :
  Calls Try.prog 174 #[.slice a T.length cap,.slice b S.length c] w fun e w' => e = .returned (.bool (begB T S)) ∧ ∃ n,w' = w.drewN n := by
 by_cases hl : S.length ≤ T.length
 ·have k1 : (S.length : Int) ≤ (T.length : Int) := by omega
  obtain ⟨a',c',hs,ht⟩ := take_tx hv hl
  have hE : Calls Try.prog 176 #[.slice b S.length c,.slice a' S.length c'] w fun e w' => e = .returned (.bool (decide (S = T.take S.length))) ∧ ∃ n,w' = w.drewN n := by
   have := eqTx_any b a' c c' S (T.take S.length) w hu ht hm2 (by rw [List.length_take];omega)
   rw [List.length_take,Nat.min_eq_left hl] at this
   exact this
  have HZ : Hid (begB T S = decide (S = T.take S.length)) := by
   rw [Hid,begB,decide_eq_true hl,Bool.true_and]
   exact decide_eq_decide.2 eq_comm
  generalize decide (S = T.take S.length) = Q at *
  unfold maxLen at hm hm2
  clear hv hu ht hl
  go_enter Try.func174,Try.ntmps174
  go_wp2_with (go_at_call 176;refine hE.mono ?_;rintro e w' ⟨rfl,n1,rfl⟩)
  go_ret
  exact ⟨ret_bool (by rw [HZ.out]),_,rfl⟩
 ·have k1 : ¬ ((S.length : Int) ≤ (T.length : Int)) := by omega
  have HZ : Hid (begB T S = false) := by rw [Hid,begB,decide_eq_false hl,Bool.false_and]
  unfold maxLen at hm hm2
  clear hv hu hl
  go_enter Try.func174,Try.ntmps174
  go_wp2
  go_ret
  exact ⟨ret_bool (by rw [HZ.out]),0,rfl⟩
set_option maxHeartbeats 800000 in
theorem ammI_any (a b : Option Addr) (c d : Nat) (l o : List Int) (w : World) (hv : Vec w a l.length l) (hu : Vec w b o.length o) (hm : l.length ≤ maxLen) (hm2 : o.length ≤ maxLen) :
  Calls Try.prog 175 #[.slice b o.length d,.slice a l.length c] w fun e w' => e = .returned (.bool (o.all (fun x => decide (x ∈ l)))) ∧ w' = w := by
 have hH := fun x => con14_any a c l x w hv hm
 have HU : Hid (Vec w b o.length o) := hu
 unfold maxLen at hm hm2
 clear hu hv
 go_enter Try.func175,Try.ntmps175
 go_wp2
 go_loop [9] (fun i => ∃ k : Nat,k ≤ o.length ∧ i = .int .i64 k ∧ ∀ j,j < k → el o j ∈ l) (fun i => o.length - (intOf i).toNat)
 case atStart => exact ⟨0,Nat.zero_le _,rfl,fun j hj => by omega⟩
 case round =>
  obtain ⟨k,hk,rfl,hall⟩ := hrel
  have HA : Hid (∀ j,j < k → el o j ∈ l) := hall
  clear hall
  by_cases hlt : k < o.length
  ·rcases HU.out.2.2 with h0 | ⟨b',off,rfl,hc⟩
   ·omega
   have hck := hc k hlt
   have k1 : (k : Int) < (o.length : Int) := by omega
   have k0 : (0 : Int) ≤ (k : Int) := by omega
   have hI := hH (el o k)
   clear hc hH
   by_cases hb : el o k ∈ l
   ·rw [decide_eq_true hb] at hI
    have HN : Hid (∀ j,j < k + 1 → el o j ∈ l) := fun j hj => by
     rcases Nat.lt_succ_iff_lt_or_eq.1 hj with h1 | h1
     ·exact HA.out j h1
     ·rw [h1];exact hb
    generalize el o k = x at *
    clear hb
    go_wp2_with (go_at_call 138;refine hI.mono ?_;rintro e w' ⟨rfl,hw'⟩;rw [hw'];clear hw')
    go_round
    case rel => exact ⟨k + 1,by omega,by go_num,HN.out⟩
    case measure => simp [intOf];omega
   ·rw [decide_eq_false hb] at hI
    have HZ : Hid (o.all (fun x => decide (x ∈ l)) = false) := all_miss16 hlt hb
    generalize el o k = x at *
    clear hb
    go_wp2_with (go_at_call 138;refine hI.mono ?_;rintro e w' ⟨rfl,hw'⟩;rw [hw'];clear hw')
    go_ret
    exact ⟨ret_bool (by rw [HZ.out]),rfl⟩
  ·have k1 : ¬ ((k : Int) < (o.length : Int)) := by omega
   have HZ : Hid (o.all (fun x => decide (x ∈ l)) = true) := all_hit16 (fun j hj => HA.out j (by omega))
   go_wp2
   go_ret
   exact ⟨ret_bool (by rw [HZ.out]),rfl⟩
end Go.Proofs.Ytlnmdfgcpfbleaa
namespace Go.Proofs.Ytlnmdfgcpfbleaa
set_option linter.unusedVariables false
set_option linter.unusedSimpArgs false
open Go.RowKit Go.Sort
def stV (A : Ra) (r : Rw) : Value := if r.rdy then .iface 150 (rwV A r) else if r.wed then .iface 151 (rwV A r) else .iface 152 (rwV A r)
def flB (r : Rw) : Bool := if r.rdy then r.wed else decide (r.by_ = 0) && decide (r.trm = [])
def lsB (r : Rw) (n : Int) : Bool := !r.rdy || (inB r.by_ 0 (n - 1) && smB r.trm n)
theorem endB_fl (r : Rw) (n : Int) : endB r n = (flB r && lsB r n) := by
 unfold endB flB lsB
 cases r.rdy <;> simp
set_option maxRecDepth 100000 in
set_option maxHeartbeats 1600000 in
theorem flag_any (A : Ra) (r : Rw) (w : World) (hm : r.trm.length ≤ maxLen) :
  Calls Try.prog 118 #[rwV A r] w fun e w' => ∃ s,e = .returned (.tuple #[s,.bool (flB r)]) ∧ (flB r = true → s = stV A r) ∧ Below w.heap.size w w' := by
 have hB0 := oneA16 w (.cells (rwC A r) 35)
 have hx := Bx.new w 35 (rwC A r)
 generalize hW : w.alloc (.cells (rwC A r) 35) = W at *
 obtain ⟨ver,txt,got,sus,wed,rdy,by_,trm⟩ := r
 obtain ⟨ta,tc,ga,gc,sa,sc,ma,mc⟩ := A
 have hw0 : w.alloc (.cells #[.int .i64 ver,.slice ta txt.length tc,.slice ga got.length gc,.slice sa sus.length sc,.bool wed,.bool rdy,.int .i64 by_,.slice ma trm.length mc] 35) = W := hW
 obtain ⟨⟨c0,c1,c2,c3⟩,c4,c5,c6,c7⟩ := Bx.r8 hx
 simp only at c0 c1 c2 c3 c4 c5 c6 c7 hm
 have HB0 : Hid (Below w.heap.size w W) := hB0
 unfold maxLen at hm
 unfold rwV rwC
 clear hx hW hB0
 simp only
 cases rdy with
 | true =>
  have HZ : Hid (flB ⟨ver,txt,got,sus,wed,true,by_,trm⟩ = wed) := by rw [Hid,flB];rfl
  go_enter Try.func118,Try.ntmps118
  go_wp2_with fail
  go_quiet (fail)
  go_wp2
  refine bodyPost_ret (v := .tuple #[.iface 150 (.agg #[.int .i64 ver,.slice ta txt.length tc,.slice ga got.length gc,.slice sa sus.length sc,.bool wed,.bool true,.int .i64 by_,.slice ma trm.length mc]),.bool wed]) (by simp [results,Try.results118,go_sem, *]) rfl ?_
  exact ⟨stV ⟨ta,tc,ga,gc,sa,sc,ma,mc⟩ ⟨ver,txt,got,sus,wed,true,by_,trm⟩,by rw [HZ.out];rfl,fun _ => rfl,belowN HB0.out⟩
 | false =>
  by_cases hy : by_ = 0
  ·have e1 : (by_ != 0) = false := by simpa using hy
   by_cases ht : trm = []
   ·have g1 : ¬ ((0 : Int) < (trm.length : Int)) := by rw [ht];simp
    have HZ : Hid (flB ⟨ver,txt,got,sus,wed,false,by_,trm⟩ = true) := by rw [Hid,flB];simp [hy,ht]
    clear hy ht
    cases wed with
    | true =>
     go_enter Try.func118,Try.ntmps118
     go_wp2
     refine bodyPost_ret (v := .tuple #[.iface 151 (.agg #[.int .i64 ver,.slice ta txt.length tc,.slice ga got.length gc,.slice sa sus.length sc,.bool true,.bool false,.int .i64 by_,.slice ma trm.length mc]),.bool true]) (by simp [results,Try.results118,go_sem, *]) rfl ?_
     exact ⟨stV ⟨ta,tc,ga,gc,sa,sc,ma,mc⟩ ⟨ver,txt,got,sus,true,false,by_,trm⟩,by rw [HZ.out];rfl,fun _ => rfl,HB0.out⟩
    | false =>
     go_enter Try.func118,Try.ntmps118
     go_wp2
     refine bodyPost_ret (v := .tuple #[.iface 152 (.agg #[.int .i64 ver,.slice ta txt.length tc,.slice ga got.length gc,.slice sa sus.length sc,.bool false,.bool false,.int .i64 by_,.slice ma trm.length mc]),.bool true]) (by simp [results,Try.results118,go_sem, *]) rfl ?_
     exact ⟨stV ⟨ta,tc,ga,gc,sa,sc,ma,mc⟩ ⟨ver,txt,got,sus,false,false,by_,trm⟩,by rw [HZ.out];rfl,fun _ => rfl,HB0.out⟩
   ·have g1 : (0 : Int) < (trm.length : Int) := by
     cases trm with
     | nil => exact absurd rfl ht
     | cons x xs => simp only [List.length_cons];omega
    have HZ : Hid (flB ⟨ver,txt,got,sus,wed,false,by_,trm⟩ = false) := by rw [Hid,flB];simp [ht]
    clear hy ht
    go_enter Try.func118,Try.ntmps118
    go_wp2
    refine bodyPost_ret (v := .tuple #[.nilIface,.bool false]) (by simp [results,Try.results118,go_sem, *]) rfl ?_
    exact ⟨.nilIface,by rw [HZ.out],fun h => (by rw [HZ.out] at h;cases h),HB0.out⟩
  ·have e1 : (by_ != 0) = true := by simpa using hy
   have HZ : Hid (flB ⟨ver,txt,got,sus,wed,false,by_,trm⟩ = false) := by rw [Hid,flB];simp [hy]
   clear hy
   go_enter Try.func118,Try.ntmps118
   go_wp2
   refine bodyPost_ret (v := .tuple #[.nilIface,.bool false]) (by simp [results,Try.results118,go_sem, *]) rfl ?_
   exact ⟨.nilIface,by rw [HZ.out],fun h => (by rw [HZ.out] at h;cases h),HB0.out⟩
theorem asE_any (v : Value) (w : World) : (Instr.typeAssert (.iface 150 v) 88 154 true).run Try.prog w = .ok (.tuple #[.iface 150 v,.bool true]) w := by kernel_rfl
theorem asW_any (v : Value) (w : World) : (Instr.typeAssert (.iface 151 v) 88 154 true).run Try.prog w = .ok (.tuple #[.nilIface,.bool false]) w := run_typeAssert_lacksB Try.underlying154 (by kernel_rfl) (by kernel_rfl) v 88 w
theorem asS_any (v : Value) (w : World) : (Instr.typeAssert (.iface 152 v) 88 154 true).run Try.prog w = .ok (.tuple #[.nilIface,.bool false]) w := run_typeAssert_lacksB Try.underlying154 (by kernel_rfl) (by kernel_rfl) v 88 w
theorem mtE_any (v : Value) (w : World) : (Go.method 287 150 v "loop.example/g00266/impl.end").run Try.prog w = .ok (171, v) w := by kernel_rfl
theorem mbE_any (v : Value) (w : World) : (Go.method 287 150 v "loop.example/g00266/impl.mayBecome").run Try.prog w = .ok (172, v) w := by kernel_rfl
theorem mbW_any (v : Value) (w : World) : (Go.method 287 151 v "loop.example/g00266/impl.mayBecome").run Try.prog w = .ok (177, v) w := by kernel_rfl
theorem mbS_any (v : Value) (w : World) : (Go.method 287 152 v "loop.example/g00266/impl.mayBecome").run Try.prog w = .ok (178, v) w := by kernel_rfl
set_option maxRecDepth 100000 in
set_option maxHeartbeats 800000 in
theorem endI_any (A : Ra) (r : Rw) (w : World) :
  Calls Try.prog 171 #[rwV A r] w fun e w' => e = .returned (.tuple #[.int .i64 r.by_,.slice A.ma r.trm.length A.mc]) ∧ Below w.heap.size w w' := by
 have hB0 := oneA16 w (.cells (rwC A r) 150)
 have hx := Bx.new w 150 (rwC A r)
 generalize hW : w.alloc (.cells (rwC A r) 150) = W at *
 obtain ⟨ver,txt,got,sus,wed,rdy,by_,trm⟩ := r
 obtain ⟨ta,tc,ga,gc,sa,sc,ma,mc⟩ := A
 have hw0 : w.alloc (.cells #[.int .i64 ver,.slice ta txt.length tc,.slice ga got.length gc,.slice sa sus.length sc,.bool wed,.bool rdy,.int .i64 by_,.slice ma trm.length mc] 150) = W := hW
 obtain ⟨⟨c0,c1,c2,c3⟩,c4,c5,c6,c7⟩ := Bx.r8 hx
 simp only at c0 c1 c2 c3 c4 c5 c6 c7
 have HB0 : Hid (Below w.heap.size w W) := hB0
 unfold rwV rwC
 clear hx hW hB0
 simp only
 go_enter Try.func171,Try.ntmps171
 go_wp2_with fail
 go_quiet (fail)
 go_wp2
 refine bodyPost_ret (v := .tuple #[.int .i64 by_,.slice ma trm.length mc]) (by simp [results,Try.results171,go_sem, *]) rfl ?_
 exact ⟨rfl,belowN HB0.out⟩
set_option maxRecDepth 100000 in
set_option maxHeartbeats 1600000 in
theorem endR_any (A : Ra) (r : Rw) (n : Int) (w : World) (hv : RwP w A r) (hn : 1 ≤ n ∧ n ≤ 5) :
  Calls Try.prog 119 #[stV A r,.int .i64 n] w fun e w' => e = .returned (.bool (lsB r n)) ∧ Below w.heap.size w w' := by
 have hwn : wrap64 (n - 1) = n - 1 := by unfold wrap64;omega
 clear hn
 cases e1 : r.rdy with
 | false =>
  have HZ : Hid (lsB r n = true) := by rw [Hid,lsB,e1];rfl
  unfold stV
  rw [e1]
  clear e1 hv
  cases e2 : r.wed with
  | false =>
   clear e2
   generalize rwV A r = v
   have ha := asS_any v
   simp only [Bool.false_eq_true,if_false]
   go_enter Try.func119,Try.ntmps119
   go_wp2
   go_ret
   exact ⟨ret_bool (by rw [HZ.out]),Below.refl _ _⟩
  | true =>
   clear e2
   generalize rwV A r = v
   have ha := asW_any v
   simp only [Bool.false_eq_true,if_false,if_true]
   go_enter Try.func119,Try.ntmps119
   go_wp2
   go_ret
   exact ⟨ret_bool (by rw [HZ.out]),Below.refl _ _⟩
 | true =>
  have hE := fun X => endI_any A r X
  have HC : Hid (∀ X,Below w.heap.size w X → Calls Try.prog 116 #[.slice A.ma r.trm.length A.mc,.int .i64 n] X fun e w' => e = .returned (.bool (smB r.trm n)) ∧ ∃ m,w' = X.drewN m) := fun X h => areCt_any A.ma A.mc r.trm n X (hv.below h).trm.vec hv.trm.le hv.trm.mx
  have HZ : Hid (lsB r n = (inB r.by_ 0 (n - 1) && smB r.trm n)) := by rw [Hid,lsB,e1];rfl
  unfold stV
  rw [e1]
  clear e1 hv
  generalize rwV A r = v at *
  generalize r.by_ = Y at *
  generalize r.trm.length = L at *
  generalize smB r.trm n = Q at *
  obtain ⟨ta,tc,ga,gc,sa,sc,ma,mc⟩ := A
  simp only at hE HC
  have ha := asE_any v
  have hm := mtE_any v
  simp only [if_true]
  cases e2 : inB Y 0 (n - 1) with
  | false =>
   rw [e2] at HZ
   go_enter Try.func119,Try.ntmps119
   go_wp2_with (first | (go_at_call 171;refine (hE _).mono ?_;rintro e w1 ⟨rfl,hb1⟩) | (go_at_call 114;refine (isW14_any _ _ _).mono ?_;rintro e w' ⟨rfl,hw'⟩;rw [hw',e2];clear hw'))
   go_ret
   exact ⟨ret_bool (by rw [HZ.out];rfl),hb1⟩
  | true =>
   rw [e2] at HZ
   go_enter Try.func119,Try.ntmps119
   go_wp2_with (first | (go_at_call 171;refine (hE _).mono ?_;rintro e w1 ⟨rfl,hb1⟩) | (go_at_call 114;refine (isW14_any _ _ _).mono ?_;rintro e w' ⟨rfl,hw'⟩;rw [hw',e2];clear hw') | (go_at_call 116;refine (HC.out _ hb1).mono ?_;rintro e w' ⟨rfl,m1,rfl⟩))
   go_ret
   exact ⟨ret_bool (by rw [HZ.out];rfl),belowN hb1⟩
end Go.Proofs.Ytlnmdfgcpfbleaa
namespace Go.Proofs.Ytlnmdfgcpfbleaa
set_option linter.unusedVariables false
set_option linter.unusedSimpArgs false
open Go.RowKit Go.Sort
theorem okRw_tx {r : Rw} {n : Int} (h : txB r.txt = false) : okRw r n = false := by
 rw [txB,Bool.and_eq_false_iff] at h
 rw [okRw]
 rcases h with h | h <;> simp [h]
theorem okRw_ends {r : Rw} {n : Int} (h1 : inB n 1 5 = true) (h2 : inB r.ver 0 1000000 = true) (h3 : txB r.txt = true) (h4 : smB r.got n = true) (h5 : susB r.sus n = true) : okRw r n = (flB r && lsB r n) := by
 rw [txB,Bool.and_eq_true] at h3
 rw [← endB_fl,okRw,h1,h2,h3.1,h3.2,h4,h5]
 rfl
set_option maxRecDepth 100000 in
set_option maxHeartbeats 3200000 in
theorem stOf_any (A : Ra) (r : Rw) (n : Int) (w : World) (hv : RwP w A r) :
  Calls Try.prog 79 #[rwV A r,.int .i64 n] w fun e w' => ∃ s,e = .returned (.tuple #[s,.bool (okRw r n)]) ∧ (okRw r n = true → s = stV A r) ∧ Below w.heap.size w w' := by
 have hB0 := oneA16 w (.cells (rwC A r) 35)
 have hx := Bx.new w 35 (rwC A r)
 have h0 := hv.below hB0
 generalize hW : w.alloc (.cells (rwC A r) 35) = W at *
 have hS := h0.rws
 have hTx := areTx_any A.ta A.tc r.txt W h0.txt.txs hS.mt
 have hCt := areCt_any A.ga A.gc r.got n W h0.got.vec h0.got.le h0.got.mx
 have hSu : ∀ m,Calls Try.prog 117 #[.slice A.sa r.sus.length A.sc,.int .i64 (n - 1)] (W.drewN m) fun e w' => e = .returned (.bool (susB r.sus n)) ∧ w' = W.drewN m := fun m => by
  have := rw14_any A.sa r.sus.length A.sc n r.sus (W.drewN m) (h0.below (belowN (Below.refl _ _))).sus.vec hS.ms
  rw [sus_row] at this
  exact this
 have hFl := fun X => flag_any A r X hS.mm
 have hEn : ∀ X,Below W.heap.size W X → 1 ≤ n ∧ n ≤ 5 → Calls Try.prog 119 #[stV A r,.int .i64 n] X fun e w' => e = .returned (.bool (lsB r n)) ∧ Below X.heap.size X w' := fun X h hn => endR_any A r n X (h0.below h) hn
 have HZn : Hid (inB n 1 5 = false → okRw r n = false) := fun h => okRw_n h
 have HZv : Hid (inB r.ver 0 1000000 = false → okRw r n = false) := fun h => okRw_v h
 have HZt : Hid (txB r.txt = false → okRw r n = false) := fun h => okRw_tx h
 have HZg : Hid (smB r.got n = false → okRw r n = false) := fun h => okRw_g h
 have HZs : Hid (susB r.sus n = false → okRw r n = false) := fun h => okRw_s h
 have HZe : Hid (inB n 1 5 = true → inB r.ver 0 1000000 = true → txB r.txt = true → smB r.got n = true → susB r.sus n = true → okRw r n = (flB r && lsB r n)) := fun a b c d e => okRw_ends a b c d e
 have HB0 : Hid (Below w.heap.size w W) := hB0
 have HSt : Hid (∀ s : Value,s = stV A r → s = stV A r) := fun _ h => h
 generalize hq : okRw r n = Q at *
 clear hq
 generalize stV A r = V at *
 generalize flB r = fl at *
 generalize lsB r n = ls at *
 generalize txB r.txt = tb at *
 generalize smB r.got n = sg at *
 generalize susB r.sus n = sb at *
 obtain ⟨ver,txt,got,sus,wed,rdy,by_,trm⟩ := r
 obtain ⟨ta,tc,ga,gc,sa,sc,ma,mc⟩ := A
 have hw0 : w.alloc (.cells #[.int .i64 ver,.slice ta txt.length tc,.slice ga got.length gc,.slice sa sus.length sc,.bool wed,.bool rdy,.int .i64 by_,.slice ma trm.length mc] 35) = W := hW
 obtain ⟨⟨c0,c1,c2,c3⟩,c4,c5,c6,c7⟩ := Bx.r8 hx
 simp only [rwV,rwC] at c0 c1 c2 c3 c4 c5 c6 c7 hTx hCt hSu hFl HZv HZe
 unfold rwV rwC
 clear hv h0 hx hW hB0 hS
 simp only
 cases e1 : inB n 1 5 with
 | false =>
  have HZ : Hid (Q = false) := HZn.out e1
  go_enter Try.func79,Try.ntmps79
  go_wp2_with (first | (go_at_call 84;refine (isRl_any _ _).mono ?_;rintro e w' ⟨rfl,hw'⟩;rw [hw',e1];clear hw'))
  refine bodyPost_ret (v := .tuple #[.nilIface,.bool false]) (by simp [results,Try.results79,go_sem, *]) rfl ?_
  exact ⟨.nilIface,by rw [HZ.out],fun h => (by rw [HZ.out] at h;cases h),HB0.out⟩
 | true =>
 have hn5 := inB7.1 e1
 have hwn : wrap64 (n - 1) = n - 1 := by unfold wrap64;omega
 have hEn2 := fun X h => hEn X h hn5
 have HN1 : Hid (inB n 1 5 = true) := e1
 have hRl : ∀ X,Calls Try.prog 84 #[.int .i64 n] X fun e w' => e = .returned (.bool true) ∧ w' = X := fun X => by
  have := isRl_any n X
  rw [e1] at this
  exact this
 clear e1 hEn hn5
 cases e2 : inB ver 0 1000000 with
 | false =>
  have HZ : Hid (Q = false) := HZv.out e2
  go_enter Try.func79,Try.ntmps79
  go_wp2_with (first | (go_at_call 84;refine (hRl _).mono ?_;rintro e w' ⟨rfl,hw'⟩;rw [hw'];clear hw') | (go_at_call 114;refine (isW14_any _ _ _).mono ?_;rintro e w' ⟨rfl,hw'⟩;rw [hw',e2];clear hw'))
  refine bodyPost_ret (v := .tuple #[.nilIface,.bool false]) (by simp [results,Try.results79,go_sem, *]) rfl ?_
  exact ⟨.nilIface,by rw [HZ.out],fun h => (by rw [HZ.out] at h;cases h),HB0.out⟩
 | true =>
 have HN2 : Hid (inB ver 0 1000000 = true) := e2
 have hWi : ∀ X,Calls Try.prog 114 #[.int .i64 ver,.int .i64 1000000] X fun e w' => e = .returned (.bool true) ∧ w' = X := fun X => by
  have := isW14_any ver 1000000 X
  rw [e2] at this
  exact this
 clear e2
 cases tb with
 | false =>
  have HZ : Hid (Q = false) := HZt.out rfl
  go_enter Try.func79,Try.ntmps79
  go_wp2_with (first | (go_at_call 84;refine (hRl _).mono ?_;rintro e w' ⟨rfl,hw'⟩;rw [hw'];clear hw') | (go_at_call 114;refine (hWi _).mono ?_;rintro e w' ⟨rfl,hw'⟩;rw [hw'];clear hw') | (go_at_call 115;refine hTx.mono ?_;rintro e w' ⟨rfl,hw'⟩;rw [hw'];clear hw'))
  refine bodyPost_ret (v := .tuple #[.nilIface,.bool false]) (by simp [results,Try.results79,go_sem, *]) rfl ?_
  exact ⟨.nilIface,by rw [HZ.out],fun h => (by rw [HZ.out] at h;cases h),HB0.out⟩
 | true =>
 cases sg with
 | false =>
  have HZ : Hid (Q = false) := HZg.out rfl
  go_enter Try.func79,Try.ntmps79
  go_wp2_with (first | (go_at_call 84;refine (hRl _).mono ?_;rintro e w' ⟨rfl,hw'⟩;rw [hw'];clear hw') | (go_at_call 114;refine (hWi _).mono ?_;rintro e w' ⟨rfl,hw'⟩;rw [hw'];clear hw') | (go_at_call 115;refine hTx.mono ?_;rintro e w' ⟨rfl,hw'⟩;rw [hw'];clear hw') | (go_at_call 116;refine hCt.mono ?_;rintro e w' ⟨rfl,m1,rfl⟩))
  refine bodyPost_ret (v := .tuple #[.nilIface,.bool false]) (by simp [results,Try.results79,go_sem, *]) rfl ?_
  exact ⟨.nilIface,by rw [HZ.out],fun h => (by rw [HZ.out] at h;cases h),belowN HB0.out⟩
 | true =>
 cases sb with
 | false =>
  have HZ : Hid (Q = false) := HZs.out rfl
  go_enter Try.func79,Try.ntmps79
  go_wp2_with (first | (go_at_call 84;refine (hRl _).mono ?_;rintro e w' ⟨rfl,hw'⟩;rw [hw'];clear hw') | (go_at_call 114;refine (hWi _).mono ?_;rintro e w' ⟨rfl,hw'⟩;rw [hw'];clear hw') | (go_at_call 115;refine hTx.mono ?_;rintro e w' ⟨rfl,hw'⟩;rw [hw'];clear hw') | (go_at_call 116;refine hCt.mono ?_;rintro e w' ⟨rfl,m1,rfl⟩) | (go_at_call 117;refine (hSu _).mono ?_;rintro e w' ⟨rfl,hw'⟩;rw [hw'];clear hw'))
  refine bodyPost_ret (v := .tuple #[.nilIface,.bool false]) (by simp [results,Try.results79,go_sem, *]) rfl ?_
  exact ⟨.nilIface,by rw [HZ.out],fun h => (by rw [HZ.out] at h;cases h),belowN HB0.out⟩
 | true =>
 have HE : Hid (Q = (fl && ls)) := HZe.out HN1.out HN2.out rfl rfl rfl
 clear HZn HZv HZt HZg HZs HZe HN1 HN2
 cases fl with
 | false =>
  have HZ : Hid (Q = false) := by rw [Hid,HE.out];rfl
  go_enter Try.func79,Try.ntmps79
  go_wp2_with (first | (go_at_call 84;refine (hRl _).mono ?_;rintro e w' ⟨rfl,hw'⟩;rw [hw'];clear hw') | (go_at_call 114;refine (hWi _).mono ?_;rintro e w' ⟨rfl,hw'⟩;rw [hw'];clear hw') | (go_at_call 115;refine hTx.mono ?_;rintro e w' ⟨rfl,hw'⟩;rw [hw'];clear hw') | (go_at_call 116;refine hCt.mono ?_;rintro e w' ⟨rfl,m1,rfl⟩) | (go_at_call 117;refine (hSu _).mono ?_;rintro e w' ⟨rfl,hw'⟩;rw [hw'];clear hw') | (go_at_call 118;refine (hFl _).mono ?_;rintro e w1 ⟨s1,rfl,hs1,hb1⟩;have HB1 : Hid (Below w.heap.size w w1) := ((belowN HB0.out).trans (hb1.mono (belowN HB0.out).size));clear hb1 hs1))
  refine bodyPost_ret (v := .tuple #[s1,.bool false]) (by simp [results,Try.results79,go_sem, *]) rfl ?_
  exact ⟨s1,by rw [HZ.out],fun h => (by rw [HZ.out] at h;cases h),HB1.out⟩
 | true =>
  have HZ : Hid (Q = ls) := by rw [Hid,HE.out];rfl
  have hF2 : ∀ X,Calls Try.prog 118 #[.agg #[.int .i64 ver,.slice ta txt.length tc,.slice ga got.length gc,.slice sa sus.length sc,.bool wed,.bool rdy,.int .i64 by_,.slice ma trm.length mc]] X fun e w' => e = .returned (.tuple #[V,.bool true]) ∧ Below X.heap.size X w' := fun X => (hFl X).mono (fun e w' ⟨s,h1,h2,h3⟩ => ⟨by rw [h1,h2 rfl],h3⟩)
  clear hFl
  have HRf : Hid (∀ m,Below W.heap.size W (W.drewN m)) := fun m => belowN (Below.refl _ _)
  go_enter Try.func79,Try.ntmps79
  go_wp2_with (first | (go_at_call 84;refine (hRl _).mono ?_;rintro e w' ⟨rfl,hw'⟩;rw [hw'];clear hw') | (go_at_call 114;refine (hWi _).mono ?_;rintro e w' ⟨rfl,hw'⟩;rw [hw'];clear hw') | (go_at_call 115;refine hTx.mono ?_;rintro e w' ⟨rfl,hw'⟩;rw [hw'];clear hw') | (go_at_call 116;refine hCt.mono ?_;rintro e w' ⟨rfl,m1,rfl⟩) | (go_at_call 117;refine (hSu _).mono ?_;rintro e w' ⟨rfl,hw'⟩;rw [hw'];clear hw') | (go_at_call 118;refine (hF2 _).mono ?_;rintro e w1 ⟨rfl,hb1⟩;have HB1 : Hid (Below w.heap.size w w1) := ((belowN HB0.out).trans (hb1.mono (belowN HB0.out).size));have hE3 := hEn2 w1 ((HRf.out m1).trans (hb1.mono (HRf.out m1).size));clear hb1) | (go_at_call 119;refine hE3.mono ?_;rintro e w2 ⟨rfl,hb2⟩;have HB2 : Hid (Below w.heap.size w w2) := (HB1.out.trans (hb2.mono HB1.out.size));clear hb2))
  refine bodyPost_ret (v := .tuple #[V,.bool ls]) (by simp [results,Try.results79,go_sem, *]) rfl ?_
  exact ⟨V,by rw [HZ.out],fun _ => rfl,HB2.out⟩
set_option maxRecDepth 100000 in
set_option maxHeartbeats 800000 in
theorem rowI_any (A : Ra) (r : Rw) (n : Int) (w : World) (hv : RwP w A r) :
  Calls Try.prog 35 #[rwV A r,.int .i64 n] w fun e w' => e = .returned (.bool (okRw r n)) ∧ Below w.heap.size w w' := by
 have hB0 := oneA16 w (.cells (rwC A r) 35)
 have hx := Bx.new w 35 (rwC A r)
 have h0 := hv.below hB0
 generalize hW : w.alloc (.cells (rwC A r) 35) = W at *
 have hSt : Calls Try.prog 79 #[rwV A r,.int .i64 n] W fun e w' => ∃ s,e = .returned (.tuple #[s,.bool (okRw r n)]) ∧ Below W.heap.size W w' := (stOf_any A r n W h0).mono (fun e w' ⟨s,h1,_,h2⟩ => ⟨s,h1,h2⟩)
 have HB0 : Hid (Below w.heap.size w W) := hB0
 generalize okRw r n = Q at *
 obtain ⟨ver,txt,got,sus,wed,rdy,by_,trm⟩ := r
 obtain ⟨ta,tc,ga,gc,sa,sc,ma,mc⟩ := A
 have hw0 : w.alloc (.cells #[.int .i64 ver,.slice ta txt.length tc,.slice ga got.length gc,.slice sa sus.length sc,.bool wed,.bool rdy,.int .i64 by_,.slice ma trm.length mc] 35) = W := hW
 obtain ⟨⟨c0,c1,c2,c3⟩,c4,c5,c6,c7⟩ := Bx.r8 hx
 simp only [rwV,rwC] at c0 c1 c2 c3 c4 c5 c6 c7 hSt
 unfold rwV rwC
 clear hv h0 hx hW hB0
 simp only
 go_enter Try.func35,Try.ntmps35
 go_wp2_with (go_at_call 79;refine hSt.mono ?_;rintro e w1 ⟨s1,rfl,hb1⟩;have HB1 : Hid (Below w.heap.size w w1) := (HB0.out.trans (hb1.mono HB0.out.size));clear hb1)
 go_ret
 exact ⟨rfl,HB1.out⟩
end Go.Proofs.Ytlnmdfgcpfbleaa
namespace Go.Proofs.Ytlnmdfgcpfbleaa
set_option linter.unusedVariables false
set_option linter.unusedSimpArgs false
open Go.RowKit Go.Sort
theorem two16 (A B : Ra) (r s : Rw) (T : TypeId) (w : World) : ∃ W,(w.alloc (.cells (rwC A r) T)).alloc (.cells (rwC B s) 35) = W ∧ Bx W w.heap.size T (rwC A r) ∧ Bx W (w.heap.size + 1) 35 (rwC B s) ∧ Below w.heap.size w W := by
 refine ⟨_,rfl,(Bx.new w _ _).alloc _, ?_,(oneA16 w _).trans ((oneA16 _ _).mono (oneA16 w _).size)⟩
 have := Bx.new (w.alloc (.cells (rwC A r) T)) 35 (rwC B s)
 simpa using this
def grwB (r s : Rw) : Bool := decide (r.ver ≤ s.ver) && (begB s.txt r.txt && (underB r.got s.got && r.sus.all (fun x => decide (x ∈ s.sus))))
def mayB (r s : Rw) : Bool := if r.rdy then s.rdy && (decide (r.by_ ≤ s.by_) && grwB r s) else if r.wed then s.wed && grwB r s else grwB r s
theorem fol_may (r s : Rw) (n : Int) : folB r s n = (okRw r n && (okRw s n && mayB r s)) := by
 cases h1 : okRw r n with
 | false => simp [folB,h1]
 | true =>
  cases h2 : okRw s n with
  | false => simp [folB,h2]
  | true =>
   have w1 : r.rdy = true → r.wed = true := fun h => by
    simp only [okRw,h,if_true,Bool.and_eq_true] at h1
    exact h1.2.2.2.2.2.2.1
   have w2 : s.rdy = true → s.wed = true := fun h => by
    simp only [okRw,h,if_true,Bool.and_eq_true] at h2
    exact h2.2.2.2.2.2.2.1
   simp only [folB,h1,h2,mayB,grwB,begB,Bool.true_and]
   cases e1 : r.rdy <;> cases e2 : s.rdy <;> cases e3 : r.wed <;> cases e4 : s.wed <;> simp [e1,e2,e3,e4] at w1 w2 ⊢
   all_goals
    cases decide (r.ver ≤ s.ver) <;> cases decide (r.txt.length ≤ s.txt.length) <;> cases decide (s.txt.take r.txt.length = r.txt) <;> cases underB r.got s.got <;> simp [Bool.and_comm]
set_option maxRecDepth 100000 in
set_option maxHeartbeats 1600000 in
theorem grew_any (A B : Ra) (r s : Rw) (w : World) (hv : RwP w A r) (hu : RwP w B s) :
  Calls Try.prog 173 #[rwV A r,rwV B s] w fun e w' => e = .returned (.bool (grwB r s)) ∧ Below w.heap.size w w' := by
 obtain ⟨W,hW,hx,hy,hB0⟩ := two16 A B r s 35 w
 have h0 := hv.below hB0
 have g0 := hu.below hB0
 have hS := h0.rws
 have gS := g0.rws
 have hBg := begW_any B.ta A.ta B.tc A.tc s.txt r.txt W g0.txt hS.txt gS.mt hS.mt
 have hUn : ∀ m,Calls Try.prog 18 #[.slice A.ga r.got.length A.gc,.slice B.ga s.got.length B.gc] (W.drewN m) fun e w' => e = .returned (.bool (underB r.got s.got)) ∧ ∃ n,w' = (W.drewN m).drewN n := fun m => implUnder_any A.ga B.ga r.got.length A.gc s.got.length B.gc r.got s.got (W.drewN m) (h0.below (belowN (Below.refl _ _))).got.vec (g0.below (belowN (Below.refl _ _))).got.vec h0.got.le g0.got.le h0.got.mx g0.got.mx
 have hAm : ∀ m,Calls Try.prog 175 #[.slice A.sa r.sus.length A.sc,.slice B.sa s.sus.length B.sc] (W.drewN m) fun e w' => e = .returned (.bool (r.sus.all (fun x => decide (x ∈ s.sus)))) ∧ w' = W.drewN m := fun m => ammI_any B.sa A.sa B.sc A.sc s.sus r.sus (W.drewN m) (g0.below (belowN (Below.refl _ _))).sus.vec (h0.below (belowN (Below.refl _ _))).sus.vec gS.ms hS.ms
 have HG : Hid (grwB r s = (decide (r.ver ≤ s.ver) && (begB s.txt r.txt && (underB r.got s.got && r.sus.all (fun x => decide (x ∈ s.sus)))))) := rfl
 generalize grwB r s = G at *
 generalize begB s.txt r.txt = b1 at *
 generalize underB r.got s.got = b2 at *
 generalize r.sus.all (fun x => decide (x ∈ s.sus)) = b3 at *
 have HB0 : Hid (Below w.heap.size w W) := hB0
 obtain ⟨pv,pt,pg,ps,pw,pd,py,pm⟩ := r
 obtain ⟨qv,qt,qg,qs,qw,qd,qy,qm⟩ := s
 obtain ⟨pA,pa,pB,pb,pC,pc,pD,pe⟩ := A
 obtain ⟨qA,qa,qB,qb,qC,qc,qD,qe⟩ := B
 have hw0 : (w.alloc (.cells #[.int .i64 pv,.slice pA pt.length pa,.slice pB pg.length pb,.slice pC ps.length pc,.bool pw,.bool pd,.int .i64 py,.slice pD pm.length pe] 35)).alloc (.cells #[.int .i64 qv,.slice qA qt.length qa,.slice qB qg.length qb,.slice qC qs.length qc,.bool qw,.bool qd,.int .i64 qy,.slice qD qm.length qe] 35) = W := hW
 obtain ⟨⟨c0,c1,c2,c3⟩,c4,c5,c6,c7⟩ := Bx.r8 hx
 obtain ⟨⟨d0,d1,d2,d3⟩,d4,d5,d6,d7⟩ := Bx.r8 hy
 simp only [rwV,rwC] at c0 c1 c2 c3 c4 c5 c6 c7 d0 d1 d2 d3 d4 d5 d6 d7 hBg hUn hAm HG
 unfold rwV rwC
 clear hv hu h0 g0 hx hy hW hB0 hS gS
 simp only
 by_cases hver : pv ≤ qv
 rotate_left
 ·have HZ : Hid (G = false) := by rw [Hid,HG.out,decide_eq_false hver];rfl
  go_enter Try.func173,Try.ntmps173
  go_wp2
  go_ret
  exact ⟨ret_bool (by rw [HZ.out]),HB0.out⟩
 have HG1 : Hid (G = (b1 && (b2 && b3))) := by rw [Hid,HG.out,decide_eq_true hver];rfl
 clear HG
 cases b1 with
 | false =>
  have HZ : Hid (G = false) := HG1.out
  go_enter Try.func173,Try.ntmps173
  go_wp2_with (go_at_call 174;refine hBg.mono ?_;rintro e w' ⟨rfl,m1,rfl⟩)
  go_ret
  exact ⟨ret_bool (by rw [HZ.out]),belowN HB0.out⟩
 | true =>
 cases b2 with
 | false =>
  have HZ : Hid (G = false) := HG1.out
  go_enter Try.func173,Try.ntmps173
  go_wp2_with (first | (go_at_call 174;refine hBg.mono ?_;rintro e w' ⟨rfl,m1,rfl⟩) | (go_at_call 18;refine (hUn _).mono ?_;rintro e w' ⟨rfl,m2,hw'⟩;rw [hw',World.drewN_drewN];clear hw'))
  go_ret
  exact ⟨ret_bool (by rw [HZ.out]),belowN HB0.out⟩
 | true =>
  have HZ : Hid (G = b3) := HG1.out
  go_enter Try.func173,Try.ntmps173
  go_wp2_with (first | (go_at_call 174;refine hBg.mono ?_;rintro e w' ⟨rfl,m1,rfl⟩) | (go_at_call 18;refine (hUn _).mono ?_;rintro e w' ⟨rfl,m2,hw'⟩;rw [hw',World.drewN_drewN];clear hw') | (go_at_call 175;refine (hAm _).mono ?_;rintro e w' ⟨rfl,hw'⟩;rw [hw'];clear hw'))
  go_ret
  exact ⟨ret_bool (by rw [HZ.out]),belowN HB0.out⟩
set_option maxRecDepth 100000 in
set_option maxHeartbeats 1600000 in
theorem mbcS_any (A B : Ra) (r s : Rw) (w : World) (hv : RwP w A r) (hu : RwP w B s) :
  Calls Try.prog 178 #[rwV A r,rwV B s] w fun e w' => e = .returned (.bool (grwB r s)) ∧ Below w.heap.size w w' := by
 obtain ⟨W,hW,hx,hy,hB0⟩ := two16 A B r s 152 w
 have h0 := hv.below hB0
 have g0 := hu.below hB0
 have hGr := grew_any A B r s W h0 g0
 generalize grwB r s = G at *
 have HB0 : Hid (Below w.heap.size w W) := hB0
 obtain ⟨pv,pt,pg,ps,pw,pd,py,pm⟩ := r
 obtain ⟨qv,qt,qg,qs,qw,qd,qy,qm⟩ := s
 obtain ⟨pA,pa,pB,pb,pC,pc,pD,pe⟩ := A
 obtain ⟨qA,qa,qB,qb,qC,qc,qD,qe⟩ := B
 have hw0 : (w.alloc (.cells #[.int .i64 pv,.slice pA pt.length pa,.slice pB pg.length pb,.slice pC ps.length pc,.bool pw,.bool pd,.int .i64 py,.slice pD pm.length pe] 152)).alloc (.cells #[.int .i64 qv,.slice qA qt.length qa,.slice qB qg.length qb,.slice qC qs.length qc,.bool qw,.bool qd,.int .i64 qy,.slice qD qm.length qe] 35) = W := hW
 obtain ⟨⟨c0,c1,c2,c3⟩,c4,c5,c6,c7⟩ := Bx.r8 hx
 obtain ⟨⟨d0,d1,d2,d3⟩,d4,d5,d6,d7⟩ := Bx.r8 hy
 simp only [rwV,rwC] at c0 c1 c2 c3 c4 c5 c6 c7 d0 d1 d2 d3 d4 d5 d6 d7 hGr
 unfold rwV rwC
 clear hv hu h0 g0 hx hy hW hB0
 simp only
 go_enter Try.func178,Try.ntmps178
 go_wp2_with (go_at_call 173;refine hGr.mono ?_;rintro e w1 ⟨rfl,hb1⟩;have HB1 : Hid (Below w.heap.size w w1) := (HB0.out.trans (hb1.mono HB0.out.size));clear hb1)
 go_ret
 exact ⟨rfl,HB1.out⟩
set_option maxRecDepth 100000 in
set_option maxHeartbeats 1600000 in
theorem mbcW_any (A B : Ra) (r s : Rw) (w : World) (hv : RwP w A r) (hu : RwP w B s) :
  Calls Try.prog 177 #[rwV A r,rwV B s] w fun e w' => e = .returned (.bool (s.wed && grwB r s)) ∧ Below w.heap.size w w' := by
 obtain ⟨W,hW,hx,hy,hB0⟩ := two16 A B r s 151 w
 have h0 := hv.below hB0
 have g0 := hu.below hB0
 have hGr := grew_any A B r s W h0 g0
 generalize grwB r s = G at *
 have HB0 : Hid (Below w.heap.size w W) := hB0
 obtain ⟨pv,pt,pg,ps,pw,pd,py,pm⟩ := r
 obtain ⟨qv,qt,qg,qs,qw,qd,qy,qm⟩ := s
 obtain ⟨pA,pa,pB,pb,pC,pc,pD,pe⟩ := A
 obtain ⟨qA,qa,qB,qb,qC,qc,qD,qe⟩ := B
 have hw0 : (w.alloc (.cells #[.int .i64 pv,.slice pA pt.length pa,.slice pB pg.length pb,.slice pC ps.length pc,.bool pw,.bool pd,.int .i64 py,.slice pD pm.length pe] 151)).alloc (.cells #[.int .i64 qv,.slice qA qt.length qa,.slice qB qg.length qb,.slice qC qs.length qc,.bool qw,.bool qd,.int .i64 qy,.slice qD qm.length qe] 35) = W := hW
 obtain ⟨⟨c0,c1,c2,c3⟩,c4,c5,c6,c7⟩ := Bx.r8 hx
 obtain ⟨⟨d0,d1,d2,d3⟩,d4,d5,d6,d7⟩ := Bx.r8 hy
 simp only [rwV,rwC] at c0 c1 c2 c3 c4 c5 c6 c7 d0 d1 d2 d3 d4 d5 d6 d7 hGr
 unfold rwV rwC
 clear hv hu h0 g0 hx hy hW hB0
 simp only
 cases qw with
 | false =>
  go_enter Try.func177,Try.ntmps177
  go_wp2
  go_ret
  exact ⟨rfl,HB0.out⟩
 | true =>
  go_enter Try.func177,Try.ntmps177
  go_wp2_with (go_at_call 173;refine hGr.mono ?_;rintro e w1 ⟨rfl,hb1⟩;have HB1 : Hid (Below w.heap.size w w1) := (HB0.out.trans (hb1.mono HB0.out.size));clear hb1)
  go_ret
  exact ⟨rfl,HB1.out⟩
set_option maxRecDepth 100000 in
set_option maxHeartbeats 1600000 in
theorem mbcE_any (A B : Ra) (r s : Rw) (w : World) (hv : RwP w A r) (hu : RwP w B s) :
  Calls Try.prog 172 #[rwV A r,rwV B s] w fun e w' => e = .returned (.bool (s.rdy && (decide (r.by_ ≤ s.by_) && grwB r s))) ∧ Below w.heap.size w w' := by
 obtain ⟨W,hW,hx,hy,hB0⟩ := two16 A B r s 150 w
 have h0 := hv.below hB0
 have g0 := hu.below hB0
 have hGr := grew_any A B r s W h0 g0
 generalize grwB r s = G at *
 have HB0 : Hid (Below w.heap.size w W) := hB0
 obtain ⟨pv,pt,pg,ps,pw,pd,py,pm⟩ := r
 obtain ⟨qv,qt,qg,qs,qw,qd,qy,qm⟩ := s
 obtain ⟨pA,pa,pB,pb,pC,pc,pD,pe⟩ := A
 obtain ⟨qA,qa,qB,qb,qC,qc,qD,qe⟩ := B
 have hw0 : (w.alloc (.cells #[.int .i64 pv,.slice pA pt.length pa,.slice pB pg.length pb,.slice pC ps.length pc,.bool pw,.bool pd,.int .i64 py,.slice pD pm.length pe] 150)).alloc (.cells #[.int .i64 qv,.slice qA qt.length qa,.slice qB qg.length qb,.slice qC qs.length qc,.bool qw,.bool qd,.int .i64 qy,.slice qD qm.length qe] 35) = W := hW
 obtain ⟨⟨c0,c1,c2,c3⟩,c4,c5,c6,c7⟩ := Bx.r8 hx
 obtain ⟨⟨d0,d1,d2,d3⟩,d4,d5,d6,d7⟩ := Bx.r8 hy
 simp only [rwV,rwC] at c0 c1 c2 c3 c4 c5 c6 c7 d0 d1 d2 d3 d4 d5 d6 d7 hGr
 unfold rwV rwC
 clear hv hu h0 g0 hx hy hW hB0
 simp only
 cases qd with
 | false =>
  go_enter Try.func172,Try.ntmps172
  go_wp2
  go_ret
  exact ⟨rfl,HB0.out⟩
 | true =>
  by_cases hy : py ≤ qy
  ·have HD : Hid (decide (py ≤ qy) = true) := decide_eq_true hy
   go_enter Try.func172,Try.ntmps172
   go_wp2_with (go_at_call 173;refine hGr.mono ?_;rintro e w1 ⟨rfl,hb1⟩;have HB1 : Hid (Below w.heap.size w w1) := (HB0.out.trans (hb1.mono HB0.out.size));clear hb1)
   go_ret
   exact ⟨ret_bool (by rw [HD.out];rfl),HB1.out⟩
  ·have HD : Hid (decide (py ≤ qy) = false) := decide_eq_false hy
   go_enter Try.func172,Try.ntmps172
   go_wp2
   go_ret
   exact ⟨ret_bool (by rw [HD.out];rfl),HB0.out⟩
end Go.Proofs.Ytlnmdfgcpfbleaa