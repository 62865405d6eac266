/-
  Texts in one: Gnc Mcn Mco Mcp Gnd Gne Gnf Mck Mcd Mcf Mcq Gng Gnh Ozr Omb Ogr Nmb Ivk.
-/
import Derived.Test.YthioodpmgifomaaJad
import Derived.Test.YthioodpmgifomaaJab
import Derived.Test.YthioodpmgifomaaJac
import Derived.Test.YthioodpmgifomaaJaa
import Derived.Deep.RegionHeld3
import Derived.Lib.SmallJoins
import Derived.OpenShut
import Derived.ChangeOld
import Derived.ShutString
import Derived.Deep.Matrix
import Derived.Deep.Slices
import Derived.Deep.Strs
import Derived.Deep.Grids
import Derived.Defers
import Derived.Recover
namespace Go.Proofs.Ythioodpmgifomaa
set_option linter.unusedVariables false
set_option linter.unusedSimpArgs false
open Go.RowKit Go.Sort
def zero5 : Array Value := #[.int .i64 0,.int .i64 0,.slice none 0 0,.slice none 0 0,.bool false]
def zero10 : Array Value := #[.int .i64 0,.int .i64 0,.int .i64 0,.slice none 0 0,.slice none 0 0,.slice none 0 0,.bool false,.bool false,.int .i64 0,.slice none 0 0]
theorem ow_zero5 (w : World) : owL w (mb5 zeroMb) zero5.toList (fun _ => False) := ow_mb5 (A := ⟨none,0,none,0⟩) (ow_mb0 w)
theorem ow_zero10 (w : World) : owL w (ml10 zeroMl) zero10.toList (fun _ => False) := owL_v (owL_v (ow_zero8 w))
theorem infoMb18 : (Try.prog.info? 39).map (fun i => (i.zero,i.size,i.bytes)) = some (some (.agg zero5),5,72) := by kernel_rfl
theorem infoMl18 : (Try.prog.info? 112).map (fun i => (i.zero,i.size,i.bytes)) = some (some (.agg zero10),10,136) := by kernel_rfl
theorem makeMs (n : Nat) (hn : n ≤ 1048576) (w : World) :
  (Instr.makeSlice 63 (.int .i64 (n : Int)) (.int .i64 (n : Int))).run Try.prog w = .ok (.slice (some ⟨w.heap.size,0,none⟩) n n) (w.alloc (.cells (madeCells zero5 (n * 5)) 39)) := by
 obtain ⟨i,hi,hz,hs,hb⟩ := info_parts2n infoMb18
 have hr := run_make (P := Try.prog) w 63 39 i _ Try.underlying63 hi hz .i64 .i64 n n (by omega) (Int.le_refl _) (by rw [hb];omega) (by omega)
 simp only [Int.toNat_natCast,hs] at hr
 exact hr
theorem madeMs (w : World) (n : Nat) (hn : n ≤ 1048576) : Cel.ow (w.alloc (.cells (madeCells zero5 (n * 5)) 39)) (lcl 5 mb5 (List.replicate n zeroMb)) (.slice (some ⟨w.heap.size,0,none⟩) n n) (fun b => b = w.heap.size) := by
 have h := osl_made w zero5 5 n 39 rfl (by omega) (by unfold maxLen;omega)
 unfold lcl
 rw [flat_rep,List.length_replicate]
 exact ⟨_,n,_,some w.heap.size,fun _ => False,rfl,OSo.of h,owL_zeros (ow_zero5 _) (fun b h => h) n,fun _ _ h => h,fun b => by simp [eq_comm]⟩
def prM (R : List Mb) (k : Nat) : List Mb := R.take k ++ List.replicate (R.length - k) zeroMb
theorem prM_len {R : List Mb} {k : Nat} (hk : k ≤ R.length) : (prM R k).length = R.length := by simp [prM];omega
theorem prM_at {R : List Mb} {k : Nat} (hk : k < R.length) : (prM R k)[k]? = some zeroMb := by
 have e2 : R.length - k = (R.length - (k + 1)) + 1 := by omega
 have e3 : (R.take k).length = k := by simp;omega
 rw [prM,List.getElem?_append_right (by omega),e2,List.replicate_succ,e3,Nat.sub_self]
 rfl
theorem prM_set {R : List Mb} {k : Nat} (hk : k < R.length) : (prM R k).set k (mbN R k) = prM R (k + 1) := by
 have e : mbN R k = R[k] := by simp [mbN,List.getD,hk]
 have e2 : R.length - k = (R.length - (k + 1)) + 1 := by omega
 have e3 : (R.take k).length = k := by simp;omega
 rw [prM,prM,e,e2,List.replicate_succ,List.set_append_right _ _ (by omega),List.take_succ_eq_append_getElem hk,e3,Nat.sub_self,List.set_cons_zero,List.append_assoc]
 rfl
theorem prM_all (R : List Mb) : prM R R.length = R := by simp [prM]
set_option maxRecDepth 100000 in
set_option maxHeartbeats 3200000 in
theorem toMs_any (a : Option Addr) (cap : Nat) (R : List Mb) (w : World) (hv : Cel.vw w (lcl 5 mb5 R) (.slice a R.length cap)) (hf : ∀ m ∈ R,FitM m) (hs : szMs R ≤ 1048576) :
  Calls Try.prog 94 #[.slice a R.length cap] w fun e w' => ∃ a' c',e = .returned (.slice a' R.length c') ∧ NewO w w' (lcl 5 mb5 R) (.slice a' R.length c') := by
 have HV : Hid (Cel.vw w (lcl 5 mb5 R) (.slice a R.length cap)) := hv
 have hl : R.length ≤ 1048576 := by unfold szMs at hs;omega
 have HSZ : Hid (∀ k,k < R.length → szMb (mbN R k) ≤ 1048576) := fun k hk => szMs_at hs hk
 have hmk := makeMs R.length hl
 have HS : Hid (Cel.ow (w.alloc (.cells (madeCells zero5 (R.length * 5)) 39)) (lcl 5 mb5 (prM R 0)) (.slice (some ⟨w.heap.size,0,none⟩) R.length R.length) (fun b => b = w.heap.size) ∧ Below w.heap.size w (w.alloc (.cells (madeCells zero5 (R.length * 5)) 39))) := by
  refine ⟨?_,oneA16 w _⟩
  have := madeMs w R.length hl
  have e : prM R 0 = List.replicate R.length zeroMb := by simp [prM]
  rw [e]
  exact this
 clear hv
 go_enter Try.func94,Try.ntmps94
 go_wp2_with fail
 clear hmk
 generalize w.alloc (.cells (madeCells zero5 (R.length * 5)) 39) = W0 at *
 go_loopw [4] (fun i wr => ∃ (k : Nat) (fp : Fp),k ≤ R.length ∧ i = .int .i64 k ∧ Cel.ow wr (lcl 5 mb5 (prM R k)) (.slice (some ⟨w.heap.size,0,none⟩) R.length R.length) fp ∧ (∀ b,fp b → w.heap.size ≤ b) ∧ Below w.heap.size w wr) (fun i _ => R.length - (intOf i).toNat)
 case atStart => exact ⟨0,_,Nat.zero_le _,rfl,HS.out.1,fun b h => by rw [h];exact Nat.le_refl _,HS.out.2⟩
 case round =>
  obtain ⟨k,fp,hk,rfl,ho,hfp,hb⟩ := hrel
  by_cases hlt : k < R.length
  ·have k1 : (k : Int) < (R.length : Int) := by omega
   have k0 : (0 : Int) ≤ (k : Int) := by omega
   have hmem : mbN R k ∈ R := List.mem_of_getElem? (mbN_at hlt)
   obtain ⟨g,off,hra,hpv⟩ := vw_elF mb5_len (Cel.vw_below HV.out hb) (mbN_at hlt)
   obtain ⟨Ak,⟨d0,d1,d2,d3,d4⟩,hrs⟩ := hpv.mem (hf _ hmem)
   subst hra
   have hz := HSZ.out k hlt
   have hC := toMb_any Ak (mbN R k) wr hrs hz
   unfold AnsMb mbV mbC at hC
   have hpl := prM_len hk
   rw [← hpl] at ho
   obtain ⟨g1,off1,f1,e1,hfg,hfs,hP,hglt,hput⟩ := ow_elF mb5_len (by omega) ho (prM_at hlt)
   cases e1
   have hput := fun w1 => hput w1 (mbN R k)
   rw [prM_set hlt,hpl] at hput
   simp only [Nat.zero_add] at hP hput
   have HPut : Hid (∀ w1 : World,Bcm wr w1 w.heap.size (k * 5) (mb5 (mbN R k)) f1 → ∃ fp',Cel.ow w1 (lcl 5 mb5 (prM R (k + 1))) (.slice (some ⟨w.heap.size,0,none⟩) R.length R.length) fp' ∧ (∀ b,fp' b → fp b ∨ wr.heap.size ≤ b) ∧ Wrt fp wr w1) := hput
   have HP : Hid (Plc wr w.heap.size (k * 5) (mb5 zeroMb) f1) := hP
   have HB : Hid (Below w.heap.size w wr) := hb
   have HFP : Hid (∀ b,fp b → w.heap.size ≤ b) := hfp
   generalize mbN R k = r at *
   clear hpv hb ho hput hP hz hpl hfs hmem hrs
   go_wp2_with fail
   refine hC.mono ?_
   rintro e w1 ⟨A1,rfl,fr,hl1,hfr,hb1⟩
   have HA := HP.out.all hb1 (ow_mb5 hl1) rfl hfr
   obtain ⟨vs0,hpc,hov,_⟩ := HP.out
   have hl8 : vs0.length = 5 := owL_len hov
   have hpc1 := hpc.of_block (hb1.block _ hpc.lt) hb1.size
   have cc : ∀ j,j < 5 → ∃ u,w1.cell? ⟨w.heap.size,k * 5 + j,none⟩ = some u ∧ w1.frozen? ⟨w.heap.size,k * 5 + j,none⟩ = false := fun j hj => ⟨_,(hpc1.cell j (by omega)).trans (List.getElem?_eq_getElem (by omega)),hpc1.free j (by omega)⟩
   obtain ⟨u0,e0,g0⟩ := cc 0 (by omega)
   obtain ⟨u1,e1,g1⟩ := cc 1 (by omega)
   obtain ⟨u2,e2,g2⟩ := cc 2 (by omega)
   obtain ⟨u3,e3,g3⟩ := cc 3 (by omega)
   obtain ⟨u4,e4,g4⟩ := cc 4 (by omega)
   simp only [Nat.add_zero] at e0 g0
   obtain ⟨fp',hN1,hN2,hN3⟩ := HPut.out _ HA
   have HN1 : Hid (Cel.ow _ (lcl 5 mb5 (prM R (k + 1))) (.slice (some ⟨w.heap.size,0,none⟩) R.length R.length) fp') := hN1
   have HN3 : Hid (Wrt fp wr _) := hN3
   have HN2 : Hid (∀ b,fp' b → fp b ∨ wr.heap.size ≤ b) := hN2
   have hsz := HB.out.size
   clear d0 d1 d2 d3 d4 hC hb1 hN1 hN2 hN3 HA cc hpc1 hov hpc
   try unfold mbV mbC
   go_wp2
   go_roundw
   case rel => exact ⟨k + 1,fp',by omega,by go_num,HN1.out,fun b hb => by have := HFP.out b;rcases HN2.out b hb with h | h;exact this h;omega,HN3.out.below HB.out hsz HFP.out⟩
   case measure => simp [intOf];omega
  ·obtain rfl : k = R.length := by omega
   have k1 : ¬ ((R.length : Int) < (R.length : Int)) := by omega
   have HE : Hid (NewO w wr (lcl 5 mb5 R) (.slice (some ⟨w.heap.size,0,none⟩) R.length R.length)) := by rw [prM_all] at ho;exact ⟨fp,ho,hfp,hb⟩
   clear ho hb
   go_wp2
   go_ret
   exact ⟨_,_,rfl,HE.out⟩
theorem wrt10 (w : World) (g : Nat) (a b c d e f h i j k : Value) : Wrt (fun x => x = g) w ((((((((((w.setCell ⟨g,0,none⟩ a).setCell ⟨g,1,none⟩ b).setCell ⟨g,2,none⟩ c).setCell ⟨g,3,none⟩ d).setCell ⟨g,4,none⟩ e).setCell ⟨g,5,none⟩ f).setCell ⟨g,6,none⟩ h).setCell ⟨g,7,none⟩ i).setCell ⟨g,8,none⟩ j).setCell ⟨g,9,none⟩ k) := Wrt.setCells g [a,b,c,d,e,f,h,i,j,k] 0 w
theorem Bx.f10 {w : World} {B : Nat} {T : TypeId} {cs : Array Value} (h : Bx w B T cs) : (w.frozen? ⟨B,0,none⟩ = false ∧ w.frozen? ⟨B,1,none⟩ = false) ∧ (w.frozen? ⟨B,2,none⟩ = false ∧ w.frozen? ⟨B,3,none⟩ = false ∧ w.frozen? ⟨B,4,none⟩ = false ∧ w.frozen? ⟨B,5,none⟩ = false) ∧ w.frozen? ⟨B,6,none⟩ = false ∧ w.frozen? ⟨B,7,none⟩ = false ∧ w.frozen? ⟨B,8,none⟩ = false ∧ w.frozen? ⟨B,9,none⟩ = false :=
 ⟨⟨h.f 0,h.f 1⟩,⟨h.f 2,h.f 3,h.f 4,h.f 5⟩,h.f 6,h.f 7,h.f 8,h.f 9⟩
set_option maxRecDepth 100000 in
set_option maxHeartbeats 3200000 in
theorem toMl_any (A : Ra) (x : Ml) (w : World) (hv : RwS w A x.row) (hz : szMl x ≤ 1048576) :
  Calls Try.prog 135 #[mlV A x] w fun e w' => ∃ A1 : Ra,e = .returned (mlV A1 x) ∧ NewL w w' (rwCels x.row) (rwVals A1 x.row) := by
 unfold szMl szRw at hz
 have hb0 : Below w.heap.size w (((w.alloc (.cells #[.int .i64 x.fr,.int .i64 x.to,.int .i64 x.row.ver,.slice A.ta x.row.txt.length A.tc,.slice A.ga x.row.got.length A.gc,.slice A.sa x.row.sus.length A.sc,.bool x.row.wed,.bool x.row.rdy,.int .i64 x.row.by_,.slice A.ma x.row.trm.length A.mc] 145)).alloc (.cells #[.int .i64 0,.int .i64 0,.int .i64 0,.slice none 0 0,.slice none 0 0,.slice none 0 0,.bool false,.bool false,.int .i64 0,.slice none 0 0] 112)).alloc (.cells #[.int .i64 x.fr,.int .i64 x.to,.int .i64 0,.slice none 0 0,.slice none 0 0,.slice none 0 0,.bool false,.bool false,.int .i64 0,.slice none 0 0] 112)) := ((Below.refl _ _).alloc (Nat.le_refl _) _).alloc (by simp) _ |>.alloc (by simp only [World.size_alloc];omega) _
 have x0 := ((Bx.new w 145 #[.int .i64 x.fr,.int .i64 x.to,.int .i64 x.row.ver,.slice A.ta x.row.txt.length A.tc,.slice A.ga x.row.got.length A.gc,.slice A.sa x.row.sus.length A.sc,.bool x.row.wed,.bool x.row.rdy,.int .i64 x.row.by_,.slice A.ma x.row.trm.length A.mc]).alloc (.cells #[.int .i64 0,.int .i64 0,.int .i64 0,.slice none 0 0,.slice none 0 0,.slice none 0 0,.bool false,.bool false,.int .i64 0,.slice none 0 0] 112)).alloc (.cells #[.int .i64 x.fr,.int .i64 x.to,.int .i64 0,.slice none 0 0,.slice none 0 0,.slice none 0 0,.bool false,.bool false,.int .i64 0,.slice none 0 0] 112)
 have x1 := (Bx.new (w.alloc (.cells #[.int .i64 x.fr,.int .i64 x.to,.int .i64 x.row.ver,.slice A.ta x.row.txt.length A.tc,.slice A.ga x.row.got.length A.gc,.slice A.sa x.row.sus.length A.sc,.bool x.row.wed,.bool x.row.rdy,.int .i64 x.row.by_,.slice A.ma x.row.trm.length A.mc] 145)) 112 #[.int .i64 0,.int .i64 0,.int .i64 0,.slice none 0 0,.slice none 0 0,.slice none 0 0,.bool false,.bool false,.int .i64 0,.slice none 0 0]).alloc (.cells #[.int .i64 x.fr,.int .i64 x.to,.int .i64 0,.slice none 0 0,.slice none 0 0,.slice none 0 0,.bool false,.bool false,.int .i64 0,.slice none 0 0] 112)
 have x2 := Bx.new ((w.alloc (.cells #[.int .i64 x.fr,.int .i64 x.to,.int .i64 x.row.ver,.slice A.ta x.row.txt.length A.tc,.slice A.ga x.row.got.length A.gc,.slice A.sa x.row.sus.length A.sc,.bool x.row.wed,.bool x.row.rdy,.int .i64 x.row.by_,.slice A.ma x.row.trm.length A.mc] 145)).alloc (.cells #[.int .i64 0,.int .i64 0,.int .i64 0,.slice none 0 0,.slice none 0 0,.slice none 0 0,.bool false,.bool false,.int .i64 0,.slice none 0 0] 112)) 112 #[.int .i64 x.fr,.int .i64 x.to,.int .i64 0,.slice none 0 0,.slice none 0 0,.slice none 0 0,.bool false,.bool false,.int .i64 0,.slice none 0 0]
 simp only [World.size_alloc] at x1 x2
 have hC := toRw_any A x.row _ (hv.below hb0) (by omega) (by omega) (by omega) (by omega)
 unfold mlV mlC
 unfold AnsRw rwV rwC at hC
 have hWW : ∃ W,((w.alloc (.cells #[.int .i64 x.fr,.int .i64 x.to,.int .i64 x.row.ver,.slice A.ta x.row.txt.length A.tc,.slice A.ga x.row.got.length A.gc,.slice A.sa x.row.sus.length A.sc,.bool x.row.wed,.bool x.row.rdy,.int .i64 x.row.by_,.slice A.ma x.row.trm.length A.mc] 145)).alloc (.cells #[.int .i64 0,.int .i64 0,.int .i64 0,.slice none 0 0,.slice none 0 0,.slice none 0 0,.bool false,.bool false,.int .i64 0,.slice none 0 0] 112)).alloc (.cells #[.int .i64 x.fr,.int .i64 x.to,.int .i64 0,.slice none 0 0,.slice none 0 0,.slice none 0 0,.bool false,.bool false,.int .i64 0,.slice none 0 0] 112) = W := ⟨_,rfl⟩
 obtain ⟨W,hWW⟩ := hWW
 rw [hWW] at hb0 x0 x1 x2 hC
 obtain ⟨⟨c0,c1⟩,⟨c2,c3,c4,c5⟩,c6,c7,c8,c9⟩ := Bx.r10 x0
 have HX1 : Hid (Bx W (w.heap.size + 1) 112 #[.int .i64 0,.int .i64 0,.int .i64 0,.slice none 0 0,.slice none 0 0,.slice none 0 0,.bool false,.bool false,.int .i64 0,.slice none 0 0]) := x1
 have HX2 : Hid (Bx W (w.heap.size + 1 + 1) 112 #[.int .i64 x.fr,.int .i64 x.to,.int .i64 0,.slice none 0 0,.slice none 0 0,.slice none 0 0,.bool false,.bool false,.int .i64 0,.slice none 0 0]) := x2
 have HB0 : Hid (Below w.heap.size w W) := hb0
 clear hv hb0 x0 x1 x2 hz
 go_enter Try.func135,Try.ntmps135
 go_upto_region 5 with (go_at_call 35;refine hC.mono ?_;rintro e w1 ⟨A1,rfl,fr,hl1,hfr,hb1⟩;clear c0 c1 c2 c3 c4 c5 c6 c7 c8 c9;have hx2 := (HX2.out.below hb1);obtain ⟨⟨c0,c1⟩,⟨c2,c3,c4,c5⟩,c6,c7,c8,c9⟩ := (Bx.r10 hx2);obtain ⟨⟨f0,f1⟩,⟨f2,f3,f4,f5⟩,f6,f7,f8,f9⟩ := hx2.f10)
 have hx3 := (((((((hx2.setC 2 (.int .i64 x.row.ver)).setC 3 (.slice A1.ta x.row.txt.length A1.tc)).setC 4 (.slice A1.ga x.row.got.length A1.gc)).setC 5 (.slice A1.sa x.row.sus.length A1.sc)).setC 6 (.bool x.row.wed)).setC 7 (.bool x.row.rdy)).setC 8 (.int .i64 x.row.by_)).setC 9 (.slice A1.ma x.row.trm.length A1.mc)
 have hw3 : Wrt (fun b => b = w.heap.size + 1 + 1) w1 _ := Wrt.setCells (w.heap.size + 1 + 1) [.int .i64 x.row.ver,.slice A1.ta x.row.txt.length A1.tc,.slice A1.ga x.row.got.length A1.gc,.slice A1.sa x.row.sus.length A1.sc,.bool x.row.wed,.bool x.row.rdy,.int .i64 x.row.by_,.slice A1.ma x.row.trm.length A1.mc] 2 w1
 have hs1 := HB0.out.size
 have hs2 := hb1.size
 have hlo := HX2.out.lt
 have hl3 := owL_wrt hl1 hw3 (fun b hb e => by have := hfr b hb;omega)
 have hb3 := hw3.below (HB0.out.trans (hb1.mono HB0.out.size)) (by omega) (fun b e => by omega)
 have hx4 := (HX1.out.below hb1).wrt hw3 (by omega)
 simp only [World.setCells] at hl3 hb3 hx4
 clear c0 c1 c2 c3 c4 c5 c6 c7 c8 c9 f0 f1 f2 f3 f4 f5 f6 f7 f8 f9 hx2 hw3 hC
 generalize ((((((((w1.setCell ⟨w.heap.size + 1 + 1,2,none⟩ (.int .i64 x.row.ver)).setCell ⟨w.heap.size + 1 + 1,3,none⟩ (.slice A1.ta x.row.txt.length A1.tc)).setCell ⟨w.heap.size + 1 + 1,4,none⟩ (.slice A1.ga x.row.got.length A1.gc)).setCell ⟨w.heap.size + 1 + 1,5,none⟩ (.slice A1.sa x.row.sus.length A1.sc)).setCell ⟨w.heap.size + 1 + 1,6,none⟩ (.bool x.row.wed)).setCell ⟨w.heap.size + 1 + 1,7,none⟩ (.bool x.row.rdy)).setCell ⟨w.heap.size + 1 + 1,8,none⟩ (.int .i64 x.row.by_)).setCell ⟨w.heap.size + 1 + 1,9,none⟩ (.slice A1.ma x.row.trm.length A1.mc)) = W5 at *
 have hx5 : Bx W5 (w.heap.size + 1 + 1) 112 #[.int .i64 x.fr,.int .i64 x.to,.int .i64 x.row.ver,.slice A1.ta x.row.txt.length A1.tc,.slice A1.ga x.row.got.length A1.gc,.slice A1.sa x.row.sus.length A1.sc,.bool x.row.wed,.bool x.row.rdy,.int .i64 x.row.by_,.slice A1.ma x.row.trm.length A1.mc] := by simpa using hx3
 obtain ⟨⟨c0,c1⟩,⟨c2,c3,c4,c5⟩,c6,c7,c8,c9⟩ := Bx.r10 hx5
 obtain ⟨⟨d0,d1⟩,⟨d2,d3,d4,d5⟩,d6,d7,d8,d9⟩ := Bx.r10 hx4
 obtain ⟨⟨f0,f1⟩,⟨f2,f3,f4,f5⟩,f6,f7,f8,f9⟩ := hx4.f10
 have HN : Hid (∀ (a b c d e f h i j k : Value),NewL w ((((((((((W5.setCell ⟨w.heap.size + 1,0,none⟩ a).setCell ⟨w.heap.size + 1,1,none⟩ b).setCell ⟨w.heap.size + 1,2,none⟩ c).setCell ⟨w.heap.size + 1,3,none⟩ d).setCell ⟨w.heap.size + 1,4,none⟩ e).setCell ⟨w.heap.size + 1,5,none⟩ f).setCell ⟨w.heap.size + 1,6,none⟩ h).setCell ⟨w.heap.size + 1,7,none⟩ i).setCell ⟨w.heap.size + 1,8,none⟩ j).setCell ⟨w.heap.size + 1,9,none⟩ k) (rwCels x.row) (rwVals A1 x.row)) := fun a b c d e f h i j k => ⟨fr,owL_wrt hl3 (wrt10 W5 _ a b c d e f h i j k) (fun b hb e => by have := hfr b hb;omega),fun b hb => by have := hfr b hb;omega,(wrt10 W5 _ a b c d e f h i j k).below hb3 hb3.size (fun b e => by omega)⟩
 clear hx3 hx4 hx5 hl1 hl3 hb1 hb3 hfr
 go_wp2
 refine bodyPost_ret (v := .agg #[.int .i64 x.fr,.int .i64 x.to,.int .i64 x.row.ver,.slice A1.ta x.row.txt.length A1.tc,.slice A1.ga x.row.got.length A1.gc,.slice A1.sa x.row.sus.length A1.sc,.bool x.row.wed,.bool x.row.rdy,.int .i64 x.row.by_,.slice A1.ma x.row.trm.length A1.mc]) (by simp [results,Try.results135,go_sem, *]) rfl ?_
 exact ⟨A1,rfl,HN.out _ _ _ _ _ _ _ _ _ _⟩
theorem makeLs (n : Nat) (hn : n ≤ 1048576) (w : World) :
  (Instr.makeSlice 64 (.int .i64 (n : Int)) (.int .i64 (n : Int))).run Try.prog w = .ok (.slice (some ⟨w.heap.size,0,none⟩) n n) (w.alloc (.cells (madeCells zero10 (n * 10)) 112)) := by
 obtain ⟨i,hi,hz,hs,hb⟩ := info_parts2n infoMl18
 have hr := run_make (P := Try.prog) w 64 112 i _ Try.underlying64 hi hz .i64 .i64 n n (by omega) (Int.le_refl _) (by rw [hb];omega) (by omega)
 simp only [Int.toNat_natCast,hs] at hr
 exact hr
theorem madeLs (w : World) (n : Nat) (hn : n ≤ 1048576) : Cel.ow (w.alloc (.cells (madeCells zero10 (n * 10)) 112)) (lcl 10 ml10 (List.replicate n zeroMl)) (.slice (some ⟨w.heap.size,0,none⟩) n n) (fun b => b = w.heap.size) := by
 have h := osl_made w zero10 10 n 112 rfl (by omega) (by unfold maxLen;omega)
 unfold lcl
 rw [flat_rep,List.length_replicate]
 exact ⟨_,n,_,some w.heap.size,fun _ => False,rfl,OSo.of h,owL_zeros (ow_zero10 _) (fun b h => h) n,fun _ _ h => h,fun b => by simp [eq_comm]⟩
def prL (R : List Ml) (k : Nat) : List Ml := R.take k ++ List.replicate (R.length - k) zeroMl
theorem prL_len {R : List Ml} {k : Nat} (hk : k ≤ R.length) : (prL R k).length = R.length := by simp [prL];omega
theorem prL_at {R : List Ml} {k : Nat} (hk : k < R.length) : (prL R k)[k]? = some zeroMl := by
 have e2 : R.length - k = (R.length - (k + 1)) + 1 := by omega
 have e3 : (R.take k).length = k := by simp;omega
 rw [prL,List.getElem?_append_right (by omega),e2,List.replicate_succ,e3,Nat.sub_self]
 rfl
theorem prL_set {R : List Ml} {k : Nat} (hk : k < R.length) : (prL R k).set k (mlN R k) = prL R (k + 1) := by
 have e : mlN R k = R[k] := by simp [mlN,List.getD,hk]
 have e2 : R.length - k = (R.length - (k + 1)) + 1 := by omega
 have e3 : (R.take k).length = k := by simp;omega
 rw [prL,prL,e,e2,List.replicate_succ,List.set_append_right _ _ (by omega),List.take_succ_eq_append_getElem hk,e3,Nat.sub_self,List.set_cons_zero,List.append_assoc]
 rfl
theorem prL_all (R : List Ml) : prL R R.length = R := by simp [prL]
set_option maxRecDepth 100000 in
set_option maxHeartbeats 3200000 in
theorem toLs_any (a : Option Addr) (cap : Nat) (R : List Ml) (w : World) (hv : Cel.vw w (lcl 10 ml10 R) (.slice a R.length cap)) (hf : ∀ x ∈ R,FitR x.row) (hs : szLs R ≤ 1048576) :
  Calls Try.prog 96 #[.slice a R.length cap] w fun e w' => ∃ a' c',e = .returned (.slice a' R.length c') ∧ NewO w w' (lcl 10 ml10 R) (.slice a' R.length c') := by
 have HV : Hid (Cel.vw w (lcl 10 ml10 R) (.slice a R.length cap)) := hv
 have hl : R.length ≤ 1048576 := by unfold szLs at hs;omega
 have HSZ : Hid (∀ k,k < R.length → szMl (mlN R k) ≤ 1048576) := fun k hk => szLs_at hs hk
 have hmk := makeLs R.length hl
 have HS : Hid (Cel.ow (w.alloc (.cells (madeCells zero10 (R.length * 10)) 112)) (lcl 10 ml10 (prL R 0)) (.slice (some ⟨w.heap.size,0,none⟩) R.length R.length) (fun b => b = w.heap.size) ∧ Below w.heap.size w (w.alloc (.cells (madeCells zero10 (R.length * 10)) 112))) := by
  refine ⟨?_,oneA16 w _⟩
  have := madeLs w R.length hl
  have e : prL R 0 = List.replicate R.length zeroMl := by simp [prL]
  rw [e]
  exact this
 clear hv
 go_enter Try.func96,Try.ntmps96
 go_wp2_with fail
 clear hmk
 generalize w.alloc (.cells (madeCells zero10 (R.length * 10)) 112) = W0 at *
 go_loopw [4] (fun i wr => ∃ (k : Nat) (fp : Fp),k ≤ R.length ∧ i = .int .i64 k ∧ Cel.ow wr (lcl 10 ml10 (prL R k)) (.slice (some ⟨w.heap.size,0,none⟩) R.length R.length) fp ∧ (∀ b,fp b → w.heap.size ≤ b) ∧ Below w.heap.size w wr) (fun i _ => R.length - (intOf i).toNat)
 case atStart => exact ⟨0,_,Nat.zero_le _,rfl,HS.out.1,fun b h => by rw [h];exact Nat.le_refl _,HS.out.2⟩
 case round =>
  obtain ⟨k,fp,hk,rfl,ho,hfp,hb⟩ := hrel
  by_cases hlt : k < R.length
  ·have k1 : (k : Int) < (R.length : Int) := by omega
   have k0 : (0 : Int) ≤ (k : Int) := by omega
   have hmem : mlN R k ∈ R := List.mem_of_getElem? (mlN_at hlt)
   obtain ⟨g,off,hra,hpv⟩ := vw_elF ml10_len (Cel.vw_below HV.out hb) (mlN_at hlt)
   obtain ⟨Ak,⟨d0,d1⟩,⟨d2,d3,d4,d5⟩,d6,d7,d8,d9,hrs⟩ := hpv.mlr (hf _ hmem)
   subst hra
   have hz := HSZ.out k hlt
   have hC := toMl_any Ak (mlN R k) wr hrs hz
   unfold mlV mlC at hC
   have hpl := prL_len hk
   rw [← hpl] at ho
   obtain ⟨g1,off1,f1,e1,hfg,hfs,hP,hglt,hput⟩ := ow_elF ml10_len (by omega) ho (prL_at hlt)
   cases e1
   have hput := fun w1 => hput w1 (mlN R k)
   rw [prL_set hlt,hpl] at hput
   simp only [Nat.zero_add] at hP hput
   have HPut : Hid (∀ w1 : World,Bcm wr w1 w.heap.size (k * 10) (ml10 (mlN R k)) f1 → ∃ fp',Cel.ow w1 (lcl 10 ml10 (prL R (k + 1))) (.slice (some ⟨w.heap.size,0,none⟩) R.length R.length) fp' ∧ (∀ b,fp' b → fp b ∨ wr.heap.size ≤ b) ∧ Wrt fp wr w1) := hput
   have HP : Hid (Plc wr w.heap.size (k * 10) (ml10 zeroMl) f1) := hP
   have HB : Hid (Below w.heap.size w wr) := hb
   have HFP : Hid (∀ b,fp b → w.heap.size ≤ b) := hfp
   generalize mlN R k = r at *
   clear hpv hb ho hput hP hz hpl hfs hmem hrs
   go_wp2_with fail
   refine hC.mono ?_
   rintro e w1 ⟨A1,rfl,fr,hl1,hfr,hb1⟩
   have HA := HP.out.all hb1 (ow_ml10 hl1) rfl hfr
   obtain ⟨vs0,hpc,hov,_⟩ := HP.out
   have hl8 : vs0.length = 10 := owL_len hov
   have hpc1 := hpc.of_block (hb1.block _ hpc.lt) hb1.size
   have cc : ∀ j,j < 10 → ∃ u,w1.cell? ⟨w.heap.size,k * 10 + j,none⟩ = some u ∧ w1.frozen? ⟨w.heap.size,k * 10 + j,none⟩ = false := fun j hj => ⟨_,(hpc1.cell j (by omega)).trans (List.getElem?_eq_getElem (by omega)),hpc1.free j (by omega)⟩
   obtain ⟨u0,e0,g0⟩ := cc 0 (by omega)
   obtain ⟨u1,e1,g1⟩ := cc 1 (by omega)
   obtain ⟨u2,e2,g2⟩ := cc 2 (by omega)
   obtain ⟨u3,e3,g3⟩ := cc 3 (by omega)
   obtain ⟨u4,e4,g4⟩ := cc 4 (by omega)
   obtain ⟨u5,e5,g5⟩ := cc 5 (by omega)
   obtain ⟨u6,e6,g6⟩ := cc 6 (by omega)
   obtain ⟨u7,e7,g7⟩ := cc 7 (by omega)
   obtain ⟨u8,e8,g8⟩ := cc 8 (by omega)
   obtain ⟨u9,e9,g9⟩ := cc 9 (by omega)
   simp only [Nat.add_zero] at e0 g0
   obtain ⟨fp',hN1,hN2,hN3⟩ := HPut.out _ HA
   have HN1 : Hid (Cel.ow _ (lcl 10 ml10 (prL R (k + 1))) (.slice (some ⟨w.heap.size,0,none⟩) R.length R.length) fp') := hN1
   have HN3 : Hid (Wrt fp wr _) := hN3
   have HN2 : Hid (∀ b,fp' b → fp b ∨ wr.heap.size ≤ b) := hN2
   have hsz := HB.out.size
   clear d0 d1 d2 d3 d4 d5 d6 d7 d8 d9 hC hb1 hN1 hN2 hN3 HA cc hpc1 hov hpc
   try unfold mlV mlC
   go_wp2
   go_roundw
   case rel => exact ⟨k + 1,fp',by omega,by go_num,HN1.out,fun b hb => by have := HFP.out b;rcases HN2.out b hb with h | h;exact this h;omega,HN3.out.below HB.out hsz HFP.out⟩
   case measure => simp [intOf];omega
  ·obtain rfl : k = R.length := by omega
   have k1 : ¬ ((R.length : Int) < (R.length : Int)) := by omega
   have HE : Hid (NewO w wr (lcl 10 ml10 R) (.slice (some ⟨w.heap.size,0,none⟩) R.length R.length)) := by rw [prL_all] at ho;exact ⟨fp,ho,hfp,hb⟩
   clear ho hb
   go_wp2
   go_ret
   exact ⟨_,_,rfl,HE.out⟩
attribute [local irreducible] sv
structure TG (w X : World) (S O : Array Value) (cs : List Cel) (vs : List Value) (fp : Fp) : Prop where
 src : Bx X w.heap.size 60 S
 res : Bx X (w.heap.size + 1) 66 #[.slice none 0 0,.slice none 0 0,.slice none 0 0]
 out : Bx X (w.heap.size + 1 + 1) 66 O
 own : owL X cs vs fp
 fpl : ∀ b,fp b → w.heap.size + 1 + 1 < b
 below : Below w.heap.size w X
theorem TG.set {w X : World} {S O : Array Value} {cs : List Cel} {vs : List Value} {fp : Fp} (h : TG w X S O cs vs fp) (i : Nat) (v : Value) : TG w (X.setCell ⟨w.heap.size + 1 + 1,i,none⟩ v) S (O.setIfInBounds i v) cs vs fp :=
 ⟨h.src.far (by omega) v,h.res.far (by omega) v,h.out.setC i v,owL_wrt h.own (Wrt.set X (w.heap.size + 1 + 1) i v) (fun b hb e => by have := h.fpl b hb;omega),h.fpl,h.below.setCell (p := ⟨w.heap.size + 1 + 1,i,none⟩) (show w.heap.size ≤ w.heap.size + 1 + 1 by omega) v⟩
theorem TG.add {w X X' : World} {S O : Array Value} {cs : List Cel} {vs : List Value} {fp : Fp} (h : TG w X S O cs vs fp) {c : Cel} {v : Value} (hN : NewO X X' c v) : ∃ fp',TG w X' S O (cs ++ [c]) (vs ++ [v]) fp' := by
 obtain ⟨f,ho,hf,hb⟩ := hN
 have hol := h.out.lt
 refine ⟨fun b => fp b ∨ f b,h.src.below hb,h.res.below hb,h.out.below hb,owL_append (owL_below h.own hb) (owL_one.2 ho) (fun b h1 h2 => ?_),fun b hb => ?_,h.below.trans (hb.mono h.below.size)⟩
 ·have := owL_lt h.own b h1
  have := hf b h2
  omega
 ·rcases hb with hb | hb
  ·exact h.fpl b hb
  ·have := hf b hb;omega
set_option maxRecDepth 100000 in
set_option maxHeartbeats 3200000 in
theorem toGr_any (A : Ga) (g : Gr) (w : World) (hv : GrS w A g) (hs : szGr g ≤ 1048576) :
  Calls Try.prog 41 #[grV A g] w fun e w' => AnsGr w w' e g := by
 unfold szGr at hs
 have HM : Hid (∀ X,Below w.heap.size w X → Calls Try.prog 94 #[.slice A.ma g.mem.length A.mc] X fun e w' => ∃ a' c',e = .returned (.slice a' g.mem.length c') ∧ NewO X w' (lcl 5 mb5 g.mem) (.slice a' g.mem.length c')) := fun X h => toMs_any A.ma A.mc g.mem X (hv.below h).mem hv.fit.1 (by omega)
 have HU : Hid (∀ X,Below w.heap.size w X → Calls Try.prog 95 #[.slice A.ua g.up.length A.uc] X fun e w' => ∃ a' c',e = .returned (.slice a' g.up.length c') ∧ NewO X w' (ocl g.up) (.slice a' g.up.length c')) := fun X h => toF_any A.ua A.uc g.up X (hv.below h).up (by omega)
 have HL : Hid (∀ X,Below w.heap.size w X → Calls Try.prog 96 #[.slice A.la g.mail.length A.lc] X fun e w' => ∃ a' c',e = .returned (.slice a' g.mail.length c') ∧ NewO X w' (lcl 10 ml10 g.mail) (.slice a' g.mail.length c')) := fun X h => toLs_any A.la A.lc g.mail X (hv.below h).mail hv.fit.2 (by omega)
 have T0 : TG w (((w.alloc (.cells #[.slice A.ma g.mem.length A.mc,.slice A.ua g.up.length A.uc,.slice A.la g.mail.length A.lc] 60)).alloc (.cells #[.slice none 0 0,.slice none 0 0,.slice none 0 0] 66)).alloc (.cells #[.slice none 0 0,.slice none 0 0,.slice none 0 0] 66)) #[.slice A.ma g.mem.length A.mc,.slice A.ua g.up.length A.uc,.slice A.la g.mail.length A.lc] #[.slice none 0 0,.slice none 0 0,.slice none 0 0] [] [] (fun _ => False) := by
  have x0 := ((Bx.new w 60 #[.slice A.ma g.mem.length A.mc,.slice A.ua g.up.length A.uc,.slice A.la g.mail.length A.lc]).alloc (.cells #[.slice none 0 0,.slice none 0 0,.slice none 0 0] 66)).alloc (.cells #[.slice none 0 0,.slice none 0 0,.slice none 0 0] 66)
  have x1 := (Bx.new (w.alloc (.cells #[.slice A.ma g.mem.length A.mc,.slice A.ua g.up.length A.uc,.slice A.la g.mail.length A.lc] 60)) 66 #[.slice none 0 0,.slice none 0 0,.slice none 0 0]).alloc (.cells #[.slice none 0 0,.slice none 0 0,.slice none 0 0] 66)
  have x2 := Bx.new ((w.alloc (.cells #[.slice A.ma g.mem.length A.mc,.slice A.ua g.up.length A.uc,.slice A.la g.mail.length A.lc] 60)).alloc (.cells #[.slice none 0 0,.slice none 0 0,.slice none 0 0] 66)) 66 #[.slice none 0 0,.slice none 0 0,.slice none 0 0]
  simp only [World.size_alloc] at x1 x2
  exact ⟨x0,x1,x2,⟨rfl,fun _ h => h⟩,fun b h => h.elim,((Below.refl _ _).alloc (Nat.le_refl _) _).alloc (by simp) _ |>.alloc (by simp only [World.size_alloc];omega) _⟩
 have hWW : ∃ W,((w.alloc (.cells #[.slice A.ma g.mem.length A.mc,.slice A.ua g.up.length A.uc,.slice A.la g.mail.length A.lc] 60)).alloc (.cells #[.slice none 0 0,.slice none 0 0,.slice none 0 0] 66)).alloc (.cells #[.slice none 0 0,.slice none 0 0,.slice none 0 0] 66) = W := ⟨_,rfl⟩
 obtain ⟨W,hWW⟩ := hWW
 rw [hWW] at T0
 have hC1 := HM.out _ T0.below
 obtain ⟨s0,s1,s2⟩ := Bx.g3 T0.src
 have HT0 : Hid (TG w W #[.slice A.ma g.mem.length A.mc,.slice A.ua g.up.length A.uc,.slice A.la g.mail.length A.lc] #[.slice none 0 0,.slice none 0 0,.slice none 0 0] [] [] (fun _ => False)) := T0
 unfold grV grC
 clear hv T0 hs
 go_enter Try.func41,Try.ntmps41
 go_wp2_with fail
 refine hC1.mono ?_
 rintro e w1 ⟨a1,c1,rfl,hN1⟩
 obtain ⟨fp1,T1⟩ := HT0.out.add hN1
 clear s0 s1 s2
 have o0 := T1.out.at 0 rfl
 have z0 := T1.out.f 0
 have T1s := T1.set 0 (.slice a1 g.mem.length c1)
 have T1' : TG w (w1.setCell ⟨w.heap.size + 1 + 1,0,none⟩ (.slice a1 g.mem.length c1)) #[.slice A.ma g.mem.length A.mc,.slice A.ua g.up.length A.uc,.slice A.la g.mail.length A.lc] #[.slice a1 g.mem.length c1,.slice none 0 0,.slice none 0 0] ([] ++ [lcl 5 mb5 g.mem]) ([] ++ [.slice a1 g.mem.length c1]) fp1 := by simpa using T1s
 have hC2 := HU.out _ T1'.below
 have HT1 : Hid (TG w (w1.setCell ⟨w.heap.size + 1 + 1,0,none⟩ (.slice a1 g.mem.length c1)) #[.slice A.ma g.mem.length A.mc,.slice A.ua g.up.length A.uc,.slice A.la g.mail.length A.lc] #[.slice a1 g.mem.length c1,.slice none 0 0,.slice none 0 0] ([] ++ [lcl 5 mb5 g.mem]) ([] ++ [.slice a1 g.mem.length c1]) fp1) := T1'
 have t1 := T1'.src.at 1 rfl
 clear hN1 T1 T1s T1' hC1 HT0
 go_wp2_with fail
 refine hC2.mono ?_
 rintro e w2 ⟨a2,c2,rfl,hN2⟩
 clear o0 z0 t1
 obtain ⟨fp2,T2⟩ := HT1.out.add hN2
 have o1 := (show Bx _ _ _ #[.slice a1 g.mem.length c1,.slice none 0 0,.slice none 0 0] from T2.out).at 1 rfl
 have z1 := T2.out.f 1
 have T2s := T2.set 1 (.slice a2 g.up.length c2)
 have T2' : TG w (w2.setCell ⟨w.heap.size + 1 + 1,1,none⟩ (.slice a2 g.up.length c2)) #[.slice A.ma g.mem.length A.mc,.slice A.ua g.up.length A.uc,.slice A.la g.mail.length A.lc] #[.slice a1 g.mem.length c1,.slice a2 g.up.length c2,.slice none 0 0] (([] ++ [lcl 5 mb5 g.mem]) ++ [ocl g.up]) (([] ++ [.slice a1 g.mem.length c1]) ++ [.slice a2 g.up.length c2]) fp2 := by simpa using T2s
 have hC3 := HL.out _ T2'.below
 have HT2 : Hid (TG w (w2.setCell ⟨w.heap.size + 1 + 1,1,none⟩ (.slice a2 g.up.length c2)) #[.slice A.ma g.mem.length A.mc,.slice A.ua g.up.length A.uc,.slice A.la g.mail.length A.lc] #[.slice a1 g.mem.length c1,.slice a2 g.up.length c2,.slice none 0 0] (([] ++ [lcl 5 mb5 g.mem]) ++ [ocl g.up]) (([] ++ [.slice a1 g.mem.length c1]) ++ [.slice a2 g.up.length c2]) fp2) := T2'
 have t2 := T2'.src.at 2 rfl
 clear hN2 T2 T2s T2' hC2 HT1
 go_wp2_with fail
 refine hC3.mono ?_
 rintro e w3 ⟨a3,c3,rfl,hN3⟩
 clear o1 z1 t2
 obtain ⟨fp3,T3⟩ := HT2.out.add hN3
 have o2 := (show Bx _ _ _ #[.slice a1 g.mem.length c1,.slice a2 g.up.length c2,.slice none 0 0] from T3.out).at 2 rfl
 have z2 := T3.out.f 2
 have T3s := T3.set 2 (.slice a3 g.mail.length c3)
 have T3' : TG w (w3.setCell ⟨w.heap.size + 1 + 1,2,none⟩ (.slice a3 g.mail.length c3)) #[.slice A.ma g.mem.length A.mc,.slice A.ua g.up.length A.uc,.slice A.la g.mail.length A.lc] #[.slice a1 g.mem.length c1,.slice a2 g.up.length c2,.slice a3 g.mail.length c3] ((([] ++ [lcl 5 mb5 g.mem]) ++ [ocl g.up]) ++ [lcl 10 ml10 g.mail]) ((([] ++ [.slice a1 g.mem.length c1]) ++ [.slice a2 g.up.length c2]) ++ [.slice a3 g.mail.length c3]) fp3 := by simpa using T3s
 obtain ⟨y0,y1,y2⟩ := Bx.g3 T3'.out
 obtain ⟨r0,r1,r2⟩ := Bx.g3 T3'.res
 obtain ⟨f0,f1,f2⟩ := T3'.res.f3
 have HT3 : Hid (TG w (w3.setCell ⟨w.heap.size + 1 + 1,2,none⟩ (.slice a3 g.mail.length c3)) #[.slice A.ma g.mem.length A.mc,.slice A.ua g.up.length A.uc,.slice A.la g.mail.length A.lc] #[.slice a1 g.mem.length c1,.slice a2 g.up.length c2,.slice a3 g.mail.length c3] ((([] ++ [lcl 5 mb5 g.mem]) ++ [ocl g.up]) ++ [lcl 10 ml10 g.mail]) ((([] ++ [.slice a1 g.mem.length c1]) ++ [.slice a2 g.up.length c2]) ++ [.slice a3 g.mail.length c3]) fp3) := T3'
 clear hN3 T3 T3s T3' hC3 HT2
 go_wp2
 refine bodyPost_ret (v := .agg #[.slice a1 g.mem.length c1,.slice a2 g.up.length c2,.slice a3 g.mail.length c3]) (by simp [results,Try.results41,go_sem, *]) rfl ?_
 refine ⟨⟨a1,c1,a2,c2,a3,c3⟩,rfl,fp3,owL_wrt HT3.out.own (wrtG3 _ (w.heap.size + 1)) (fun b hb e => by have := HT3.out.fpl b hb;omega),fun b hb => by have := HT3.out.fpl b hb;omega,(wrtG3 _ (w.heap.size + 1)).below HT3.out.below HT3.out.below.size (fun b e => by rw [e];omega)⟩
end Go.Proofs.Ythioodpmgifomaa
namespace Go.Proofs.Ythioodpmgifomaa
set_option linter.unusedVariables false
set_option linter.unusedSimpArgs false
open Go.RowKit Go.Sort
def m3 (k : Int) : Bool := k % 3 == 0
end Go.Proofs.Ythioodpmgifomaa
namespace Go.Proofs.Ythioodpmgifomaa
set_option linter.unusedVariables false
set_option linter.unusedSimpArgs false
open Go.RowKit Go.Sort
end Go.Proofs.Ythioodpmgifomaa
namespace Go.Proofs.Ythioodpmgifomaa
set_option linter.unusedVariables false
set_option linter.unusedSimpArgs false
open Go.RowKit Go.Sort
theorem owL_two {w : World} {c1 c2 : Cel} {v1 v2 : Value} {f : Fp} (h : owL w [c1,c2] [v1,v2] f) : ∃ f1 f2,Cel.ow w c1 v1 f1 ∧ Cel.ow w c2 v2 f2 ∧ (∀ b,f1 b → ¬ f2 b) ∧ ∀ b,f b ↔ f1 b ∨ f2 b := by
 obtain ⟨u1,us1,f1,g1,e1,o1,h2,d1,i1⟩ := h
 cases e1
 obtain ⟨u2,us2,f2,g2,e2,o2,h3,d2,i2⟩ := h2
 cases e2
 have hg : ∀ b,¬ g2 b := h3.2
 refine ⟨f1,f2,o1,o2,fun b h1 h2 => d1 b h1 ((i2 b).2 (.inl h2)),fun b => ?_⟩
 rw [i1,i2]
 exact ⟨fun h => h.imp id (fun h => h.elim id (fun h => absurd h (hg b))),fun h => h.imp id .inl⟩
end Go.Proofs.Ythioodpmgifomaa
namespace Go.Proofs.Ythioodpmgifomaa
set_option linter.unusedVariables false
set_option linter.unusedSimpArgs false
open Go.RowKit Go.Sort
end Go.Proofs.Ythioodpmgifomaa
namespace Go.Proofs.Ythioodpmgifomaa
set_option linter.unusedVariables false
set_option linter.unusedSimpArgs false
open Go.RowKit Go.Sort
end Go.Proofs.Ythioodpmgifomaa
namespace Go.Proofs.Ythioodpmgifomaa
set_option linter.unusedVariables false
set_option linter.unusedSimpArgs false
open Go.RowKit Go.Sort
end Go.Proofs.Ythioodpmgifomaa
namespace Go.Proofs.Ythioodpmgifomaa
set_option linter.unusedVariables false
set_option linter.unusedSimpArgs false
open Go.RowKit Go.Sort
end Go.Proofs.Ythioodpmgifomaa
namespace Go.Proofs.Ythioodpmgifomaa
set_option linter.unusedVariables false
set_option linter.unusedSimpArgs false
open Go.RowKit Go.Sort
attribute [local irreducible] sv
end Go.Proofs.Ythioodpmgifomaa
namespace Go.Proofs.Ythioodpmgifomaa
set_option linter.unusedVariables false
set_option linter.unusedSimpArgs false
open Go.RowKit Go.Sort
end Go.Proofs.Ythioodpmgifomaa
namespace Go.Proofs.Ythioodpmgifomaa
set_option linter.unusedVariables false
set_option linter.unusedSimpArgs false
open Go.RowKit Go.Sort
def Mb64 (m : Mb) : Prop := I64v m.id ∧ I64v m.n ∧ ∀ r ∈ m.rows,Rw64 r
structure MbP (w : World) (A : Ma) (m : Mb) : Prop where
 own : ∃ f,owL w (mbCels m) (mbVals A m) f
 fit : FitM m
 i64 : Mb64 m
 sz : szMb m ≤ 1048576
attribute [local irreducible] sv
end Go.Proofs.Ythioodpmgifomaa
namespace Go.Proofs.Ythioodpmgifomaa
set_option linter.unusedVariables false
set_option linter.unusedSimpArgs false
open Go.RowKit Go.Sort
def Gr64 (g : Gr) : Prop := (∀ m ∈ g.mem,Mb64 m) ∧ ∀ x ∈ g.mail,I64v x.fr ∧ I64v x.to ∧ Rw64 x.row
structure GrP (w : World) (A : Ga) (g : Gr) : Prop where
 own : ∃ f,owL w (gr3 g) (grVals A g) f
 fit : FitG g
 i64 : Gr64 g
 sz : szGr g ≤ 1048576
theorem it_grs {w : World} {A : Ga} {g : Gr} {lo hi : Nat} (h : It w (gr3 g) (grVals A g) lo hi) (hf : FitG g) : GrS w A g := grs_of h.vw hf
theorem it_grp {w : World} {A : Ga} {g : Gr} {lo hi : Nat} (h : It w (gr3 g) (grVals A g) lo hi) (hf : FitG g) (h6 : Gr64 g) (hs : szGr g ≤ 1048576) : GrP w A g := ⟨h.imp (fun _ h => h.1),hf,h6,hs⟩
theorem AnsGr.it {w w' : World} {e : Ending} {g : Gr} (h : AnsGr w w' e g) : ∃ A,e = .returned (grV A g) ∧ It w' (gr3 g) (grVals A g) w.heap.size w'.heap.size ∧ Below w.heap.size w w' := by
 obtain ⟨A,h1,h2⟩ := h
 exact ⟨A,h1,It.of_new h2,h2.choose_spec.2.2⟩
def ImplGroupOk : Prop := ∀ (A : Ga) (g : Gr) (w : World),GrP w A g → Calls Try.prog 42 #[grV A g] w fun e w' => e = .returned (.bool (okGr g)) ∧ Below w.heap.size w w'
end Go.Proofs.Ythioodpmgifomaa
namespace Go.Proofs.Ythioodpmgifomaa
set_option linter.unusedVariables false
set_option linter.unusedSimpArgs false
open Go.RowKit Go.Sort
set_option maxRecDepth 100000 in
set_option maxHeartbeats 6400000 in
theorem lawGroupOk (hI : ImplGroupOk) (A0 : Ga) (g : Gr) (w : World) (hv0 : GrS w A0 g) (hg0 : LongG g) (h60 : Gr64 g) :
  Calls Try.prog 6 #[grV A0 g] w fun e w' => e = .returned (.bool true) ∧ Below w.heap.size w w' := by
 have hf0 : FitG g := hv0.fit
 have hZ0 : ∀ (X : World) (left : Int),Below w.heap.size w X → (0 ≤ left ∧ left ≤ 1048576) → Calls Try.prog 39 #[grV A0 g,.int .i64 left] X fun e w' => ∃ q : Int,e = .returned (.int .i64 q) ∧ (q = -1 ∨ 0 ≤ q ∧ q + (szGr g : Int) = left) ∧ Below X.heap.size X w' := fun X left hX hl => szGr_any A0 g left X (hv0.below hX) hg0 hl
 have hTo0 : szGr g ≤ 1048576 → ∀ X,Below w.heap.size w X → Calls Try.prog 41 #[grV A0 g] X fun e w' => ∃ A',e = .returned (grV A' g) ∧ It w' (gr3 g) (grVals A' g) X.heap.size w'.heap.size ∧ Below X.heap.size X w' := fun hs X hX => (toGr_any A0 g X (hv0.below hX) hs).mono (fun e w' h => h.it)
 have hE0 : szGr g ≤ 1048576 → ∀ (X : World) (A1 A2 : Ga) {l1 h1 l2 h2 : Nat},It X (gr3 g) (grVals A1 g) l1 h1 → It X (gr3 g) (grVals A2 g) l2 h2 → Calls Try.prog 43 #[grV A1 g,grV A2 g] X fun e w' => e = .returned (.bool true) ∧ Below X.heap.size X w' := fun hs X A1 A2 l1 h1 l2 h2 i1 i2 => eqGr_any A1 A2 g X (it_grs i1 hf0) (it_grs i2 hf0)
 have hSp : szGr g ≤ 1048576 → ∀ (X : World) (B0 : Ga) {l0 u0 : Nat},It X (gr3 g) (grVals B0 g) l0 u0 → Calls Try.prog 40 #[grV B0 g] X fun e w' => e = .returned (.bool (okGr g)) ∧ Below X.heap.size X w' := fun hs0 X B0 l0 u0 i0 => grkS_any B0 g X (it_grs i0 hf0)
 have hIm : szGr g ≤ 1048576 → ∀ (X : World) (B0 : Ga) {l0 u0 : Nat},It X (gr3 g) (grVals B0 g) l0 u0 → Calls Try.prog 42 #[grV B0 g] X fun e w' => e = .returned (.bool (okGr g)) ∧ Below X.heap.size X w' := fun hs0 X B0 l0 u0 i0 => hI B0 g X (it_grp i0 hf0 h60 hs0)
 generalize okGr g = Q at *
 have ne : (Q != Q) = false := by simp
 clear hI hv0
 unfold grV grC at *
 have hb00 : Below w.heap.size w w := Below.refl _ _
 have b2 := oneA16 w (.cells #[.slice A0.ma g.mem.length A0.mc,.slice A0.ua g.up.length A0.uc,.slice A0.la g.mail.length A0.lc] 60)
 have h3 := Bx.new w 60 #[.slice A0.ma g.mem.length A0.mc,.slice A0.ua g.up.length A0.uc,.slice A0.la g.mail.length A0.lc]
 generalize hX1 : w.alloc (.cells #[.slice A0.ma g.mem.length A0.mc,.slice A0.ua g.up.length A0.uc,.slice A0.la g.mail.length A0.lc] 60) = X1 at *
 have B5 : Below w.heap.size w X1 := hb00.trans (b2.mono hb00.size)
 have sB5 : w.heap.size ≤ X1.heap.size := b2.size
 clear hb00
 have k4 : w.heap.size < X1.heap.size := h3.lt
 clear b2
 go_enter Try.func6,Try.ntmps6
 obtain ⟨c60,c61,c62⟩ := Bx.g3 h3
 go_wp2_with fail
 refine (hZ0 X1 1048576 B5 ⟨by omega,by omega⟩).mono ?_
 rintro e z0 ⟨q0,rfl,hq0,hbz0⟩
 clear c60 c61 c62
 have B7 : Below w.heap.size w z0 := B5.trans (hbz0.mono B5.size)
 have sB7 : X1.heap.size ≤ z0.heap.size := hbz0.size
 have h8 := h3.below hbz0
 clear B5 h3
 rcases hq0 with rfl | ⟨hqa0,hqb0⟩
 ·go_wp2
  go_ret
  exact ⟨rfl,B7⟩
 have hqn0 : decide (q0 < 0) = false := by simp;omega
 have hs0 : szGr g ≤ 1048576 := by omega
 have hT0 := hTo0 hs0
 have hEE0 := hE0 hs0
 have hS2 := hSp hs0
 have hI2 := hIm hs0
 clear hSp hIm hTo0 hE0 hZ0
 obtain ⟨c90,c91,c92⟩ := Bx.g3 h8
 go_wp2_with fail
 refine (hT0 z0 B7).mono ?_
 rintro e s0 ⟨As0,rfl,is0,hbs0⟩
 clear c90 c91 c92
 have B10 : Below w.heap.size w s0 := B7.trans (hbs0.mono B7.size)
 have sB10 : z0.heap.size ≤ s0.heap.size := hbs0.size
 have h11 := h8.below hbs0
 clear B7 h8
 go_wp2_with fail
 refine (hS2 s0 _ is0).mono ?_
 rintro e ws ⟨rfl,hbws⟩
 have B12 : Below w.heap.size w ws := B10.trans (hbws.mono B10.size)
 have sB12 : s0.heap.size ≤ ws.heap.size := hbws.size
 have h13 := h11.below hbws
 have h14 := is0.below hbws
 clear B10 h11 is0
 clear h14
 obtain ⟨c150,c151,c152⟩ := Bx.g3 h13
 go_wp2_with fail
 refine (hT0 ws B12).mono ?_
 rintro e wx0 ⟨Ax0,rfl,ix0,hbx0⟩
 clear c150 c151 c152
 have B16 : Below w.heap.size w wx0 := B12.trans (hbx0.mono B12.size)
 have sB16 : ws.heap.size ≤ wx0.heap.size := hbx0.size
 have h17 := h13.below hbx0
 clear B12 h13
 have b19 := oneA16 wx0 (.cells #[.slice Ax0.ma g.mem.length Ax0.mc,.slice Ax0.ua g.up.length Ax0.uc,.slice Ax0.la g.mail.length Ax0.lc] 66)
 have h20 := Bx.new wx0 66 #[.slice Ax0.ma g.mem.length Ax0.mc,.slice Ax0.ua g.up.length Ax0.uc,.slice Ax0.la g.mail.length Ax0.lc]
 generalize hX18 : wx0.alloc (.cells #[.slice Ax0.ma g.mem.length Ax0.mc,.slice Ax0.ua g.up.length Ax0.uc,.slice Ax0.la g.mail.length Ax0.lc] 66) = X18 at *
 have B22 : Below w.heap.size w X18 := B16.trans (b19.mono B16.size)
 have sB22 : wx0.heap.size ≤ X18.heap.size := b19.size
 have h23 := h17.below b19
 have h24 := ix0.below b19
 clear B16 h17 ix0
 have k21 : wx0.heap.size < X18.heap.size := h20.lt
 clear b19
 obtain ⟨c250,c251,c252⟩ := Bx.g3 h20
 go_wp2_with fail
 refine (hI2 X18 _ h24).mono ?_
 rintro e wi ⟨rfl,hbi⟩
 have B26 : Below w.heap.size w wi := B22.trans (hbi.mono B22.size)
 have sB26 : X18.heap.size ≤ wi.heap.size := hbi.size
 have h27 := h23.below hbi
 have h28 := h24.below hbi
 have h29 := h20.below hbi
 clear B22 h23 h24 h20
 clear c250 c251 c252
 have KS : ∀ X,Below wi.heap.size wi X → (X.cell? ⟨w.heap.size,0,none⟩ = some (.slice A0.ma g.mem.length A0.mc) ∧ X.cell? ⟨w.heap.size,1,none⟩ = some (.slice A0.ua g.up.length A0.uc) ∧ X.cell? ⟨w.heap.size,2,none⟩ = some (.slice A0.la g.mail.length A0.lc)) ∧ (X.cell? ⟨wx0.heap.size,0,none⟩ = some (.slice Ax0.ma g.mem.length Ax0.mc) ∧ X.cell? ⟨wx0.heap.size,1,none⟩ = some (.slice Ax0.ua g.up.length Ax0.uc) ∧ X.cell? ⟨wx0.heap.size,2,none⟩ = some (.slice Ax0.la g.mail.length Ax0.lc)) := fun X hX => ⟨Bx.g3 (h27.below hX),Bx.g3 (h29.below hX)⟩
 have bd : Below wi.heap.size wi (wi.drewN 1) := belowN (Below.refl _ _)
 have hTo2 := fun X (h : Below wi.heap.size wi X) => hT0 X (B26.trans (h.mono B26.size))
 have hEq2 := fun X (A7 : Ga) (h : Below wi.heap.size wi X) (h7 : ∃ lo hi,It X (gr3 g) (grVals A7 g) lo hi) => hEE0 X Ax0 A7 (h28.below h) h7.choose_spec.choose_spec
 go_wp2_with fail
 go_region_held3 (fun X => (X.cell? ⟨w.heap.size,0,none⟩ = some (.slice A0.ma g.mem.length A0.mc) ∧ X.cell? ⟨w.heap.size,1,none⟩ = some (.slice A0.ua g.up.length A0.uc) ∧ X.cell? ⟨w.heap.size,2,none⟩ = some (.slice A0.la g.mail.length A0.lc)) ∧ (X.cell? ⟨wx0.heap.size,0,none⟩ = some (.slice Ax0.ma g.mem.length Ax0.mc) ∧ X.cell? ⟨wx0.heap.size,1,none⟩ = some (.slice Ax0.ua g.up.length Ax0.uc) ∧ X.cell? ⟨wx0.heap.size,2,none⟩ = some (.slice Ax0.la g.mail.length Ax0.lc)))
  (first | exact KS _ b8 | exact KS _ b7b | exact KS _ bd)
  (first
   | (go_at_call 41;refine (hTo2 _ bd).mono ?_;rintro e t0 ⟨A7,rfl,i7,hb7⟩;have b7b : Below wi.heap.size wi t0 := bd.trans (hb7.mono bd.size))
   | (go_at_call 43;refine (hEq2 t0 A7 b7b ⟨_,_,i7⟩).mono ?_;rintro e u0 ⟨rfl,hb8⟩;have b8 : Below wi.heap.size wi u0 := b7b.trans (hb8.mono b7b.size)))
 clear KS bd hTo2 hEq2 i7 hb7 b7b hb8
 have B30 : Below w.heap.size w u0 := B26.trans (b8.mono B26.size)
 have sB30 : wi.heap.size ≤ u0.heap.size := b8.size
 have h31 := h27.below b8
 have h32 := h28.below b8
 have h33 := h29.below b8
 clear B26 h27 h28 h29
 go_wp2
 go_ret
 exact ⟨rfl,B30⟩
end Go.Proofs.Ythioodpmgifomaa
namespace Go.Proofs.Ythioodpmgifomaa
set_option linter.unusedVariables false
set_option linter.unusedSimpArgs false
open Go.ChangeShapes Go.WideShapes Go.ChangeAt Go.RowKit Go.Deep
section
variable {H : Type} {enc : TypeId × Value → H} {P : Program} {W : World} {base : Nat} {held : Bool}
theorem field_of {t : TypeId} {fs : Array Field} {fuel : Nat} {cs : List Value} {x : DataW H × List MemPlace} (ht : P.underlying t = some (.struct fs)) (hone : oneCellFields P fs = true) (h : DataW.trod enc P W base (fun _ => true) held fuel t cs = some x) :
  cs.length = P.cellsOf t ∧ ∃ n,∀ (i : Nat) (f : Field) (c : Value),fs[i]? = some f → cs[i]? = some c → ∃ y,DataW.trod enc P W base (fun _ => true) held n f.type [c] = some y := by
 obtain ⟨xs,n,_,rfl,hl,hlen,hf⟩ := DataW.trod_struct ht h
 refine ⟨hl,n,fun i f c hi hc => ?_⟩
 obtain ⟨o,k⟩ := hone_of hone i f hi
 have h1 := hf i f hi
 have hix : i < xs.length := by
  rw [hlen]
  exact (Array.getElem?_eq_some_iff.1 hi).1
 have e : (cs.drop i).take 1 = [c] := by
  have hic := (List.getElem?_eq_some_iff.1 hc).1
  have hcc := (List.getElem?_eq_some_iff.1 hc).2
  rw [List.drop_eq_getElem_cons hic,hcc]
  rfl
 rw [o,k,e,List.getElem?_eq_getElem hix] at h1
 exact ⟨_,h1⟩
theorem str_short16 {s : ByteArray} (h : s.size ≤ maxLen) : s.data.toList.length ≤ 9223372036854775807 := by
 have e : s.data.toList.length = s.size := by rw [Array.length_toList];rfl
 rw [e]
 unfold maxLen at h
 exact h
end
theorem list8 {α : Type} {l : List α} (h : l.length = 8) : ∃ c0 c1 c2 c3 c4 c5 c6 c7,l = [c0,c1,c2,c3,c4,c5,c6,c7] := by
 match l,h with
 | [c0,c1,c2,c3,c4,c5,c6,c7],_ => exact ⟨c0,c1,c2,c3,c4,c5,c6,c7,rfl⟩
end Go.Proofs.Ythioodpmgifomaa
namespace Go.Proofs.Ythioodpmgifomaa
set_option linter.unusedVariables false
set_option linter.unusedSimpArgs false
open Go.ChangeShapes Go.WideShapes Go.ChangeAt Go.RowKit Go.Deep
theorem vw_of_txs {w : World} {a : Option Addr} {c : Nat} {T : List (List UInt8)} (h : TxS w a T) (h1 : T.length ≤ c) (h2 : c ≤ maxLen) : Cel.vw w (scl T) (.slice a T.length c) := by
 refine ⟨a,c,_,rfl,h1,h2,by rw [svs_len];omega, ?_,vwL_pl.2 rfl⟩
 rcases h with h0 | ⟨b,off,ha,hc⟩
 ·exact .inl h0
 ·refine .inr ⟨b,off,ha,fun i hi => ?_⟩
  rw [svs_get (by omega)]
  exact hc i (by omega)
theorem vw_lcl_of {α : Type} {F : α → List Cel} {s : Nat} {w : World} {b off : Nat} (R : Nat → α) (V : Nat → List Value) : ∀ n,(∀ i,i < n → (V i).length = s ∧ (∀ j,j < s → w.cell? ⟨b,off + i * s + j,none⟩ = (V i)[j]?) ∧ vwL w (F (R i)) (V i)) →
  ∃ us : List Value,us.length = n * s ∧ (∀ j,j < n * s → w.cell? ⟨b,off + j,none⟩ = us[j]?) ∧ vwL w (((List.range n).map R).flatMap F) us
 | 0,_ => ⟨[],by simp,fun j hj => by omega,rfl⟩
 | n + 1,h => by
  obtain ⟨us,h1,h2,h3⟩ := vw_lcl_of R V n (fun i hi => h i (by omega))
  obtain ⟨k1,k2,k3⟩ := h n (by omega)
  have hm : (n + 1) * s = n * s + s := by rw [Nat.add_mul,Nat.one_mul]
  refine ⟨us ++ V n,by rw [List.length_append,h1,k1,hm],fun j hj => ?_, ?_⟩
  ·rcases Nat.lt_or_ge j (n * s) with hj2 | hj2
   ·rw [List.getElem?_append_left (by omega)];exact h2 j hj2
   ·rw [List.getElem?_append_right (by omega),h1]
    have := k2 (j - n * s) (by omega)
    rw [show off + n * s + (j - n * s) = off + j by omega] at this
    exact this
  ·rw [List.range_succ,List.map_append,List.flatMap_append]
   refine vwL_append h3 ?_
   simpa using k3
section
variable {H : Type} {enc : TypeId × Value → H} {P : Program} {W : World} {base : Nat} {held : Bool}
theorem ints_ofC {t e : TypeId} {fuel : Nat} {c : Value} {y : DataW H × List MemPlace} (ht : P.underlying t = some (.slice e)) (he : P.underlying e = some (.int .i64)) (hc : P.cellsOf e = 1) (h : DataW.trod enc P W base (fun _ => true) held fuel t [c] = some y) :
  ∃ a cap M,c = .slice a (List.length M) cap ∧ Cel.vw W (icl M) (.slice a (List.length M) cap) ∧ Fits M ∧ List.length M ≤ maxLen := by
 obtain ⟨a,len,cap,z,rfl,hw⟩ : ∃ a len cap zs,c = .slice a len cap ∧ IsRow .i64 W a len cap zs := by
  rcases open_ints ht he hc h with ⟨hcs,_⟩ | ⟨x,l,c,zs,hcs,_,hl,hm,hz,_,hcell,hwz⟩
  ·simp at hcs
   exact ⟨none,0,0,[],hcs,.inl ⟨rfl,rfl,rfl,rfl⟩⟩
  ·simp at hcs
   exact ⟨some x,l,c,zs,hcs,.inr ⟨_,rfl,hl,hm,by simpa using hz,hcell,hwz⟩⟩
 rcases hw with ⟨rfl,rfl,rfl,rfl⟩ | ⟨ad,rfl,hl,hm,hz,hcell,hwz⟩
 ·exact ⟨none,0,[],rfl,vw_of_vec ⟨rfl,fun x hx => absurd hx List.not_mem_nil,.inl rfl⟩ (Nat.le_refl _) (Nat.zero_le _),fun x hx => absurd hx List.not_mem_nil,Nat.zero_le _⟩
 ·have hz' : z.length = cap := by simpa using hz
  have hlen : (z.take len).length = len := by rw [List.length_take];omega
  have hfit : Fits (z.take len) := fun n hn => bounds_i64 (hwz n (List.mem_of_mem_take hn))
  refine ⟨some ad,cap,z.take len,by rw [hlen],vw_of_vec ⟨rfl,hfit, ?_⟩ (by rw [hlen];exact hl) hm,hfit,by rw [hlen];exact Nat.le_trans hl hm⟩
  rcases Nat.eq_zero_or_pos len with e | e
  ·exact .inl (by omega)
  ·obtain ⟨b,off,spot⟩ := ad
   have hs : spot = none := by
    have := hcell 0 (by omega)
    simpa [Addr.add] using World.cell?_spot this
   subst hs
   refine .inr ⟨b,off,rfl,fun i hi => ?_⟩
   have h1 := hcell i (by omega)
   rw [add_lit0] at h1
   rw [h1]
   simp [el,List.getD,List.getElem?_take_of_lt (show i < len by omega)]
theorem txts_ofC {t e : TypeId} {fuel : Nat} {c : Value} {y : DataW H × List MemPlace} (ht : P.underlying t = some (.slice e)) (he : P.underlying e = some .string) (hc : P.cellsOf e = 1) (h : DataW.trod enc P W base (fun _ => true) held fuel t [c] = some y) :
  ∃ a cap T,c = .slice a (List.length T) cap ∧ Cel.vw W (scl T) (.slice a (List.length T) cap) ∧ LongT T ∧ List.length T ≤ maxLen := by
 rcases open_strs ht he hc h with ⟨hcs,_⟩ | ⟨ad,len,cap,m,S,hcs,_,hl,hm,hmm,_,hx⟩
 ·simp at hcs
  subst hcs
  exact ⟨none,0,[],rfl,vw_of_txs (.inl rfl) (Nat.le_refl _) (Nat.zero_le _),fun i hi => absurd hi (Nat.not_lt_zero _),Nat.zero_le _⟩
 ·simp at hcs
  subst hcs
  have hlm : len ≤ m := by rw [hmm];split <;> omega
  have hlen : ((List.range len).map fun r => (S r).data.toList).length = len := by simp
  have hget : ∀ i,i < len → ((List.range len).map fun r => (S r).data.toList).getD i [] = (S i).data.toList := fun i hi => by simp [List.getD,hi]
  refine ⟨some ad,cap,(List.range len).map fun r => (S r).data.toList,by rw [hlen],vw_of_txs ?_ (by rw [hlen];exact hl) hm,fun i hi => ?_,by rw [hlen];exact Nat.le_trans hl hm⟩
  ·by_cases h0 : len = 0
   ·exact .inl (by rw [hlen];exact h0)
   ·obtain ⟨b,off,spot⟩ := ad
    have hs : spot = none := by
     have := (hx 0 (by omega)).1
     simpa [Addr.add] using World.cell?_spot this
    subst hs
    refine .inr ⟨b,off,rfl,fun i hi => ?_⟩
    rw [hlen] at hi
    rw [hget i hi]
    have hc := (hx i (by omega)).1
    rw [add_lit0] at hc
    rw [hc,← sv_of]
  ·rw [hlen] at hi
   rw [hget i hi]
   exact str_short16 (hx i (by omega)).2
end
set_option maxRecDepth 100000 in
theorem row_ofC {H : Type} {enc : TypeId × Value → H} {W : World} {base fuel : Nat} {held : Bool} {cs : List Value} {x : DataW H × List MemPlace} (h : DataW.trod enc Try.prog W base (fun _ => true) held fuel 48 cs = some x) :
  ∃ r,cs.length = 8 ∧ vwL W (rw8 r) cs ∧ FitR r ∧ LongT r.txt ∧ Rw64 r := by
 obtain ⟨hl,n,hf⟩ := field_of Try.underlying48 (by kernel_rfl) h
 rw [show Try.prog.cellsOf 48 = 8 by kernel_rfl] at hl
 obtain ⟨c0,c1,c2,c3,c4,c5,c6,c7,rfl⟩ := list8 hl
 obtain ⟨y0,g0⟩ := hf 0 _ c0 rfl rfl
 obtain ⟨y1,g1⟩ := hf 1 _ c1 rfl rfl
 obtain ⟨y2,g2⟩ := hf 2 _ c2 rfl rfl
 obtain ⟨y3,g3⟩ := hf 3 _ c3 rfl rfl
 obtain ⟨y4,g4⟩ := hf 4 _ c4 rfl rfl
 obtain ⟨y5,g5⟩ := hf 5 _ c5 rfl rfl
 obtain ⟨y6,g6⟩ := hf 6 _ c6 rfl rfl
 obtain ⟨y7,g7⟩ := hf 7 _ c7 rfl rfl
 obtain ⟨i0,e0,_,b0⟩ := DataW.trod_int Try.underlying2 g0
 obtain ⟨a1,d1,T,rfl,t1,t2,t3⟩ := txts_ofC Try.underlying46 Try.underlying9 (by kernel_rfl) g1
 obtain ⟨a2,d2,M2,rfl,u2,v2,_⟩ := ints_ofC Try.underlying24 Try.underlying2 (by kernel_rfl) g2
 obtain ⟨a3,d3,M3,rfl,u3,v3,_⟩ := ints_ofC Try.underlying24 Try.underlying2 (by kernel_rfl) g3
 obtain ⟨z4,e4,_⟩ := DataW.trod_bool Try.underlying4 g4
 obtain ⟨z5,e5,_⟩ := DataW.trod_bool Try.underlying4 g5
 obtain ⟨i6,e6,_,b6⟩ := DataW.trod_int Try.underlying2 g6
 obtain ⟨a7,d7,M7,rfl,u7,v7,_⟩ := ints_ofC Try.underlying24 Try.underlying2 (by kernel_rfl) g7
 simp at e0 e4 e5 e6
 subst e0 e4 e5 e6
 exact ⟨⟨i0,T,M2,M3,z4,z5,i6,M7⟩,rfl,⟨_,_,rfl,rfl,_,_,rfl,t1,_,_,rfl,u2,_,_,rfl,u3,_,_,rfl,rfl,_,_,rfl,rfl,_,_,rfl,rfl,_,_,rfl,u7,rfl⟩,⟨v2,v3,v7⟩,t2,⟨bounds_i64 b0,bounds_i64 b6⟩⟩
set_option maxRecDepth 100000 in
theorem rows_of {H : Type} {enc : TypeId × Value → H} {W : World} {base fuel : Nat} {held : Bool} {c : Value} {y : DataW H × List MemPlace} (h : DataW.trod enc Try.prog W base (fun _ => true) held fuel 33 [c] = some y) :
  ∃ a cap R,c = .slice a (List.length R) cap ∧ Cel.vw W (lcl 8 rw8 R) (.slice a (List.length R) cap) ∧ (∀ r ∈ R,FitR r ∧ LongT r.txt ∧ Rw64 r) ∧ List.length R ≤ maxLen := by
 rcases open_slice Try.underlying33 h with ⟨h0,_⟩ | ⟨ad,len,cap,m,n,D,Pl,hcs,_,hl,hm,hmm,_,hx⟩
 ·simp at h0
  subst h0
  exact ⟨none,0,[],rfl,⟨none,0,[],rfl,Nat.le_refl _,Nat.zero_le _,rfl,.inl rfl,rfl⟩,fun r hr => absurd hr List.not_mem_nil,Nat.zero_le _⟩
 ·simp at hcs
  subst hcs
  have hlm : len ≤ m := by rw [hmm];split <;> omega
  have ce : Try.prog.cellsOf 48 = 8 := by kernel_rfl
  by_cases h0 : len = 0
  ·subst h0
   exact ⟨some ad,cap,[],rfl,⟨some ad,cap,[],rfl,hl,hm,rfl,.inl rfl,rfl⟩,fun r hr => absurd hr List.not_mem_nil,Nat.zero_le _⟩
  obtain ⟨b,off,spot⟩ := ad
  have each : ∀ i,i < len → ∃ q : List Value × Rw,(q.1.length = 8 ∧ (∀ j,j < 8 → W.cell? ((⟨b,off,spot⟩ : Addr).add (i * 8 + j)) = q.1[j]?) ∧ vwL W (rw8 q.2) q.1) ∧ FitR q.2 ∧ LongT q.2.txt ∧ Rw64 q.2 := by
   intro i hi
   obtain ⟨cs',h1,h2⟩ := hx i (by omega)
   rw [ce] at h1
   obtain ⟨_,hlen,hcell⟩ := World.cells?_some h1
   obtain ⟨r,e8,hv,hf,hg,h6⟩ := row_ofC h2
   refine ⟨(cs',r),⟨e8,fun j hj => ?_,hv⟩,hf,hg,h6⟩
   have := hcell j hj
   rw [add_add] at this
   exact this
  have hs : spot = none := by
   obtain ⟨q,⟨h1,h2,_⟩,_⟩ := each 0 (by omega)
   have := h2 0 (by omega)
   rw [List.getElem?_eq_getElem (by omega)] at this
   simpa [Addr.add] using World.cell?_spot this
  subst hs
  haveI : Inhabited (List Value × Rw) := ⟨([],zeroRw)⟩
  obtain ⟨q,hq⟩ := choose_lt each
  obtain ⟨us,u1,u2,u3⟩ := vw_lcl_of (F := rw8) (s := 8) (w := W) (b := b) (off := off) (fun i => (q i).2) (fun i => (q i).1) len (fun i hi => ⟨(hq i hi).1.1,fun j hj => by have := (hq i hi).1.2.1 j hj;rw [add_lit0,← Nat.add_assoc] at this;exact this,(hq i hi).1.2.2⟩)
  have hlen : ((List.range len).map (fun i => (q i).2)).length = len := by simp
  refine ⟨some ⟨b,off,none⟩,cap,(List.range len).map (fun i => (q i).2),by rw [hlen], ?_,fun r hr => ?_,by rw [hlen];exact Nat.le_trans hl hm⟩
  ·unfold lcl
   rw [hlen]
   exact ⟨_,cap,us,rfl,hl,hm,u1,.inr ⟨b,off,rfl,u2⟩,u3⟩
  ·obtain ⟨i,hi,rfl⟩ := List.mem_map.1 hr
   exact (hq i (List.mem_range.1 hi)).2
theorem list5 {α : Type} {l : List α} (h : l.length = 5) : ∃ c0 c1 c2 c3 c4,l = [c0,c1,c2,c3,c4] := by
 match l,h with
 | [c0,c1,c2,c3,c4],_ => exact ⟨c0,c1,c2,c3,c4,rfl⟩
end Go.Proofs.Ythioodpmgifomaa
namespace Go.Proofs.Ythioodpmgifomaa
set_option linter.unusedVariables false
set_option linter.unusedSimpArgs false
open Go.ChangeShapes Go.WideShapes Go.ChangeAt Go.RowKit Go.Deep
set_option maxRecDepth 100000 in
theorem list_of {α : Type} [Inhabited α] {F : α → List Cel} {s : Nat} (hs0 : 0 < s) {el sl : TypeId} (hu : Try.prog.underlying sl = some (.slice el)) (ce : Try.prog.cellsOf el = s) {Q : α → Prop} {H : Type} {enc : TypeId × Value → H} {W : World} {base fuel : Nat} {held : Bool}
  (one : ∀ {base fuel : Nat} {held : Bool} {cs : List Value} {x : DataW H × List MemPlace},DataW.trod enc Try.prog W base (fun _ => true) held fuel el cs = some x → ∃ r : α,cs.length = s ∧ vwL W (F r) cs ∧ Q r)
  {c : Value} {y : DataW H × List MemPlace} (h : DataW.trod enc Try.prog W base (fun _ => true) held fuel sl [c] = some y) :
  ∃ a cap R,c = .slice a (List.length R) cap ∧ Cel.vw W (lcl s F R) (.slice a (List.length R) cap) ∧ (∀ r ∈ R,Q r) ∧ List.length R ≤ maxLen := by
 rcases open_slice hu h with ⟨h0,_⟩ | ⟨ad,len,cap,m,n,D,Pl,hcs,_,hl,hm,hmm,_,hx⟩
 ·simp at h0
  subst h0
  exact ⟨none,0,[],rfl,⟨none,0,[],rfl,Nat.le_refl _,Nat.zero_le _,by simp,.inl rfl,rfl⟩,fun r hr => absurd hr List.not_mem_nil,Nat.zero_le _⟩
 ·simp at hcs
  subst hcs
  have hlm : len ≤ m := by rw [hmm];split <;> omega
  by_cases h0 : len = 0
  ·subst h0
   exact ⟨some ad,cap,[],rfl,⟨some ad,cap,[],rfl,hl,hm,by simp,.inl rfl,rfl⟩,fun r hr => absurd hr List.not_mem_nil,Nat.zero_le _⟩
  obtain ⟨b,off,spot⟩ := ad
  have each : ∀ i,i < len → ∃ q : List Value × α,(q.1.length = s ∧ (∀ j,j < s → W.cell? ((⟨b,off,spot⟩ : Addr).add (i * s + j)) = q.1[j]?) ∧ vwL W (F q.2) q.1) ∧ Q q.2 := by
   intro i hi
   obtain ⟨cs',h1,h2⟩ := hx i (by omega)
   rw [ce] at h1
   obtain ⟨_,hlen,hcell⟩ := World.cells?_some h1
   obtain ⟨r,e8,hv,hf⟩ := one h2
   refine ⟨(cs',r),⟨e8,fun j hj => ?_,hv⟩,hf⟩
   have := hcell j hj
   rw [add_add] at this
   exact this
  have hs : spot = none := by
   obtain ⟨q,⟨h1,h2,_⟩,_⟩ := each 0 (by omega)
   have := h2 0 (by omega)
   rw [List.getElem?_eq_getElem (by omega)] at this
   simpa [Addr.add] using World.cell?_spot this
  subst hs
  haveI : Inhabited (List Value × α) := ⟨([],default)⟩
  obtain ⟨q,hq⟩ := choose_lt each
  obtain ⟨us,u1,u2,u3⟩ := vw_lcl_of (F := F) (s := s) (w := W) (b := b) (off := off) (fun i => (q i).2) (fun i => (q i).1) len (fun i hi => ⟨(hq i hi).1.1,fun j hj => by have := (hq i hi).1.2.1 j hj;rw [add_lit0,← Nat.add_assoc] at this;exact this,(hq i hi).1.2.2⟩)
  have hlen : ((List.range len).map (fun i => (q i).2)).length = len := by simp
  refine ⟨some ⟨b,off,none⟩,cap,(List.range len).map (fun i => (q i).2),by rw [hlen], ?_,fun r hr => ?_,by rw [hlen];exact Nat.le_trans hl hm⟩
  ·unfold lcl
   rw [hlen]
   exact ⟨_,cap,us,rfl,hl,hm,u1,.inr ⟨b,off,rfl,u2⟩,u3⟩
  ·obtain ⟨i,hi,rfl⟩ := List.mem_map.1 hr
   exact (hq i (List.mem_range.1 hi)).2
set_option maxRecDepth 100000 in
theorem mb_ofC {H : Type} {enc : TypeId × Value → H} {W : World} {base fuel : Nat} {held : Bool} {cs : List Value} {x : DataW H × List MemPlace} (h : DataW.trod enc Try.prog W base (fun _ => true) held fuel 35 cs = some x) :
  ∃ m,cs.length = 5 ∧ vwL W (mb5 m) cs ∧ FitM m ∧ LongM m ∧ Mb64 m := by
 obtain ⟨hl,n,hf⟩ := field_of Try.underlying35 (by kernel_rfl) h
 rw [show Try.prog.cellsOf 35 = 5 by kernel_rfl] at hl
 obtain ⟨c0,c1,c2,c3,c4,rfl⟩ := list5 hl
 obtain ⟨y0,g0⟩ := hf 0 _ c0 rfl rfl
 obtain ⟨y1,g1⟩ := hf 1 _ c1 rfl rfl
 obtain ⟨y2,g2⟩ := hf 2 _ c2 rfl rfl
 obtain ⟨y3,g3⟩ := hf 3 _ c3 rfl rfl
 obtain ⟨y4,g4⟩ := hf 4 _ c4 rfl rfl
 obtain ⟨i0,e0,_,b0⟩ := DataW.trod_int Try.underlying2 g0
 obtain ⟨i1,e1,_,b1⟩ := DataW.trod_int Try.underlying2 g1
 obtain ⟨a2,d2,R,rfl,t1,t2,t3⟩ := rows_of g2
 obtain ⟨a3,d3,M3,rfl,u3,v3,_⟩ := ints_ofC Try.underlying24 Try.underlying2 (by kernel_rfl) g3
 obtain ⟨z4,e4,_⟩ := DataW.trod_bool Try.underlying4 g4
 simp at e0 e1 e4
 subst e0 e1 e4
 exact ⟨⟨i0,i1,R,M3,z4⟩,rfl,⟨_,_,rfl,rfl,_,_,rfl,rfl,_,_,rfl,t1,_,_,rfl,u3,_,_,rfl,rfl,rfl⟩,⟨fun r hr => (t2 r hr).1,v3⟩,fun r hr => (t2 r hr).2.1,bounds_i64 b0,bounds_i64 b1,fun r hr => (t2 r hr).2.2⟩
def MlQ (x : Ml) : Prop := FitR x.row ∧ LongT x.row.txt ∧ I64v x.fr ∧ I64v x.to ∧ Rw64 x.row
set_option maxRecDepth 100000 in
theorem ml_ofC {H : Type} {enc : TypeId × Value → H} {W : World} {base fuel : Nat} {held : Bool} {cs : List Value} {x : DataW H × List MemPlace} (h : DataW.trod enc Try.prog W base (fun _ => true) held fuel 145 cs = some x) :
  ∃ m,cs.length = 10 ∧ vwL W (ml10 m) cs ∧ MlQ m := by
 obtain ⟨xs,n,_,rfl,hl,hlen,hf⟩ := DataW.trod_struct Try.underlying145 h
 rw [show Try.prog.cellsOf 145 = 10 by kernel_rfl] at hl
 match xs,hlen with
 | [y0,y1,y2],_ =>
 have k1 : Try.prog.cellsOf 2 = 1 := by kernel_rfl
 have k8 : Try.prog.cellsOf 48 = 8 := by kernel_rfl
 match cs,hl,hf with
 | c0 :: c1 :: r,hl,hf =>
 have hr : r.length = 8 := by simpa using hl
 have g0 : DataW.trod enc Try.prog W base (fun _ => true) held n 2 (((c0 :: c1 :: r).drop 0).take (Try.prog.cellsOf 2)) = some y0 := hf 0 _ rfl
 have g1 : DataW.trod enc Try.prog W base (fun _ => true) held n 2 (((c0 :: c1 :: r).drop 1).take (Try.prog.cellsOf 2)) = some y1 := hf 1 _ rfl
 have g2 : DataW.trod enc Try.prog W base (fun _ => true) held n 48 (((c0 :: c1 :: r).drop 2).take (Try.prog.cellsOf 48)) = some y2 := hf 2 _ rfl
 rw [k1] at g0 g1
 rw [k8] at g2
 simp only [List.drop_zero,List.drop_succ_cons,List.take_succ_cons,List.take_zero,List.take_of_length_le (Nat.le_of_eq hr)] at g0 g1 g2
 obtain ⟨i0,e0,_,b0⟩ := DataW.trod_int Try.underlying2 g0
 obtain ⟨i1,e1,_,b1⟩ := DataW.trod_int Try.underlying2 g1
 obtain ⟨rw,_,v2,f2,l2,s2⟩ := row_ofC g2
 simp at e0 e1
 subst e0 e1
 exact ⟨⟨i0,i1,rw⟩,by simp [hr],⟨_,_,rfl,rfl,_,_,rfl,rfl,v2⟩,f2,l2,bounds_i64 b0,bounds_i64 b1,s2⟩
theorem bo_ofC {H : Type} {enc : TypeId × Value → H} {W : World} {base fuel : Nat} {held : Bool} {cs : List Value} {x : DataW H × List MemPlace} (h : DataW.trod enc Try.prog W base (fun _ => true) held fuel 4 cs = some x) :
  ∃ b,cs.length = 1 ∧ vwL W (bo1 b) cs ∧ True := by
 obtain ⟨z,e,_⟩ := DataW.trod_bool Try.underlying4 h
 subst e
 exact ⟨z,rfl,⟨_,_,rfl,rfl,rfl⟩,trivial⟩
theorem list3 {α : Type} {l : List α} (h : l.length = 3) : ∃ c0 c1 c2,l = [c0,c1,c2] := by
 match l,h with
 | [c0,c1,c2],_ => exact ⟨c0,c1,c2,rfl⟩
set_option maxRecDepth 100000 in
theorem gr_of {H : Type} {enc : TypeId × Value → H} {W : World} {base fuel : Nat} {held : Bool} {cs : List Value} {x : DataW H × List MemPlace} (h : DataW.trod enc Try.prog W base (fun _ => true) held fuel 60 cs = some x) :
  ∃ A g,cs = (grC A g).toList ∧ GrS W A g ∧ LongG g ∧ Gr64 g := by
 obtain ⟨hl,n,hf⟩ := field_of Try.underlying60 (by kernel_rfl) h
 rw [show Try.prog.cellsOf 60 = 3 by kernel_rfl] at hl
 obtain ⟨c0,c1,c2,rfl⟩ := list3 hl
 obtain ⟨y0,g0⟩ := hf 0 _ c0 rfl rfl
 obtain ⟨y1,g1⟩ := hf 1 _ c1 rfl rfl
 obtain ⟨y2,g2⟩ := hf 2 _ c2 rfl rfl
 haveI : Inhabited Mb := ⟨zeroMb⟩
 haveI : Inhabited Ml := ⟨zeroMl⟩
 obtain ⟨a0,d0,M,rfl,t1,t2,t3⟩ := list_of (F := mb5) (s := 5) (by omega) Try.underlying56 (by kernel_rfl) (Q := fun m => FitM m ∧ LongM m ∧ Mb64 m) (fun h => mb_ofC h) g0
 obtain ⟨a1,d1,U,rfl,u1,_,u3⟩ := list_of (F := bo1) (s := 1) (by omega) Try.underlying57 (by kernel_rfl) (Q := fun _ => True) (fun h => bo_ofC h) g1
 obtain ⟨a2,d2,L,rfl,l1,l2,l3⟩ := list_of (F := ml10) (s := 10) (by omega) Try.underlying58 (by kernel_rfl) (Q := MlQ) (fun h => ml_ofC h) g2
 rw [← ocl_lcl] at u1
 have hv : vwL W (gr3 ⟨M,U,L⟩) (grVals ⟨a0,d0,a1,d1,a2,d2⟩ ⟨M,U,L⟩) := ⟨_,_,rfl,t1,_,_,rfl,u1,_,_,rfl,l1,rfl⟩
 exact ⟨⟨a0,d0,a1,d1,a2,d2⟩,⟨M,U,L⟩,rfl,grs_of hv ⟨fun m hm => (t2 m hm).1,fun x hx => (l2 x hx).1⟩,⟨fun m hm => (t2 m hm).2.1,fun x hx => (l2 x hx).2.1⟩,⟨fun m hm => (t2 m hm).2.2,fun x hx => (l2 x hx).2.2⟩⟩
set_option maxRecDepth 100000 in
theorem open_grp {H : Type} {enc : TypeId × Value → H} {W : World} {base : Nat} {v : Value} {d : DataW H} {p : List MemPlace} (hv : Value.okWide Try.prog W .any base 60 v) (h : DataW.Trod enc Try.prog W 0 (fun _ => true) true 60 v d p) :
  ∃ A g,v = grV A g ∧ GrS W A g ∧ LongG g ∧ Gr64 g := by
 obtain ⟨cs,rfl,hsz⟩ := okWide_struct Try.underlying60 hv
 obtain ⟨fuel,hf⟩ := h
 obtain ⟨A,g,e,h1,h2,h3⟩ := gr_of hf
 have e' : cs.toList = (grC A g).toList := by simpa [Value.cells] using e
 exact ⟨A,g,by rw [grV,Array.toList_inj.1 e'],h1,h2,h3⟩
end Go.Proofs.Ythioodpmgifomaa
namespace Go.Proofs.Ythioodpmgifomaa
set_option linter.unusedVariables false
set_option linter.unusedSimpArgs false
open Go.RowKit Go.Sort
def Gu (e : Ending) : Prop := ∃ T v,e = .panicked [{ v := .iface T v,recovered := false }]
set_option maxHeartbeats 400000 in
theorem wantT (w : World) : Calls Try.prog 121 #[.bool true] w fun e w' => e = .returned (.tuple #[]) ∧ w' = w := by
 have hnot : ∀ (x : Bool) (w : World),(Op.unary .not (.bool x)).run Try.prog w = .ok (.bool (!x)) w := fun _ _ => rfl
 go_enter Try.func121,Try.ntmps121
 go_wp2
 first | go_end0 | go_ret
 exact ⟨rfl,rfl⟩
set_option maxHeartbeats 400000 in
theorem wantF (w : World) : Calls Try.prog 121 #[.bool false] w fun e w' => Gu e ∧ w' = w := by
 go_enter Try.func121,Try.ntmps121
 go_wp2
 exact ⟨rfl,⟨_,_,rfl⟩,rfl⟩
theorem tellP (p : Addr) (x : Value) (u : TypeId) (pv : Value) (older : List PanicEntry) (w : World) (hc : w.cell? p = some x) (hz : w.frozen? p = false) :
  CallsD Try.prog 143 #[.pointer (some p)] (.panicking ({ v := .iface u pv,recovered := false } :: older)) w fun e u' w' =>
   e = .returned (.tuple #[]) ∧ u' = .panicking ({ v := .iface u pv,recovered := true } :: older) ∧ w' = w.setCell p (.bool false) := by
 refine callsD_of_wpS Try.func143 rfl fun c₀ cs hu => ?_
 apply wpS_region
 simp [wpOpsS,go_sem,recoverD,hu,Try.ntmps143,hc,hz,bodyPostS,results,Try.results143]
theorem tellR (p : Addr) (x : Value) (w : World) (hc : w.cell? p = some x) (hz : w.frozen? p = false) :
  CallsD Try.prog 143 #[.pointer (some p)] .returning w fun e u' w' => e = .returned (.tuple #[]) ∧ u' = .returning ∧ w' = w.setCell p (.bool true) := by
 refine callsD_of_wpS Try.func143 rfl fun c₀ cs hu => ?_
 apply wpS_region
 simp [wpOpsS,go_sem,recoverD,hu,Try.ntmps143,hc,hz,bodyPostS,results,Try.results143]
 cases c₀
 simp_all
set_option maxRecDepth 100000 in
set_option maxHeartbeats 800000 in
theorem told_any (F : Nat) (C D : Array Value) (w : World) (Q : Bool → World → Prop) (hE : ∀ (args : Array Value) (w : World),(callFunc F args).run Try.prog w = .ok (.enter F args) w)
  (h : Calls Try.prog F (C ++ D) (w.alloc (.cells #[.bool false] 4)) fun e w' => (e = .returned (.tuple #[]) ∧ Q true w') ∨ (Gu e ∧ Q false w')) (hq : ∀ b w',Q b w' → Bx w' w.heap.size 4 #[.bool false]) :
  Calls Try.prog 119 #[.func (.func F) C D] w fun e w' => ∃ b X,e = .returned (.bool b) ∧ Q b X ∧ Wrt (fun x => x = w.heap.size) X w' := by
 have hmf : ∀ (fn : Fn) (first cap : Array Value) (w : World),(Instr.makeFunc fn first cap).run Try.prog w = .ok (.func fn first cap) w := fun _ _ _ _ => rfl
 have HQ : Hid (∀ b w',Q b w' → Bx w' w.heap.size 4 #[.bool false]) := hq
 clear hq
 go_enter_defers Try.func119,Try.ntmps119
 go_wp2_with fail
 refine h.mono ?_
 rintro e w1 (⟨rfl,hQ⟩ | ⟨⟨T,v,rfl⟩,hQ⟩)
 ·have hx := HQ.out _ _ hQ
  have c0 := hx.at 0 (v := .bool false) rfl
  have f0 := hx.f 0
  have HQ1 : Hid (Q true w1) := hQ
  clear hQ h hx
  go_wp2
  refine leaves_cons (f := 143) (args := #[.pointer (some ⟨w.heap.size,0,none⟩)]) (by simp) (by simp [go_sem]) ?_
  refine (tellR ⟨w.heap.size,0,none⟩ (.bool true) _ (World.cell?_setCell_same _ _ _ c0) (by rw [World.frozen?_setCell];exact f0)).mono ?_
  rintro e u' w'' ⟨rfl,rfl,rfl⟩
  have hc : ((w1.setCell ⟨w.heap.size,0,none⟩ (.bool true)).setCell ⟨w.heap.size,0,none⟩ (.bool true)).cell? ⟨w.heap.size,0,none⟩ = some (.bool true) := World.cell?_setCell_same _ _ _ (World.cell?_setCell_same _ _ _ c0)
  have hW := (Wrt.set w1 w.heap.size 0 (.bool true)).trans (Wrt.set (w1.setCell ⟨w.heap.size,0,none⟩ (.bool true)) w.heap.size 0 (.bool true)) (fun _ _ h => h)
  generalize (w1.setCell ⟨w.heap.size,0,none⟩ (.bool true)).setCell ⟨w.heap.size,0,none⟩ (.bool true) = W2 at *
  refine ⟨.bool true,by simp [results,Try.results119,go_sem,hc],true,w1,rfl,HQ1.out,hW⟩
 ·have hx := HQ.out _ _ hQ
  have c0 := hx.at 0 (v := .bool false) rfl
  have f0 := hx.f 0
  have HQ1 : Hid (Q false w1) := hQ
  clear hQ h hx
  simp only
  refine leaves_cons (f := 143) (args := #[.pointer (some ⟨w.heap.size,0,none⟩)]) (by simp) (by simp [go_sem]) ?_
  refine (tellP ⟨w.heap.size,0,none⟩ (.bool false) T v [] _ c0 f0).mono ?_
  rintro e u' w'' ⟨rfl,rfl,rfl⟩
  have hc : (w1.setCell ⟨w.heap.size,0,none⟩ (.bool false)).cell? ⟨w.heap.size,0,none⟩ = some (.bool false) := World.cell?_setCell_same _ _ _ c0
  have hW := Wrt.set w1 w.heap.size 0 (.bool false)
  generalize w1.setCell ⟨w.heap.size,0,none⟩ (.bool false) = W2 at *
  refine ⟨.bool false,by simp [results,Try.results119,go_sem,hc],false,w1,rfl,HQ1.out,hW⟩
end Go.Proofs.Ythioodpmgifomaa
namespace Go.Proofs.Ythioodpmgifomaa
set_option linter.unusedVariables false
set_option linter.unusedSimpArgs false
open Go.RowKit Go.Sort
set_option maxHeartbeats 400000 in
theorem isW14_any (n last : Int) (w : World) : Calls Try.prog 137 #[.int .i64 n,.int .i64 last] w fun e w' => e = .returned (.bool (inB n 0 last)) ∧ w' = w := by
 by_cases h0 : (0 : Int) ≤ n
 ·have H : Hid (inB n 0 last = decide (n ≤ last)) := by rw [Hid,inB];simp [h0]
  go_enter Try.func137,Try.ntmps137
  go_wp2
  go_ret
  exact ⟨ret_bool (by rw [H.out]),rfl⟩
 ·have H : Hid (inB n 0 last = false) := by rw [Hid,inB];simp [h0]
  go_enter Try.func137,Try.ntmps137
  go_wp2
  go_ret
  exact ⟨ret_bool (by rw [H.out]),rfl⟩
set_option maxHeartbeats 800000 in
theorem rw14_any (a : Option Addr) (len cap : Nat) (B : Int) (xs : List Int) (w : World) (hv : Vec w a len xs) (hm : len ≤ maxLen) :
  Calls Try.prog 146 #[.slice a len cap,.int .i64 (B - 1)] w fun e w' => e = .returned (.bool (decide (okRow B xs))) ∧ w' = w := by
 unfold maxLen at hm
 have HL : Hid (xs.length = len) := hv.1
 have hc := hv.2.2
 clear hv
 go_enter Try.func146,Try.ntmps146
 go_wp2
 go_loop [9] (fun i => ∃ k : Nat,k ≤ len ∧ i = .int .i64 k ∧ (∀ j,j < k → 0 ≤ el xs j ∧ el xs j ≤ B - 1) ∧ ∀ j,j + 1 < k → el xs j < el xs (j + 1)) (fun i => len - (intOf i).toNat)
 case atStart => exact ⟨0,Nat.zero_le _,rfl,fun j hj => by omega,fun j hj => by omega⟩
 case round =>
  obtain ⟨k,hk,rfl,hin,hri⟩ := hrel
  have HI : Hid (∀ j,j < k → 0 ≤ el xs j ∧ el xs j ≤ B - 1) := hin
  have HR : Hid (∀ j,j + 1 < k → el xs j < el xs (j + 1)) := hri
  clear hin hri
  by_cases hlt : k < len
  ·rcases hc with h0 | ⟨b,off,rfl,hc⟩
   ·omega
   have hck := hc k hlt
   have k0 : (0 : Int) ≤ (k : Int) := by omega
   have k1 : (k : Int) < (len : Int) := by omega
   cases e4 : inB (el xs k) 0 (B - 1) with
   | false =>
    have HF : Hid (decide (okRow B xs) = false) := decide_eq_false (fun h => by
     have := h.1 k (by rw [HL.out];exact hlt)
     rw [inB7.2 this] at e4
     cases e4)
    go_wp2_with (go_at_call 137;refine (isW14_any _ _ _).mono ?_;rintro e w' ⟨rfl,hw'⟩;rw [hw'];clear hw')
    go_ret
    exact ⟨ret_bool (by rw [HF.out]),rfl⟩
   | true =>
    have HX : Hid (0 ≤ el xs k ∧ el xs k ≤ B - 1) := inB7.1 e4
    by_cases hk0 : 0 < k
    ·obtain ⟨q,rfl⟩ : ∃ q,k = q + 1 := ⟨k - 1,by omega⟩
     have hcq := hc q (by omega)
     have hg : decide (((q + 1 : Nat) : Int) > 0) = true := decide_eq_true (by omega)
     have g0 : (0 : Int) < ((q + 1 : Nat) : Int) := by omega
     have hq : wrap64 (((q + 1 : Nat) : Int) - 1) = (q : Int) := by unfold wrap64;omega
     have q0 : (0 : Int) ≤ (q : Int) := by omega
     have q1 : (q : Int) < (len : Int) := by omega
     by_cases hx : el xs q < el xs (q + 1)
     ·have hd : decide (el xs (q + 1) ≤ el xs q) = false := by simp;omega
      have HY : Hid (el xs q < el xs (q + 1)) := hx
      clear hx
      go_wp2_with (go_at_call 137;refine (isW14_any _ _ _).mono ?_;rintro e w' ⟨rfl,hw'⟩;rw [hw'];clear hw')
      go_round
      case rel => exact ⟨q + 1 + 1,by omega,by go_num,fun j hj => by
       rcases Nat.lt_succ_iff_lt_or_eq.1 hj with h | h
       ·exact HI.out j h
       ·rw [h];exact HX.out,fun j hj => by
       rcases Nat.lt_succ_iff_lt_or_eq.1 hj with h | h
       ·exact HR.out j h
       ·have : j = q := by omega
        rw [this];exact HY.out⟩
      case measure => simp [intOf];omega
     ·have hd : decide (el xs (q + 1) ≤ el xs q) = true := by simp;omega
      have HF : Hid (decide (okRow B xs) = false) := decide_eq_false (fun h => hx (h.2 q (by rw [HL.out];omega)))
      clear hx
      go_wp2_with (go_at_call 137;refine (isW14_any _ _ _).mono ?_;rintro e w' ⟨rfl,hw'⟩;rw [hw'];clear hw')
      go_ret
      exact ⟨ret_bool (by rw [HF.out]),rfl⟩
    ·obtain rfl : k = 0 := by omega
     rw [Nat.add_zero] at hck
     go_wp2_with (go_at_call 137;refine (isW14_any _ _ _).mono ?_;rintro e w' ⟨rfl,hw'⟩;rw [hw'];clear hw')
     go_round
     case rel => exact ⟨1,by omega,by go_num,fun j hj => by
      obtain rfl : j = 0 := by omega
      exact HX.out,fun j hj => by omega⟩
     case measure => simp [intOf];omega
  ·have hkl : k = len := by omega
   have HF : Hid (decide (okRow B xs) = true) := decide_eq_true ⟨fun j hj => HI.out j (by rw [HL.out] at hj;omega),fun j hj => HR.out j (by rw [HL.out] at hj;omega)⟩
   subst hkl
   clear hc
   go_wp2
   go_ret
   exact ⟨ret_bool (by rw [HF.out]),rfl⟩
def IsIdx (xs : List Int) (x z : Int) : Prop := (∃ k : Nat,k < xs.length ∧ z = (k : Int) ∧ el xs k = x ∧ ∀ j,j < k → el xs j ≠ x) ∨ (z = -1 ∧ ∀ j,j < xs.length → el xs j ≠ x)
theorem IsIdx.mem {xs : List Int} {x z : Int} (h : IsIdx xs x z) : decide (0 ≤ z) = decide (x ∈ xs) := by
 rcases h with ⟨k,hk,rfl,rfl,_⟩ | ⟨rfl,h⟩
 ·rw [decide_eq_true (el_in hk),decide_eq_true (by omega)]
 ·rw [decide_eq_false (by omega),decide_eq_false (fun hx => by obtain ⟨i,hi,e⟩ := el_of hx;exact h i hi e)]
set_option maxHeartbeats 800000 in
theorem idx14_any (a : Option Addr) (cap : Nat) (xs : List Int) (x : Int) (w : World) (hv : Vec w a xs.length xs) (hm : xs.length ≤ maxLen) :
  Calls Try.prog 148 #[.slice a xs.length cap,.int .i64 x] w fun e w' => (∃ z : Int,e = .returned (.int .i64 z) ∧ IsIdx xs x z) ∧ w' = w := by
 unfold maxLen at hm
 have hc := hv.2.2
 clear hv
 go_enter Try.func148,Try.ntmps148
 go_wp2
 go_loop [8] (fun i => ∃ k : Nat,k ≤ xs.length ∧ i = .int .i64 k ∧ ∀ j,j < k → el xs j ≠ x) (fun i => xs.length - (intOf i).toNat)
 case atStart => exact ⟨0,Nat.zero_le _,rfl,fun j hj => by omega⟩
 case round =>
  obtain ⟨k,hk,rfl,hall⟩ := hrel
  have HA : Hid (∀ j,j < k → el xs j ≠ x) := hall
  clear hall
  by_cases hlt : k < xs.length
  ·rcases hc with h0 | ⟨b,off,rfl,hc⟩
   ·omega
   have hck := hc k hlt
   clear hc
   have k0 : (0 : Int) ≤ (k : Int) := by omega
   have k1 : (k : Int) < (xs.length : Int) := by omega
   by_cases hx : el xs k = x
   ·have HX : Hid (IsIdx xs x (k : Int)) := .inl ⟨k,hlt,rfl,hx,HA.out⟩
    have hq : (x == el xs k) = true := by simp [hx]
    clear hx
    generalize el xs k = E at *
    go_wp2
    go_ret
    exact ⟨⟨_,rfl,HX.out⟩,rfl⟩
   ·have HX : Hid (∀ j,j < k + 1 → el xs j ≠ x) := fun j hj => by
     by_cases e : j = k
     ·rw [e];exact hx
     ·exact HA.out j (by omega)
    have hq : (x == el xs k) = false := by simp [Ne.symm hx]
    clear hx
    generalize el xs k = E at *
    go_wp2
    go_round
    case rel => exact ⟨k + 1,by omega,by go_num,HX.out⟩
    case measure => simp [intOf];omega
  ·have k1 : ¬ ((k : Int) < (xs.length : Int)) := by omega
   obtain rfl : k = xs.length := by omega
   clear hc
   go_wp2
   go_ret
   exact ⟨⟨_,rfl,.inr ⟨rfl,HA.out⟩⟩,rfl⟩
set_option maxHeartbeats 400000 in
theorem con14_any (a : Option Addr) (cap : Nat) (xs : List Int) (x : Int) (w : World) (hv : Vec w a xs.length xs) (hm : xs.length ≤ maxLen) :
  Calls Try.prog 138 #[.slice a xs.length cap,.int .i64 x] w fun e w' => e = .returned (.bool (decide (x ∈ xs))) ∧ w' = w := by
 have hI := idx14_any a cap xs x w hv hm
 clear hv
 go_enter Try.func138,Try.ntmps138
 go_wp2_with (go_at_call 148;refine hI.mono ?_;rintro e w' ⟨⟨z,rfl,hz⟩,hw'⟩;rw [hw'];clear hw';have HZ : Hid (IsIdx xs x z) := hz;clear hz)
 go_ret
 exact ⟨ret_bool (by rw [← HZ.out.mem]),rfl⟩
end Go.Proofs.Ythioodpmgifomaa