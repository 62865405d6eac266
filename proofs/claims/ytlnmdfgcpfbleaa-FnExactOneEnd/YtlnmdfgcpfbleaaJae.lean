/-
  Texts in one: Mcl Mcm Gnc Mcn Mco Mcp Gnd Gne Gnf Mck Mcd Mcf Mcq Gng Gpa Gpb Gpc Gpd Gpe Gpf Gph Gpj Ozr.
-/
import Derived.Test.YtlnmdfgcpfbleaaJad
import Derived.Test.YtlnmdfgcpfbleaaJab
import Derived.Test.YtlnmdfgcpfbleaaJac
import Derived.BigQuiet
import Derived.Deep.RegionHeld3
import Derived.Lib.SmallJoins
import Derived.OpenShut
import Derived.ChangeOld
import Derived.ShutString
import Derived.Deep.Matrix
import Derived.Deep.Slices
import Derived.Deep.Strs
import Derived.Deep.Grids
namespace Go.Proofs.Ytlnmdfgcpfbleaa
set_option linter.unusedVariables false
set_option linter.unusedSimpArgs false
open Go.RowKit Go.Sort
theorem infoRow17 : (Try.prog.info? 35).map (fun i => (i.zero,i.size,i.bytes)) = some (some (.agg zero8),8,120) := by kernel_rfl
theorem make_rs (n : Nat) (hn : n ≤ 1048576) (w : World) :
  (Instr.makeSlice 101 (.int .i64 (n : Int)) (.int .i64 (n : Int))).run Try.prog w = .ok (.slice (some ⟨w.heap.size,0,none⟩) n n) (w.alloc (.cells (madeCells zero8 (n * 8)) 35)) := by
 obtain ⟨i,hi,hz,hs,hb⟩ := info_parts2n infoRow17
 have hr := run_make (P := Try.prog) w 101 35 i _ Try.underlying101 hi hz .i64 .i64 n n (by omega) (Int.le_refl _) (by rw [hb];omega) (by omega)
 simp only [Int.toNat_natCast,hs] at hr
 exact hr
theorem flat_rep {α : Type} (F : α → List Cel) (x : α) : ∀ n,(List.replicate n x).flatMap F = (List.replicate n (F x)).flatten
 | 0 => rfl
 | n + 1 => by rw [List.replicate_succ,List.replicate_succ,List.flatMap_cons,List.flatten_cons,flat_rep F x n]
theorem ow_zero8 (w : World) : owL w (rw8 zeroRw) zero8.toList (fun _ => False) := by
 have h : owL w (rwCels zeroRw) (rwVals ⟨none,0,none,0,none,0,none,0⟩ zeroRw) (fun _ => False) := owL_congr (owL4 (ow_none_s w) (ow_none_i w) (ow_none_i w) (ow_none_i w) (fun _ h => h.elim) (fun _ h => h.elim) (fun _ h => h.elim)) (fun b => by simp)
 exact ow_rw8 h
theorem rows_made (w : World) (n : Nat) (hn : n ≤ 1048576) : Cel.ow (w.alloc (.cells (madeCells zero8 (n * 8)) 35)) (lcl 8 rw8 (List.replicate n zeroRw)) (.slice (some ⟨w.heap.size,0,none⟩) n n) (fun b => b = w.heap.size) := by
 have h := osl_made w zero8 8 n 35 rfl (by omega) (by unfold maxLen;omega)
 unfold lcl
 rw [flat_rep,List.length_replicate]
 exact ⟨_,n,_,some w.heap.size,fun _ => False,rfl,OSo.of h,owL_zeros (ow_zero8 _) (fun b h => h) n,fun _ _ h => h,fun b => by simp [eq_comm]⟩
def prR (R : List Rw) (k : Nat) : List Rw := R.take k ++ List.replicate (R.length - k) zeroRw
theorem prR_len {R : List Rw} {k : Nat} (hk : k ≤ R.length) : (prR R k).length = R.length := by simp [prR];omega
theorem prR_at {R : List Rw} {k : Nat} (hk : k < R.length) : (prR R k)[k]? = some zeroRw := by
 have e2 : R.length - k = (R.length - (k + 1)) + 1 := by omega
 have e3 : (R.take k).length = k := by simp;omega
 rw [prR,List.getElem?_append_right (by omega),e2,List.replicate_succ,e3,Nat.sub_self]
 rfl
theorem prR_set {R : List Rw} {k : Nat} (hk : k < R.length) : (prR R k).set k (rowN R k) = prR R (k + 1) := by
 have e : rowN R k = R[k] := by simp [rowN,List.getD,hk]
 have e2 : R.length - k = (R.length - (k + 1)) + 1 := by omega
 have e3 : (R.take k).length = k := by simp;omega
 rw [prR,prR,e,e2,List.replicate_succ,List.set_append_right _ _ (by omega),List.take_succ_eq_append_getElem hk,e3,Nat.sub_self,List.set_cons_zero,List.append_assoc]
 rfl
theorem szP_mono (R : List Rw) {a b : Nat} (h : a ≤ b) : szP R a ≤ szP R b := by
 unfold szP
 obtain ⟨c,rfl⟩ := Nat.exists_eq_add_of_le h
 rw [List.take_add,List.map_append,List.sum_append]
 omega
theorem prR_all (R : List Rw) : prR R R.length = R := by simp [prR]
set_option maxRecDepth 100000 in
set_option maxHeartbeats 3200000 in
theorem toRs_any (a : Option Addr) (cap : Nat) (R : List Rw) (w : World) (hv : Cel.vw w (lcl 8 rw8 R) (.slice a R.length cap)) (hf : ∀ r ∈ R,FitR r) (hs : szRs R ≤ 1048576) :
  Calls Try.prog 135 #[.slice a R.length cap] w fun e w' => ∃ a' c',e = .returned (.slice a' R.length c') ∧ NewO w w' (lcl 8 rw8 R) (.slice a' R.length c') := by
 have HV : Hid (Cel.vw w (lcl 8 rw8 R) (.slice a R.length cap)) := hv
 have hl : R.length ≤ 1048576 := by unfold szRs at hs;omega
 have HSZ : Hid (∀ k,k < R.length → szRw (rowN R k) ≤ 1048576) := fun k hk => by
  have h1 : szP R (k + 1) ≤ szP R R.length := szP_mono R (by omega)
  rw [szP_next hk] at h1
  unfold szRs at hs
  omega
 have hmk := make_rs R.length hl
 have HS : Hid (Cel.ow (w.alloc (.cells (madeCells zero8 (R.length * 8)) 35)) (lcl 8 rw8 (prR R 0)) (.slice (some ⟨w.heap.size,0,none⟩) R.length R.length) (fun b => b = w.heap.size) ∧ Below w.heap.size w (w.alloc (.cells (madeCells zero8 (R.length * 8)) 35))) := by
  refine ⟨?_,oneA16 w _⟩
  have := rows_made w R.length hl
  have e : prR R 0 = List.replicate R.length zeroRw := by simp [prR]
  rw [e]
  exact this
 clear hv
 go_enter Try.func135,Try.ntmps135
 go_wp2_with fail
 clear hmk
 generalize w.alloc (.cells (madeCells zero8 (R.length * 8)) 35) = W0 at *
 go_loopw [4] (fun i wr => ∃ (k : Nat) (fp : Fp),k ≤ R.length ∧ i = .int .i64 k ∧ Cel.ow wr (lcl 8 rw8 (prR R k)) (.slice (some ⟨w.heap.size,0,none⟩) R.length R.length) fp ∧ (∀ b,fp b → w.heap.size ≤ b) ∧ Below w.heap.size w wr) (fun i _ => R.length - (intOf i).toNat)
 case atStart => exact ⟨0,_,Nat.zero_le _,rfl,HS.out.1,fun b h => by rw [h];exact Nat.le_refl _,HS.out.2⟩
 case round =>
  obtain ⟨k,fp,hk,rfl,ho,hfp,hb⟩ := hrel
  by_cases hlt : k < R.length
  ·have k1 : (k : Int) < (R.length : Int) := by omega
   have k0 : (0 : Int) ≤ (k : Int) := by omega
   have hmem : rowN R k ∈ R := rowN_mem hlt
   obtain ⟨g,off,hra,hpv⟩ := vw_elF rw8_len (Cel.vw_below HV.out hb) (k := k) (x := rowN R k) (by simp [rowN,List.getD,hlt])
   obtain ⟨Ak,⟨⟨d0,d1,d2,d3⟩,d4,d5,d6,d7⟩,hrs⟩ := hpv.row (hf _ hmem)
   subst hra
   have hz := HSZ.out k hlt
   unfold szRw at hz
   have hC := toRw_any Ak (rowN R k) wr hrs (by omega) (by omega) (by omega) (by omega)
   unfold rwV rwC at hC
   have hpl := prR_len hk
   rw [← hpl] at ho
   obtain ⟨g1,off1,f1,e1,hfg,hfs,hP,hglt,hput⟩ := ow_elF rw8_len (by omega) ho (prR_at hlt)
   cases e1
   have hput := fun w1 => hput w1 (rowN R k)
   rw [prR_set hlt,hpl] at hput
   simp only [Nat.zero_add] at hP hput
   have HPut : Hid (∀ w1 : World,Bcm wr w1 w.heap.size (k * 8) (rw8 (rowN R k)) f1 → ∃ fp',Cel.ow w1 (lcl 8 rw8 (prR R (k + 1))) (.slice (some ⟨w.heap.size,0,none⟩) R.length R.length) fp' ∧ (∀ b,fp' b → fp b ∨ wr.heap.size ≤ b) ∧ Wrt fp wr w1) := hput
   have HP : Hid (Plc wr w.heap.size (k * 8) (rw8 zeroRw) f1) := hP
   have HB : Hid (Below w.heap.size w wr) := hb
   have HFP : Hid (∀ b,fp b → w.heap.size ≤ b) := hfp
   generalize rowN R k = r at *
   clear hrs hpv hb ho hput hP hz hpl hfs hmem
   go_wp2_with fail
   refine hC.mono ?_
   rintro e w1 ⟨A1,rfl,fr,hl1,hfr,hb1⟩
   have HA := HP.out.all hb1 (ow_rw8 hl1) rfl hfr
   obtain ⟨vs0,hpc,hov,_⟩ := HP.out
   have hl8 : vs0.length = 8 := owL_len hov
   have hpc1 := hpc.of_block (hb1.block _ hpc.lt) hb1.size
   have cc : ∀ j,j < 8 → ∃ u,w1.cell? ⟨w.heap.size,k * 8 + j,none⟩ = some u ∧ w1.frozen? ⟨w.heap.size,k * 8 + j,none⟩ = false := fun j hj => ⟨_,(hpc1.cell j (by omega)).trans (List.getElem?_eq_getElem (by omega)),hpc1.free j (by omega)⟩
   obtain ⟨u0,e0,f0⟩ := cc 0 (by omega)
   obtain ⟨u1,e1,f1'⟩ := cc 1 (by omega)
   obtain ⟨u2,e2,f2⟩ := cc 2 (by omega)
   obtain ⟨u3,e3,f3⟩ := cc 3 (by omega)
   obtain ⟨u4,e4,f4⟩ := cc 4 (by omega)
   obtain ⟨u5,e5,f5⟩ := cc 5 (by omega)
   obtain ⟨u6,e6,f6⟩ := cc 6 (by omega)
   obtain ⟨u7,e7,f7⟩ := cc 7 (by omega)
   simp only [Nat.add_zero] at e0 f0
   obtain ⟨fp',hN1,hN2,hN3⟩ := HPut.out _ HA
   have HN1 : Hid (Cel.ow _ (lcl 8 rw8 (prR R (k + 1))) (.slice (some ⟨w.heap.size,0,none⟩) R.length R.length) fp') := hN1
   have HN3 : Hid (Wrt fp wr _) := hN3
   have HN2 : Hid (∀ b,fp' b → fp b ∨ wr.heap.size ≤ b) := hN2
   have hsz := HB.out.size
   clear d0 d1 d2 d3 d4 d5 d6 d7 hC hb1 hl1 hN1 hN2 hN3 HA cc hpc1 hov hpc
   unfold rwV rwC
   go_wp2
   go_roundw
   case rel => exact ⟨k + 1,fp',by omega,by go_num,HN1.out,fun b hb => by have := HFP.out b;rcases HN2.out b hb with h | h;exact this h;omega,HN3.out.below HB.out hsz HFP.out⟩
   case measure => simp [intOf];omega
  ·obtain rfl : k = R.length := by omega
   have k1 : ¬ ((R.length : Int) < (R.length : Int)) := by omega
   have HE : Hid (NewO w wr (lcl 8 rw8 R) (.slice (some ⟨w.heap.size,0,none⟩) R.length R.length)) := by rw [prR_all] at ho;exact ⟨fp,ho,hfp,hb⟩
   clear ho hb
   go_wp2
   go_ret
   exact ⟨_,_,rfl,HE.out⟩
end Go.Proofs.Ytlnmdfgcpfbleaa
namespace Go.Proofs.Ytlnmdfgcpfbleaa
set_option linter.unusedVariables false
set_option linter.unusedSimpArgs false
open Go.RowKit Go.Sort
structure TM (w X : World) (S O : Array Value) (cs : List Cel) (vs : List Value) (fp : Fp) : Prop where
 src : Bx X w.heap.size 134 S
 res : Bx X (w.heap.size + 1) 103 #[.int .i64 0,.int .i64 0,.slice none 0 0,.slice none 0 0,.bool false]
 out : Bx X (w.heap.size + 1 + 1) 103 O
 own : owL X cs vs fp
 fpl : ∀ b,fp b → w.heap.size + 1 + 1 < b
 below : Below w.heap.size w X
theorem TM.set {w X : World} {S O : Array Value} {cs : List Cel} {vs : List Value} {fp : Fp} (h : TM w X S O cs vs fp) (i : Nat) (v : Value) : TM w (X.setCell ⟨w.heap.size + 1 + 1,i,none⟩ v) S (O.setIfInBounds i v) cs vs fp :=
 ⟨h.src.far (by omega) v,h.res.far (by omega) v,h.out.setC i v,owL_wrt h.own (Wrt.set X (w.heap.size + 1 + 1) i v) (fun b hb e => by have := h.fpl b hb;omega),h.fpl,h.below.setCell (p := ⟨w.heap.size + 1 + 1,i,none⟩) (show w.heap.size ≤ w.heap.size + 1 + 1 by omega) v⟩
theorem TM.add {w X X' : World} {S O : Array Value} {cs : List Cel} {vs : List Value} {fp : Fp} (h : TM w X S O cs vs fp) {c : Cel} {v : Value} (hN : NewO X X' c v) : ∃ fp',TM w X' S O (cs ++ [c]) (vs ++ [v]) fp' := by
 obtain ⟨f,ho,hf,hb⟩ := hN
 have hol := h.out.lt
 refine ⟨fun b => fp b ∨ f b,h.src.below hb,h.res.below hb,h.out.below hb,owL_append (owL_below h.own hb) (owL_one.2 ho) (fun b h1 h2 => ?_),fun b hb => ?_,h.below.trans (hb.mono h.below.size)⟩
 ·have := owL_lt h.own b h1
  have := hf b h2
  omega
 ·rcases hb with hb | hb
  ·exact h.fpl b hb
  ·have := hf b hb;omega
set_option maxRecDepth 100000 in
set_option maxHeartbeats 3200000 in
theorem toMb_any (A : Ma) (m : Mb) (w : World) (hv : MbS w A m) (hs : szMb m ≤ 1048576) :
  Calls Try.prog 125 #[mbV A m] w fun e w' => AnsMb w w' e m := by
 have HR : Hid (∀ X,Below w.heap.size w X → Calls Try.prog 135 #[.slice A.ra m.rows.length A.rc] X fun e w' => ∃ a' c',e = .returned (.slice a' m.rows.length c') ∧ NewO X w' (lcl 8 rw8 m.rows) (.slice a' m.rows.length c')) := fun X h => toRs_any A.ra A.rc m.rows X (hv.below h).rows hv.fit (by unfold szMb at hs;omega)
 have HG : Hid (∀ X,Below w.heap.size w X → Calls Try.prog 88 #[.slice A.sa m.sung.length A.sc] X fun e w' => ∃ a' c',e = .returned (.slice a' m.sung.length c') ∧ NewO X w' (icl m.sung) (.slice a' m.sung.length c')) := fun X h => toI16 A.sa A.sc m.sung X (hv.below h).sung (by unfold szMb at hs;omega)
 obtain ⟨id,n,rows,sung,done⟩ := m
 obtain ⟨ra,rc,sa,sc⟩ := A
 simp only at HR HG
 have T0 : TM w (((w.alloc (.cells #[.int .i64 id,.int .i64 n,.slice ra rows.length rc,.slice sa sung.length sc,.bool done] 134)).alloc (.cells #[.int .i64 0,.int .i64 0,.slice none 0 0,.slice none 0 0,.bool false] 103)).alloc (.cells #[.int .i64 id,.int .i64 n,.slice none 0 0,.slice none 0 0,.bool false] 103)) #[.int .i64 id,.int .i64 n,.slice ra rows.length rc,.slice sa sung.length sc,.bool done] #[.int .i64 id,.int .i64 n,.slice none 0 0,.slice none 0 0,.bool false] [] [] (fun _ => False) := by
  have x0 := ((Bx.new w 134 #[.int .i64 id,.int .i64 n,.slice ra rows.length rc,.slice sa sung.length sc,.bool done]).alloc (.cells #[.int .i64 0,.int .i64 0,.slice none 0 0,.slice none 0 0,.bool false] 103)).alloc (.cells #[.int .i64 id,.int .i64 n,.slice none 0 0,.slice none 0 0,.bool false] 103)
  have x1 := (Bx.new (w.alloc (.cells #[.int .i64 id,.int .i64 n,.slice ra rows.length rc,.slice sa sung.length sc,.bool done] 134)) 103 #[.int .i64 0,.int .i64 0,.slice none 0 0,.slice none 0 0,.bool false]).alloc (.cells #[.int .i64 id,.int .i64 n,.slice none 0 0,.slice none 0 0,.bool false] 103)
  have x2 := Bx.new ((w.alloc (.cells #[.int .i64 id,.int .i64 n,.slice ra rows.length rc,.slice sa sung.length sc,.bool done] 134)).alloc (.cells #[.int .i64 0,.int .i64 0,.slice none 0 0,.slice none 0 0,.bool false] 103)) 103 #[.int .i64 id,.int .i64 n,.slice none 0 0,.slice none 0 0,.bool false]
  simp only [World.size_alloc] at x1 x2
  exact ⟨x0,x1,x2,⟨rfl,fun _ h => h⟩,fun b h => h.elim,((Below.refl _ _).alloc (Nat.le_refl _) _).alloc (by simp) _ |>.alloc (by simp only [World.size_alloc];omega) _⟩
 have hC1 := HR.out _ T0.below
 have HT0 : Hid (TM w (((w.alloc (.cells #[.int .i64 id,.int .i64 n,.slice ra rows.length rc,.slice sa sung.length sc,.bool done] 134)).alloc (.cells #[.int .i64 0,.int .i64 0,.slice none 0 0,.slice none 0 0,.bool false] 103)).alloc (.cells #[.int .i64 id,.int .i64 n,.slice none 0 0,.slice none 0 0,.bool false] 103)) #[.int .i64 id,.int .i64 n,.slice ra rows.length rc,.slice sa sung.length sc,.bool done] #[.int .i64 id,.int .i64 n,.slice none 0 0,.slice none 0 0,.bool false] [] [] (fun _ => False)) := T0
 unfold mbV mbC
 simp only
 clear hv T0
 go_enter Try.func125,Try.ntmps125
 go_wp2_with fail
 refine hC1.mono ?_
 rintro e w1 ⟨a1,c1,rfl,hN1⟩
 obtain ⟨fp1,T1⟩ := HT0.out.add hN1
 obtain ⟨s0,s1,s2,s3,s4⟩ := Bx.r5 T1.src
 obtain ⟨o0,o1,o2,o3,o4⟩ := Bx.r5 (show Bx _ _ _ #[.int .i64 id,.int .i64 n,.slice none 0 0,.slice none 0 0,.bool false] from T1.out)
 obtain ⟨f0,f1,f2,f3,f4⟩ := T1.out.f5
 have T1s := T1.set 2 (.slice a1 rows.length c1)
 have T1' : TM w (w1.setCell ⟨w.heap.size + 1 + 1,2,none⟩ (.slice a1 rows.length c1)) #[.int .i64 id,.int .i64 n,.slice ra rows.length rc,.slice sa sung.length sc,.bool done] #[.int .i64 id,.int .i64 n,.slice a1 rows.length c1,.slice none 0 0,.bool false] ([] ++ [lcl 8 rw8 rows]) ([] ++ [.slice a1 rows.length c1]) fp1 := by simpa using T1s
 have hC2 := HG.out _ T1'.below
 have HT1 : Hid (TM w (w1.setCell ⟨w.heap.size + 1 + 1,2,none⟩ (.slice a1 rows.length c1)) #[.int .i64 id,.int .i64 n,.slice ra rows.length rc,.slice sa sung.length sc,.bool done] #[.int .i64 id,.int .i64 n,.slice a1 rows.length c1,.slice none 0 0,.bool false] ([] ++ [lcl 8 rw8 rows]) ([] ++ [.slice a1 rows.length c1]) fp1) := T1'
 have x0 : (w1.setCell ⟨w.heap.size + 1 + 1,2,none⟩ (.slice a1 rows.length c1)).cell? ⟨w.heap.size,3,none⟩ = some (.slice sa sung.length sc) := T1'.src.at 3 rfl
 clear hN1 T1 T1s T1' hC1 HT0
 go_wp2_with fail
 refine hC2.mono ?_
 rintro e w2 ⟨a2,c2,rfl,hN2⟩
 clear s0 s1 s2 s3 s4 o0 o1 o2 o3 o4 f0 f1 f2 f3 f4 x0
 obtain ⟨fp2,T2⟩ := HT1.out.add hN2
 have p0 := (show Bx _ _ _ #[.int .i64 id,.int .i64 n,.slice a1 rows.length c1,.slice none 0 0,.bool false] from T2.out).at 3 rfl
 have q0 := T2.out.f 3
 have T2as := T2.set 3 (.slice a2 sung.length c2)
 have T2a : TM w (w2.setCell ⟨w.heap.size + 1 + 1,3,none⟩ (.slice a2 sung.length c2)) #[.int .i64 id,.int .i64 n,.slice ra rows.length rc,.slice sa sung.length sc,.bool done] #[.int .i64 id,.int .i64 n,.slice a1 rows.length c1,.slice a2 sung.length c2,.bool false] (([] ++ [lcl 8 rw8 rows]) ++ [icl sung]) (([] ++ [.slice a1 rows.length c1]) ++ [.slice a2 sung.length c2]) fp2 := by simpa using T2as
 have s4 : (w2.setCell ⟨w.heap.size + 1 + 1,3,none⟩ (.slice a2 sung.length c2)).cell? ⟨w.heap.size,4,none⟩ = _ := T2a.src.at 4 rfl
 have p4 := T2a.out.at 4 rfl
 have q4 := T2a.out.f 4
 have T2bs := T2a.set 4 (.bool done)
 have T2b : TM w ((w2.setCell ⟨w.heap.size + 1 + 1,3,none⟩ (.slice a2 sung.length c2)).setCell ⟨w.heap.size + 1 + 1,4,none⟩ (.bool done)) #[.int .i64 id,.int .i64 n,.slice ra rows.length rc,.slice sa sung.length sc,.bool done] #[.int .i64 id,.int .i64 n,.slice a1 rows.length c1,.slice a2 sung.length c2,.bool done] (([] ++ [lcl 8 rw8 rows]) ++ [icl sung]) (([] ++ [.slice a1 rows.length c1]) ++ [.slice a2 sung.length c2]) fp2 := by simpa using T2bs
 obtain ⟨o0,o1,o2,o3,o4⟩ := Bx.r5 (show Bx _ _ _ #[.int .i64 id,.int .i64 n,.slice a1 rows.length c1,.slice a2 sung.length c2,.bool done] from T2b.out)
 obtain ⟨r0,r1,r2,r3,r4⟩ := Bx.r5 T2b.res
 obtain ⟨f0,f1,f2,f3,f4⟩ := T2b.res.f5
 have HT3 : Hid (TM w ((w2.setCell ⟨w.heap.size + 1 + 1,3,none⟩ (.slice a2 sung.length c2)).setCell ⟨w.heap.size + 1 + 1,4,none⟩ (.bool done)) #[.int .i64 id,.int .i64 n,.slice ra rows.length rc,.slice sa sung.length sc,.bool done] #[.int .i64 id,.int .i64 n,.slice a1 rows.length c1,.slice a2 sung.length c2,.bool done] (([] ++ [lcl 8 rw8 rows]) ++ [icl sung]) (([] ++ [.slice a1 rows.length c1]) ++ [.slice a2 sung.length c2]) fp2) := T2b
 clear hN2 T2 T2as T2a T2bs T2b hC2 HT1
 go_wp2
 refine bodyPost_ret (v := .agg #[.int .i64 id,.int .i64 n,.slice a1 rows.length c1,.slice a2 sung.length c2,.bool done]) (by simp [results,Try.results125,go_sem, *]) rfl ?_
 refine ⟨⟨a1,c1,a2,c2⟩,rfl,fp2,owL_wrt HT3.out.own (wrt5 _ (w.heap.size + 1)) (fun b hb e => by have := HT3.out.fpl b hb;omega),fun b hb => by have := HT3.out.fpl b hb;omega,(wrt5 _ (w.heap.size + 1)).below HT3.out.below HT3.out.below.size (fun b e => by rw [e];omega)⟩
end Go.Proofs.Ytlnmdfgcpfbleaa
namespace Go.Proofs.Ytlnmdfgcpfbleaa
set_option linter.unusedVariables false
set_option linter.unusedSimpArgs false
open Go.RowKit Go.Sort
def zero5 : Array Value := #[.int .i64 0,.int .i64 0,.slice none 0 0,.slice none 0 0,.bool false]
def zero10 : Array Value := #[.int .i64 0,.int .i64 0,.int .i64 0,.slice none 0 0,.slice none 0 0,.slice none 0 0,.bool false,.bool false,.int .i64 0,.slice none 0 0]
theorem ow_zero5 (w : World) : owL w (mb5 zeroMb) zero5.toList (fun _ => False) := ow_mb5 (A := ⟨none,0,none,0⟩) (ow_mb0 w)
theorem ow_zero10 (w : World) : owL w (ml10 zeroMl) zero10.toList (fun _ => False) := owL_v (owL_v (ow_zero8 w))
theorem infoMb18 : (Try.prog.info? 103).map (fun i => (i.zero,i.size,i.bytes)) = some (some (.agg zero5),5,72) := by kernel_rfl
theorem infoMl18 : (Try.prog.info? 139).map (fun i => (i.zero,i.size,i.bytes)) = some (some (.agg zero10),10,136) := by kernel_rfl
theorem makeMs (n : Nat) (hn : n ≤ 1048576) (w : World) :
  (Instr.makeSlice 58 (.int .i64 (n : Int)) (.int .i64 (n : Int))).run Try.prog w = .ok (.slice (some ⟨w.heap.size,0,none⟩) n n) (w.alloc (.cells (madeCells zero5 (n * 5)) 103)) := by
 obtain ⟨i,hi,hz,hs,hb⟩ := info_parts2n infoMb18
 have hr := run_make (P := Try.prog) w 58 103 i _ Try.underlying58 hi hz .i64 .i64 n n (by omega) (Int.le_refl _) (by rw [hb];omega) (by omega)
 simp only [Int.toNat_natCast,hs] at hr
 exact hr
theorem madeMs (w : World) (n : Nat) (hn : n ≤ 1048576) : Cel.ow (w.alloc (.cells (madeCells zero5 (n * 5)) 103)) (lcl 5 mb5 (List.replicate n zeroMb)) (.slice (some ⟨w.heap.size,0,none⟩) n n) (fun b => b = w.heap.size) := by
 have h := osl_made w zero5 5 n 103 rfl (by omega) (by unfold maxLen;omega)
 unfold lcl
 rw [flat_rep,List.length_replicate]
 exact ⟨_,n,_,some w.heap.size,fun _ => False,rfl,OSo.of h,owL_zeros (ow_zero5 _) (fun b h => h) n,fun _ _ h => h,fun b => by simp [eq_comm]⟩
def prM (R : List Mb) (k : Nat) : List Mb := R.take k ++ List.replicate (R.length - k) zeroMb
theorem prM_len {R : List Mb} {k : Nat} (hk : k ≤ R.length) : (prM R k).length = R.length := by simp [prM];omega
theorem prM_at {R : List Mb} {k : Nat} (hk : k < R.length) : (prM R k)[k]? = some zeroMb := by
 have e2 : R.length - k = (R.length - (k + 1)) + 1 := by omega
 have e3 : (R.take k).length = k := by simp;omega
 rw [prM,List.getElem?_append_right (by omega),e2,List.replicate_succ,e3,Nat.sub_self]
 rfl
theorem prM_set {R : List Mb} {k : Nat} (hk : k < R.length) : (prM R k).set k (mbN R k) = prM R (k + 1) := by
 have e : mbN R k = R[k] := by simp [mbN,List.getD,hk]
 have e2 : R.length - k = (R.length - (k + 1)) + 1 := by omega
 have e3 : (R.take k).length = k := by simp;omega
 rw [prM,prM,e,e2,List.replicate_succ,List.set_append_right _ _ (by omega),List.take_succ_eq_append_getElem hk,e3,Nat.sub_self,List.set_cons_zero,List.append_assoc]
 rfl
theorem prM_all (R : List Mb) : prM R R.length = R := by simp [prM]
set_option maxRecDepth 100000 in
set_option maxHeartbeats 3200000 in
theorem toMs_any (a : Option Addr) (cap : Nat) (R : List Mb) (w : World) (hv : Cel.vw w (lcl 5 mb5 R) (.slice a R.length cap)) (hf : ∀ m ∈ R,FitM m) (hs : szMs R ≤ 1048576) :
  Calls Try.prog 95 #[.slice a R.length cap] w fun e w' => ∃ a' c',e = .returned (.slice a' R.length c') ∧ NewO w w' (lcl 5 mb5 R) (.slice a' R.length c') := by
 have HV : Hid (Cel.vw w (lcl 5 mb5 R) (.slice a R.length cap)) := hv
 have hl : R.length ≤ 1048576 := by unfold szMs at hs;omega
 have HSZ : Hid (∀ k,k < R.length → szMb (mbN R k) ≤ 1048576) := fun k hk => szMs_at hs hk
 have hmk := makeMs R.length hl
 have HS : Hid (Cel.ow (w.alloc (.cells (madeCells zero5 (R.length * 5)) 103)) (lcl 5 mb5 (prM R 0)) (.slice (some ⟨w.heap.size,0,none⟩) R.length R.length) (fun b => b = w.heap.size) ∧ Below w.heap.size w (w.alloc (.cells (madeCells zero5 (R.length * 5)) 103))) := by
  refine ⟨?_,oneA16 w _⟩
  have := madeMs w R.length hl
  have e : prM R 0 = List.replicate R.length zeroMb := by simp [prM]
  rw [e]
  exact this
 clear hv
 go_enter Try.func95,Try.ntmps95
 go_wp2_with fail
 clear hmk
 generalize w.alloc (.cells (madeCells zero5 (R.length * 5)) 103) = W0 at *
 go_loopw [4] (fun i wr => ∃ (k : Nat) (fp : Fp),k ≤ R.length ∧ i = .int .i64 k ∧ Cel.ow wr (lcl 5 mb5 (prM R k)) (.slice (some ⟨w.heap.size,0,none⟩) R.length R.length) fp ∧ (∀ b,fp b → w.heap.size ≤ b) ∧ Below w.heap.size w wr) (fun i _ => R.length - (intOf i).toNat)
 case atStart => exact ⟨0,_,Nat.zero_le _,rfl,HS.out.1,fun b h => by rw [h];exact Nat.le_refl _,HS.out.2⟩
 case round =>
  obtain ⟨k,fp,hk,rfl,ho,hfp,hb⟩ := hrel
  by_cases hlt : k < R.length
  ·have k1 : (k : Int) < (R.length : Int) := by omega
   have k0 : (0 : Int) ≤ (k : Int) := by omega
   have hmem : mbN R k ∈ R := List.mem_of_getElem? (mbN_at hlt)
   obtain ⟨g,off,hra,hpv⟩ := vw_elF mb5_len (Cel.vw_below HV.out hb) (mbN_at hlt)
   obtain ⟨Ak,⟨d0,d1,d2,d3,d4⟩,hrs⟩ := hpv.mem (hf _ hmem)
   subst hra
   have hz := HSZ.out k hlt
   have hC := toMb_any Ak (mbN R k) wr hrs hz
   unfold AnsMb mbV mbC at hC
   have hpl := prM_len hk
   rw [← hpl] at ho
   obtain ⟨g1,off1,f1,e1,hfg,hfs,hP,hglt,hput⟩ := ow_elF mb5_len (by omega) ho (prM_at hlt)
   cases e1
   have hput := fun w1 => hput w1 (mbN R k)
   rw [prM_set hlt,hpl] at hput
   simp only [Nat.zero_add] at hP hput
   have HPut : Hid (∀ w1 : World,Bcm wr w1 w.heap.size (k * 5) (mb5 (mbN R k)) f1 → ∃ fp',Cel.ow w1 (lcl 5 mb5 (prM R (k + 1))) (.slice (some ⟨w.heap.size,0,none⟩) R.length R.length) fp' ∧ (∀ b,fp' b → fp b ∨ wr.heap.size ≤ b) ∧ Wrt fp wr w1) := hput
   have HP : Hid (Plc wr w.heap.size (k * 5) (mb5 zeroMb) f1) := hP
   have HB : Hid (Below w.heap.size w wr) := hb
   have HFP : Hid (∀ b,fp b → w.heap.size ≤ b) := hfp
   generalize mbN R k = r at *
   clear hpv hb ho hput hP hz hpl hfs hmem hrs
   go_wp2_with fail
   refine hC.mono ?_
   rintro e w1 ⟨A1,rfl,fr,hl1,hfr,hb1⟩
   have HA := HP.out.all hb1 (ow_mb5 hl1) rfl hfr
   obtain ⟨vs0,hpc,hov,_⟩ := HP.out
   have hl8 : vs0.length = 5 := owL_len hov
   have hpc1 := hpc.of_block (hb1.block _ hpc.lt) hb1.size
   have cc : ∀ j,j < 5 → ∃ u,w1.cell? ⟨w.heap.size,k * 5 + j,none⟩ = some u ∧ w1.frozen? ⟨w.heap.size,k * 5 + j,none⟩ = false := fun j hj => ⟨_,(hpc1.cell j (by omega)).trans (List.getElem?_eq_getElem (by omega)),hpc1.free j (by omega)⟩
   obtain ⟨u0,e0,g0⟩ := cc 0 (by omega)
   obtain ⟨u1,e1,g1⟩ := cc 1 (by omega)
   obtain ⟨u2,e2,g2⟩ := cc 2 (by omega)
   obtain ⟨u3,e3,g3⟩ := cc 3 (by omega)
   obtain ⟨u4,e4,g4⟩ := cc 4 (by omega)
   simp only [Nat.add_zero] at e0 g0
   obtain ⟨fp',hN1,hN2,hN3⟩ := HPut.out _ HA
   have HN1 : Hid (Cel.ow _ (lcl 5 mb5 (prM R (k + 1))) (.slice (some ⟨w.heap.size,0,none⟩) R.length R.length) fp') := hN1
   have HN3 : Hid (Wrt fp wr _) := hN3
   have HN2 : Hid (∀ b,fp' b → fp b ∨ wr.heap.size ≤ b) := hN2
   have hsz := HB.out.size
   clear d0 d1 d2 d3 d4 hC hb1 hN1 hN2 hN3 HA cc hpc1 hov hpc
   try unfold mbV mbC
   go_wp2
   go_roundw
   case rel => exact ⟨k + 1,fp',by omega,by go_num,HN1.out,fun b hb => by have := HFP.out b;rcases HN2.out b hb with h | h;exact this h;omega,HN3.out.below HB.out hsz HFP.out⟩
   case measure => simp [intOf];omega
  ·obtain rfl : k = R.length := by omega
   have k1 : ¬ ((R.length : Int) < (R.length : Int)) := by omega
   have HE : Hid (NewO w wr (lcl 5 mb5 R) (.slice (some ⟨w.heap.size,0,none⟩) R.length R.length)) := by rw [prM_all] at ho;exact ⟨fp,ho,hfp,hb⟩
   clear ho hb
   go_wp2
   go_ret
   exact ⟨_,_,rfl,HE.out⟩
theorem wrt10 (w : World) (g : Nat) (a b c d e f h i j k : Value) : Wrt (fun x => x = g) w ((((((((((w.setCell ⟨g,0,none⟩ a).setCell ⟨g,1,none⟩ b).setCell ⟨g,2,none⟩ c).setCell ⟨g,3,none⟩ d).setCell ⟨g,4,none⟩ e).setCell ⟨g,5,none⟩ f).setCell ⟨g,6,none⟩ h).setCell ⟨g,7,none⟩ i).setCell ⟨g,8,none⟩ j).setCell ⟨g,9,none⟩ k) := Wrt.setCells g [a,b,c,d,e,f,h,i,j,k] 0 w
theorem Bx.f10 {w : World} {B : Nat} {T : TypeId} {cs : Array Value} (h : Bx w B T cs) : (w.frozen? ⟨B,0,none⟩ = false ∧ w.frozen? ⟨B,1,none⟩ = false) ∧ (w.frozen? ⟨B,2,none⟩ = false ∧ w.frozen? ⟨B,3,none⟩ = false ∧ w.frozen? ⟨B,4,none⟩ = false ∧ w.frozen? ⟨B,5,none⟩ = false) ∧ w.frozen? ⟨B,6,none⟩ = false ∧ w.frozen? ⟨B,7,none⟩ = false ∧ w.frozen? ⟨B,8,none⟩ = false ∧ w.frozen? ⟨B,9,none⟩ = false :=
 ⟨⟨h.f 0,h.f 1⟩,⟨h.f 2,h.f 3,h.f 4,h.f 5⟩,h.f 6,h.f 7,h.f 8,h.f 9⟩
set_option maxRecDepth 100000 in
set_option maxHeartbeats 3200000 in
theorem toMl_any (A : Ra) (x : Ml) (w : World) (hv : RwS w A x.row) (hz : szMl x ≤ 1048576) :
  Calls Try.prog 126 #[mlV A x] w fun e w' => ∃ A1 : Ra,e = .returned (mlV A1 x) ∧ NewL w w' (rwCels x.row) (rwVals A1 x.row) := by
 unfold szMl szRw at hz
 have hb0 : Below w.heap.size w (((w.alloc (.cells #[.int .i64 x.fr,.int .i64 x.to,.int .i64 x.row.ver,.slice A.ta x.row.txt.length A.tc,.slice A.ga x.row.got.length A.gc,.slice A.sa x.row.sus.length A.sc,.bool x.row.wed,.bool x.row.rdy,.int .i64 x.row.by_,.slice A.ma x.row.trm.length A.mc] 137)).alloc (.cells #[.int .i64 0,.int .i64 0,.int .i64 0,.slice none 0 0,.slice none 0 0,.slice none 0 0,.bool false,.bool false,.int .i64 0,.slice none 0 0] 139)).alloc (.cells #[.int .i64 x.fr,.int .i64 x.to,.int .i64 0,.slice none 0 0,.slice none 0 0,.slice none 0 0,.bool false,.bool false,.int .i64 0,.slice none 0 0] 139)) := ((Below.refl _ _).alloc (Nat.le_refl _) _).alloc (by simp) _ |>.alloc (by simp only [World.size_alloc];omega) _
 have x0 := ((Bx.new w 137 #[.int .i64 x.fr,.int .i64 x.to,.int .i64 x.row.ver,.slice A.ta x.row.txt.length A.tc,.slice A.ga x.row.got.length A.gc,.slice A.sa x.row.sus.length A.sc,.bool x.row.wed,.bool x.row.rdy,.int .i64 x.row.by_,.slice A.ma x.row.trm.length A.mc]).alloc (.cells #[.int .i64 0,.int .i64 0,.int .i64 0,.slice none 0 0,.slice none 0 0,.slice none 0 0,.bool false,.bool false,.int .i64 0,.slice none 0 0] 139)).alloc (.cells #[.int .i64 x.fr,.int .i64 x.to,.int .i64 0,.slice none 0 0,.slice none 0 0,.slice none 0 0,.bool false,.bool false,.int .i64 0,.slice none 0 0] 139)
 have x1 := (Bx.new (w.alloc (.cells #[.int .i64 x.fr,.int .i64 x.to,.int .i64 x.row.ver,.slice A.ta x.row.txt.length A.tc,.slice A.ga x.row.got.length A.gc,.slice A.sa x.row.sus.length A.sc,.bool x.row.wed,.bool x.row.rdy,.int .i64 x.row.by_,.slice A.ma x.row.trm.length A.mc] 137)) 139 #[.int .i64 0,.int .i64 0,.int .i64 0,.slice none 0 0,.slice none 0 0,.slice none 0 0,.bool false,.bool false,.int .i64 0,.slice none 0 0]).alloc (.cells #[.int .i64 x.fr,.int .i64 x.to,.int .i64 0,.slice none 0 0,.slice none 0 0,.slice none 0 0,.bool false,.bool false,.int .i64 0,.slice none 0 0] 139)
 have x2 := Bx.new ((w.alloc (.cells #[.int .i64 x.fr,.int .i64 x.to,.int .i64 x.row.ver,.slice A.ta x.row.txt.length A.tc,.slice A.ga x.row.got.length A.gc,.slice A.sa x.row.sus.length A.sc,.bool x.row.wed,.bool x.row.rdy,.int .i64 x.row.by_,.slice A.ma x.row.trm.length A.mc] 137)).alloc (.cells #[.int .i64 0,.int .i64 0,.int .i64 0,.slice none 0 0,.slice none 0 0,.slice none 0 0,.bool false,.bool false,.int .i64 0,.slice none 0 0] 139)) 139 #[.int .i64 x.fr,.int .i64 x.to,.int .i64 0,.slice none 0 0,.slice none 0 0,.slice none 0 0,.bool false,.bool false,.int .i64 0,.slice none 0 0]
 simp only [World.size_alloc] at x1 x2
 have hC := toRw_any A x.row _ (hv.below hb0) (by omega) (by omega) (by omega) (by omega)
 unfold mlV mlC
 unfold AnsRw rwV rwC at hC
 have hWW : ∃ W,((w.alloc (.cells #[.int .i64 x.fr,.int .i64 x.to,.int .i64 x.row.ver,.slice A.ta x.row.txt.length A.tc,.slice A.ga x.row.got.length A.gc,.slice A.sa x.row.sus.length A.sc,.bool x.row.wed,.bool x.row.rdy,.int .i64 x.row.by_,.slice A.ma x.row.trm.length A.mc] 137)).alloc (.cells #[.int .i64 0,.int .i64 0,.int .i64 0,.slice none 0 0,.slice none 0 0,.slice none 0 0,.bool false,.bool false,.int .i64 0,.slice none 0 0] 139)).alloc (.cells #[.int .i64 x.fr,.int .i64 x.to,.int .i64 0,.slice none 0 0,.slice none 0 0,.slice none 0 0,.bool false,.bool false,.int .i64 0,.slice none 0 0] 139) = W := ⟨_,rfl⟩
 obtain ⟨W,hWW⟩ := hWW
 rw [hWW] at hb0 x0 x1 x2 hC
 obtain ⟨⟨c0,c1⟩,⟨c2,c3,c4,c5⟩,c6,c7,c8,c9⟩ := Bx.r10 x0
 have HX1 : Hid (Bx W (w.heap.size + 1) 139 #[.int .i64 0,.int .i64 0,.int .i64 0,.slice none 0 0,.slice none 0 0,.slice none 0 0,.bool false,.bool false,.int .i64 0,.slice none 0 0]) := x1
 have HX2 : Hid (Bx W (w.heap.size + 1 + 1) 139 #[.int .i64 x.fr,.int .i64 x.to,.int .i64 0,.slice none 0 0,.slice none 0 0,.slice none 0 0,.bool false,.bool false,.int .i64 0,.slice none 0 0]) := x2
 have HB0 : Hid (Below w.heap.size w W) := hb0
 clear hv hb0 x0 x1 x2 hz
 go_enter Try.func126,Try.ntmps126
 go_upto_region 5 with (go_at_call 41;refine hC.mono ?_;rintro e w1 ⟨A1,rfl,fr,hl1,hfr,hb1⟩;clear c0 c1 c2 c3 c4 c5 c6 c7 c8 c9;have hx2 := (HX2.out.below hb1);obtain ⟨⟨c0,c1⟩,⟨c2,c3,c4,c5⟩,c6,c7,c8,c9⟩ := (Bx.r10 hx2);obtain ⟨⟨f0,f1⟩,⟨f2,f3,f4,f5⟩,f6,f7,f8,f9⟩ := hx2.f10)
 have hx3 := (((((((hx2.setC 2 (.int .i64 x.row.ver)).setC 3 (.slice A1.ta x.row.txt.length A1.tc)).setC 4 (.slice A1.ga x.row.got.length A1.gc)).setC 5 (.slice A1.sa x.row.sus.length A1.sc)).setC 6 (.bool x.row.wed)).setC 7 (.bool x.row.rdy)).setC 8 (.int .i64 x.row.by_)).setC 9 (.slice A1.ma x.row.trm.length A1.mc)
 have hw3 : Wrt (fun b => b = w.heap.size + 1 + 1) w1 _ := Wrt.setCells (w.heap.size + 1 + 1) [.int .i64 x.row.ver,.slice A1.ta x.row.txt.length A1.tc,.slice A1.ga x.row.got.length A1.gc,.slice A1.sa x.row.sus.length A1.sc,.bool x.row.wed,.bool x.row.rdy,.int .i64 x.row.by_,.slice A1.ma x.row.trm.length A1.mc] 2 w1
 have hs1 := HB0.out.size
 have hs2 := hb1.size
 have hlo := HX2.out.lt
 have hl3 := owL_wrt hl1 hw3 (fun b hb e => by have := hfr b hb;omega)
 have hb3 := hw3.below (HB0.out.trans (hb1.mono HB0.out.size)) (by omega) (fun b e => by omega)
 have hx4 := (HX1.out.below hb1).wrt hw3 (by omega)
 simp only [World.setCells] at hl3 hb3 hx4
 clear c0 c1 c2 c3 c4 c5 c6 c7 c8 c9 f0 f1 f2 f3 f4 f5 f6 f7 f8 f9 hx2 hw3 hC
 generalize ((((((((w1.setCell ⟨w.heap.size + 1 + 1,2,none⟩ (.int .i64 x.row.ver)).setCell ⟨w.heap.size + 1 + 1,3,none⟩ (.slice A1.ta x.row.txt.length A1.tc)).setCell ⟨w.heap.size + 1 + 1,4,none⟩ (.slice A1.ga x.row.got.length A1.gc)).setCell ⟨w.heap.size + 1 + 1,5,none⟩ (.slice A1.sa x.row.sus.length A1.sc)).setCell ⟨w.heap.size + 1 + 1,6,none⟩ (.bool x.row.wed)).setCell ⟨w.heap.size + 1 + 1,7,none⟩ (.bool x.row.rdy)).setCell ⟨w.heap.size + 1 + 1,8,none⟩ (.int .i64 x.row.by_)).setCell ⟨w.heap.size + 1 + 1,9,none⟩ (.slice A1.ma x.row.trm.length A1.mc)) = W5 at *
 have hx5 : Bx W5 (w.heap.size + 1 + 1) 139 #[.int .i64 x.fr,.int .i64 x.to,.int .i64 x.row.ver,.slice A1.ta x.row.txt.length A1.tc,.slice A1.ga x.row.got.length A1.gc,.slice A1.sa x.row.sus.length A1.sc,.bool x.row.wed,.bool x.row.rdy,.int .i64 x.row.by_,.slice A1.ma x.row.trm.length A1.mc] := by simpa using hx3
 obtain ⟨⟨c0,c1⟩,⟨c2,c3,c4,c5⟩,c6,c7,c8,c9⟩ := Bx.r10 hx5
 obtain ⟨⟨d0,d1⟩,⟨d2,d3,d4,d5⟩,d6,d7,d8,d9⟩ := Bx.r10 hx4
 obtain ⟨⟨f0,f1⟩,⟨f2,f3,f4,f5⟩,f6,f7,f8,f9⟩ := hx4.f10
 have HN : Hid (∀ (a b c d e f h i j k : Value),NewL w ((((((((((W5.setCell ⟨w.heap.size + 1,0,none⟩ a).setCell ⟨w.heap.size + 1,1,none⟩ b).setCell ⟨w.heap.size + 1,2,none⟩ c).setCell ⟨w.heap.size + 1,3,none⟩ d).setCell ⟨w.heap.size + 1,4,none⟩ e).setCell ⟨w.heap.size + 1,5,none⟩ f).setCell ⟨w.heap.size + 1,6,none⟩ h).setCell ⟨w.heap.size + 1,7,none⟩ i).setCell ⟨w.heap.size + 1,8,none⟩ j).setCell ⟨w.heap.size + 1,9,none⟩ k) (rwCels x.row) (rwVals A1 x.row)) := fun a b c d e f h i j k => ⟨fr,owL_wrt hl3 (wrt10 W5 _ a b c d e f h i j k) (fun b hb e => by have := hfr b hb;omega),fun b hb => by have := hfr b hb;omega,(wrt10 W5 _ a b c d e f h i j k).below hb3 hb3.size (fun b e => by omega)⟩
 clear hx3 hx4 hx5 hl1 hl3 hb1 hb3 hfr
 go_wp2
 refine bodyPost_ret (v := .agg #[.int .i64 x.fr,.int .i64 x.to,.int .i64 x.row.ver,.slice A1.ta x.row.txt.length A1.tc,.slice A1.ga x.row.got.length A1.gc,.slice A1.sa x.row.sus.length A1.sc,.bool x.row.wed,.bool x.row.rdy,.int .i64 x.row.by_,.slice A1.ma x.row.trm.length A1.mc]) (by simp [results,Try.results126,go_sem, *]) rfl ?_
 exact ⟨A1,rfl,HN.out _ _ _ _ _ _ _ _ _ _⟩
theorem makeLs (n : Nat) (hn : n ≤ 1048576) (w : World) :
  (Instr.makeSlice 59 (.int .i64 (n : Int)) (.int .i64 (n : Int))).run Try.prog w = .ok (.slice (some ⟨w.heap.size,0,none⟩) n n) (w.alloc (.cells (madeCells zero10 (n * 10)) 139)) := by
 obtain ⟨i,hi,hz,hs,hb⟩ := info_parts2n infoMl18
 have hr := run_make (P := Try.prog) w 59 139 i _ Try.underlying59 hi hz .i64 .i64 n n (by omega) (Int.le_refl _) (by rw [hb];omega) (by omega)
 simp only [Int.toNat_natCast,hs] at hr
 exact hr
theorem madeLs (w : World) (n : Nat) (hn : n ≤ 1048576) : Cel.ow (w.alloc (.cells (madeCells zero10 (n * 10)) 139)) (lcl 10 ml10 (List.replicate n zeroMl)) (.slice (some ⟨w.heap.size,0,none⟩) n n) (fun b => b = w.heap.size) := by
 have h := osl_made w zero10 10 n 139 rfl (by omega) (by unfold maxLen;omega)
 unfold lcl
 rw [flat_rep,List.length_replicate]
 exact ⟨_,n,_,some w.heap.size,fun _ => False,rfl,OSo.of h,owL_zeros (ow_zero10 _) (fun b h => h) n,fun _ _ h => h,fun b => by simp [eq_comm]⟩
def prL (R : List Ml) (k : Nat) : List Ml := R.take k ++ List.replicate (R.length - k) zeroMl
theorem prL_len {R : List Ml} {k : Nat} (hk : k ≤ R.length) : (prL R k).length = R.length := by simp [prL];omega
theorem prL_at {R : List Ml} {k : Nat} (hk : k < R.length) : (prL R k)[k]? = some zeroMl := by
 have e2 : R.length - k = (R.length - (k + 1)) + 1 := by omega
 have e3 : (R.take k).length = k := by simp;omega
 rw [prL,List.getElem?_append_right (by omega),e2,List.replicate_succ,e3,Nat.sub_self]
 rfl
theorem prL_set {R : List Ml} {k : Nat} (hk : k < R.length) : (prL R k).set k (mlN R k) = prL R (k + 1) := by
 have e : mlN R k = R[k] := by simp [mlN,List.getD,hk]
 have e2 : R.length - k = (R.length - (k + 1)) + 1 := by omega
 have e3 : (R.take k).length = k := by simp;omega
 rw [prL,prL,e,e2,List.replicate_succ,List.set_append_right _ _ (by omega),List.take_succ_eq_append_getElem hk,e3,Nat.sub_self,List.set_cons_zero,List.append_assoc]
 rfl
theorem prL_all (R : List Ml) : prL R R.length = R := by simp [prL]
set_option maxRecDepth 100000 in
set_option maxHeartbeats 3200000 in
theorem toLs_any (a : Option Addr) (cap : Nat) (R : List Ml) (w : World) (hv : Cel.vw w (lcl 10 ml10 R) (.slice a R.length cap)) (hf : ∀ x ∈ R,FitR x.row) (hs : szLs R ≤ 1048576) :
  Calls Try.prog 97 #[.slice a R.length cap] w fun e w' => ∃ a' c',e = .returned (.slice a' R.length c') ∧ NewO w w' (lcl 10 ml10 R) (.slice a' R.length c') := by
 have HV : Hid (Cel.vw w (lcl 10 ml10 R) (.slice a R.length cap)) := hv
 have hl : R.length ≤ 1048576 := by unfold szLs at hs;omega
 have HSZ : Hid (∀ k,k < R.length → szMl (mlN R k) ≤ 1048576) := fun k hk => szLs_at hs hk
 have hmk := makeLs R.length hl
 have HS : Hid (Cel.ow (w.alloc (.cells (madeCells zero10 (R.length * 10)) 139)) (lcl 10 ml10 (prL R 0)) (.slice (some ⟨w.heap.size,0,none⟩) R.length R.length) (fun b => b = w.heap.size) ∧ Below w.heap.size w (w.alloc (.cells (madeCells zero10 (R.length * 10)) 139))) := by
  refine ⟨?_,oneA16 w _⟩
  have := madeLs w R.length hl
  have e : prL R 0 = List.replicate R.length zeroMl := by simp [prL]
  rw [e]
  exact this
 clear hv
 go_enter Try.func97,Try.ntmps97
 go_wp2_with fail
 clear hmk
 generalize w.alloc (.cells (madeCells zero10 (R.length * 10)) 139) = W0 at *
 go_loopw [4] (fun i wr => ∃ (k : Nat) (fp : Fp),k ≤ R.length ∧ i = .int .i64 k ∧ Cel.ow wr (lcl 10 ml10 (prL R k)) (.slice (some ⟨w.heap.size,0,none⟩) R.length R.length) fp ∧ (∀ b,fp b → w.heap.size ≤ b) ∧ Below w.heap.size w wr) (fun i _ => R.length - (intOf i).toNat)
 case atStart => exact ⟨0,_,Nat.zero_le _,rfl,HS.out.1,fun b h => by rw [h];exact Nat.le_refl _,HS.out.2⟩
 case round =>
  obtain ⟨k,fp,hk,rfl,ho,hfp,hb⟩ := hrel
  by_cases hlt : k < R.length
  ·have k1 : (k : Int) < (R.length : Int) := by omega
   have k0 : (0 : Int) ≤ (k : Int) := by omega
   have hmem : mlN R k ∈ R := List.mem_of_getElem? (mlN_at hlt)
   obtain ⟨g,off,hra,hpv⟩ := vw_elF ml10_len (Cel.vw_below HV.out hb) (mlN_at hlt)
   obtain ⟨Ak,⟨d0,d1⟩,⟨d2,d3,d4,d5⟩,d6,d7,d8,d9,hrs⟩ := hpv.mlr (hf _ hmem)
   subst hra
   have hz := HSZ.out k hlt
   have hC := toMl_any Ak (mlN R k) wr hrs hz
   unfold mlV mlC at hC
   have hpl := prL_len hk
   rw [← hpl] at ho
   obtain ⟨g1,off1,f1,e1,hfg,hfs,hP,hglt,hput⟩ := ow_elF ml10_len (by omega) ho (prL_at hlt)
   cases e1
   have hput := fun w1 => hput w1 (mlN R k)
   rw [prL_set hlt,hpl] at hput
   simp only [Nat.zero_add] at hP hput
   have HPut : Hid (∀ w1 : World,Bcm wr w1 w.heap.size (k * 10) (ml10 (mlN R k)) f1 → ∃ fp',Cel.ow w1 (lcl 10 ml10 (prL R (k + 1))) (.slice (some ⟨w.heap.size,0,none⟩) R.length R.length) fp' ∧ (∀ b,fp' b → fp b ∨ wr.heap.size ≤ b) ∧ Wrt fp wr w1) := hput
   have HP : Hid (Plc wr w.heap.size (k * 10) (ml10 zeroMl) f1) := hP
   have HB : Hid (Below w.heap.size w wr) := hb
   have HFP : Hid (∀ b,fp b → w.heap.size ≤ b) := hfp
   generalize mlN R k = r at *
   clear hpv hb ho hput hP hz hpl hfs hmem hrs
   go_wp2_with fail
   refine hC.mono ?_
   rintro e w1 ⟨A1,rfl,fr,hl1,hfr,hb1⟩
   have HA := HP.out.all hb1 (ow_ml10 hl1) rfl hfr
   obtain ⟨vs0,hpc,hov,_⟩ := HP.out
   have hl8 : vs0.length = 10 := owL_len hov
   have hpc1 := hpc.of_block (hb1.block _ hpc.lt) hb1.size
   have cc : ∀ j,j < 10 → ∃ u,w1.cell? ⟨w.heap.size,k * 10 + j,none⟩ = some u ∧ w1.frozen? ⟨w.heap.size,k * 10 + j,none⟩ = false := fun j hj => ⟨_,(hpc1.cell j (by omega)).trans (List.getElem?_eq_getElem (by omega)),hpc1.free j (by omega)⟩
   obtain ⟨u0,e0,g0⟩ := cc 0 (by omega)
   obtain ⟨u1,e1,g1⟩ := cc 1 (by omega)
   obtain ⟨u2,e2,g2⟩ := cc 2 (by omega)
   obtain ⟨u3,e3,g3⟩ := cc 3 (by omega)
   obtain ⟨u4,e4,g4⟩ := cc 4 (by omega)
   obtain ⟨u5,e5,g5⟩ := cc 5 (by omega)
   obtain ⟨u6,e6,g6⟩ := cc 6 (by omega)
   obtain ⟨u7,e7,g7⟩ := cc 7 (by omega)
   obtain ⟨u8,e8,g8⟩ := cc 8 (by omega)
   obtain ⟨u9,e9,g9⟩ := cc 9 (by omega)
   simp only [Nat.add_zero] at e0 g0
   obtain ⟨fp',hN1,hN2,hN3⟩ := HPut.out _ HA
   have HN1 : Hid (Cel.ow _ (lcl 10 ml10 (prL R (k + 1))) (.slice (some ⟨w.heap.size,0,none⟩) R.length R.length) fp') := hN1
   have HN3 : Hid (Wrt fp wr _) := hN3
   have HN2 : Hid (∀ b,fp' b → fp b ∨ wr.heap.size ≤ b) := hN2
   have hsz := HB.out.size
   clear d0 d1 d2 d3 d4 d5 d6 d7 d8 d9 hC hb1 hN1 hN2 hN3 HA cc hpc1 hov hpc
   try unfold mlV mlC
   go_wp2
   go_roundw
   case rel => exact ⟨k + 1,fp',by omega,by go_num,HN1.out,fun b hb => by have := HFP.out b;rcases HN2.out b hb with h | h;exact this h;omega,HN3.out.below HB.out hsz HFP.out⟩
   case measure => simp [intOf];omega
  ·obtain rfl : k = R.length := by omega
   have k1 : ¬ ((R.length : Int) < (R.length : Int)) := by omega
   have HE : Hid (NewO w wr (lcl 10 ml10 R) (.slice (some ⟨w.heap.size,0,none⟩) R.length R.length)) := by rw [prL_all] at ho;exact ⟨fp,ho,hfp,hb⟩
   clear ho hb
   go_wp2
   go_ret
   exact ⟨_,_,rfl,HE.out⟩
attribute [local irreducible] sv
structure TG (w X : World) (S O : Array Value) (cs : List Cel) (vs : List Value) (fp : Fp) : Prop where
 src : Bx X w.heap.size 55 S
 res : Bx X (w.heap.size + 1) 61 #[.slice none 0 0,.slice none 0 0,.slice none 0 0]
 out : Bx X (w.heap.size + 1 + 1) 61 O
 own : owL X cs vs fp
 fpl : ∀ b,fp b → w.heap.size + 1 + 1 < b
 below : Below w.heap.size w X
theorem TG.set {w X : World} {S O : Array Value} {cs : List Cel} {vs : List Value} {fp : Fp} (h : TG w X S O cs vs fp) (i : Nat) (v : Value) : TG w (X.setCell ⟨w.heap.size + 1 + 1,i,none⟩ v) S (O.setIfInBounds i v) cs vs fp :=
 ⟨h.src.far (by omega) v,h.res.far (by omega) v,h.out.setC i v,owL_wrt h.own (Wrt.set X (w.heap.size + 1 + 1) i v) (fun b hb e => by have := h.fpl b hb;omega),h.fpl,h.below.setCell (p := ⟨w.heap.size + 1 + 1,i,none⟩) (show w.heap.size ≤ w.heap.size + 1 + 1 by omega) v⟩
theorem TG.add {w X X' : World} {S O : Array Value} {cs : List Cel} {vs : List Value} {fp : Fp} (h : TG w X S O cs vs fp) {c : Cel} {v : Value} (hN : NewO X X' c v) : ∃ fp',TG w X' S O (cs ++ [c]) (vs ++ [v]) fp' := by
 obtain ⟨f,ho,hf,hb⟩ := hN
 have hol := h.out.lt
 refine ⟨fun b => fp b ∨ f b,h.src.below hb,h.res.below hb,h.out.below hb,owL_append (owL_below h.own hb) (owL_one.2 ho) (fun b h1 h2 => ?_),fun b hb => ?_,h.below.trans (hb.mono h.below.size)⟩
 ·have := owL_lt h.own b h1
  have := hf b h2
  omega
 ·rcases hb with hb | hb
  ·exact h.fpl b hb
  ·have := hf b hb;omega
set_option maxRecDepth 100000 in
set_option maxHeartbeats 3200000 in
theorem toGr_any (A : Ga) (g : Gr) (w : World) (hv : GrS w A g) (hs : szGr g ≤ 1048576) :
  Calls Try.prog 45 #[grV A g] w fun e w' => AnsGr w w' e g := by
 unfold szGr at hs
 have HM : Hid (∀ X,Below w.heap.size w X → Calls Try.prog 95 #[.slice A.ma g.mem.length A.mc] X fun e w' => ∃ a' c',e = .returned (.slice a' g.mem.length c') ∧ NewO X w' (lcl 5 mb5 g.mem) (.slice a' g.mem.length c')) := fun X h => toMs_any A.ma A.mc g.mem X (hv.below h).mem hv.fit.1 (by omega)
 have HU : Hid (∀ X,Below w.heap.size w X → Calls Try.prog 96 #[.slice A.ua g.up.length A.uc] X fun e w' => ∃ a' c',e = .returned (.slice a' g.up.length c') ∧ NewO X w' (ocl g.up) (.slice a' g.up.length c')) := fun X h => toF_any A.ua A.uc g.up X (hv.below h).up (by omega)
 have HL : Hid (∀ X,Below w.heap.size w X → Calls Try.prog 97 #[.slice A.la g.mail.length A.lc] X fun e w' => ∃ a' c',e = .returned (.slice a' g.mail.length c') ∧ NewO X w' (lcl 10 ml10 g.mail) (.slice a' g.mail.length c')) := fun X h => toLs_any A.la A.lc g.mail X (hv.below h).mail hv.fit.2 (by omega)
 have T0 : TG w (((w.alloc (.cells #[.slice A.ma g.mem.length A.mc,.slice A.ua g.up.length A.uc,.slice A.la g.mail.length A.lc] 55)).alloc (.cells #[.slice none 0 0,.slice none 0 0,.slice none 0 0] 61)).alloc (.cells #[.slice none 0 0,.slice none 0 0,.slice none 0 0] 61)) #[.slice A.ma g.mem.length A.mc,.slice A.ua g.up.length A.uc,.slice A.la g.mail.length A.lc] #[.slice none 0 0,.slice none 0 0,.slice none 0 0] [] [] (fun _ => False) := by
  have x0 := ((Bx.new w 55 #[.slice A.ma g.mem.length A.mc,.slice A.ua g.up.length A.uc,.slice A.la g.mail.length A.lc]).alloc (.cells #[.slice none 0 0,.slice none 0 0,.slice none 0 0] 61)).alloc (.cells #[.slice none 0 0,.slice none 0 0,.slice none 0 0] 61)
  have x1 := (Bx.new (w.alloc (.cells #[.slice A.ma g.mem.length A.mc,.slice A.ua g.up.length A.uc,.slice A.la g.mail.length A.lc] 55)) 61 #[.slice none 0 0,.slice none 0 0,.slice none 0 0]).alloc (.cells #[.slice none 0 0,.slice none 0 0,.slice none 0 0] 61)
  have x2 := Bx.new ((w.alloc (.cells #[.slice A.ma g.mem.length A.mc,.slice A.ua g.up.length A.uc,.slice A.la g.mail.length A.lc] 55)).alloc (.cells #[.slice none 0 0,.slice none 0 0,.slice none 0 0] 61)) 61 #[.slice none 0 0,.slice none 0 0,.slice none 0 0]
  simp only [World.size_alloc] at x1 x2
  exact ⟨x0,x1,x2,⟨rfl,fun _ h => h⟩,fun b h => h.elim,((Below.refl _ _).alloc (Nat.le_refl _) _).alloc (by simp) _ |>.alloc (by simp only [World.size_alloc];omega) _⟩
 have hWW : ∃ W,((w.alloc (.cells #[.slice A.ma g.mem.length A.mc,.slice A.ua g.up.length A.uc,.slice A.la g.mail.length A.lc] 55)).alloc (.cells #[.slice none 0 0,.slice none 0 0,.slice none 0 0] 61)).alloc (.cells #[.slice none 0 0,.slice none 0 0,.slice none 0 0] 61) = W := ⟨_,rfl⟩
 obtain ⟨W,hWW⟩ := hWW
 rw [hWW] at T0
 have hC1 := HM.out _ T0.below
 obtain ⟨s0,s1,s2⟩ := Bx.g3 T0.src
 have HT0 : Hid (TG w W #[.slice A.ma g.mem.length A.mc,.slice A.ua g.up.length A.uc,.slice A.la g.mail.length A.lc] #[.slice none 0 0,.slice none 0 0,.slice none 0 0] [] [] (fun _ => False)) := T0
 unfold grV grC
 clear hv T0 hs
 go_enter Try.func45,Try.ntmps45
 go_wp2_with fail
 refine hC1.mono ?_
 rintro e w1 ⟨a1,c1,rfl,hN1⟩
 obtain ⟨fp1,T1⟩ := HT0.out.add hN1
 clear s0 s1 s2
 have o0 := T1.out.at 0 rfl
 have z0 := T1.out.f 0
 have T1s := T1.set 0 (.slice a1 g.mem.length c1)
 have T1' : TG w (w1.setCell ⟨w.heap.size + 1 + 1,0,none⟩ (.slice a1 g.mem.length c1)) #[.slice A.ma g.mem.length A.mc,.slice A.ua g.up.length A.uc,.slice A.la g.mail.length A.lc] #[.slice a1 g.mem.length c1,.slice none 0 0,.slice none 0 0] ([] ++ [lcl 5 mb5 g.mem]) ([] ++ [.slice a1 g.mem.length c1]) fp1 := by simpa using T1s
 have hC2 := HU.out _ T1'.below
 have HT1 : Hid (TG w (w1.setCell ⟨w.heap.size + 1 + 1,0,none⟩ (.slice a1 g.mem.length c1)) #[.slice A.ma g.mem.length A.mc,.slice A.ua g.up.length A.uc,.slice A.la g.mail.length A.lc] #[.slice a1 g.mem.length c1,.slice none 0 0,.slice none 0 0] ([] ++ [lcl 5 mb5 g.mem]) ([] ++ [.slice a1 g.mem.length c1]) fp1) := T1'
 have t1 := T1'.src.at 1 rfl
 clear hN1 T1 T1s T1' hC1 HT0
 go_wp2_with fail
 refine hC2.mono ?_
 rintro e w2 ⟨a2,c2,rfl,hN2⟩
 clear o0 z0 t1
 obtain ⟨fp2,T2⟩ := HT1.out.add hN2
 have o1 := (show Bx _ _ _ #[.slice a1 g.mem.length c1,.slice none 0 0,.slice none 0 0] from T2.out).at 1 rfl
 have z1 := T2.out.f 1
 have T2s := T2.set 1 (.slice a2 g.up.length c2)
 have T2' : TG w (w2.setCell ⟨w.heap.size + 1 + 1,1,none⟩ (.slice a2 g.up.length c2)) #[.slice A.ma g.mem.length A.mc,.slice A.ua g.up.length A.uc,.slice A.la g.mail.length A.lc] #[.slice a1 g.mem.length c1,.slice a2 g.up.length c2,.slice none 0 0] (([] ++ [lcl 5 mb5 g.mem]) ++ [ocl g.up]) (([] ++ [.slice a1 g.mem.length c1]) ++ [.slice a2 g.up.length c2]) fp2 := by simpa using T2s
 have hC3 := HL.out _ T2'.below
 have HT2 : Hid (TG w (w2.setCell ⟨w.heap.size + 1 + 1,1,none⟩ (.slice a2 g.up.length c2)) #[.slice A.ma g.mem.length A.mc,.slice A.ua g.up.length A.uc,.slice A.la g.mail.length A.lc] #[.slice a1 g.mem.length c1,.slice a2 g.up.length c2,.slice none 0 0] (([] ++ [lcl 5 mb5 g.mem]) ++ [ocl g.up]) (([] ++ [.slice a1 g.mem.length c1]) ++ [.slice a2 g.up.length c2]) fp2) := T2'
 have t2 := T2'.src.at 2 rfl
 clear hN2 T2 T2s T2' hC2 HT1
 go_wp2_with fail
 refine hC3.mono ?_
 rintro e w3 ⟨a3,c3,rfl,hN3⟩
 clear o1 z1 t2
 obtain ⟨fp3,T3⟩ := HT2.out.add hN3
 have o2 := (show Bx _ _ _ #[.slice a1 g.mem.length c1,.slice a2 g.up.length c2,.slice none 0 0] from T3.out).at 2 rfl
 have z2 := T3.out.f 2
 have T3s := T3.set 2 (.slice a3 g.mail.length c3)
 have T3' : TG w (w3.setCell ⟨w.heap.size + 1 + 1,2,none⟩ (.slice a3 g.mail.length c3)) #[.slice A.ma g.mem.length A.mc,.slice A.ua g.up.length A.uc,.slice A.la g.mail.length A.lc] #[.slice a1 g.mem.length c1,.slice a2 g.up.length c2,.slice a3 g.mail.length c3] ((([] ++ [lcl 5 mb5 g.mem]) ++ [ocl g.up]) ++ [lcl 10 ml10 g.mail]) ((([] ++ [.slice a1 g.mem.length c1]) ++ [.slice a2 g.up.length c2]) ++ [.slice a3 g.mail.length c3]) fp3 := by simpa using T3s
 obtain ⟨y0,y1,y2⟩ := Bx.g3 T3'.out
 obtain ⟨r0,r1,r2⟩ := Bx.g3 T3'.res
 obtain ⟨f0,f1,f2⟩ := T3'.res.f3
 have HT3 : Hid (TG w (w3.setCell ⟨w.heap.size + 1 + 1,2,none⟩ (.slice a3 g.mail.length c3)) #[.slice A.ma g.mem.length A.mc,.slice A.ua g.up.length A.uc,.slice A.la g.mail.length A.lc] #[.slice a1 g.mem.length c1,.slice a2 g.up.length c2,.slice a3 g.mail.length c3] ((([] ++ [lcl 5 mb5 g.mem]) ++ [ocl g.up]) ++ [lcl 10 ml10 g.mail]) ((([] ++ [.slice a1 g.mem.length c1]) ++ [.slice a2 g.up.length c2]) ++ [.slice a3 g.mail.length c3]) fp3) := T3'
 clear hN3 T3 T3s T3' hC3 HT2
 go_wp2
 refine bodyPost_ret (v := .agg #[.slice a1 g.mem.length c1,.slice a2 g.up.length c2,.slice a3 g.mail.length c3]) (by simp [results,Try.results45,go_sem, *]) rfl ?_
 refine ⟨⟨a1,c1,a2,c2,a3,c3⟩,rfl,fp3,owL_wrt HT3.out.own (wrtG3 _ (w.heap.size + 1)) (fun b hb e => by have := HT3.out.fpl b hb;omega),fun b hb => by have := HT3.out.fpl b hb;omega,(wrtG3 _ (w.heap.size + 1)).below HT3.out.below HT3.out.below.size (fun b e => by rw [e];omega)⟩
end Go.Proofs.Ytlnmdfgcpfbleaa
namespace Go.Proofs.Ytlnmdfgcpfbleaa
set_option linter.unusedVariables false
set_option linter.unusedSimpArgs false
open Go.RowKit Go.Sort
def m3 (k : Int) : Bool := k % 3 == 0
end Go.Proofs.Ytlnmdfgcpfbleaa
namespace Go.Proofs.Ytlnmdfgcpfbleaa
set_option linter.unusedVariables false
set_option linter.unusedSimpArgs false
open Go.RowKit Go.Sort
end Go.Proofs.Ytlnmdfgcpfbleaa
namespace Go.Proofs.Ytlnmdfgcpfbleaa
set_option linter.unusedVariables false
set_option linter.unusedSimpArgs false
open Go.RowKit Go.Sort
theorem owL_two {w : World} {c1 c2 : Cel} {v1 v2 : Value} {f : Fp} (h : owL w [c1,c2] [v1,v2] f) : ∃ f1 f2,Cel.ow w c1 v1 f1 ∧ Cel.ow w c2 v2 f2 ∧ (∀ b,f1 b → ¬ f2 b) ∧ ∀ b,f b ↔ f1 b ∨ f2 b := by
 obtain ⟨u1,us1,f1,g1,e1,o1,h2,d1,i1⟩ := h
 cases e1
 obtain ⟨u2,us2,f2,g2,e2,o2,h3,d2,i2⟩ := h2
 cases e2
 have hg : ∀ b,¬ g2 b := h3.2
 refine ⟨f1,f2,o1,o2,fun b h1 h2 => d1 b h1 ((i2 b).2 (.inl h2)),fun b => ?_⟩
 rw [i1,i2]
 exact ⟨fun h => h.imp id (fun h => h.elim id (fun h => absurd h (hg b))),fun h => h.imp id .inl⟩
end Go.Proofs.Ytlnmdfgcpfbleaa
namespace Go.Proofs.Ytlnmdfgcpfbleaa
set_option linter.unusedVariables false
set_option linter.unusedSimpArgs false
open Go.RowKit Go.Sort
end Go.Proofs.Ytlnmdfgcpfbleaa
namespace Go.Proofs.Ytlnmdfgcpfbleaa
set_option linter.unusedVariables false
set_option linter.unusedSimpArgs false
open Go.RowKit Go.Sort
end Go.Proofs.Ytlnmdfgcpfbleaa
namespace Go.Proofs.Ytlnmdfgcpfbleaa
set_option linter.unusedVariables false
set_option linter.unusedSimpArgs false
open Go.RowKit Go.Sort
end Go.Proofs.Ytlnmdfgcpfbleaa
namespace Go.Proofs.Ytlnmdfgcpfbleaa
set_option linter.unusedVariables false
set_option linter.unusedSimpArgs false
open Go.RowKit Go.Sort
end Go.Proofs.Ytlnmdfgcpfbleaa
namespace Go.Proofs.Ytlnmdfgcpfbleaa
set_option linter.unusedVariables false
set_option linter.unusedSimpArgs false
open Go.RowKit Go.Sort
def hadB (R : List Rw) (n : Nat) (q : Int) : Bool := decide (q.toNat / n < (rowN R (q.toNat % n)).txt.length)
def txtOf (R : List Rw) (n : Nat) (q : Int) : List UInt8 := (rowN R (q.toNat % n)).txt.getD (q.toNat / n) []
def voiL (m : Mb) : List (List UInt8) × Bool := if m.sung.all (hadB m.rows m.k) = true then (m.sung.map (txtOf m.rows m.k),true) else ([],false)
attribute [local irreducible] sv
end Go.Proofs.Ytlnmdfgcpfbleaa
namespace Go.Proofs.Ytlnmdfgcpfbleaa
set_option linter.unusedVariables false
set_option linter.unusedSimpArgs false
open Go.RowKit Go.Sort
end Go.Proofs.Ytlnmdfgcpfbleaa
namespace Go.Proofs.Ytlnmdfgcpfbleaa
set_option linter.unusedVariables false
set_option linter.unusedSimpArgs false
open Go.RowKit Go.Sort
def Mb64 (m : Mb) : Prop := I64v m.id ∧ I64v m.n ∧ ∀ r ∈ m.rows,Rw64 r
structure MbP (w : World) (A : Ma) (m : Mb) : Prop where
 own : ∃ f,owL w (mbCels m) (mbVals A m) f
 fit : FitM m
 i64 : Mb64 m
 sz : szMb m ≤ 1048576
attribute [local irreducible] sv
end Go.Proofs.Ytlnmdfgcpfbleaa
namespace Go.Proofs.Ytlnmdfgcpfbleaa
set_option linter.unusedVariables false
set_option linter.unusedSimpArgs false
open Go.RowKit Go.Sort
def Gr64 (g : Gr) : Prop := (∀ m ∈ g.mem,Mb64 m) ∧ ∀ x ∈ g.mail,I64v x.fr ∧ I64v x.to ∧ Rw64 x.row
structure GrP (w : World) (A : Ga) (g : Gr) : Prop where
 own : ∃ f,owL w (gr3 g) (grVals A g) f
 fit : FitG g
 i64 : Gr64 g
 sz : szGr g ≤ 1048576
theorem it_grs {w : World} {A : Ga} {g : Gr} {lo hi : Nat} (h : It w (gr3 g) (grVals A g) lo hi) (hf : FitG g) : GrS w A g := grs_of h.vw hf
theorem it_grp {w : World} {A : Ga} {g : Gr} {lo hi : Nat} (h : It w (gr3 g) (grVals A g) lo hi) (hf : FitG g) (h6 : Gr64 g) (hs : szGr g ≤ 1048576) : GrP w A g := ⟨h.imp (fun _ h => h.1),hf,h6,hs⟩
theorem AnsGr.it {w w' : World} {e : Ending} {g : Gr} (h : AnsGr w w' e g) : ∃ A,e = .returned (grV A g) ∧ It w' (gr3 g) (grVals A g) w.heap.size w'.heap.size ∧ Below w.heap.size w w' := by
 obtain ⟨A,h1,h2⟩ := h
 exact ⟨A,h1,It.of_new h2,h2.choose_spec.2.2⟩
end Go.Proofs.Ytlnmdfgcpfbleaa
namespace Go.Proofs.Ytlnmdfgcpfbleaa
set_option linter.unusedVariables false
set_option linter.unusedSimpArgs false
open Go.RowKit Go.Sort
end Go.Proofs.Ytlnmdfgcpfbleaa
namespace Go.Proofs.Ytlnmdfgcpfbleaa
set_option linter.unusedVariables false
set_option linter.unusedSimpArgs false
open Go.RowKit Go.Sort
end Go.Proofs.Ytlnmdfgcpfbleaa
namespace Go.Proofs.Ytlnmdfgcpfbleaa
set_option linter.unusedVariables false
set_option linter.unusedSimpArgs false
open Go.RowKit Go.Sort
def ownT (g : Gr) (k : Nat) : List Int := (rowN (memN g k).rows k).trm
def endGo (g : Gr) : Nat → Nat → List Int → Bool
 | 0,_,_ => true
 | f + 1,k,t => if (memN g k).done = true then (if 0 < t.length ∧ ¬ t = ownT g k then false else endGo g f (k + 1) (ownT g k)) else endGo g f (k + 1) t
def oneB (g : Gr) : Bool := okGr g && endGo g g.mem.length 0 []
theorem endGo_stop {g : Gr} {f k : Nat} {t : List Int} (hd : (memN g k).done = true) (h : 0 < t.length) (hn : ¬ t = ownT g k) : endGo g (f + 1) k t = false := by rw [endGo,if_pos hd,if_pos ⟨h,hn⟩]
theorem endGo_on {g : Gr} {f k : Nat} {t : List Int} (hd : (memN g k).done = true) (h : ¬ (0 < t.length ∧ ¬ t = ownT g k)) : endGo g (f + 1) k t = endGo g f (k + 1) (ownT g k) := by rw [endGo,if_pos hd,if_neg h]
theorem endGo_skip {g : Gr} {f k : Nat} {t : List Int} (hd : (memN g k).done = false) : endGo g (f + 1) k t = endGo g f (k + 1) t := by rw [endGo,if_neg (by rw [hd];simp)]
set_option maxRecDepth 100000 in
set_option maxHeartbeats 3200000 in
theorem oneS_any (A : Ga) (g : Gr) (w : World) (hv : GrS w A g) :
  Calls Try.prog 44 #[grV A g] w fun e w' => e = .returned (.bool (oneB g)) ∧ Below w.heap.size w w' := by
 have hB0 := oneA16 w (.cells (grC A g) 61)
 have hx := Bx.new w 61 (grC A g)
 have h0 := hv.below hB0
 have lm := hv.lm
 unfold maxLen at lm
 have hG := grkS_any A g (w.alloc (.cells (grC A g) 61)) h0
 unfold grV at *
 unfold grC at *
 generalize hW : w.alloc (.cells #[.slice A.ma g.mem.length A.mc,.slice A.ua g.up.length A.uc,.slice A.la g.mail.length A.lc] 61) = W at *
 have HX : Hid (Bx W w.heap.size 61 #[.slice A.ma g.mem.length A.mc,.slice A.ua g.up.length A.uc,.slice A.la g.mail.length A.lc]) := hx
 have HV : Hid (GrS W A g) := h0
 have HB0 : Hid (∀ X,Below W.heap.size W X → Below w.heap.size w X) := fun X h => hB0.trans (h.mono hB0.size)
 obtain ⟨c0,c1,c2⟩ := Bx.g3 hx
 clear hv hx h0 hB0
 go_enter Try.func44,Try.ntmps44
 go_wp2_with fail
 refine hG.mono ?_
 rintro e w1 ⟨rfl,hb1⟩
 have HB1 : Hid (Below W.heap.size W w1) := hb1
 clear c0 c1 c2
 obtain ⟨c0,c1,c2⟩ := Bx.g3 (HX.out.below hb1)
 clear hb1 hG hW
 cases hok : okGr g with
 | false =>
  have HZ : Hid (oneB g = false) := by rw [Hid,oneB,hok];rfl
  clear hok
  go_wp2
  go_ret
  exact ⟨ret_bool HZ.out.symm,HB0.out _ HB1.out⟩
 | true =>
  have HZ : Hid (oneB g = endGo g g.mem.length 0 []) := by rw [Hid,oneB,hok];rfl
  obtain ⟨n,ok⟩ := okGr_iff.1 hok
  have HOK : Hid (OkG g n) := ok
  have HN : Hid (g.mem.length = n) := ok.ml
  have hb2 := oneA16 w1 (.cells #[] 2)
  have HB2 : Hid (Below W.heap.size W (w1.alloc (.cells #[] 2))) := HB1.out.trans (hb2.mono HB1.out.size)
  clear hok ok hb2
  go_wp2
  generalize w1.alloc (.cells #[] 2) = W2 at *
  clear c0 c1 c2
  go_loopw [3,4] (fun v i wr => ∃ (k : Nat) (t : List Int) (a : Option Addr) (c : Nat),k ≤ g.mem.length ∧ i = .int .i64 (k : Int) ∧ v = .slice a t.length c ∧ Hid (endGo g g.mem.length 0 [] = endGo g (g.mem.length - k) k t) ∧ Vec wr a t.length t ∧ t.length ≤ maxLen ∧ Below W.heap.size W wr) (fun _ i _ => g.mem.length - (intOf i).toNat)
  case atStart => exact ⟨0,[],_,_,Nat.zero_le _,rfl,rfl,rfl,⟨rfl,by simp,.inl rfl⟩,by unfold maxLen;simp,HB2.out⟩
  case round =>
   obtain ⟨k,t,a,c,hk,rfl,rfl,hE,hT,htm,hgr⟩ := hrel
   have HG : Hid (Below W.heap.size W wr) := hgr
   have HT : Hid (Vec wr a t.length t) := hT
   have HTM : Hid (t.length ≤ maxLen) := htm
   obtain ⟨c0,c1,c2⟩ := Bx.g3 (HX.out.below hgr)
   clear hT
   unfold maxLen at htm
   by_cases hlt : k < g.mem.length
   ·have k1 : (k : Int) < (g.mem.length : Int) := by omega
    have k0 : (0 : Int) ≤ (k : Int) := by omega
    obtain ⟨f,hf⟩ : ∃ f,Hid (g.mem.length - k = f + 1) := ⟨g.mem.length - k - 1,by show _ = _;omega⟩
    have HF : Hid (g.mem.length - (k + 1) = f) := by have := hf.out;show _ = _;omega
    rw [hf.out] at hE
    have okm := HOK.out.mem k (by rw [← HN.out];exact hlt)
    have hkr : k < (memN g k).rows.length := by rw [okm.len,← HN.out];exact hlt
    have k2 : (k : Int) < ((memN g k).rows.length : Int) := by omega
    obtain ⟨b,off,Ak,hma,⟨d0,d1,d2,d3,d4⟩,hms⟩ := (HV.out.below hgr).member (k := k) hlt
    obtain ⟨b',off',Ar,hra,⟨⟨e0,e1,e2,e3⟩,e4,e5,e6,e7⟩,hrs⟩ := hms.row (k := k) hkr
    rw [hra] at d2
    rw [hma] at c0
    have HRT : Hid (∀ X,Below wr.heap.size wr X → Vec X Ar.ma (ownT g k).length (ownT g k)) := fun X h => (hrs.below h).trm
    have HRM : Hid ((ownT g k).length ≤ maxLen) := hrs.mm
    have e7' : wr.cell? ⟨b',off' + k * 8 + 7,none⟩ = some (.slice Ar.ma (ownT g k).length Ar.mc) := e7
    clear hma hra hms hrs okm d0 d1 d3 e0 e1 e2 e3 e4 e5 e6 e7 hgr
    cases hd : (memN g k).done with
    | false =>
     have HE : Hid (endGo g g.mem.length 0 [] = endGo g f (k + 1) t) := by rw [Hid,hE.out];exact endGo_skip hd
     rw [hd] at d4
     clear hd hE
     go_wp2
     go_roundw
     case rel => exact ⟨k + 1,t,a,c,by omega,by go_num,rfl,by rw [HF.out];exact HE.out,HT.out,HTM.out,HG.out⟩
     case measure => simp [intOf];omega
    | true =>
     rw [hd] at d4
     have HD : Hid ((memN g k).done = true) := hd
     clear hd
     by_cases h0 : t.length = 0
     ·have g0 : ¬ ((t.length : Int) > 0) := by omega
      have HE : Hid (endGo g g.mem.length 0 [] = endGo g f (k + 1) (ownT g k)) := by rw [Hid,hE.out];exact endGo_on HD.out (fun h => by omega)
      clear hE
      go_wp2
      go_roundw
      case rel => exact ⟨k + 1,ownT g k,Ar.ma,Ar.mc,by omega,by go_num,rfl,by rw [HF.out];exact HE.out,HRT.out _ (Below.refl _ _),HRM.out,HG.out⟩
      case measure => simp [intOf];omega
     ·have g0 : ((t.length : Int) > 0) := by omega
      have hC := (l1Same_any a Ar.ma t.length c (ownT g k).length Ar.mc t (ownT g k) wr HT.out (HRT.out _ (Below.refl _ _)) HTM.out)
      by_cases he : t = ownT g k
      ·have HE : Hid (endGo g g.mem.length 0 [] = endGo g f (k + 1) (ownT g k)) := by rw [Hid,hE.out];exact endGo_on HD.out (fun h => h.2 he)
       rw [decide_eq_true he] at hC
       clear hE he
       go_wp2_with (go_at_call 94;refine hC.mono ?_;rintro e w3 ⟨rfl,n3,rfl⟩)
       go_roundw
       case rel => exact ⟨k + 1,ownT g k,Ar.ma,Ar.mc,by omega,by go_num,rfl,by rw [HF.out];exact HE.out,HRT.out _ (belowN (Below.refl _ _)),HRM.out,HG.out.trans ((belowN (Below.refl _ _)).mono HG.out.size)⟩
       case measure => simp [intOf];omega
      ·have HE : Hid (endGo g g.mem.length 0 [] = false) := by rw [Hid,hE.out];exact endGo_stop HD.out (by omega) he
       rw [decide_eq_false he] at hC
       clear hE he
       go_wp2_with (go_at_call 94;refine hC.mono ?_;rintro e w3 ⟨rfl,n3,rfl⟩)
       go_ret
       exact ⟨ret_bool (by rw [HZ.out,HE.out]),HB0.out _ (HG.out.trans ((belowN (Below.refl _ _)).mono HG.out.size))⟩
   ·have k1 : ¬ ((k : Int) < (g.mem.length : Int)) := by omega
    have HE : Hid (endGo g g.mem.length 0 [] = true) := by rw [Hid,hE.out,show g.mem.length - k = 0 by omega];rfl
    go_wp2
    go_ret
    exact ⟨ret_bool (by rw [HZ.out,HE.out]),HB0.out _ HG.out⟩
end Go.Proofs.Ytlnmdfgcpfbleaa
namespace Go.Proofs.Ytlnmdfgcpfbleaa
set_option linter.unusedVariables false
set_option linter.unusedSimpArgs false
open Go.RowKit Go.Sort
def dnK (g : Gr) (k : Nat) : List Int := lN ((List.range k).filter (fun i => (memN g i).done))
theorem dnK_len (g : Gr) (k : Nat) : (dnK g k).length ≤ k := by
 unfold dnK
 rw [lN_len]
 have := List.length_filter_le (fun i => (memN g i).done) (List.range k)
 simpa using this
theorem dnK_more (g : Gr) (k : Nat) : dnK g (k + 1) = if (memN g k).done = true then dnK g k ++ [(k : Int)] else dnK g k := by
 unfold dnK
 rw [List.range_succ,List.filter_append]
 cases h : (memN g k).done <;> simp [h,lN]
end Go.Proofs.Ytlnmdfgcpfbleaa
namespace Go.Proofs.Ytlnmdfgcpfbleaa
set_option linter.unusedVariables false
set_option linter.unusedSimpArgs false
open Go.RowKit Go.Sort
def voN (g : Gr) (i : Nat) : List (List UInt8) := (voiL (memN g i)).1
def q4 (g : Gr) (i k j h : Nat) : Bool := !(decide (el (memN g i).sung k = el (memN g j).sung h) && !decide ((voN g i).getD k [] = (voN g j).getD h []))
end Go.Proofs.Ytlnmdfgcpfbleaa
namespace Go.Proofs.Ytlnmdfgcpfbleaa
set_option linter.unusedVariables false
set_option linter.unusedSimpArgs false
open Go.RowKit Go.Sort
attribute [local irreducible] sv
end Go.Proofs.Ytlnmdfgcpfbleaa
namespace Go.Proofs.Ytlnmdfgcpfbleaa
set_option linter.unusedVariables false
set_option linter.unusedSimpArgs false
open Go.RowKit Go.Sort
def ImplOneEnd : Prop := ∀ (A : Ga) (g : Gr) (w : World),GrP w A g → Calls Try.prog 46 #[grV A g] w fun e w' => e = .returned (.bool (oneB g)) ∧ Below w.heap.size w w'
end Go.Proofs.Ytlnmdfgcpfbleaa
namespace Go.Proofs.Ytlnmdfgcpfbleaa
set_option linter.unusedVariables false
set_option linter.unusedSimpArgs false
open Go.RowKit Go.Sort
set_option maxRecDepth 100000 in
set_option maxHeartbeats 6400000 in
theorem lawOneEnd (hI : ImplOneEnd) (A0 : Ga) (g : Gr) (w : World) (hv0 : GrS w A0 g) (hg0 : LongG g) (h60 : Gr64 g) :
  Calls Try.prog 6 #[grV A0 g] w fun e w' => e = .returned (.bool true) ∧ Below w.heap.size w w' := by
 have hf0 : FitG g := hv0.fit
 have hZ0 : ∀ (X : World) (left : Int),Below w.heap.size w X → (0 ≤ left ∧ left ≤ 1048576) → Calls Try.prog 43 #[grV A0 g,.int .i64 left] X fun e w' => ∃ q : Int,e = .returned (.int .i64 q) ∧ (q = -1 ∨ 0 ≤ q ∧ q + (szGr g : Int) = left) ∧ Below X.heap.size X w' := fun X left hX hl => szGr_any A0 g left X (hv0.below hX) hg0 hl
 have hTo0 : szGr g ≤ 1048576 → ∀ X,Below w.heap.size w X → Calls Try.prog 45 #[grV A0 g] X fun e w' => ∃ A',e = .returned (grV A' g) ∧ It w' (gr3 g) (grVals A' g) X.heap.size w'.heap.size ∧ Below X.heap.size X w' := fun hs X hX => (toGr_any A0 g X (hv0.below hX) hs).mono (fun e w' h => h.it)
 have hE0 : szGr g ≤ 1048576 → ∀ (X : World) (A1 A2 : Ga) {l1 h1 l2 h2 : Nat},It X (gr3 g) (grVals A1 g) l1 h1 → It X (gr3 g) (grVals A2 g) l2 h2 → Calls Try.prog 47 #[grV A1 g,grV A2 g] X fun e w' => e = .returned (.bool true) ∧ Below X.heap.size X w' := fun hs X A1 A2 l1 h1 l2 h2 i1 i2 => eqGr_any A1 A2 g X (it_grs i1 hf0) (it_grs i2 hf0)
 have hSp : szGr g ≤ 1048576 → ∀ (X : World) (B0 : Ga) {l0 u0 : Nat},It X (gr3 g) (grVals B0 g) l0 u0 → Calls Try.prog 44 #[grV B0 g] X fun e w' => e = .returned (.bool (oneB g)) ∧ Below X.heap.size X w' := fun hs0 X B0 l0 u0 i0 => oneS_any B0 g X (it_grs i0 hf0)
 have hIm : szGr g ≤ 1048576 → ∀ (X : World) (B0 : Ga) {l0 u0 : Nat},It X (gr3 g) (grVals B0 g) l0 u0 → Calls Try.prog 46 #[grV B0 g] X fun e w' => e = .returned (.bool (oneB g)) ∧ Below X.heap.size X w' := fun hs0 X B0 l0 u0 i0 => hI B0 g X (it_grp i0 hf0 h60 hs0)
 generalize oneB g = Q at *
 have ne : (Q != Q) = false := by simp
 clear hI hv0
 unfold grV grC at *
 have hb00 : Below w.heap.size w w := Below.refl _ _
 have b2 := oneA16 w (.cells #[.slice A0.ma g.mem.length A0.mc,.slice A0.ua g.up.length A0.uc,.slice A0.la g.mail.length A0.lc] 55)
 have h3 := Bx.new w 55 #[.slice A0.ma g.mem.length A0.mc,.slice A0.ua g.up.length A0.uc,.slice A0.la g.mail.length A0.lc]
 generalize hX1 : w.alloc (.cells #[.slice A0.ma g.mem.length A0.mc,.slice A0.ua g.up.length A0.uc,.slice A0.la g.mail.length A0.lc] 55) = X1 at *
 have B5 : Below w.heap.size w X1 := hb00.trans (b2.mono hb00.size)
 have sB5 : w.heap.size ≤ X1.heap.size := b2.size
 clear hb00
 have k4 : w.heap.size < X1.heap.size := h3.lt
 clear b2
 go_enter Try.func6,Try.ntmps6
 obtain ⟨c60,c61,c62⟩ := Bx.g3 h3
 go_wp2_with fail
 refine (hZ0 X1 1048576 B5 ⟨by omega,by omega⟩).mono ?_
 rintro e z0 ⟨q0,rfl,hq0,hbz0⟩
 clear c60 c61 c62
 have B7 : Below w.heap.size w z0 := B5.trans (hbz0.mono B5.size)
 have sB7 : X1.heap.size ≤ z0.heap.size := hbz0.size
 have h8 := h3.below hbz0
 clear B5 h3
 rcases hq0 with rfl | ⟨hqa0,hqb0⟩
 ·go_wp2
  go_ret
  exact ⟨rfl,B7⟩
 have hqn0 : decide (q0 < 0) = false := by simp;omega
 have hs0 : szGr g ≤ 1048576 := by omega
 have hT0 := hTo0 hs0
 have hEE0 := hE0 hs0
 have hS2 := hSp hs0
 have hI2 := hIm hs0
 clear hSp hIm hTo0 hE0 hZ0
 obtain ⟨c90,c91,c92⟩ := Bx.g3 h8
 go_wp2_with fail
 refine (hT0 z0 B7).mono ?_
 rintro e s0 ⟨As0,rfl,is0,hbs0⟩
 clear c90 c91 c92
 have B10 : Below w.heap.size w s0 := B7.trans (hbs0.mono B7.size)
 have sB10 : z0.heap.size ≤ s0.heap.size := hbs0.size
 have h11 := h8.below hbs0
 clear B7 h8
 go_wp2_with fail
 refine (hS2 s0 _ is0).mono ?_
 rintro e ws ⟨rfl,hbws⟩
 have B12 : Below w.heap.size w ws := B10.trans (hbws.mono B10.size)
 have sB12 : s0.heap.size ≤ ws.heap.size := hbws.size
 have h13 := h11.below hbws
 have h14 := is0.below hbws
 clear B10 h11 is0
 clear h14
 obtain ⟨c150,c151,c152⟩ := Bx.g3 h13
 go_wp2_with fail
 refine (hT0 ws B12).mono ?_
 rintro e wx0 ⟨Ax0,rfl,ix0,hbx0⟩
 clear c150 c151 c152
 have B16 : Below w.heap.size w wx0 := B12.trans (hbx0.mono B12.size)
 have sB16 : ws.heap.size ≤ wx0.heap.size := hbx0.size
 have h17 := h13.below hbx0
 clear B12 h13
 have b19 := oneA16 wx0 (.cells #[.slice Ax0.ma g.mem.length Ax0.mc,.slice Ax0.ua g.up.length Ax0.uc,.slice Ax0.la g.mail.length Ax0.lc] 61)
 have h20 := Bx.new wx0 61 #[.slice Ax0.ma g.mem.length Ax0.mc,.slice Ax0.ua g.up.length Ax0.uc,.slice Ax0.la g.mail.length Ax0.lc]
 generalize hX18 : wx0.alloc (.cells #[.slice Ax0.ma g.mem.length Ax0.mc,.slice Ax0.ua g.up.length Ax0.uc,.slice Ax0.la g.mail.length Ax0.lc] 61) = X18 at *
 have B22 : Below w.heap.size w X18 := B16.trans (b19.mono B16.size)
 have sB22 : wx0.heap.size ≤ X18.heap.size := b19.size
 have h23 := h17.below b19
 have h24 := ix0.below b19
 clear B16 h17 ix0
 have k21 : wx0.heap.size < X18.heap.size := h20.lt
 clear b19
 obtain ⟨c250,c251,c252⟩ := Bx.g3 h20
 go_wp2_with fail
 refine (hI2 X18 _ h24).mono ?_
 rintro e wi ⟨rfl,hbi⟩
 have B26 : Below w.heap.size w wi := B22.trans (hbi.mono B22.size)
 have sB26 : X18.heap.size ≤ wi.heap.size := hbi.size
 have h27 := h23.below hbi
 have h28 := h24.below hbi
 have h29 := h20.below hbi
 clear B22 h23 h24 h20
 clear c250 c251 c252
 have KS : ∀ X,Below wi.heap.size wi X → (X.cell? ⟨w.heap.size,0,none⟩ = some (.slice A0.ma g.mem.length A0.mc) ∧ X.cell? ⟨w.heap.size,1,none⟩ = some (.slice A0.ua g.up.length A0.uc) ∧ X.cell? ⟨w.heap.size,2,none⟩ = some (.slice A0.la g.mail.length A0.lc)) ∧ (X.cell? ⟨wx0.heap.size,0,none⟩ = some (.slice Ax0.ma g.mem.length Ax0.mc) ∧ X.cell? ⟨wx0.heap.size,1,none⟩ = some (.slice Ax0.ua g.up.length Ax0.uc) ∧ X.cell? ⟨wx0.heap.size,2,none⟩ = some (.slice Ax0.la g.mail.length Ax0.lc)) := fun X hX => ⟨Bx.g3 (h27.below hX),Bx.g3 (h29.below hX)⟩
 have bd : Below wi.heap.size wi (wi.drewN 1) := belowN (Below.refl _ _)
 have hTo2 := fun X (h : Below wi.heap.size wi X) => hT0 X (B26.trans (h.mono B26.size))
 have hEq2 := fun X (A7 : Ga) (h : Below wi.heap.size wi X) (h7 : ∃ lo hi,It X (gr3 g) (grVals A7 g) lo hi) => hEE0 X Ax0 A7 (h28.below h) h7.choose_spec.choose_spec
 go_wp2_with fail
 go_region_held3 (fun X => (X.cell? ⟨w.heap.size,0,none⟩ = some (.slice A0.ma g.mem.length A0.mc) ∧ X.cell? ⟨w.heap.size,1,none⟩ = some (.slice A0.ua g.up.length A0.uc) ∧ X.cell? ⟨w.heap.size,2,none⟩ = some (.slice A0.la g.mail.length A0.lc)) ∧ (X.cell? ⟨wx0.heap.size,0,none⟩ = some (.slice Ax0.ma g.mem.length Ax0.mc) ∧ X.cell? ⟨wx0.heap.size,1,none⟩ = some (.slice Ax0.ua g.up.length Ax0.uc) ∧ X.cell? ⟨wx0.heap.size,2,none⟩ = some (.slice Ax0.la g.mail.length Ax0.lc)))
  (first | exact KS _ b8 | exact KS _ b7b | exact KS _ bd)
  (first
   | (go_at_call 45;refine (hTo2 _ bd).mono ?_;rintro e t0 ⟨A7,rfl,i7,hb7⟩;have b7b : Below wi.heap.size wi t0 := bd.trans (hb7.mono bd.size))
   | (go_at_call 47;refine (hEq2 t0 A7 b7b ⟨_,_,i7⟩).mono ?_;rintro e u0 ⟨rfl,hb8⟩;have b8 : Below wi.heap.size wi u0 := b7b.trans (hb8.mono b7b.size)))
 clear KS bd hTo2 hEq2 i7 hb7 b7b hb8
 have B30 : Below w.heap.size w u0 := B26.trans (b8.mono B26.size)
 have sB30 : wi.heap.size ≤ u0.heap.size := b8.size
 have h31 := h27.below b8
 have h32 := h28.below b8
 have h33 := h29.below b8
 clear B26 h27 h28 h29
 go_wp2
 go_ret
 exact ⟨rfl,B30⟩
end Go.Proofs.Ytlnmdfgcpfbleaa
namespace Go.Proofs.Ytlnmdfgcpfbleaa
set_option linter.unusedVariables false
set_option linter.unusedSimpArgs false
open Go.ChangeShapes Go.WideShapes Go.ChangeAt Go.RowKit Go.Deep
section
variable {H : Type} {enc : TypeId × Value → H} {P : Program} {W : World} {base : Nat} {held : Bool}
theorem field_of {t : TypeId} {fs : Array Field} {fuel : Nat} {cs : List Value} {x : DataW H × List MemPlace} (ht : P.underlying t = some (.struct fs)) (hone : oneCellFields P fs = true) (h : DataW.trod enc P W base (fun _ => true) held fuel t cs = some x) :
  cs.length = P.cellsOf t ∧ ∃ n,∀ (i : Nat) (f : Field) (c : Value),fs[i]? = some f → cs[i]? = some c → ∃ y,DataW.trod enc P W base (fun _ => true) held n f.type [c] = some y := by
 obtain ⟨xs,n,_,rfl,hl,hlen,hf⟩ := DataW.trod_struct ht h
 refine ⟨hl,n,fun i f c hi hc => ?_⟩
 obtain ⟨o,k⟩ := hone_of hone i f hi
 have h1 := hf i f hi
 have hix : i < xs.length := by
  rw [hlen]
  exact (Array.getElem?_eq_some_iff.1 hi).1
 have e : (cs.drop i).take 1 = [c] := by
  have hic := (List.getElem?_eq_some_iff.1 hc).1
  have hcc := (List.getElem?_eq_some_iff.1 hc).2
  rw [List.drop_eq_getElem_cons hic,hcc]
  rfl
 rw [o,k,e,List.getElem?_eq_getElem hix] at h1
 exact ⟨_,h1⟩
theorem str_short16 {s : ByteArray} (h : s.size ≤ maxLen) : s.data.toList.length ≤ 9223372036854775807 := by
 have e : s.data.toList.length = s.size := by rw [Array.length_toList];rfl
 rw [e]
 unfold maxLen at h
 exact h
end
theorem list8 {α : Type} {l : List α} (h : l.length = 8) : ∃ c0 c1 c2 c3 c4 c5 c6 c7,l = [c0,c1,c2,c3,c4,c5,c6,c7] := by
 match l,h with
 | [c0,c1,c2,c3,c4,c5,c6,c7],_ => exact ⟨c0,c1,c2,c3,c4,c5,c6,c7,rfl⟩
end Go.Proofs.Ytlnmdfgcpfbleaa