/-
  Texts in one: Mbc Mbf Olx Qtl Mbg Mbd Mbh Mcl Mcm Mcn.
-/
import Derived.Test.YthioodpmgifomaaGreatJad
import Derived.Test.YthioodpmgifomaaGreatJab
import Derived.Test.YthioodpmgifomaaGreatJaa
import Derived.Test.YthioodpmgifomaaGreatJac
import Derived.StillTail
import Derived.Deep.Quiet
import Derived.BigQuiet
namespace Go.Proofs.YthioodpmgifomaaGreat
set_option linter.unusedVariables false
set_option linter.unusedSimpArgs false
open Go.RowKit Go.Sort
theorem pair_len {hi : Int} : ∀ {l : List Int} {lo : Int},l.Pairwise (· < ·) → (∀ x ∈ l,lo ≤ x ∧ x < hi) → (l.length : Int) ≤ max 0 (hi - lo)
 | [],lo,_,_ => by simp;omega
 | x :: l,lo,hp,h => by
  have h1 := List.pairwise_cons.1 hp
  have hx := h x List.mem_cons_self
  have := pair_len (lo := x + 1) h1.2 (fun y hy => ⟨by have := h1.1 y hy;omega,(h y (List.mem_cons_of_mem _ hy)).2⟩)
  simp only [List.length_cons]
  omega
theorem OkR.sl {r : Rw} {n : Nat} (h : OkR r n) : r.sus.length ≤ n := by
 have := pair_len (lo := 0) (hi := (n : Int)) (ris_iff.1 h.ris) h.sus
 omega
theorem OkR.ml {r : Rw} {n : Nat} (h : OkR r n) : r.trm.length ≤ n := by
 cases e : r.rdy with
 | true => have := (h.rdy e).2.2.2.1;omega
 | false => rw [(h.not e).2];simp
def LnR (r : Rw) : Prop := r.txt.length ≤ 1000000 ∧ r.got.length ≤ 1000000 ∧ r.sus.length ≤ 1000000 ∧ r.trm.length ≤ 1000000
theorem OkR.ln {r : Rw} {n : Nat} (h : OkR r n) : LnR r := ⟨by have := h.tl;omega,by have := h.gl;have := h.n5;omega,by have := h.sl;have := h.n5;omega,by have := h.ml;have := h.n5;omega⟩
def LnM (m : Mb) : Prop := m.rows.length ≤ 1000000 ∧ m.sung.length ≤ 1000000 ∧ ∀ r ∈ m.rows,LnR r
theorem OkM.rowOk {m : Mb} {i n : Nat} (h : OkM m i n) : ∀ r ∈ m.rows,OkR r n := by
 intro r hr
 obtain ⟨j,hj,rfl⟩ := List.mem_iff_getElem.1 hr
 have := h.ok j (by rw [← h.len];exact hj)
 simpa [rowN,List.getD,hj] using this
theorem OkM.ln {m : Mb} {i n : Nat} (h : OkM m i n) : LnM m := ⟨by have := h.len;have := h.n5;omega,by have := h.sl;omega,fun r hr => (h.rowOk r hr).ln⟩
theorem cp_start (w : World) (A : Ma) (m : Mb) : Bx (((w.alloc (.cells (mbC A m) 27)).alloc (.cells #[.int .i64 0,.int .i64 0,.slice none 0 0,.slice none 0 0,.bool false] 27)).alloc (.cells (mbC A m) 27)) w.heap.size 27 (mbC A m) ∧
  Bx (((w.alloc (.cells (mbC A m) 27)).alloc (.cells #[.int .i64 0,.int .i64 0,.slice none 0 0,.slice none 0 0,.bool false] 27)).alloc (.cells (mbC A m) 27)) (w.heap.size + 1) 27 #[.int .i64 0,.int .i64 0,.slice none 0 0,.slice none 0 0,.bool false] ∧
  Bx (((w.alloc (.cells (mbC A m) 27)).alloc (.cells #[.int .i64 0,.int .i64 0,.slice none 0 0,.slice none 0 0,.bool false] 27)).alloc (.cells (mbC A m) 27)) (w.heap.size + 1 + 1) 27 (mbC A m) ∧
  Below w.heap.size w (((w.alloc (.cells (mbC A m) 27)).alloc (.cells #[.int .i64 0,.int .i64 0,.slice none 0 0,.slice none 0 0,.bool false] 27)).alloc (.cells (mbC A m) 27)) := by
 have x0 := ((Bx.new w 27 (mbC A m)).alloc (.cells #[.int .i64 0,.int .i64 0,.slice none 0 0,.slice none 0 0,.bool false] 27)).alloc (.cells (mbC A m) 27)
 have x1 := (Bx.new (w.alloc (.cells (mbC A m) 27)) 27 #[.int .i64 0,.int .i64 0,.slice none 0 0,.slice none 0 0,.bool false]).alloc (.cells (mbC A m) 27)
 have x2 := Bx.new ((w.alloc (.cells (mbC A m) 27)).alloc (.cells #[.int .i64 0,.int .i64 0,.slice none 0 0,.slice none 0 0,.bool false] 27)) 27 (mbC A m)
 simp only [World.size_alloc] at x1 x2
 exact ⟨x0,x1,x2,((Below.refl _ _).alloc (Nat.le_refl _) _).alloc (by simp) _ |>.alloc (by simp only [World.size_alloc];omega) _⟩
theorem cp_sung {w X : World} {o : Nat} {A : Ma} {m : Mb} (ho : Bx X o 27 (mbC A m)) (hlo : w.heap.size ≤ o) (hb : Below w.heap.size w X) (hv : Vec w A.sa m.sung.length m.sung) (hl : m.sung.length ≤ 1000000) :
  ∀ Z,Same Z (X.alloc (.cells #[] 2)) → ∃ v' w4,(Builtin.append_ #[25,25] 25 #[.slice (some ⟨X.heap.size,0,none⟩) 0 0,.slice A.sa m.sung.length A.sc]).run Tryz.prog Z = .ok v' w4 ∧
   ∃ a' c',v' = .slice a' m.sung.length c' ∧ w4.cell? ⟨o,3,none⟩ = some (.slice A.sa m.sung.length A.sc) ∧ w4.frozen? ⟨o,3,none⟩ = false ∧
    ∃ W,W = w4.setCell ⟨o,3,none⟩ (.slice a' m.sung.length c') ∧ Below o X W ∧ W.cell? ⟨o,2,none⟩ = some (.slice A.ra m.rows.length A.rc) ∧ W.frozen? ⟨o,2,none⟩ = false ∧ Below o X ((W.alloc (.cells #[] 37)).setCell ⟨o,2,none⟩ (.slice (some ⟨W.heap.size,0,none⟩) 0 0)) ∧ ∃ fp,MO w ((W.alloc (.cells #[] 37)).setCell ⟨o,2,none⟩ (.slice (some ⟨W.heap.size,0,none⟩) 0 0)) o ⟨some ⟨W.heap.size,0,none⟩,0,a',c'⟩ { m with rows := [] } fp := by
 intro Z hZ
 obtain ⟨i0,hi0,hz0,hz1,hz2⟩ := info_parts2n Tryz.info2n
 have hbZ : Below X.heap.size X Z := (oneA16 X _).trans (hZ.below.mono (oneA16 X _).size)
 obtain ⟨a6,c6,w6,fp6,hr6,ho6,hw6,hf6⟩ := ints_copied (P := Tryz.prog) (w := Z) 25 25 2 i0 Tryz.underlying25 hi0 hz0 hz1 hz2 (plainS X.heap.size 0) (x := A.sa) (c := A.sc) (hv.below (hb.trans (hbZ.mono hb.size)) (Nat.le_refl _)) hl
 have b6 : Below X.heap.size X w6 := hw6.below hbZ hbZ.size (fun b h => h.elim)
 have ho1 := ho.below b6
 have hol := ho.lt
 have hZs := hbZ.size
 have ho2 := ho1.setC 3 (.slice a6 m.sung.length c6)
 have b7 : Below o X (w6.setCell ⟨o,3,none⟩ (.slice a6 m.sung.length c6)) := (b6.mono (by omega : o ≤ X.heap.size)).setCell (p := ⟨o,3,none⟩) (Nat.le_refl _) _
 have k6 := Cel.ow_wrt ho6 (Wrt.set w6 o 3 (.slice a6 m.sung.length c6)) (fun b hb e => by have := hf6 b hb;omega)
 refine ⟨_,w6,hr6,a6,c6,rfl,ho1.at 3 rfl,ho1.f 3,_,rfl,b7, ?_⟩
 generalize w6.setCell ⟨o,3,none⟩ (.slice a6 m.sung.length c6) = W at *
 have ho3 := (ho2.alloc (.cells #[] 37)).setC 2 (.slice (some ⟨W.heap.size,0,none⟩) 0 0)
 have b8 : Below o X ((W.alloc (.cells #[] 37)).setCell ⟨o,2,none⟩ (.slice (some ⟨W.heap.size,0,none⟩) 0 0)) := (b7.alloc (by have := ho2.lt;omega) _).setCell (p := ⟨o,2,none⟩) (Nat.le_refl _) _
 have k7 := Cel.ow_wrt (Cel.ow_below k6 (oneA16 W (.cells #[] 37))) (Wrt.set _ o 2 (.slice (some ⟨W.heap.size,0,none⟩) 0 0)) (fun b hb e => by have := hf6 b hb;omega)
 refine ⟨ho2.at 2 rfl,ho2.f 2,b8,fp6, ?_, ?_,fun b hb => by have := hf6 b hb;omega,hlo,(hb.mono (Nat.le_refl _)).trans (b8.mono hlo)⟩
 ·have e : ((mbC A m).setIfInBounds 3 (.slice a6 m.sung.length c6)).setIfInBounds 2 (.slice (some ⟨W.heap.size,0,none⟩) 0 0) = mbC ⟨some ⟨W.heap.size,0,none⟩,0,a6,c6⟩ { m with rows := [] } := by simp [mbC]
  rw [e] at ho3
  exact ho3
 ·refine owL_congr (owL_c (f1 := fun _ => False) (⟨some ⟨W.heap.size,0,none⟩,0,[],none,fun _ => False,rfl,OSo.nil _ _ (plainS _ _),⟨rfl,fun _ h => h⟩,fun _ _ h => h,fun b => by simp⟩ : Cel.ow _ (lcl 8 rw8 []) (.slice (some ⟨W.heap.size,0,none⟩) 0 0) (fun _ => False)) (owL_c k7 (⟨rfl,fun _ h => h⟩ : owL _ [] [] (fun _ => False)) (fun _ _ h => h)) (fun _ h => h.elim)) (fun b => by simp)
set_option maxRecDepth 100000 in
set_option maxHeartbeats 3200000 in
theorem cpyMb_any (A : Ma) (m : Mb) (w : World) (hv : MbS w A m) (hln : LnM m) :
  Calls Tryz.prog 69 #[mbV A m] w fun e w' => AnsMb w w' e m := by
 have hmix := mixed17
 obtain ⟨x0,x1,x2,hb0⟩ := cp_start w A m
 have HV : Hid (MbS w A m) := hv
 obtain ⟨id,n,rows,sung,done⟩ := m
 obtain ⟨ra,rc,sa,sc⟩ := A
 have hA := cp_sung x2 (by omega) hb0 HV.out.sung hln.2.1
 unfold mbV
 unfold mbC at *
 simp only at *
 generalize hWW : ((w.alloc (.cells #[.int .i64 id,.int .i64 n,.slice ra rows.length rc,.slice sa sung.length sc,.bool done] 27)).alloc (.cells #[.int .i64 0,.int .i64 0,.slice none 0 0,.slice none 0 0,.bool false] 27)).alloc (.cells #[.int .i64 id,.int .i64 n,.slice ra rows.length rc,.slice sa sung.length sc,.bool done] 27) = W0 at *
 have d3 : (W0.alloc (.cells #[] 2)).cell? ⟨w.heap.size,3,none⟩ = some (.slice sa sung.length sc) := (x0.alloc (.cells #[] 2)).at 3 rfl
 have HX0 : Hid (Bx W0 w.heap.size 27 #[.int .i64 id,.int .i64 n,.slice ra rows.length rc,.slice sa sung.length sc,.bool done]) := x0
 have HX1 : Hid (Bx W0 (w.heap.size + 1) 27 #[.int .i64 0,.int .i64 0,.slice none 0 0,.slice none 0 0,.bool false]) := x1
 clear hv x0 x1 x2
 go_enter Tryz.func69,Tryz.ntmps69
 go_upto_region 2 with fail
 go_upto_region 3 with (at_builtin;refine wpList_append_of (by rfl) _ _ _ _ (by rfl) _ _ (by rfl) (by rfl) hA ⟨rfl,rfl,rfl,rfl⟩ ?_;rintro v1 w1 ⟨a1,e1,rfl,q1,q2,W1,hW1,b7,q3,q4,b8,fp1,hM1⟩;have HM1 : Hid (∃ fp1,MO w ((W1.alloc (.cells #[] 37)).setCell ⟨w.heap.size + 1 + 1,2,none⟩ (.slice (some ⟨W1.heap.size,0,none⟩) 0 0)) (w.heap.size + 1 + 1) ⟨some ⟨W1.heap.size,0,none⟩,0,a1,e1⟩ ⟨id,n,[],sung,done⟩ fp1) := ⟨fp1,hM1⟩;clear hM1 hA d3)
 rw [← hW1]
 have t2 : (W1.alloc (.cells #[] 37)).cell? ⟨w.heap.size + 1 + 1,2,none⟩ = some (.slice ra rows.length rc) := by
  have := (oneA16 W1 (.cells #[] 37)).cell (World.block_lt_of_cell? _ _ q3)
  exact this.trans q3
 have t3 : (W1.alloc (.cells #[] 37)).frozen? ⟨w.heap.size + 1 + 1,2,none⟩ = false := by
  have e := (oneA16 W1 (.cells #[] 37)).block (w.heap.size + 1 + 1) (World.block_lt_of_cell? _ _ q3)
  simpa only [World.frozen?,e] using q4
 clear hW1 q1 q2
 have HX2 : Hid (Bx ((W1.alloc (.cells #[] 37)).setCell ⟨w.heap.size + 1 + 1,2,none⟩ (.slice (some ⟨W1.heap.size,0,none⟩) 0 0)) w.heap.size 27 #[.int .i64 id,.int .i64 n,.slice ra rows.length rc,.slice sa sung.length sc,.bool done]) := (b8.block w.heap.size (by omega)).trans HX0.out
 have HX3 : Hid (Bx ((W1.alloc (.cells #[] 37)).setCell ⟨w.heap.size + 1 + 1,2,none⟩ (.slice (some ⟨W1.heap.size,0,none⟩) 0 0)) (w.heap.size + 1) 27 #[.int .i64 0,.int .i64 0,.slice none 0 0,.slice none 0 0,.bool false]) := (b8.block (w.heap.size + 1) (by omega)).trans HX1.out
 clear HX0 HX1 b7 b8 hb0 hWW
 go_wp2_with fail
 generalize (W1.alloc (.cells #[] 37)).setCell ⟨w.heap.size + 1 + 1,2,none⟩ (.slice (some ⟨W1.heap.size,0,none⟩) 0 0) = W2 at *
 clear q3 q4 t2 t3
 go_loopw [4] (fun i wr => ∃ k : Nat,k ≤ rows.length ∧ i = .int .i64 (k : Int) ∧ ∃ A R fp,Hid (R = rows.take k) ∧ MO w wr (w.heap.size + 1 + 1) A ⟨id,n,R,sung,done⟩ fp ∧ Bx wr w.heap.size 27 #[.int .i64 id,.int .i64 n,.slice ra rows.length rc,.slice sa sung.length sc,.bool done] ∧ Bx wr (w.heap.size + 1) 27 #[.int .i64 0,.int .i64 0,.slice none 0 0,.slice none 0 0,.bool false]) (fun i _ => rows.length - (intOf i).toNat)
 case atStart =>
  obtain ⟨fp2,hM2⟩ := HM1.out
  exact ⟨0,Nat.zero_le _,rfl,_,[],_,rfl,hM2,HX2.out,HX3.out⟩
 case round =>
  obtain ⟨k,hk,rfl,A,R,fp,hR,M,hpar,hres⟩ := hrel
  have hrl : rows.length ≤ 1000000 := hln.1
  obtain ⟨p0,p1,p2,p3,p4⟩ := Bx.r5 hpar
  by_cases hlt : k < rows.length
  ·have k1 : (k : Int) < (rows.length : Int) := by omega
   have k0 : (0 : Int) ≤ (k : Int) := by omega
   have hRl : R.length ≤ 1000000 := by rw [hR.out,List.length_take];omega
   obtain ⟨g,off,Ak,hra,hc8,hrs⟩ := HV.out.row (k := k) hlt
   have hlr : LnR (rowN rows k) := hln.2.2 _ (List.mem_of_getElem? (rowN_at hlt))
   simp only at hra hrs hc8
   subst hra
   have HRS : Hid (RwS wr Ak (rowN rows k)) := hrs.below M.below
   have HMB : Hid (Below w.heap.size w wr) := M.below
   have HRes : Hid (Bx wr (w.heap.size + 1) 27 #[.int .i64 0,.int .i64 0,.slice none 0 0,.slice none 0 0,.bool false]) := hres
   have HPar : Hid (Bx wr w.heap.size 27 #[.int .i64 id,.int .i64 n,.slice (some ⟨g,off,none⟩) rows.length rc,.slice sa sung.length sc,.bool done]) := hpar
   have HM : Hid (MO w wr (w.heap.size + 1 + 1) A ⟨id,n,R,sung,done⟩ fp) := M
   have c2 : wr.cell? ⟨w.heap.size + 1 + 1,2,none⟩ = some (.slice A.ra R.length A.rc) := M.own.at 2 rfl
   have KS : ∀ X,X.cell? ⟨w.heap.size + 1 + 1,2,none⟩ = some (.slice A.ra R.length A.rc) → X.cell? ⟨w.heap.size,2,none⟩ = some (.slice (some ⟨g,off,none⟩) rows.length rc) → Below w.heap.size w X → (X.cell? ⟨w.heap.size + 1 + 1,2,none⟩ = some (.slice A.ra R.length A.rc) ∧ X.cell? ⟨w.heap.size,2,none⟩ = some (.slice (some ⟨g,off,none⟩) rows.length rc) ∧ X.cell? ⟨g,off + k * 8,none⟩ = some (.int .i64 (rowN rows k).ver) ∧ X.cell? ⟨g,off + k * 8 + 1,none⟩ = some (.slice Ak.ta (rowN rows k).txt.length Ak.tc) ∧ X.cell? ⟨g,off + k * 8 + 2,none⟩ = some (.slice Ak.ga (rowN rows k).got.length Ak.gc) ∧ X.cell? ⟨g,off + k * 8 + 3,none⟩ = some (.slice Ak.sa (rowN rows k).sus.length Ak.sc) ∧ X.cell? ⟨g,off + k * 8 + 4,none⟩ = some (.bool (rowN rows k).wed) ∧ X.cell? ⟨g,off + k * 8 + 5,none⟩ = some (.bool (rowN rows k).rdy) ∧ X.cell? ⟨g,off + k * 8 + 6,none⟩ = some (.int .i64 (rowN rows k).by_) ∧ X.cell? ⟨g,off + k * 8 + 7,none⟩ = some (.slice Ak.ma (rowN rows k).trm.length Ak.mc)) := fun X x1 x2 hX => by
    obtain ⟨⟨d0,d1,d2,d3⟩,d4,d5,d6,d7⟩ := hc8
    have t : ∀ x v,w.cell? x = some v → X.cell? x = some v := fun x v h => (hX.cell (World.block_lt_of_cell? _ _ h)).trans h
    exact ⟨x1,x2,t _ _ d0,t _ _ d1,t _ _ d2,t _ _ d3,t _ _ d4,t _ _ d5,t _ _ d6,t _ _ d7⟩
   have KB : ∀ X,Below wr.heap.size wr X → X.cell? ⟨w.heap.size + 1 + 1,2,none⟩ = some (.slice A.ra R.length A.rc) ∧ X.cell? ⟨w.heap.size,2,none⟩ = some (.slice (some ⟨g,off,none⟩) rows.length rc) ∧ Below w.heap.size w X := fun X hX => ⟨(hX.cell (World.block_lt_of_cell? _ _ c2)).trans c2,(hX.cell (World.block_lt_of_cell? _ _ p2)).trans p2,HMB.out.trans (hX.mono HMB.out.size)⟩
   have KK := fun X hX => KS X (KB X hX).1 (KB X hX).2.1 (KB X hX).2.2
   have hbd : Below wr.heap.size wr wr.drew := (Same.drewN wr 1).below
   generalize hrr : rowN rows k = r at *
   have hRR : Hid (rowN rows k = r) := hrr
   clear hrr M hres hpar hc8 hrs c2 p0 p1 p3 p4
   go_wp2_with fail
   refine gt_begin (S := fun X : World => X.cell? ⟨w.heap.size + 1 + 1,2,none⟩ = some (.slice A.ra R.length A.rc) ∧ X.cell? ⟨w.heap.size,2,none⟩ = some (.slice (some ⟨g,off,none⟩) rows.length rc) ∧ X.cell? ⟨g,off + k * 8,none⟩ = some (.int .i64 r.ver) ∧ X.cell? ⟨g,off + k * 8 + 1,none⟩ = some (.slice Ak.ta r.txt.length Ak.tc) ∧ X.cell? ⟨g,off + k * 8 + 2,none⟩ = some (.slice Ak.ga r.got.length Ak.gc) ∧ X.cell? ⟨g,off + k * 8 + 3,none⟩ = some (.slice Ak.sa r.sus.length Ak.sc) ∧ X.cell? ⟨g,off + k * 8 + 4,none⟩ = some (.bool r.wed) ∧ X.cell? ⟨g,off + k * 8 + 5,none⟩ = some (.bool r.rdy) ∧ X.cell? ⟨g,off + k * 8 + 6,none⟩ = some (.int .i64 r.by_) ∧ X.cell? ⟨g,off + k * 8 + 7,none⟩ = some (.slice Ak.ma r.trm.length Ak.mc)) 11 hmix (by kernel_rfl) ?_
   have hHeld : (fun X : World => X.cell? ⟨w.heap.size + 1 + 1,2,none⟩ = some (.slice A.ra R.length A.rc) ∧ X.cell? ⟨w.heap.size,2,none⟩ = some (.slice (some ⟨g,off,none⟩) rows.length rc) ∧ X.cell? ⟨g,off + k * 8,none⟩ = some (.int .i64 r.ver) ∧ X.cell? ⟨g,off + k * 8 + 1,none⟩ = some (.slice Ak.ta r.txt.length Ak.tc) ∧ X.cell? ⟨g,off + k * 8 + 2,none⟩ = some (.slice Ak.ga r.got.length Ak.gc) ∧ X.cell? ⟨g,off + k * 8 + 3,none⟩ = some (.slice Ak.sa r.sus.length Ak.sc) ∧ X.cell? ⟨g,off + k * 8 + 4,none⟩ = some (.bool r.wed) ∧ X.cell? ⟨g,off + k * 8 + 5,none⟩ = some (.bool r.rdy) ∧ X.cell? ⟨g,off + k * 8 + 6,none⟩ = some (.int .i64 r.by_) ∧ X.cell? ⟨g,off + k * 8 + 7,none⟩ = some (.slice Ak.ma r.trm.length Ak.mc)) wr.drew := (KK _ hbd)
   refine gt_take (i := 0) (v := ?_) rfl (by kernel_rfl) (by kernel_rfl) (by kernel_rfl) (by kernel_rfl) (fun _ _ _ h => h) (Or.inl ⟨by rfl, ?_⟩) hHeld ?_
   rotate_left
   ·(intro X hSX;(try dsimp only at hSX);obtain ⟨g0,g1,g2,g3,g4,g5,g6,g7,g8,g9⟩ := hSX;go_simp;try with_reducible rfl)
   try simp only [Act.put,List.setIfInBounds_toArray,List.set_cons_zero,List.set_cons_succ]
   refine gt_take (i := 1) (v := ?_) rfl (by kernel_rfl) (by kernel_rfl) (by kernel_rfl) (by kernel_rfl) (fun _ _ _ h => h) (Or.inl ⟨by rfl, ?_⟩) hHeld ?_
   rotate_left
   ·(intro X hSX;(try dsimp only at hSX);obtain ⟨g0,g1,g2,g3,g4,g5,g6,g7,g8,g9⟩ := hSX;go_simp;try with_reducible rfl)
   try simp only [Act.put,List.setIfInBounds_toArray,List.set_cons_zero,List.set_cons_succ]
   refine gt_take (i := 2) (v := ?_) rfl (by kernel_rfl) (by kernel_rfl) (by kernel_rfl) (by kernel_rfl) (fun _ _ _ h => h) (Or.inl ⟨by rfl, ?_⟩) hHeld ?_
   rotate_left
   ·(intro X hSX;(try dsimp only at hSX);obtain ⟨g0,g1,g2,g3,g4,g5,g6,g7,g8,g9⟩ := hSX;go_simp;try with_reducible rfl)
   try simp only [Act.put,List.setIfInBounds_toArray,List.set_cons_zero,List.set_cons_succ]
   refine gt_take (i := 3) (v := ?_) rfl (by kernel_rfl) (by kernel_rfl) (by kernel_rfl) (by kernel_rfl) (fun _ _ _ h => h) (Or.inl ⟨by rfl, ?_⟩) hHeld ?_
   rotate_left
   ·(intro X hSX;(try dsimp only at hSX);obtain ⟨g0,g1,g2,g3,g4,g5,g6,g7,g8,g9⟩ := hSX;go_simp;try with_reducible rfl)
   try simp only [Act.put,List.setIfInBounds_toArray,List.set_cons_zero,List.set_cons_succ]
   refine gt_take (i := 4) (v := ?_) rfl (by kernel_rfl) (by kernel_rfl) (by kernel_rfl) (by kernel_rfl) (fun _ _ _ h => h) (Or.inl ⟨by rfl, ?_⟩) hHeld ?_
   rotate_left
   ·(intro X hSX;(try dsimp only at hSX);obtain ⟨g0,g1,g2,g3,g4,g5,g6,g7,g8,g9⟩ := hSX;go_simp;try with_reducible rfl)
   try simp only [Act.put,List.setIfInBounds_toArray,List.set_cons_zero,List.set_cons_succ]
   refine gt_take (i := 5) (v := ?_) rfl (by kernel_rfl) (by kernel_rfl) (by kernel_rfl) (by kernel_rfl) (fun _ _ _ h => h) (Or.inl ⟨by rfl, ?_⟩) hHeld ?_
   rotate_left
   ·(intro X hSX;(try dsimp only at hSX);obtain ⟨g0,g1,g2,g3,g4,g5,g6,g7,g8,g9⟩ := hSX;go_simp;try with_reducible rfl)
   try simp only [Act.put,List.setIfInBounds_toArray,List.set_cons_zero,List.set_cons_succ]
   refine gt_take (i := 6) (v := ?_) rfl (by kernel_rfl) (by kernel_rfl) (by kernel_rfl) (by kernel_rfl) (fun _ _ _ h => h) (Or.inl ⟨by rfl, ?_⟩) hHeld ?_
   rotate_left
   ·(intro X hSX;(try dsimp only at hSX);obtain ⟨g0,g1,g2,g3,g4,g5,g6,g7,g8,g9⟩ := hSX;go_simp;try with_reducible rfl)
   try simp only [Act.put,List.setIfInBounds_toArray,List.set_cons_zero,List.set_cons_succ]
   refine gt_one (i := 7) rfl (by kernel_rfl) (by kernel_rfl) (fun K hK => ?_)
   go_simp
   go_at_call 127
   refine (cpyRw_any Ak r wr.drew (HRS.out.below hbd) hlr.1 hlr.2.1 hlr.2.2.1 hlr.2.2.2).mono ?_
   rintro e w1 ⟨Ar,rfl,fr,hr1,hr2,hr3⟩
   have hb1 : Below wr.heap.size wr w1 := hbd.trans (hr3.mono hbd.size)
   have hA := HM.out.push hb1 hr1 (fun b hb => hr2 b hb) hRl
   have hb2 : Below wr.heap.size wr (w1.alloc (.cells (rwC Ar r) 37)) := hb1.trans ((oneA16 w1 _).mono hb1.size)
   refine hK.out _ _ (KK _ hb1) (fun hHeldN => ?_)
   clear hK hHeld
   have hHeld := hHeldN
   try simp only [Act.put,List.setIfInBounds_toArray,List.set_cons_zero,List.set_cons_succ]
   unfold rwV
   unfold rwC at hA hb2 ⊢
   refine gt_one (i := 8) rfl (by kernel_rfl) (by kernel_rfl) (fun K hK => ?_)
   go_simp
   refine hK.out _ _ (KK _ hb2) (fun hHeldN => ?_)
   clear hK hHeld
   have hHeld := hHeldN
   try simp only [Act.put,List.setIfInBounds_toArray,List.set_cons_zero,List.set_cons_succ]
   refine gt_one (i := 9) rfl (by kernel_rfl) (by kernel_rfl) (fun K hK => ?_)
   refine step_append_of (by rfl) _ _ _ _ (by rfl) (.slice A.ra R.length A.rc) _ (by rfl) (by rfl) hA ⟨rfl,rfl,rfl,rfl⟩ ?_
   rintro v9 w4 ⟨a9,c9,rfl,q1,q2,b4,b5,fp9,hM9⟩
   have hK4 : w4.cell? ⟨w.heap.size,2,none⟩ = some (.slice (some ⟨g,off,none⟩) rows.length rc) := (b4.cell (p := ⟨w.heap.size,2,none⟩) (by show w.heap.size < w.heap.size + 1 + 1;omega)).trans p2
   refine hK.out _ _ (KS _ q1 hK4 (HMB.out.trans (b4.mono (by omega)))) (fun hHeldN => ?_)
   clear hK hHeld
   have hHeld := hHeldN
   try simp only [Act.put,List.setIfInBounds_toArray,List.set_cons_zero,List.set_cons_succ]
   refine gt_take (i := 10) (v := ?_) rfl (by kernel_rfl) (by kernel_rfl) (by kernel_rfl) (by kernel_rfl) (fun _ _ _ h => h) (Or.inl ⟨by rfl, ?_⟩) hHeld ?_
   rotate_left
   ·(intro X hSX;(try dsimp only at hSX);obtain ⟨g0,g1,g2,g3,g4,g5,g6,g7,g8,g9⟩ := hSX;go_simp;try with_reducible rfl)
   try simp only [Act.put,List.setIfInBounds_toArray,List.set_cons_zero,List.set_cons_succ]
   refine gt_last rfl (by kernel_rfl) (by kernel_rfl) (fun K hK => ?_)
   go_simp
   refine hK.out _ _ ?_
   have HM9 : Hid (MO w (w4.setCell ⟨w.heap.size + 1 + 1,2,none⟩ (.slice a9 (R.length + 1) c9)) (w.heap.size + 1 + 1) ⟨a9,c9,A.sa,A.sc⟩ ⟨id,n,R ++ [r],sung,done⟩ fp9) := hM9
   have HRes9 : Hid (Bx (w4.setCell ⟨w.heap.size + 1 + 1,2,none⟩ (.slice a9 (R.length + 1) c9)) (w.heap.size + 1) 27 #[.int .i64 0,.int .i64 0,.slice none 0 0,.slice none 0 0,.bool false]) := (b5.block (w.heap.size + 1) (Nat.lt_succ_self _)).trans HRes.out
   have HPar9 : Hid (Bx (w4.setCell ⟨w.heap.size + 1 + 1,2,none⟩ (.slice a9 (R.length + 1) c9)) w.heap.size 27 #[.int .i64 id,.int .i64 n,.slice (some ⟨g,off,none⟩) rows.length rc,.slice sa sung.length sc,.bool done]) := (b5.block w.heap.size (by omega)).trans HPar.out
   have HR9 : Hid (R ++ [r] = rows.take (k + 1)) := by
    rw [Hid,hR.out,← hRR.out,List.take_succ_eq_append_getElem hlt]
    simp [rowN,List.getD,hlt]
   clear hM9 hA hr1 hr2 hr3 KS KB KK
   generalize w4.setCell ⟨w.heap.size + 1 + 1,2,none⟩ (.slice a9 (R.length + 1) c9) = W9 at *
   clear hb1 hb2 hbd q1 q2 b4 b5 hHeld hK4 p2
   go_wp2
   go_roundw
   case rel => exact ⟨k + 1,by omega,by go_num,_,_,_,HR9,HM9.out,HPar9.out,HRes9.out⟩
   case measure => simp [intOf];omega
  ·have k1 : ¬ ((k : Int) < (rows.length : Int)) := by omega
   have HRN : Hid (R = rows) := by rw [Hid,hR.out,List.take_of_length_le (by omega)]
   have hRl : Hid (R.length = rows.length) := by rw [Hid,HRN.out]
   obtain ⟨o0,o1,o2,o3,o4⟩ := Bx.r5 M.own
   obtain ⟨r0,r1,r2,r3,r4⟩ := Bx.r5 hres
   obtain ⟨f0,f1,f2,f3,f4⟩ := hres.f5
   have HA : Hid (NewL w (((((wr.setCell ⟨w.heap.size + 1,0,none⟩ (.int .i64 id)).setCell ⟨w.heap.size + 1,1,none⟩ (.int .i64 n)).setCell ⟨w.heap.size + 1,2,none⟩ (.slice A.ra R.length A.rc)).setCell ⟨w.heap.size + 1,3,none⟩ (.slice A.sa sung.length A.sc)).setCell ⟨w.heap.size + 1,4,none⟩ (.bool done)) (mbCels ⟨id,n,R,sung,done⟩) (mbVals A ⟨id,n,R,sung,done⟩)) := M.ans (Nat.le_succ _) (Nat.le_succ _)
   clear M hres hR hpar
   go_wp2
   refine bodyPost_ret (v := mbV A ⟨id,n,R,sung,done⟩) (by simp [results,Tryz.results69,go_sem,mbV,mbC, *]) rfl ?_
   rw [← HRN.out]
   exact ⟨_,rfl,HA.out⟩
end Go.Proofs.YthioodpmgifomaaGreat
namespace Go.Proofs.YthioodpmgifomaaGreat
set_option linter.unusedVariables false
set_option linter.unusedSimpArgs false
open Go.RowKit Go.Sort
theorem OkR.fit {r : Rw} {n : Nat} (h : OkR r n) : FitR r := by
 have h5 := h.n5
 have ok : ∀ v,okB v = true → Fits v := fun v h1 x hx => by
  simp only [okB,Bool.and_eq_true,decide_eq_true_eq,List.all_eq_true] at h1
  have := inB7.1 (h1.2 x hx)
  omega
 refine ⟨ok _ h.got,fun x hx => by have := h.sus x hx;omega, ?_⟩
 cases e : r.rdy with
 | true => exact ok _ (h.rdy e).2.2.1
 | false => rw [(h.not e).2];exact fun x hx => absurd hx List.not_mem_nil
theorem OkM.fit {m : Mb} {i n : Nat} (h : OkM m i n) : FitM m := ⟨fun r hr => (h.rowOk r hr).fit,fun x hx => by
 obtain ⟨j,hj,rfl⟩ := List.mem_iff_getElem.1 hx
 have := (h.sg j hj).1
 simp [el,hj] at this
 omega⟩
def C5 (w : World) (B o : Nat) (x0 x1 x2 x3 x4 : Value) : Prop := w.cell? ⟨B,o,none⟩ = some x0 ∧ w.cell? ⟨B,o + 1,none⟩ = some x1 ∧ w.cell? ⟨B,o + 2,none⟩ = some x2 ∧ w.cell? ⟨B,o + 3,none⟩ = some x3 ∧ w.cell? ⟨B,o + 4,none⟩ = some x4
structure Mw (w X : World) (B o : Nat) (m : Mb) (fp : Fp) (g off c : Nat) : Prop where
 bcm : Bcm w X B o (mb5 m) fp
 rws : X.cell? ⟨B,o + 2,none⟩ = some (.slice (some ⟨g,off,none⟩) m.rows.length c)
theorem Mw.start {w : World} {B o : Nat} {m : Mb} {fp : Fp} (h : Plc w B o (mb5 m) fp) (hn : 0 < m.rows.length) : ∃ g off c,Mw w w B o m fp g off c := by
 obtain ⟨g,off,c,f,h1,_⟩ := h.el (F := rw8) rw8_len (by omega) (j := 2) (L := m.rows) rfl (rowN_at hn)
 exact ⟨g,off,c,Bcm.refl h,h1⟩
theorem Mw.step {w X X' : World} {B o : Nat} {m : Mb} {fp : Fp} {g off c : Nat} (h : Mw w X B o m fp g off c) (hb : Below X.heap.size X X') : Mw w X' B o m fp g off c := ⟨h.bcm.below hb,(hb.cell (World.block_lt_of_cell? _ _ h.rws)).trans h.rws⟩
theorem Mw.box {w X : World} {B o : Nat} {m : Mb} {fp : Fp} {g off c : Nat} (h : Mw w X B o m fp g off c) (hf : FitM m) : ∃ sa sc,C5 X B o (.int .i64 m.id) (.int .i64 m.n) (.slice (some ⟨g,off,none⟩) m.rows.length c) (.slice sa m.sung.length sc) (.bool m.done) ∧ MbS X ⟨some ⟨g,off,none⟩,c,sa,sc⟩ m := by
 obtain ⟨fp1,hp,_⟩ := h.bcm.next
 have hv := hp.pv
 obtain ⟨u0,c0,rfl⟩ := hv.at (j := 0) rfl
 obtain ⟨u1,c1,rfl⟩ := hv.at (j := 1) rfl
 obtain ⟨u2,c2,v2⟩ := hv.at (j := 2) rfl
 obtain ⟨u3,c3,v3⟩ := hv.at (j := 3) rfl
 obtain ⟨u4,c4,rfl⟩ := hv.at (j := 4) rfl
 have e2 : u2 = .slice (some ⟨g,off,none⟩) m.rows.length c := Option.some.inj (c2.symm.trans h.rws)
 subst e2
 obtain ⟨sa,sc,rfl,s1,s2,s3⟩ := vw_icl v3 hf.2
 have k := v2
 obtain ⟨_,_,_,e,k1,k2,_⟩ := k
 cases e
 exact ⟨sa,sc,⟨c0,c1,c2,c3,c4⟩,v2,s1,by omega,by omega,hf.1⟩
theorem Mw.id' {w X : World} {B o : Nat} {m : Mb} {fp : Fp} {g off c : Nat} (h : Mw w X B o m fp g off c) : X.cell? ⟨B,o,none⟩ = some (.int .i64 m.id) ∧ X.cell? ⟨B,o + 1,none⟩ = some (.int .i64 m.n) ∧ X.cell? ⟨B,o + 4,none⟩ = some (.bool m.done) := by
 obtain ⟨fp1,hp,_⟩ := h.bcm.next
 have hv := hp.pv
 obtain ⟨u0,c0,rfl⟩ := hv.at (j := 0) rfl
 obtain ⟨u1,c1,rfl⟩ := hv.at (j := 1) rfl
 obtain ⟨u4,c4,rfl⟩ := hv.at (j := 4) rfl
 exact ⟨c0,c1,c4⟩
theorem Mw.row {w X : World} {B o : Nat} {m : Mb} {fp : Fp} {g off c : Nat} (h : Mw w X B o m fp g off c) (hf : FitM m) {k : Nat} (hk : k < m.rows.length) : ∃ Ak : Ra,C8 X g (off + k * 8) (.int .i64 (rowN m.rows k).ver) (.slice Ak.ta (rowN m.rows k).txt.length Ak.tc) (.slice Ak.ga (rowN m.rows k).got.length Ak.gc) (.slice Ak.sa (rowN m.rows k).sus.length Ak.sc) (.bool (rowN m.rows k).wed) (.bool (rowN m.rows k).rdy) (.int .i64 (rowN m.rows k).by_) (.slice Ak.ma (rowN m.rows k).trm.length Ak.mc) ∧ RwS X Ak (rowN m.rows k) := by
 obtain ⟨sa,sc,_,h2⟩ := h.box hf
 obtain ⟨g',off',Ak,e,h3,h4⟩ := h2.row hk
 cases e
 exact ⟨Ak,h3,h4⟩
theorem Mw.at {w X : World} {B o : Nat} {m : Mb} {fp : Fp} {g off c : Nat} (h : Mw w X B o m fp g off c) {k : Nat} (hk : k < m.rows.length) {j : Nat} {cl : Cel} (hj : (rw8 (rowN m.rows k))[j]? = some cl) : ∃ u f,X.cell? ⟨g,off + k * 8 + j,none⟩ = some u ∧ X.frozen? ⟨g,off + k * 8 + j,none⟩ = false ∧ Cel.ow X cl u f ∧ (∀ b,f b → b < X.heap.size) ∧
  ∀ (X1 : World) (c' : Cel) (u' : Value) (f' : Fp) (r' : Rw),(rw8 (rowN m.rows k)).set j c' = rw8 r' → Wrt f X X1 → Cel.ow X1 c' u' f' → (∀ b,f' b → f b ∨ X.heap.size ≤ b) → X1.cell? ⟨g,off + k * 8 + j,none⟩ = some u ∧ X1.frozen? ⟨g,off + k * 8 + j,none⟩ = false ∧ Mw w (X1.setCell ⟨g,off + k * 8 + j,none⟩ u') B o { m with rows := m.rows.set k r' } fp g off c ∧ (u' = u → Mw w X1 B o { m with rows := m.rows.set k r' } fp g off c) := by
 obtain ⟨fp1,hp,hf1,hgo⟩ := h.bcm.next
 obtain ⟨g',off',c',f,h1,hgB,hfg,hfs,hpl,hput⟩ := hp.el (F := rw8) rw8_len (by omega) (j := 2) (L := m.rows) rfl (rowN_at hk)
 have e := Option.some.inj (h1.symm.trans h.rws)
 cases e
 obtain ⟨u,fj,hu,hfz,hc,hsub,hnB,hset⟩ := hpl.at hj
 have hBX := hp.lt
 refine ⟨u,fj,hu,hfz,hc,Cel.ow_lt hc,fun X1 c' u' f' r' er hw hc' hf' => ?_⟩
 obtain ⟨k1,k2,k3,k4⟩ := hset X1 c' u' f' hw hc' hf'
 rw [er] at k3 k4
 have hBf : ¬ fj B := fun hb => hp.nB (hfs B (hsub B hb))
 have hr1 : X1.cell? ⟨B,o + 2,none⟩ = some (.slice (some ⟨g,off,none⟩) m.rows.length c) := (World.cell?_of_block (hw.block B hBX hBf)).trans h.rws
 have key : ∀ Z,Bcm X Z g (off + k * 8) (rw8 r') f → Bcm w Z B o (mb5 { m with rows := m.rows.set k r' }) fp := fun Z hZ => hgo Z _ rfl (hput Z r' hZ)
 refine ⟨k1,k2,⟨key _ k3, ?_⟩,fun e => ⟨key _ (k4 e), ?_⟩⟩
 ·rw [World.cell?_setCell_other _ _ _ _ (by simp only [ne_eq,Addr.mk.injEq,not_and];intro e;exact absurd e hgB),hr1]
  simp
 ·rw [hr1];simp
theorem Mw.put {w X : World} {B o : Nat} {m : Mb} {fp : Fp} {g off c : Nat} (h : Mw w X B o m fp g off c) {k : Nat} (hk : k < m.rows.length) {j : Nat} {x y : Value} (hj : (rw8 (rowN m.rows k))[j]? = some (.v x)) {r' : Rw} (er : (rw8 (rowN m.rows k)).set j (.v y) = rw8 r') :
  X.cell? ⟨g,off + k * 8 + j,none⟩ = some x ∧ X.frozen? ⟨g,off + k * 8 + j,none⟩ = false ∧ Mw w (X.setCell ⟨g,off + k * 8 + j,none⟩ y) B o { m with rows := m.rows.set k r' } fp g off c := by
 obtain ⟨u,f,h1,h2,⟨rfl,h3⟩,_,h4⟩ := h.at hk hj
 exact ⟨h1,h2,(h4 X (.v y) y (fun _ => False) r' er (Wrt.refl _ _) ⟨rfl,fun _ h => h⟩ (fun b hb => hb.elim)).2.2.1⟩
end Go.Proofs.YthioodpmgifomaaGreat
namespace Go.Proofs.YthioodpmgifomaaGreat
set_option linter.unusedVariables false
set_option linter.unusedSimpArgs false
open Go.RowKit Go.Sort
theorem ow_txt_app {w : World} {u : Value} {T : List (List UInt8)} {f : Fp} (t : List UInt8) (h : Cel.ow w (scl T) u f) (hl : T.length ≤ 1000000) : ∃ a c,u = .slice a T.length c ∧ ∀ Y,Same Y (w.alloc (.cells #[.string (sv t)] 9)) →
  ∃ v' w4,(Builtin.append_ #[35,35] 35 #[u,.slice (some ⟨w.heap.size,0,none⟩) 1 1]).run Tryz.prog Y = .ok v' w4 ∧ ∃ a' c' f',v' = .slice a' (T.length + 1) c' ∧ Cel.ow w4 (scl (T ++ [t])) v' f' ∧ (∀ b,f' b → f b ∨ w.heap.size ≤ b) ∧ Wrt f w w4 := by
 obtain ⟨i0,hi0,hz0,hz1,hz2⟩ := info_parts9 Tryz.info9
 have h' := h
 obtain ⟨a,c,G,rfl,ho,hf⟩ := ow_scl.1 h'
 refine ⟨a,c,rfl,fun Y hY => ?_⟩
 have hbY : Below w.heap.size w Y := (oneA16 w _).trans (hY.below.mono (oneA16 w _).size)
 have hlt := Cel.ow_lt h
 obtain ⟨a',c',w4,fp',k1,k2,k3,k4⟩ := ow_push (P := Tryz.prog) (w := Y) 35 35 9 i0 _ 1 16 Tryz.underlying35 hi0 hz0 hz1 hz2 rfl (by omega) (Cel.ow_below h hbY) (owL_pl (vs := [.string (sv t)]).2 ⟨rfl,fun (b : Nat) (h : False) => h⟩ : owL Y (pl [.string (sv t)]) [.string (sv t)] (fun _ => False)) (fun _ _ h => h) rfl (by intro u hu;simp at hu;rw [hu];rfl) w.heap.size 9 (by rw [hY.heap];exact heap_alloc_new w _) (by unfold maxLen;omega) (by omega)
 refine ⟨_,w4,k1,a',c',fp',rfl, ?_,fun b hb => ?_,(Wrt.of_below (f := f) hbY).trans k3 (fun _ _ h => h)⟩
 ·have e : scl (T ++ [t]) = .sl 1 (T.length + 1) (pl (svs T) ++ pl [.string (sv t)]) := by simp [scl,svs,pl]
  rw [e]
  exact k2
 ·rcases k4 b hb with k | k | k
  ·exact .inl k
  ·exact k.elim
  ·exact .inr (by have := hbY.size;omega)
theorem ow_int_app {w : World} {u : Value} {T : List Int} {f : Fp} (t : Int) (h : Cel.ow w (icl T) u f) (hl : T.length ≤ 1000000) : ∃ a c,u = .slice a T.length c ∧ ∀ Y,Same Y (w.alloc (.cells #[.int .i64 t] 2)) →
  ∃ v' w4,(Builtin.append_ #[25,25] 25 #[u,.slice (some ⟨w.heap.size,0,none⟩) 1 1]).run Tryz.prog Y = .ok v' w4 ∧ ∃ a' c' f',v' = .slice a' (T.length + 1) c' ∧ Cel.ow w4 (icl (T ++ [t])) v' f' ∧ (∀ b,f' b → f b ∨ w.heap.size ≤ b) ∧ Wrt f w w4 := by
 obtain ⟨i0,hi0,hz0,hz1,hz2⟩ := info_parts2n Tryz.info2n
 have h' := h
 obtain ⟨a,c,G,rfl,ho,hf⟩ := ow_icl.1 h'
 refine ⟨a,c,rfl,fun Y hY => ?_⟩
 have hbY : Below w.heap.size w Y := (oneA16 w _).trans (hY.below.mono (oneA16 w _).size)
 obtain ⟨a',c',w4,fp',k1,k2,k3,k4⟩ := ow_push (P := Tryz.prog) (w := Y) 25 25 2 i0 _ 1 8 Tryz.underlying25 hi0 hz0 hz1 hz2 rfl (by omega) (Cel.ow_below h hbY) (owL_pl (vs := [.int .i64 t]).2 ⟨rfl,fun (b : Nat) (h : False) => h⟩ : owL Y (pl [.int .i64 t]) [.int .i64 t] (fun _ => False)) (fun _ _ h => h) rfl (by intro u hu;simp at hu;rw [hu];rfl) w.heap.size 2 (by rw [hY.heap];exact heap_alloc_new w _) (by unfold maxLen;omega) (by omega)
 refine ⟨_,w4,k1,a',c',fp',rfl, ?_,fun b hb => ?_,(Wrt.of_below (f := f) hbY).trans k3 (fun _ _ h => h)⟩
 ·have e : icl (T ++ [t]) = .sl 1 (T.length + 1) (pl (T.map (Value.int .i64)) ++ pl [.int .i64 t]) := by simp [icl,pl]
  rw [e]
  exact k2
 ·rcases k4 b hb with k | k | k
  ·exact .inl k
  ·exact k.elim
  ·exact .inr (by have := hbY.size;omega)
theorem ow_int_set {w : World} {u : Value} {T : List Int} {f : Fp} (h : Cel.ow w (icl T) u f) {k : Nat} (hk : k < T.length) : ∃ g o c,u = .slice (some ⟨g,o,none⟩) T.length c ∧ f g ∧ w.cell? ⟨g,o + k,none⟩ = some (.int .i64 (el T k)) ∧ w.frozen? ⟨g,o + k,none⟩ = false ∧ ∀ (y : Int),Cel.ow (w.setCell ⟨g,o + k,none⟩ (.int .i64 y)) (icl (T.set k y)) u f ∧ Wrt f w (w.setCell ⟨g,o + k,none⟩ (.int .i64 y)) := by
 obtain ⟨a,c,G,rfl,ho,hf⟩ := ow_icl.1 h
 rcases ho with ⟨h0,_⟩ | ⟨g,off,rfl,hs,rfl⟩
 ·omega
 have hc : w.cell? ⟨g,off + k,none⟩ = some (.int .i64 (el T k)) := by
  rw [hs.cell k (by omega)]
  simp [el,hk]
 refine ⟨g,off,c,rfl,(hf g).2 rfl,hc,hs.free k (by have := hs.le;omega),fun y => ⟨?_,(Wrt.set w g (off + k) _).mono (fun b _ hb => (hf b).2 (by rw [hb]))⟩⟩
 refine ow_icl.2 ⟨some ⟨g,off,none⟩,c,some g,by rw [List.length_set],.inr ⟨g,off,rfl, ?_,rfl⟩,hf⟩
 have := osl_put hs (j := k) (by omega) (.int .i64 y)
 rw [List.length_set,List.map_set]
 exact this
end Go.Proofs.YthioodpmgifomaaGreat
namespace Go.Proofs.YthioodpmgifomaaGreat
set_option linter.unusedSimpArgs false
set_option linter.unusedVariables false
open Go.RowKit Go.Sort
section
variable {P : Program} {ops : Array Oper} {md : Region.Mode} {C : World → Prop}
def HeadQ (P : Program) (md : Region.Mode) (ops : Array Oper) (C : World → Prop) (n : Nat) (L : Array Bool → Act → Prop) : Nat → Array Bool → Act → Prop
 | 0,listed,a => L listed a
 | f + 1,listed,a => Region.ready md ops listed ≠ [] ∧ ∀ i ∈ Region.ready md ops listed,i < n ∧ qOp P ops C i (HeadQ P md ops C n L f (listed.setIfInBounds i true)) a
theorem any_of_headQ {n g : Nat} {L : Array Bool → Act → Prop} {Q : Exit → Act → World → Prop} (hL : ∀ listed a w,C w → L listed a → wpAny P md ops Q g listed a w) (f : Nat) :
  ∀ (listed : Array Bool) (a : Act) (w : World),C w → HeadQ P md ops C n L f listed a → wpAny P md ops Q (f + g) listed a w := by
 induction f with
 | zero => intro listed a w hw h;rw [Nat.zero_add];exact hL _ _ _ hw h
 | succ f ih =>
  intro listed a w hw h
  rw [show f + 1 + g = (f + g) + 1 by omega]
  exact ⟨fun h0 => absurd h0 h.1,fun i hi => wpOp_of_qOp hw (fun a' w' hw' h' => ih _ a' w' hw' h') (h.2 i hi).2⟩
theorem headQ_first {n i : Nat} {oi : Oper} {v : Value} {L : Array Bool → Act → Prop} (hi : ops[i]? = some oi) (hsel : ∀ (j : Nat) (o : Oper) cs b,ops[j]? = some o → o.op ≠ .select cs b)
  (hs : Region.sinkB md ops n = true) (hc : Region.chainB md ops n = true) (hn : n < ops.size) (hin : i < n) (hdone : ∀ listed a,L listed a → ∀ j ∈ Region.ready md ops listed,n ≤ j) (f : Nat) :
  ∀ (listed : Array Bool) (a : Act),HeadInv md ops n listed →
   (∀ j oj,ops[j]? = some oj → j ≠ i → listed.getD j true = false → (∀ e ∈ oj.after,Region.binds md e = true → e.on ≠ i) → oi.apart ops oj = true) →
   i ∈ Region.ready md ops listed → YieldsIn P ops C oi v a →
   HeadQ P md ops C n L f (listed.setIfInBounds i true) (a.put oi.dst v) → HeadQ P md ops C n L (f + 1) listed a := by
 induction f with
 | zero =>
  intro listed a inv _ hr hy H
  have hun := (mem_ready.1 hr).1
  refine ⟨fun h => (by rw [h] at hr;cases hr),fun j hj => ?_⟩
  have hjn : j < n := Nat.lt_of_not_le fun h => absurd hj (tail_waits hs hc hn inv _ i rfl hin hun j h)
  refine ⟨hjn, ?_⟩
  by_cases hji : j = i
  ·subst hji;exact hy.qOp hi H
  ·have := hdone _ _ H j (ready_mono hj hji)
   omega
 | succ f ih =>
  intro listed a inv hfree hr hy H
  have hun := (mem_ready.1 hr).1
  refine ⟨fun h => (by rw [h] at hr;cases hr),fun j hj => ?_⟩
  have hjn : j < n := Nat.lt_of_not_le fun h => absurd hj (tail_waits hs hc hn inv _ i rfl hin hun j h)
  refine ⟨hjn, ?_⟩
  by_cases hji : j = i
  ·subst hji;exact hy.qOp hi H
  ·have h1 := (H.2 j (ready_mono hj hji)).2
   obtain ⟨hjun,oj,hoj,hall⟩ := mem_ready.1 hj
   have hnot : ∀ e ∈ oj.after,Region.binds md e = true → e.on ≠ i := fun e he hb heq => by
    have h3 := hall e he hb
    rw [heq,getD_both hun] at h3
    cases h3
   have h2 := qOp_put hoj (hfree j oj hoj hji hjun hnot) (fun cs b => hsel i oi cs b hi) (fun cs b => hsel j oj cs b hoj) hy h1
   refine qOp_mono (fun a' h3 => ih (listed.setIfInBounds j true) a' (inv.set hj hjn) (fun k ok hk hki hu hno => hfree k ok hk hki ?_ hno) (ready_mono hr (Ne.symm hji)) h3.1 ?_) h2
   ·by_cases hjk : j = k
    ·subst hjk;exact hjun
    ·rw [getD_set_ne true hjk] at hu;exact hu
   ·rw [Array.setIfInBounds_comm _ _ hji]
    exact h3.2
theorem headQ_lex {n g : Nat} {Lq : Act → Prop} (hsel : Region.noSelect ops = true) (hs : Region.sinkB md ops n = true) (hc : Region.chainB md ops n = true) (hn : n < ops.size) :
  ∀ (l : List Oper) (k : Nat) (listed : Array Bool) (a : Act),(∀ j,j < l.length → l[j]? = ops[k + j]?) → k + l.length = n → HeadInv md ops n listed →
  Region.lexHead md ops g l.length k listed = true → wpQuiet P ops C Lq l a → HeadQ P md ops C n (fun listed' a' => Region.seqB md ops g n listed' = true ∧ Lq a') l.length listed a
 | [],k,listed,a,_,hk,_,hB,h => by
  have : k = n := by simpa using hk
  subst this
  exact ⟨by simpa [Region.lexHead] using hB,h⟩
 | o :: l,k,listed,a,hl,hk,inv,hB,h => by
  have h0 : ops[k]? = some o := by simpa using (hl 0 (by simp)).symm
  simp only [List.length_cons,Region.lexHead,Bool.and_eq_true] at hB
  obtain ⟨⟨hr,hf⟩,hB'⟩ := hB
  have hkn : k < n := by simp only [List.length_cons] at hk;omega
  have hr' : k ∈ Region.ready md ops listed := by simpa using hr
  have hst : qOp P ops C k (wpQuiet P ops C Lq l) a := by unfold qOp;simp only [h0];exact h
  obtain ⟨v,hy,hK⟩ := yieldsIn_of_qOp h0 hst
  exact headQ_first h0 (Region.noSelect_spec hsel) hs hc hn hkn (fun listed' a' hL => seqB_ready hL.1) l.length listed a inv (Region.free_spec h0 hf) hr' hy
   (headQ_lex hsel hs hc hn l (k + 1) _ _ (fun j hj => by have := hl (j + 1) (by simp;omega);simpa [Nat.add_assoc,Nat.add_comm 1 j] using this) (by simp only [List.length_cons] at hk;omega) (inv.set hr' hkn) hB' hK)
end
theorem wp_region_quiet_tail {P : Program} {C : World → Prop} {id : Nat} {Q : Exit → Act → World → Prop} {a : Act} {w : World} {l : List Oper} (n : Nat) (hm : P.follows .mixedOrders = true) (hB : Region.lexTailB .any l.toArray n = true) (hC : C (w.drewN 1))
    (h : wpQuiet P l.toArray C (fun a' => ∀ w', C w' → wpList P l.toArray Q (l.drop n) a' w') (l.take n) a) : (Code.region id l.toArray true).wp P Q a w := by
  simp only [Region.lexTailB, Bool.and_eq_true, decide_eq_true_eq] at hB
  obtain ⟨⟨⟨⟨hsel, hn⟩, hs⟩, hc⟩, hlex⟩ := hB
  have htl : (l.take n).length = n := by have : n < l.length := by simpa using hn
                                         simp; omega
  have hdl : (l.drop n).length = l.toArray.size - n := by simp
  have inv0 : HeadInv .any l.toArray n (Array.replicate l.toArray.size false) :=
    ⟨by simp, fun j oj _ hl => (by rw [getD_replicate_false] at hl; cases hl), fun t _ ht => getD_in (by simpa using ht) (getD_replicate_false _ _)⟩
  have H := headQ_lex (md := .any) (g := l.toArray.size - n) hsel hs hc hn (l.take n) 0 _ a (fun j hj => by
    have hj' : j < n := by rw [htl] at hj; exact hj
    simp [hj']) (by simpa using htl) inv0 (by rw [htl]; exact hlex) h
  refine wp_region_any hm ?_
  have := any_of_headQ (C := C) (Q := Q) (g := l.toArray.size - n) (fun listed a' w' hw' hL => by
    have := wpAny_of_seq (md := .any) (Q' := Q) (l.drop n) n listed a' w' (fun j => by simp [List.getElem?_drop]) (by rw [hdl]; exact hL.1) (hL.2 w' hw')
    rwa [hdl] at this) _ _ _ (w.drewN 1) hC H
  rw [htl, show n + (l.toArray.size - n) = l.toArray.size by have : n < l.toArray.size := hn; omega] at this
  exact this
end Go.Proofs.YthioodpmgifomaaGreat
namespace Go.Proofs.YthioodpmgifomaaGreat
set_option linter.unusedVariables false
set_option linter.unusedSimpArgs false
open Go.RowKit Go.Sort
theorem rowN_self {R : List Rw} {i : Nat} {r : Rw} (h : i < R.length) : rowN (R.set i r) i = r := by rw [rowN_set h,if_pos rfl]
attribute [local irreducible] sv
end Go.Proofs.YthioodpmgifomaaGreat
namespace Go.Proofs.YthioodpmgifomaaGreat
set_option linter.unusedVariables false
set_option linter.unusedSimpArgs false
open Go.RowKit Go.Sort
set_option maxRecDepth 100000 in
set_option maxHeartbeats 3200000 in
theorem dbtSp_any (B o : Nat) (m : Mb) (i n : Nat) (who : Int) (fp : Fp) (w : World) (h : Plc w B o (mb5 m) fp) (ok : OkM m i n) :
  Calls Tryz.prog 77 #[.pointer (some ⟨B,o,none⟩),.int .i64 who] w fun e w' => e = .returned (.bool (doubtMb m who).2) ∧ Bcm w w' B o (mb5 (doubtMb m who).1) fp := by
 have hmix := mixed17
 have hil : i < m.rows.length := by rw [ok.len];exact ok.lt
 obtain ⟨g,off,c,M0⟩ := Mw.start h (by omega)
 obtain ⟨c0,c1,c4⟩ := M0.id'
 have c2 := M0.rws
 rw [ok.hid] at c0
 have i0 : (0 : Int) ≤ (i : Int) := by omega
 have i1 : (i : Int) < (m.rows.length : Int) := by omega
 have p0 : ∀ q : Bk w,q.w.cell? ⟨B,o,none⟩ = _ := fun q => (q.h.cell (World.block_lt_of_cell? _ _ c0)).trans c0
 have p2 : ∀ q : Bk w,q.w.cell? ⟨B,o + 2,none⟩ = _ := fun q => (q.h.cell (World.block_lt_of_cell? _ _ c2)).trans c2
 have HM0 : Hid (Mw w w B o m fp g off c) := M0
 clear c0 c1 c4 c2 M0 h
 go_enter Tryz.func77,Tryz.ntmps77
 go_wp2_with fail
 refine wp_region_bk (by kernel_rfl) (by kernel_rfl) ?_
 repeat (go_big_quiet_step ((first | rfl)))
 refine wpQuiet_nil ?_
 intro wE hw'
 obtain ⟨⟨w11,hb11⟩,hw''⟩ := hw'
 have hwe : wE = w11 := hw''
 clear hw''
 subst hwe
 clear p0 p2
 have M1 := HM0.out.step hb11
 have HM1 : Hid (Mw w wE B o m fp g off c) := M1
 obtain ⟨c0,c1,c4⟩ := M1.id'
 rw [ok.hid] at c0
 rw [ok.hn] at c1
 obtain ⟨Ak,⟨⟨d0,d1,d2,d3⟩,d4,d5,d6,d7⟩,hrs⟩ := M1.row ok.fit hil
 have hr := ok.ok i ok.lt
 have hH := l1Has_any Ak.sa (rowN m.rows i).sus.length Ak.sc who (rowN m.rows i).sus wE hrs.sus hrs.ms
 have HD : Hid (doubtMb m who = if inB who 0 ((n : Int) - 1) = false ∨ who = (i : Int) ∨ who ∈ (rowN m.rows i).sus ∨ m.done = true ∨ (rowN m.rows i).ver = 1000000 then (m,false) else ({ m with rows := m.rows.set i { rowN m.rows i with sus := putL (rowN m.rows i).sus who,wed := true,ver := (rowN m.rows i).ver + 1 } },true)) := by
  have e : m.i = i := by unfold Mb.i;rw [ok.hid];rfl
  rw [Hid,doubtMb,Mb.put,Mb.own,e,ok.hid,ok.hn]
 have HNo : Hid ((inB who 0 ((n : Int) - 1) = false ∨ who = (i : Int) ∨ who ∈ (rowN m.rows i).sus ∨ m.done = true ∨ (rowN m.rows i).ver = 1000000) → doubtMb m who = (m,false)) := fun h => by rw [HD.out,if_pos h]
 have HYes : Hid (¬ (inB who 0 ((n : Int) - 1) = false ∨ who = (i : Int) ∨ who ∈ (rowN m.rows i).sus ∨ m.done = true ∨ (rowN m.rows i).ver = 1000000) → doubtMb m who = ({ m with rows := m.rows.set i { rowN m.rows i with sus := putL (rowN m.rows i).sus who,wed := true,ver := (rowN m.rows i).ver + 1 } },true)) := fun h => by rw [HD.out,if_neg h]
 have hn5 := hr.n5
 have wn : wrap64 ((n : Int) - 1) = (n : Int) - 1 := by unfold wrap64;omega
 have hsl := hr.sl
 have hfs := hr.fit.2.1
 clear HD hrs d1 d2 d5 d6 d7 hb11 HM0 M1
 cases e1 : inB who 0 ((n : Int) - 1) with
 | false =>
  have HZ : Hid (doubtMb m who = (m,false)) := HNo.out (.inl e1)
  go_wp2_with (first | (go_at_call 73;refine (l1In_any _ _ _ _).mono ?_;rintro e w' ⟨rfl,hw'⟩;rw [hw'];clear hw'))
  go_ret
  exact ⟨ret_bool (by rw [HZ.out]),by rw [HZ.out];exact HM1.out.bcm⟩
 | true =>
 by_cases h2 : who = (i : Int)
 ·have HZ : Hid (doubtMb m who = (m,false)) := HNo.out (.inr (.inl h2))
  have e2 : (who == (i : Int)) = true := by rw [h2];simp
  clear h2
  go_wp2_with (first | (go_at_call 73;refine (l1In_any _ _ _ _).mono ?_;rintro e w' ⟨rfl,hw'⟩;rw [hw'];clear hw'))
  go_ret
  exact ⟨ret_bool (by rw [HZ.out]),by rw [HZ.out];exact HM1.out.bcm⟩
 have e2 : (who == (i : Int)) = false := by simpa using h2
 by_cases h3 : who ∈ (rowN m.rows i).sus
 ·have HZ : Hid (doubtMb m who = (m,false)) := HNo.out (.inr (.inr (.inl h3)))
  rw [decide_eq_true h3] at hH
  clear h3
  go_wp2_with (first | (go_at_call 73;refine (l1In_any _ _ _ _).mono ?_;rintro e w' ⟨rfl,hw'⟩;rw [hw'];clear hw') | (go_at_call 76;refine hH.mono ?_;rintro e w' ⟨rfl,hw'⟩;rw [hw'];clear hw'))
  go_ret
  exact ⟨ret_bool (by rw [HZ.out]),by rw [HZ.out];exact HM1.out.bcm⟩
 rw [decide_eq_false h3] at hH
 cases hdn : m.done with
 | true =>
  have HZ : Hid (doubtMb m who = (m,false)) := HNo.out (.inr (.inr (.inr (.inl hdn))))
  rw [hdn] at c4
  go_wp2_with (first | (go_at_call 73;refine (l1In_any _ _ _ _).mono ?_;rintro e w' ⟨rfl,hw'⟩;rw [hw'];clear hw') | (go_at_call 76;refine hH.mono ?_;rintro e w' ⟨rfl,hw'⟩;rw [hw'];clear hw'))
  go_ret
  exact ⟨ret_bool (by rw [HZ.out]),by rw [HZ.out];exact HM1.out.bcm⟩
 | false =>
 rw [hdn] at c4
 by_cases hver : (rowN m.rows i).ver = 1000000
 ·have HZ : Hid (doubtMb m who = (m,false)) := HNo.out (.inr (.inr (.inr (.inr hver))))
  have ev : ((rowN m.rows i).ver == 1000000) = true := by rw [hver];rfl
  clear hver
  go_wp2_with (first | (go_at_call 73;refine (l1In_any _ _ _ _).mono ?_;rintro e w' ⟨rfl,hw'⟩;rw [hw'];clear hw') | (go_at_call 76;refine hH.mono ?_;rintro e w' ⟨rfl,hw'⟩;rw [hw'];clear hw'))
  go_ret
  exact ⟨ret_bool (by rw [HZ.out]),by rw [HZ.out];exact HM1.out.bcm⟩
 have ev : ((rowN m.rows i).ver == 1000000) = false := by simpa using hver
 have HZ : Hid (doubtMb m who = _) := HYes.out (by rw [e1,hdn];simp;exact ⟨h2,h3,hver⟩)
 obtain ⟨u,f,hu,hfz,how,hlt,hset⟩ := HM1.out.at hil (j := 3) rfl
 have how' := how
 obtain ⟨sa,sc,G,rfl,_,_⟩ := ow_icl.1 how'
 have hP := put_ow sa sc (rowN m.rows i).sus who wE f how hfs (by omega)
 have HS : Hid (∀ (X1 : World) (c' : Cel) (u' : Value) (f' : Fp) (r' : Rw),(rw8 (rowN m.rows i)).set 3 c' = rw8 r' → Wrt f wE X1 → Cel.ow X1 c' u' f' → (∀ b,f' b → f b ∨ wE.heap.size ≤ b) → X1.cell? ⟨g,off + i * 8 + 3,none⟩ = some (.slice sa (rowN m.rows i).sus.length sc) ∧ X1.frozen? ⟨g,off + i * 8 + 3,none⟩ = false ∧ Mw w (X1.setCell ⟨g,off + i * 8 + 3,none⟩ u') B o { m with rows := m.rows.set i r' } fp g off c ∧ (u' = .slice sa (rowN m.rows i).sus.length sc → Mw w X1 B o { m with rows := m.rows.set i r' } fp g off c)) := hset
 have e3 := Option.some.inj (d3.symm.trans hu)
 rw [e3] at d3 hH
 clear e3
 clear hu hset HNo HYes how how' hlt h2 h3 hver
 go_wp2_with (first | (go_at_call 73;refine (l1In_any _ _ _ _).mono ?_;rintro e w' ⟨rfl,hw'⟩;rw [hw'];clear hw') | (go_at_call 76;refine hH.mono ?_;rintro e w' ⟨rfl,hw'⟩;rw [hw'];clear hw'))
 refine hP.mono ?_
 rintro e w1 ⟨a1,e1',f1,rfl,k1,k2,k3⟩
 obtain ⟨q1,q2,M2,_⟩ := HS.out w1 _ _ f1 { rowN m.rows i with sus := putL (rowN m.rows i).sus who } rfl (Wrt.of_below k3) k1 k2
 have HM2 : Hid (Mw w (w1.setCell ⟨g,off + i * 8 + 3,none⟩ (.slice a1 (putL (rowN m.rows i).sus who).length e1')) B o { m with rows := m.rows.set i { rowN m.rows i with sus := putL (rowN m.rows i).sus who } } fp g off c) := M2
 clear M2 k1 k2 k3 hP HS hH d0 d3 d4 c0 c1 c4 hfz
 go_upto_region 5 with fail
 generalize w1.setCell ⟨g,off + i * 8 + 3,none⟩ (.slice a1 (putL (rowN m.rows i).sus who).length e1') = W5 at *
 clear q1 q2
 generalize hr1 : ({ rowN m.rows i with sus := putL (rowN m.rows i).sus who } : Rw) = r1 at *
 have hs1 : rowN (m.rows.set i r1) i = r1 := rowN_self hil
 have hil1 : i < (m.rows.set i r1).length := by rw [List.length_set];exact hil
 obtain ⟨v1,v2,hM3⟩ := HM2.out.put hil1 (j := 4) (x := .bool r1.wed) (y := .bool true) (r' := { r1 with wed := true }) (by rw [hs1];rfl) (by rw [hs1];rfl)
 rw [List.set_set] at hM3
 have HM3 : Hid (Mw w (W5.setCell ⟨g,off + i * 8 + 4,none⟩ (.bool true)) B o { m with rows := m.rows.set i { r1 with wed := true } } fp g off c) := hM3
 have HR1 : Hid (({ rowN m.rows i with sus := putL (rowN m.rows i).sus who } : Rw) = r1) := hr1
 clear hM3 hs1 hr1
 go_upto_region 6 with fail
 generalize W5.setCell ⟨g,off + i * 8 + 4,none⟩ (.bool true) = W7 at *
 clear v1 v2
 generalize hr2 : ({ r1 with wed := true } : Rw) = r2 at *
 have hil2 : i < (m.rows.set i r2).length := by rw [List.length_set];exact hil
 have hv2 : r2.ver = (rowN m.rows i).ver := by rw [← hr2,← HR1.out]
 have hs2 : rowN (m.rows.set i r2) i = r2 := rowN_self hil
 obtain ⟨v1,v2,hM5⟩ := HM3.out.put hil2 (j := 0) (x := .int .i64 r2.ver) (y := .int .i64 (r2.ver + 1)) (r' := { r2 with ver := r2.ver + 1 }) (by rw [hs2];rfl) (by rw [hs2];rfl)
 have hvb := hr.ver
 have hwv : wrap64 (r2.ver + 1) = r2.ver + 1 := by rw [hv2];unfold wrap64;omega
 simp only [Nat.add_zero] at v1 v2 hM5
 rw [List.set_set] at hM5
 have HM5 : Hid (Mw w (W7.setCell ⟨g,off + i * 8,none⟩ (.int .i64 (r2.ver + 1))) B o { m with rows := m.rows.set i { r2 with ver := r2.ver + 1 } } fp g off c) := hM5
 have HFin : Hid (({ m with rows := m.rows.set i { r2 with ver := r2.ver + 1 } } : Mb) = (doubtMb m who).1 ∧ (doubtMb m who).2 = true) := by
  rw [Hid,HZ.out]
  refine ⟨?_,rfl⟩
  rw [← hr2,← HR1.out]
 clear hM5 hr2 hs2 hv2 HZ hvb
 go_wp2
 go_ret
 exact ⟨ret_bool (by rw [HFin.out.2]),by rw [← HFin.out.1];exact HM5.out.bcm⟩
end Go.Proofs.YthioodpmgifomaaGreat
namespace Go.Proofs.YthioodpmgifomaaGreat
set_option linter.unusedVariables false
set_option linter.unusedSimpArgs false
open Go.RowKit Go.Sort
theorem Wrt.setCells (g : Nat) : ∀ (vs : List Value) (o : Nat) (w : World),Wrt (fun b => b = g) w (w.setCells g o vs)
 | [],o,w => Wrt.refl _ _
 | v :: vs,o,w => (Wrt.set w g o v).trans (Wrt.setCells g vs (o + 1) _) (fun _ _ h => h)
theorem frz_setCells (g : Nat) : ∀ (vs : List Value) (o : Nat) (w : World) (x : Addr),(w.setCells g o vs).frozen? x = w.frozen? x
 | [],o,w,x => rfl
 | v :: vs,o,w,x => by rw [World.setCells,frz_setCells g vs (o + 1),World.frozen?_setCell]
theorem Plc.all {w w1 : World} {B o : Nat} {cs cs' : List Cel} {fp f' : Fp} {vs' : List Value} (h : Plc w B o cs fp) (hb : Below w.heap.size w w1) (h' : owL w1 cs' vs' f') (hl : cs'.length = cs.length) (hf : ∀ b,f' b → w.heap.size ≤ b) : Bcm w (w1.setCells B o vs') B o cs' fp := by
 obtain ⟨vs,h1,h2,h3⟩ := h
 have e := hb.block B h1.lt
 have hP1 := h1.of_block e hb.size
 have hlen := owL_len h2
 have hlen' := owL_len h'
 have hw := Wrt.setCells B vs' o w1
 have hlt := h1.lt
 have hf'B : ¬ f' B := fun k => by have := hf B k;omega
 have hsome : ∀ j,j < vs'.length → (w1.cell? ⟨B,o + j,none⟩).isSome = true := fun j hj => by
  rw [hP1.cell j (by omega),List.getElem?_eq_getElem (by omega)]
  rfl
 refine ⟨⟨f',⟨vs',⟨fun j hj => ?_,fun j hj => ?_,Nat.lt_of_lt_of_le hP1.lt hw.size⟩,owL_wrt h' hw (fun b hb' e' => hf'B (e' ▸ hb')),hf'B⟩,fun b hb' => .inr (hf b hb')⟩,fun j hj => ?_,fun j => ?_, ?_⟩
 ·rw [World.cell?_setCells_in B vs' o w1 hsome j hj,List.getElem?_eq_getElem hj]
 ·rw [frz_setCells];exact hP1.free j (by omega)
 ·rw [World.cell?_setCells_out B vs' o w1 _ (fun _ _ => by simp only;omega)]
  exact World.cell?_of_block e
 ·rw [frz_setCells];simp only [World.frozen?,e]
 ·exact (Wrt.of_below (f := fun b => fp b ∨ b = B) hb).trans hw (fun b _ k => .inr k)
end Go.Proofs.YthioodpmgifomaaGreat
namespace Go.Proofs.YthioodpmgifomaaGreat
set_option linter.unusedVariables false
set_option linter.unusedSimpArgs false
open Go.RowKit Go.Sort
theorem infoRow17 : (Tryz.prog.info? 37).map (fun i => (i.zero,i.size,i.bytes)) = some (some (.agg zero8),8,120) := by kernel_rfl
theorem make_rs (n : Nat) (hn : n ≤ 1048576) (w : World) :
  (Instr.makeSlice 24 (.int .i64 (n : Int)) (.int .i64 (n : Int))).run Tryz.prog w = .ok (.slice (some ⟨w.heap.size,0,none⟩) n n) (w.alloc (.cells (madeCells zero8 (n * 8)) 37)) := by
 obtain ⟨i,hi,hz,hs,hb⟩ := info_parts2n infoRow17
 have hr := run_make (P := Tryz.prog) w 24 37 i _ Tryz.underlying24 hi hz .i64 .i64 n n (by omega) (Int.le_refl _) (by rw [hb];omega) (by omega)
 simp only [Int.toNat_natCast,hs] at hr
 exact hr
theorem flat_rep {α : Type} (F : α → List Cel) (x : α) : ∀ n,(List.replicate n x).flatMap F = (List.replicate n (F x)).flatten
 | 0 => rfl
 | n + 1 => by rw [List.replicate_succ,List.replicate_succ,List.flatMap_cons,List.flatten_cons,flat_rep F x n]
theorem ow_zero8 (w : World) : owL w (rw8 zeroRw) zero8.toList (fun _ => False) := by
 have h : owL w (rwCels zeroRw) (rwVals ⟨none,0,none,0,none,0,none,0⟩ zeroRw) (fun _ => False) := owL_congr (owL4 (ow_none_s w) (ow_none_i w) (ow_none_i w) (ow_none_i w) (fun _ h => h.elim) (fun _ h => h.elim) (fun _ h => h.elim)) (fun b => by simp)
 exact ow_rw8 h
theorem rows_made (w : World) (n : Nat) (hn : n ≤ 1048576) : Cel.ow (w.alloc (.cells (madeCells zero8 (n * 8)) 37)) (lcl 8 rw8 (List.replicate n zeroRw)) (.slice (some ⟨w.heap.size,0,none⟩) n n) (fun b => b = w.heap.size) := by
 have h := osl_made w zero8 8 n 37 rfl (by omega) (by unfold maxLen;omega)
 unfold lcl
 rw [flat_rep,List.length_replicate]
 exact ⟨_,n,_,some w.heap.size,fun _ => False,rfl,OSo.of h,owL_zeros (ow_zero8 _) (fun b h => h) n,fun _ _ h => h,fun b => by simp [eq_comm]⟩
def prR (R : List Rw) (k : Nat) : List Rw := R.take k ++ List.replicate (R.length - k) zeroRw
theorem prR_len {R : List Rw} {k : Nat} (hk : k ≤ R.length) : (prR R k).length = R.length := by simp [prR];omega
theorem prR_at {R : List Rw} {k : Nat} (hk : k < R.length) : (prR R k)[k]? = some zeroRw := by
 have e2 : R.length - k = (R.length - (k + 1)) + 1 := by omega
 have e3 : (R.take k).length = k := by simp;omega
 rw [prR,List.getElem?_append_right (by omega),e2,List.replicate_succ,e3,Nat.sub_self]
 rfl
theorem prR_set {R : List Rw} {k : Nat} (hk : k < R.length) : (prR R k).set k (rowN R k) = prR R (k + 1) := by
 have e : rowN R k = R[k] := by simp [rowN,List.getD,hk]
 have e2 : R.length - k = (R.length - (k + 1)) + 1 := by omega
 have e3 : (R.take k).length = k := by simp;omega
 rw [prR,prR,e,e2,List.replicate_succ,List.set_append_right _ _ (by omega),List.take_succ_eq_append_getElem hk,e3,Nat.sub_self,List.set_cons_zero,List.append_assoc]
 rfl
theorem szP_mono (R : List Rw) {a b : Nat} (h : a ≤ b) : szP R a ≤ szP R b := by
 unfold szP
 obtain ⟨c,rfl⟩ := Nat.exists_eq_add_of_le h
 rw [List.take_add,List.map_append,List.sum_append]
 omega
theorem prR_all (R : List Rw) : prR R R.length = R := by simp [prR]
set_option maxRecDepth 100000 in
set_option maxHeartbeats 3200000 in
theorem toRs_any (a : Option Addr) (cap : Nat) (R : List Rw) (w : World) (hv : Cel.vw w (lcl 8 rw8 R) (.slice a R.length cap)) (hf : ∀ r ∈ R,FitR r) (hs : szRs R ≤ 1048576) :
  Calls Tryz.prog 103 #[.slice a R.length cap] w fun e w' => ∃ a' c',e = .returned (.slice a' R.length c') ∧ NewO w w' (lcl 8 rw8 R) (.slice a' R.length c') := by
 have HV : Hid (Cel.vw w (lcl 8 rw8 R) (.slice a R.length cap)) := hv
 have hl : R.length ≤ 1048576 := by unfold szRs at hs;omega
 have HSZ : Hid (∀ k,k < R.length → szRw (rowN R k) ≤ 1048576) := fun k hk => by
  have h1 : szP R (k + 1) ≤ szP R R.length := szP_mono R (by omega)
  rw [szP_next hk] at h1
  unfold szRs at hs
  omega
 have hmk := make_rs R.length hl
 have HS : Hid (Cel.ow (w.alloc (.cells (madeCells zero8 (R.length * 8)) 37)) (lcl 8 rw8 (prR R 0)) (.slice (some ⟨w.heap.size,0,none⟩) R.length R.length) (fun b => b = w.heap.size) ∧ Below w.heap.size w (w.alloc (.cells (madeCells zero8 (R.length * 8)) 37))) := by
  refine ⟨?_,oneA16 w _⟩
  have := rows_made w R.length hl
  have e : prR R 0 = List.replicate R.length zeroRw := by simp [prR]
  rw [e]
  exact this
 clear hv
 go_enter Tryz.func103,Tryz.ntmps103
 go_wp2_with fail
 clear hmk
 generalize w.alloc (.cells (madeCells zero8 (R.length * 8)) 37) = W0 at *
 go_loopw [4] (fun i wr => ∃ (k : Nat) (fp : Fp),k ≤ R.length ∧ i = .int .i64 k ∧ Cel.ow wr (lcl 8 rw8 (prR R k)) (.slice (some ⟨w.heap.size,0,none⟩) R.length R.length) fp ∧ (∀ b,fp b → w.heap.size ≤ b) ∧ Below w.heap.size w wr) (fun i _ => R.length - (intOf i).toNat)
 case atStart => exact ⟨0,_,Nat.zero_le _,rfl,HS.out.1,fun b h => by rw [h];exact Nat.le_refl _,HS.out.2⟩
 case round =>
  obtain ⟨k,fp,hk,rfl,ho,hfp,hb⟩ := hrel
  by_cases hlt : k < R.length
  ·have k1 : (k : Int) < (R.length : Int) := by omega
   have k0 : (0 : Int) ≤ (k : Int) := by omega
   have hmem : rowN R k ∈ R := rowN_mem hlt
   obtain ⟨g,off,hra,hpv⟩ := vw_elF rw8_len (Cel.vw_below HV.out hb) (k := k) (x := rowN R k) (by simp [rowN,List.getD,hlt])
   obtain ⟨Ak,⟨⟨d0,d1,d2,d3⟩,d4,d5,d6,d7⟩,hrs⟩ := hpv.row (hf _ hmem)
   subst hra
   have hz := HSZ.out k hlt
   unfold szRw at hz
   have hC := toRw_any Ak (rowN R k) wr hrs (by omega) (by omega) (by omega) (by omega)
   unfold rwV rwC at hC
   have hpl := prR_len hk
   rw [← hpl] at ho
   obtain ⟨g1,off1,f1,e1,hfg,hfs,hP,hglt,hput⟩ := ow_elF rw8_len (by omega) ho (prR_at hlt)
   cases e1
   have hput := fun w1 => hput w1 (rowN R k)
   rw [prR_set hlt,hpl] at hput
   simp only [Nat.zero_add] at hP hput
   have HPut : Hid (∀ w1 : World,Bcm wr w1 w.heap.size (k * 8) (rw8 (rowN R k)) f1 → ∃ fp',Cel.ow w1 (lcl 8 rw8 (prR R (k + 1))) (.slice (some ⟨w.heap.size,0,none⟩) R.length R.length) fp' ∧ (∀ b,fp' b → fp b ∨ wr.heap.size ≤ b) ∧ Wrt fp wr w1) := hput
   have HP : Hid (Plc wr w.heap.size (k * 8) (rw8 zeroRw) f1) := hP
   have HB : Hid (Below w.heap.size w wr) := hb
   have HFP : Hid (∀ b,fp b → w.heap.size ≤ b) := hfp
   generalize rowN R k = r at *
   clear hrs hpv hb ho hput hP hz hpl hfs hmem
   go_wp2_with fail
   refine hC.mono ?_
   rintro e w1 ⟨A1,rfl,fr,hl1,hfr,hb1⟩
   have HA := HP.out.all hb1 (ow_rw8 hl1) rfl hfr
   obtain ⟨vs0,hpc,hov,_⟩ := HP.out
   have hl8 : vs0.length = 8 := owL_len hov
   have hpc1 := hpc.of_block (hb1.block _ hpc.lt) hb1.size
   have cc : ∀ j,j < 8 → ∃ u,w1.cell? ⟨w.heap.size,k * 8 + j,none⟩ = some u ∧ w1.frozen? ⟨w.heap.size,k * 8 + j,none⟩ = false := fun j hj => ⟨_,(hpc1.cell j (by omega)).trans (List.getElem?_eq_getElem (by omega)),hpc1.free j (by omega)⟩
   obtain ⟨u0,e0,f0⟩ := cc 0 (by omega)
   obtain ⟨u1,e1,f1'⟩ := cc 1 (by omega)
   obtain ⟨u2,e2,f2⟩ := cc 2 (by omega)
   obtain ⟨u3,e3,f3⟩ := cc 3 (by omega)
   obtain ⟨u4,e4,f4⟩ := cc 4 (by omega)
   obtain ⟨u5,e5,f5⟩ := cc 5 (by omega)
   obtain ⟨u6,e6,f6⟩ := cc 6 (by omega)
   obtain ⟨u7,e7,f7⟩ := cc 7 (by omega)
   simp only [Nat.add_zero] at e0 f0
   obtain ⟨fp',hN1,hN2,hN3⟩ := HPut.out _ HA
   have HN1 : Hid (Cel.ow _ (lcl 8 rw8 (prR R (k + 1))) (.slice (some ⟨w.heap.size,0,none⟩) R.length R.length) fp') := hN1
   have HN3 : Hid (Wrt fp wr _) := hN3
   have HN2 : Hid (∀ b,fp' b → fp b ∨ wr.heap.size ≤ b) := hN2
   have hsz := HB.out.size
   clear d0 d1 d2 d3 d4 d5 d6 d7 hC hb1 hl1 hN1 hN2 hN3 HA cc hpc1 hov hpc
   unfold rwV rwC
   go_wp2
   go_roundw
   case rel => exact ⟨k + 1,fp',by omega,by go_num,HN1.out,fun b hb => by have := HFP.out b;rcases HN2.out b hb with h | h;exact this h;omega,HN3.out.below HB.out hsz HFP.out⟩
   case measure => simp [intOf];omega
  ·obtain rfl : k = R.length := by omega
   have k1 : ¬ ((R.length : Int) < (R.length : Int)) := by omega
   have HE : Hid (NewO w wr (lcl 8 rw8 R) (.slice (some ⟨w.heap.size,0,none⟩) R.length R.length)) := by rw [prR_all] at ho;exact ⟨fp,ho,hfp,hb⟩
   clear ho hb
   go_wp2
   go_ret
   exact ⟨_,_,rfl,HE.out⟩
end Go.Proofs.YthioodpmgifomaaGreat
namespace Go.Proofs.YthioodpmgifomaaGreat
set_option linter.unusedVariables false
set_option linter.unusedSimpArgs false
open Go.RowKit Go.Sort
structure TM (w X : World) (S O : Array Value) (cs : List Cel) (vs : List Value) (fp : Fp) : Prop where
 src : Bx X w.heap.size 76 S
 res : Bx X (w.heap.size + 1) 27 #[.int .i64 0,.int .i64 0,.slice none 0 0,.slice none 0 0,.bool false]
 out : Bx X (w.heap.size + 1 + 1) 27 O
 own : owL X cs vs fp
 fpl : ∀ b,fp b → w.heap.size + 1 + 1 < b
 below : Below w.heap.size w X
theorem TM.set {w X : World} {S O : Array Value} {cs : List Cel} {vs : List Value} {fp : Fp} (h : TM w X S O cs vs fp) (i : Nat) (v : Value) : TM w (X.setCell ⟨w.heap.size + 1 + 1,i,none⟩ v) S (O.setIfInBounds i v) cs vs fp :=
 ⟨h.src.far (by omega) v,h.res.far (by omega) v,h.out.setC i v,owL_wrt h.own (Wrt.set X (w.heap.size + 1 + 1) i v) (fun b hb e => by have := h.fpl b hb;omega),h.fpl,h.below.setCell (p := ⟨w.heap.size + 1 + 1,i,none⟩) (show w.heap.size ≤ w.heap.size + 1 + 1 by omega) v⟩
theorem TM.add {w X X' : World} {S O : Array Value} {cs : List Cel} {vs : List Value} {fp : Fp} (h : TM w X S O cs vs fp) {c : Cel} {v : Value} (hN : NewO X X' c v) : ∃ fp',TM w X' S O (cs ++ [c]) (vs ++ [v]) fp' := by
 obtain ⟨f,ho,hf,hb⟩ := hN
 have hol := h.out.lt
 refine ⟨fun b => fp b ∨ f b,h.src.below hb,h.res.below hb,h.out.below hb,owL_append (owL_below h.own hb) (owL_one.2 ho) (fun b h1 h2 => ?_),fun b hb => ?_,h.below.trans (hb.mono h.below.size)⟩
 ·have := owL_lt h.own b h1
  have := hf b h2
  omega
 ·rcases hb with hb | hb
  ·exact h.fpl b hb
  ·have := hf b hb;omega
set_option maxRecDepth 100000 in
set_option maxHeartbeats 3200000 in
theorem toMb_any (A : Ma) (m : Mb) (w : World) (hv : MbS w A m) (hs : szMb m ≤ 1048576) :
  Calls Tryz.prog 48 #[mbV A m] w fun e w' => AnsMb w w' e m := by
 have HR : Hid (∀ X,Below w.heap.size w X → Calls Tryz.prog 103 #[.slice A.ra m.rows.length A.rc] X fun e w' => ∃ a' c',e = .returned (.slice a' m.rows.length c') ∧ NewO X w' (lcl 8 rw8 m.rows) (.slice a' m.rows.length c')) := fun X h => toRs_any A.ra A.rc m.rows X (hv.below h).rows hv.fit (by unfold szMb at hs;omega)
 have HG : Hid (∀ X,Below w.heap.size w X → Calls Tryz.prog 104 #[.slice A.sa m.sung.length A.sc] X fun e w' => ∃ a' c',e = .returned (.slice a' m.sung.length c') ∧ NewO X w' (icl m.sung) (.slice a' m.sung.length c')) := fun X h => toI16 A.sa A.sc m.sung X (hv.below h).sung (by unfold szMb at hs;omega)
 obtain ⟨id,n,rows,sung,done⟩ := m
 obtain ⟨ra,rc,sa,sc⟩ := A
 simp only at HR HG
 have T0 : TM w (((w.alloc (.cells #[.int .i64 id,.int .i64 n,.slice ra rows.length rc,.slice sa sung.length sc,.bool done] 76)).alloc (.cells #[.int .i64 0,.int .i64 0,.slice none 0 0,.slice none 0 0,.bool false] 27)).alloc (.cells #[.int .i64 id,.int .i64 n,.slice none 0 0,.slice none 0 0,.bool false] 27)) #[.int .i64 id,.int .i64 n,.slice ra rows.length rc,.slice sa sung.length sc,.bool done] #[.int .i64 id,.int .i64 n,.slice none 0 0,.slice none 0 0,.bool false] [] [] (fun _ => False) := by
  have x0 := ((Bx.new w 76 #[.int .i64 id,.int .i64 n,.slice ra rows.length rc,.slice sa sung.length sc,.bool done]).alloc (.cells #[.int .i64 0,.int .i64 0,.slice none 0 0,.slice none 0 0,.bool false] 27)).alloc (.cells #[.int .i64 id,.int .i64 n,.slice none 0 0,.slice none 0 0,.bool false] 27)
  have x1 := (Bx.new (w.alloc (.cells #[.int .i64 id,.int .i64 n,.slice ra rows.length rc,.slice sa sung.length sc,.bool done] 76)) 27 #[.int .i64 0,.int .i64 0,.slice none 0 0,.slice none 0 0,.bool false]).alloc (.cells #[.int .i64 id,.int .i64 n,.slice none 0 0,.slice none 0 0,.bool false] 27)
  have x2 := Bx.new ((w.alloc (.cells #[.int .i64 id,.int .i64 n,.slice ra rows.length rc,.slice sa sung.length sc,.bool done] 76)).alloc (.cells #[.int .i64 0,.int .i64 0,.slice none 0 0,.slice none 0 0,.bool false] 27)) 27 #[.int .i64 id,.int .i64 n,.slice none 0 0,.slice none 0 0,.bool false]
  simp only [World.size_alloc] at x1 x2
  exact ⟨x0,x1,x2,⟨rfl,fun _ h => h⟩,fun b h => h.elim,((Below.refl _ _).alloc (Nat.le_refl _) _).alloc (by simp) _ |>.alloc (by simp only [World.size_alloc];omega) _⟩
 have hC1 := HR.out _ T0.below
 have HT0 : Hid (TM w (((w.alloc (.cells #[.int .i64 id,.int .i64 n,.slice ra rows.length rc,.slice sa sung.length sc,.bool done] 76)).alloc (.cells #[.int .i64 0,.int .i64 0,.slice none 0 0,.slice none 0 0,.bool false] 27)).alloc (.cells #[.int .i64 id,.int .i64 n,.slice none 0 0,.slice none 0 0,.bool false] 27)) #[.int .i64 id,.int .i64 n,.slice ra rows.length rc,.slice sa sung.length sc,.bool done] #[.int .i64 id,.int .i64 n,.slice none 0 0,.slice none 0 0,.bool false] [] [] (fun _ => False)) := T0
 unfold mbV mbC
 simp only
 clear hv T0
 go_enter Tryz.func48,Tryz.ntmps48
 go_wp2_with fail
 refine hC1.mono ?_
 rintro e w1 ⟨a1,c1,rfl,hN1⟩
 obtain ⟨fp1,T1⟩ := HT0.out.add hN1
 obtain ⟨s0,s1,s2,s3,s4⟩ := Bx.r5 T1.src
 obtain ⟨o0,o1,o2,o3,o4⟩ := Bx.r5 (show Bx _ _ _ #[.int .i64 id,.int .i64 n,.slice none 0 0,.slice none 0 0,.bool false] from T1.out)
 obtain ⟨f0,f1,f2,f3,f4⟩ := T1.out.f5
 have T1s := T1.set 2 (.slice a1 rows.length c1)
 have T1' : TM w (w1.setCell ⟨w.heap.size + 1 + 1,2,none⟩ (.slice a1 rows.length c1)) #[.int .i64 id,.int .i64 n,.slice ra rows.length rc,.slice sa sung.length sc,.bool done] #[.int .i64 id,.int .i64 n,.slice a1 rows.length c1,.slice none 0 0,.bool false] ([] ++ [lcl 8 rw8 rows]) ([] ++ [.slice a1 rows.length c1]) fp1 := by simpa using T1s
 have hC2 := HG.out _ T1'.below
 have HT1 : Hid (TM w (w1.setCell ⟨w.heap.size + 1 + 1,2,none⟩ (.slice a1 rows.length c1)) #[.int .i64 id,.int .i64 n,.slice ra rows.length rc,.slice sa sung.length sc,.bool done] #[.int .i64 id,.int .i64 n,.slice a1 rows.length c1,.slice none 0 0,.bool false] ([] ++ [lcl 8 rw8 rows]) ([] ++ [.slice a1 rows.length c1]) fp1) := T1'
 have x0 : (w1.setCell ⟨w.heap.size + 1 + 1,2,none⟩ (.slice a1 rows.length c1)).cell? ⟨w.heap.size,3,none⟩ = some (.slice sa sung.length sc) := T1'.src.at 3 rfl
 clear hN1 T1 T1s T1' hC1 HT0
 go_wp2_with fail
 refine hC2.mono ?_
 rintro e w2 ⟨a2,c2,rfl,hN2⟩
 clear s0 s1 s2 s3 s4 o0 o1 o2 o3 o4 f0 f1 f2 f3 f4 x0
 obtain ⟨fp2,T2⟩ := HT1.out.add hN2
 have p0 := (show Bx _ _ _ #[.int .i64 id,.int .i64 n,.slice a1 rows.length c1,.slice none 0 0,.bool false] from T2.out).at 3 rfl
 have q0 := T2.out.f 3
 have T2as := T2.set 3 (.slice a2 sung.length c2)
 have T2a : TM w (w2.setCell ⟨w.heap.size + 1 + 1,3,none⟩ (.slice a2 sung.length c2)) #[.int .i64 id,.int .i64 n,.slice ra rows.length rc,.slice sa sung.length sc,.bool done] #[.int .i64 id,.int .i64 n,.slice a1 rows.length c1,.slice a2 sung.length c2,.bool false] (([] ++ [lcl 8 rw8 rows]) ++ [icl sung]) (([] ++ [.slice a1 rows.length c1]) ++ [.slice a2 sung.length c2]) fp2 := by simpa using T2as
 have s4 : (w2.setCell ⟨w.heap.size + 1 + 1,3,none⟩ (.slice a2 sung.length c2)).cell? ⟨w.heap.size,4,none⟩ = _ := T2a.src.at 4 rfl
 have p4 := T2a.out.at 4 rfl
 have q4 := T2a.out.f 4
 have T2bs := T2a.set 4 (.bool done)
 have T2b : TM w ((w2.setCell ⟨w.heap.size + 1 + 1,3,none⟩ (.slice a2 sung.length c2)).setCell ⟨w.heap.size + 1 + 1,4,none⟩ (.bool done)) #[.int .i64 id,.int .i64 n,.slice ra rows.length rc,.slice sa sung.length sc,.bool done] #[.int .i64 id,.int .i64 n,.slice a1 rows.length c1,.slice a2 sung.length c2,.bool done] (([] ++ [lcl 8 rw8 rows]) ++ [icl sung]) (([] ++ [.slice a1 rows.length c1]) ++ [.slice a2 sung.length c2]) fp2 := by simpa using T2bs
 obtain ⟨o0,o1,o2,o3,o4⟩ := Bx.r5 (show Bx _ _ _ #[.int .i64 id,.int .i64 n,.slice a1 rows.length c1,.slice a2 sung.length c2,.bool done] from T2b.out)
 obtain ⟨r0,r1,r2,r3,r4⟩ := Bx.r5 T2b.res
 obtain ⟨f0,f1,f2,f3,f4⟩ := T2b.res.f5
 have HT3 : Hid (TM w ((w2.setCell ⟨w.heap.size + 1 + 1,3,none⟩ (.slice a2 sung.length c2)).setCell ⟨w.heap.size + 1 + 1,4,none⟩ (.bool done)) #[.int .i64 id,.int .i64 n,.slice ra rows.length rc,.slice sa sung.length sc,.bool done] #[.int .i64 id,.int .i64 n,.slice a1 rows.length c1,.slice a2 sung.length c2,.bool done] (([] ++ [lcl 8 rw8 rows]) ++ [icl sung]) (([] ++ [.slice a1 rows.length c1]) ++ [.slice a2 sung.length c2]) fp2) := T2b
 clear hN2 T2 T2as T2a T2bs T2b hC2 HT1
 go_wp2
 refine bodyPost_ret (v := .agg #[.int .i64 id,.int .i64 n,.slice a1 rows.length c1,.slice a2 sung.length c2,.bool done]) (by simp [results,Tryz.results48,go_sem, *]) rfl ?_
 refine ⟨⟨a1,c1,a2,c2⟩,rfl,fp2,owL_wrt HT3.out.own (wrt5 _ (w.heap.size + 1)) (fun b hb e => by have := HT3.out.fpl b hb;omega),fun b hb => by have := HT3.out.fpl b hb;omega,(wrt5 _ (w.heap.size + 1)).below HT3.out.below HT3.out.below.size (fun b e => by rw [e];omega)⟩
end Go.Proofs.YthioodpmgifomaaGreat
namespace Go.Proofs.YthioodpmgifomaaGreat
set_option linter.unusedVariables false
set_option linter.unusedSimpArgs false
open Go.RowKit Go.Sort
theorem Bcm.at {w X : World} {B o : Nat} {cs : List Cel} {fp : Fp} (h : Bcm w X B o cs fp) {j : Nat} {c : Cel} (hj : cs[j]? = some c) : ∃ u f,X.cell? ⟨B,o + j,none⟩ = some u ∧ X.frozen? ⟨B,o + j,none⟩ = false ∧ Cel.ow X c u f ∧
  ∀ (X1 : World) (c' : Cel) (u' : Value) (f' : Fp),Wrt f X X1 → Cel.ow X1 c' u' f' → (∀ b,f' b → f b ∨ X.heap.size ≤ b) → X1.cell? ⟨B,o + j,none⟩ = some u ∧ X1.frozen? ⟨B,o + j,none⟩ = false ∧ Bcm w (X1.setCell ⟨B,o + j,none⟩ u') B o (cs.set j c') fp ∧ (u' = u → Bcm w X1 B o (cs.set j c') fp) := by
 obtain ⟨fp1,hp,_,hgo⟩ := h.next
 obtain ⟨u,f,h1,h2,h3,h4,h5,h6⟩ := hp.at hj
 refine ⟨u,f,h1,h2,h3,fun X1 c' u' f' hw hc hf => ?_⟩
 obtain ⟨k1,k2,k3,k4⟩ := h6 X1 c' u' f' hw hc hf
 exact ⟨k1,k2,hgo _ _ (by simp) k3,fun e => hgo _ _ (by simp) (k4 e)⟩
theorem Bcm.put {w X : World} {B o : Nat} {cs : List Cel} {fp : Fp} (h : Bcm w X B o cs fp) {j : Nat} {x : Value} (hj : cs[j]? = some (.v x)) (y : Value) : X.cell? ⟨B,o + j,none⟩ = some x ∧ X.frozen? ⟨B,o + j,none⟩ = false ∧ Bcm w (X.setCell ⟨B,o + j,none⟩ y) B o (cs.set j (.v y)) fp := by
 obtain ⟨u,f,h1,h2,⟨rfl,_⟩,h4⟩ := h.at hj
 exact ⟨h1,h2,(h4 X (.v y) y (fun _ => False) (Wrt.refl _ _) ⟨rfl,fun _ h => h⟩ (fun b hb => hb.elim)).2.2.1⟩
def m3 (k : Int) : Bool := k % 3 == 0
def mk8 (r : Rw) (k : Nat) : Rw :=
 { ver := (k : Int),txt := marksS r.txt.length (k + 1),got := marks r.got.length (k + 1 + r.txt.length),sus := marks r.sus.length (k + 1 + r.txt.length + r.got.length),wed := m3 ((k + 1 + r.txt.length + r.got.length + r.sus.length : Nat) : Int),rdy := m3 (((k + 1 + r.txt.length + r.got.length + r.sus.length : Nat) : Int) + 1),by_ := ((k + 1 + r.txt.length + r.got.length + r.sus.length : Nat) : Int) + 1 + 1,trm := marks r.trm.length (k + 1 + r.txt.length + r.got.length + r.sus.length + 1 + 1 + 1) }
def cnt8 (r : Rw) : Nat := 1 + r.txt.length + r.got.length + r.sus.length + 1 + 1 + 1 + r.trm.length
def cP (R : List Rw) (k : Nat) : Nat := ((R.take k).map cnt8).sum
theorem cP_next {R : List Rw} {k : Nat} (hk : k < R.length) : cP R (k + 1) = cP R k + cnt8 (rowN R k) := by
 have e : rowN R k = R[k] := by simp [rowN,List.getD,hk]
 unfold cP
 rw [List.take_succ_eq_append_getElem hk,List.map_append,List.sum_append,e]
 simp
theorem cP_mono (R : List Rw) {a b : Nat} (h : a ≤ b) : cP R a ≤ cP R b := by
 unfold cP
 obtain ⟨c,rfl⟩ := Nat.exists_eq_add_of_le h
 rw [List.take_add,List.map_append,List.sum_append]
 omega
def mkP (R : List Rw) (k : Nat) : Nat → List Rw
 | 0 => R
 | j + 1 => (mkP R k j).set j (mk8 (rowN R j) (k + cP R j))
theorem mkP_len (R : List Rw) (k : Nat) : ∀ j,(mkP R k j).length = R.length
 | 0 => rfl
 | j + 1 => by rw [mkP,List.length_set,mkP_len R k j]
theorem mkP_row {R : List Rw} {k : Nat} : ∀ {j i : Nat},j ≤ R.length → rowN (mkP R k j) i = if i < j then mk8 (rowN R i) (k + cP R i) else rowN R i
 | 0,i,_ => by simp [mkP]
 | j + 1,i,h => by
  rw [mkP,rowN_set (by rw [mkP_len];omega),mkP_row (by omega)]
  by_cases e : i = j
  ·subst e;rw [if_pos rfl,if_pos (by omega)]
  ·rw [if_neg e]
   by_cases h2 : i < j
   ·rw [if_pos h2,if_pos (by omega)]
   ·rw [if_neg h2,if_neg (by omega)]
set_option maxRecDepth 100000 in
set_option maxHeartbeats 6400000 in
theorem markRs_ow (a : Option Addr) (cap k0 : Nat) (R : List Rw) (fp : Fp) (w : World) (h : Cel.ow w (lcl 8 rw8 R) (.slice a R.length cap) fp) (hk1 : 1 ≤ k0) (hk : k0 + cP R R.length ≤ 10000000) (hm : R.length ≤ maxLen) :
  Calls Tryz.prog 107 #[.slice a R.length cap,.int .i64 (k0 : Int)] w fun e w' => e = .returned (.int .i64 ((k0 + cP R R.length : Nat) : Int)) ∧ ∃ fp',Cel.ow w' (lcl 8 rw8 (mkP R k0 R.length)) (.slice a R.length cap) fp' ∧ (∀ b,fp' b → fp b ∨ w.heap.size ≤ b) ∧ Wrt fp w w' := by
 unfold maxLen at hm
 have HH : Hid (Cel.ow w (lcl 8 rw8 R) (.slice a R.length cap) fp) := h
 clear h
 go_enter Tryz.func107,Tryz.ntmps107
 go_wp2_with fail
 go_loopw [1,5] (fun kv v wr => ∃ (j K : Nat) (fpj : Fp),j ≤ R.length ∧ v = .int .i64 (j : Int) ∧ kv = .int .i64 (K : Int) ∧ Hid (K = k0 + cP R j) ∧ Cel.ow wr (lcl 8 rw8 (mkP R k0 j)) (.slice a R.length cap) fpj ∧ (∀ b,fpj b → fp b ∨ w.heap.size ≤ b) ∧ Wrt fp w wr) (fun _ v _ => R.length - (intOf v).toNat)
 case atStart => exact ⟨0,k0,fp,Nat.zero_le _,rfl,rfl,by simp [Hid,cP],HH.out,fun b hb => .inl hb,Wrt.refl _ _⟩
 case round =>
  obtain ⟨j,K0,fpj,hj,rfl,rfl,hK,ho,hfj,hwj⟩ := hrel
  have HWj : Hid (Wrt fp w wr) := hwj
  have HFj : Hid (∀ b,fpj b → fp b ∨ w.heap.size ≤ b) := hfj
  by_cases hlt : j < R.length
  ·have j1 : (j : Int) < (R.length : Int) := by omega
   have j0 : (0 : Int) ≤ (j : Int) := by omega
   have hlen := mkP_len R k0 j
   have hat : (mkP R k0 j)[j]? = some (rowN R j) := by
    have := mkP_row (k := k0) (i := j) hj
    rw [if_neg (Nat.lt_irrefl _)] at this
    rw [← this]
    simp [rowN,List.getD,hlen,hlt]
   rw [← hlen] at ho
   obtain ⟨g,off,f,rfl,hfg,hfs,hP,hglt,hput⟩ := ow_elF rw8_len (by omega) ho hat
   have hput := fun X => hput X (mk8 (rowN R j) (k0 + cP R j))
   rw [show (mkP R k0 j).set j (mk8 (rowN R j) (k0 + cP R j)) = mkP R k0 (j + 1) from rfl,hlen] at hput
   rw [← hK.out] at hput
   have hKb : K0 + cnt8 (rowN R j) ≤ 10000000 := by
    have h1 := cP_mono R (show j + 1 ≤ R.length from hlt)
    rw [cP_next hlt] at h1
    have := hK.out
    omega
   have HKn : Hid (K0 + cnt8 (rowN R j) = k0 + cP R (j + 1)) := by rw [Hid,cP_next hlt,hK.out];omega
   have hK1 : 1 ≤ K0 := by have := hK.out;omega
   have HPut : Hid (∀ X,Bcm wr X g (off + j * 8) (rw8 (mk8 (rowN R j) K0)) f → ∃ fp',Cel.ow X (lcl 8 rw8 (mkP R k0 (j + 1))) (.slice (some ⟨g,off,none⟩) R.length cap) fp' ∧ (∀ b,fp' b → fpj b ∨ wr.heap.size ≤ b) ∧ Wrt fpj wr X) := hput
   have B0 : Bcm wr wr g (off + j * 8) (rw8 (rowN R j)) f := Bcm.refl hP
   clear ho hput hP hat hlen hfj hwj hK hfs
   generalize rowN R j = r at *
   obtain ⟨v0,z0,B1⟩ := B0.put (j := 0) (x := .int .i64 r.ver) rfl (.int .i64 (K0 : Int))
   simp only [Nat.add_zero] at v0 z0 B1
   have HB1 : Hid (Bcm wr (wr.setCell ⟨g,off + j * 8,none⟩ (.int .i64 (K0 : Int))) g (off + j * 8) ((rw8 r).set 0 (.v (.int .i64 (K0 : Int)))) f) := B1
   unfold cnt8 at hKb
   obtain ⟨Ka,hKa⟩ : ∃ Ka : Nat,Hid (Ka = K0 + 1) := ⟨_,rfl⟩
   have eKa : (Ka : Int) = (K0 : Int) + 1 := by have := hKa.out;omega
   obtain ⟨u1,f1,t1,_,ho1,hp1⟩ := B1.at (j := 1) (c := scl r.txt) rfl
   have hM1 := markS_ow u1 Ka r.txt f1 _ ho1 (by have := hKa.out;omega) (by have := hKa.out;omega) (by omega)
   clear B0 B1 ho1
   obtain ⟨K2,hK2⟩ : ∃ K2 : Nat,Hid (K2 = Ka + r.txt.length) := ⟨_,rfl⟩
   have eK2 : (Ka : Int) + (r.txt.length : Int) = (K2 : Int) := by have := hK2.out;omega
   rw [eK2,eKa] at hM1
   go_wp2_with fail
   refine hM1.mono ?_
   rintro e X1 ⟨rfl,hm1,hw1⟩
   have B2 := (hp1 X1 _ u1 f1 hw1 hm1 (fun b hb => .inl hb)).2.2.2 rfl
   clear hM1 hp1 hm1 hw1 t1 v0 z0 eKa eK2
   obtain ⟨u2,f2,t2,_,ho2,hp2⟩ := B2.at (j := 2) (c := icl r.got) rfl
   have hM2 := markI_ow u2 K2 r.got f2 _ ho2 (by have := hKa.out;have := hK2.out;omega) (by omega)
   obtain ⟨K3,hK3⟩ : ∃ K3 : Nat,Hid (K3 = K2 + r.got.length) := ⟨_,rfl⟩
   have eK3 : (K2 : Int) + (r.got.length : Int) = (K3 : Int) := by have := hK3.out;omega
   rw [eK3] at hM2
   clear B2 ho2
   go_wp2_with fail
   refine hM2.mono ?_
   rintro e X2 ⟨rfl,hm2,hw2⟩
   have B3 := (hp2 X2 _ u2 f2 hw2 hm2 (fun b hb => .inl hb)).2.2.2 rfl
   clear hM2 hp2 hm2 hw2 t2 eK3
   obtain ⟨u3,f3,t3,_,ho3,hp3⟩ := B3.at (j := 3) (c := icl r.sus) rfl
   have hM3 := markI_ow u3 K3 r.sus f3 _ ho3 (by have := hKa.out;have := hK2.out;have := hK3.out;omega) (by omega)
   obtain ⟨K4,hK4⟩ : ∃ K4 : Nat,Hid (K4 = K3 + r.sus.length) := ⟨_,rfl⟩
   have eK4 : (K3 : Int) + (r.sus.length : Int) = (K4 : Int) := by have := hK4.out;omega
   rw [eK4] at hM3
   clear B3 ho3
   go_wp2_with fail
   refine hM3.mono ?_
   rintro e X3 ⟨rfl,hm3,hw3⟩
   have B4 := (hp3 X3 _ u3 f3 hw3 hm3 (fun b hb => .inl hb)).2.2.2 rfl
   clear hM3 hp3 hm3 hw3 t3 eK4
   have hK4b : K4 + 3 ≤ K0 + (1 + r.txt.length + r.got.length + r.sus.length + 1 + 1 + 1 + r.trm.length) := by have := hKa.out;have := hK2.out;have := hK3.out;have := hK4.out;omega
   obtain ⟨v4,z4,B5⟩ := B4.put (j := 4) (x := .bool r.wed) rfl (.bool ((K4 : Int) % 3 == 0))
   obtain ⟨v5,z5,B6⟩ := B5.put (j := 5) (x := .bool r.rdy) rfl (.bool (((K4 : Int) + 1) % 3 == 0))
   obtain ⟨v6,z6,B7⟩ := B6.put (j := 6) (x := .int .i64 r.by_) rfl (.int .i64 ((K4 : Int) + 1 + 1))
   obtain ⟨u7,f7,t7,_,ho7,hp7⟩ := B7.at (j := 7) (c := icl r.trm) rfl
   obtain ⟨K7,hK7⟩ : ∃ K7 : Nat,Hid (K7 = K4 + 1 + 1 + 1) := ⟨_,rfl⟩
   have eK7 : (K7 : Int) = (K4 : Int) + 1 + 1 + 1 := by have := hK7.out;omega
   have hM7 := markI_ow u7 K7 r.trm f7 _ ho7 (by have := hK7.out;omega) (by omega)
   obtain ⟨K8,hK8⟩ : ∃ K8 : Nat,Hid (K8 = K7 + r.trm.length) := ⟨_,rfl⟩
   have eK8 : (K7 : Int) + (r.trm.length : Int) = (K8 : Int) := by have := hK8.out;omega
   rw [eK8,eK7] at hM7
   have HK8 : Hid (K8 = k0 + cP R (j + 1)) := by
    have h1 := HKn.out
    unfold cnt8 at h1
    have := hKa.out;have := hK2.out;have := hK3.out;have := hK4.out;have := hK7.out;have := hK8.out
    rw [Hid]
    omega
   have wj : wrap64 ((j : Int) + 1) = (j : Int) + 1 := by unfold wrap64;omega
   clear B4 B5 B6 B7 ho7 HB1 eK8 eK7
   go_wp2_with fail
   refine hM7.mono ?_
   rintro e X7 ⟨rfl,hm7,hw7⟩
   have B8 := (hp7 X7 _ u7 f7 hw7 hm7 (fun b hb => .inl hb)).2.2.2 rfl
   have hE : rw8 (mk8 r K0) = (((((((((rw8 r).set 0 (.v (.int .i64 (K0 : Int)))).set 1 (scl (marksS r.txt.length Ka))).set 2 (icl (marks r.got.length K2))).set 3 (icl (marks r.sus.length K3))).set 4 (.v (.bool ((K4 : Int) % 3 == 0)))).set 5 (.v (.bool (((K4 : Int) + 1) % 3 == 0)))).set 6 (.v (.int .i64 ((K4 : Int) + 1 + 1)))).set 7 (icl (marks r.trm.length K7))) := by
    rw [hK7.out,hK4.out,hK3.out,hK2.out,hKa.out]
    rfl
   rw [← hE] at B8
   obtain ⟨fp',n1,n2,n3⟩ := HPut.out X7 B8
   have HN1 : Hid (Cel.ow X7 (lcl 8 rw8 (mkP R k0 (j + 1))) (.slice (some ⟨g,off,none⟩) R.length cap) fp') := n1
   have HN2 : Hid (∀ b,fp' b → fpj b ∨ wr.heap.size ≤ b) := n2
   have HN3 : Hid (Wrt fpj wr X7) := n3
   clear hM7 hp7 hm7 hw7 t7 v4 z4 v5 z5 v6 z6 B8 hE n1 n2 n3 HPut
   have hws := HWj.out.size
   clear hKb hK4b hk hK1 hk1
   go_wp2
   go_roundw
   case rel => exact ⟨j + 1,K8,fp',by omega,by go_num,rfl,HK8,HN1.out,fun b hb => by
    rcases HN2.out b hb with h | h
    ·exact HFj.out b h
    ·exact .inr (by omega),HWj.out.trans HN3.out (fun b hb h => by
     rcases HFj.out b h with h | h
     ·exact h
     ·omega)⟩
   case measure => simp [intOf];omega
  ·obtain rfl : j = R.length := by omega
   have k1 : ¬ ((R.length : Int) < (R.length : Int)) := by omega
   have HE : Hid (Cel.ow wr (lcl 8 rw8 (mkP R k0 R.length)) (.slice a R.length cap) fpj) := ho
   clear ho hfj hwj hk hk1
   go_wp2
   go_ret
   exact ⟨ret_int (by rw [hK.out];omega),fpj,HE.out,HFj.out,HWj.out⟩
end Go.Proofs.YthioodpmgifomaaGreat