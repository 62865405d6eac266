/-
  Texts in one: Mcg Gna Mch Rps Rnr Rtn Rhv Rhm Fns Fnb Gnb Mcl Mcm.
-/
import Derived.Test.YthioodpmgifomaaJac
import Derived.Test.YthioodpmgifomaaJab
import Derived.Test.YthioodpmgifomaaJaa
import Derived.BigQuiet
import Derived.Deep.RegionHeld3
namespace Go.Proofs.Ythioodpmgifomaa
set_option linter.unusedVariables false
set_option linter.unusedSimpArgs false
open Go.RowKit Go.Sort
def szP (R : List Rw) (k : Nat) : Nat := ((R.take k).map szRw).sum
theorem szP_next {R : List Rw} {k : Nat} (hk : k < R.length) : szP R (k + 1) = szP R k + szRw (rowN R k) := by
 have e : rowN R k = R[k] := by simp [rowN,List.getD,hk]
 unfold szP
 rw [List.take_succ_eq_append_getElem hk,List.map_append,List.sum_append,e]
 simp
def szRs (R : List Rw) : Nat := R.length + szP R R.length
def szMb (m : Mb) : Nat := szRs m.rows + m.sung.length
set_option maxRecDepth 100000 in
set_option maxHeartbeats 3200000 in
theorem szRs_any (a : Option Addr) (cap : Nat) (R : List Rw) (left : Int) (w : World) (hv : Cel.vw w (lcl 8 rw8 R) (.slice a R.length cap)) (hf : ∀ r ∈ R,FitR r) (hlg : ∀ r ∈ R,LongT r.txt) (hm : R.length ≤ maxLen) (hl : 0 ≤ left ∧ left ≤ 1048576) :
  Calls Try.prog 67 #[.slice a R.length cap,.int .i64 left] w fun e w' => ∃ q : Int,e = .returned (.int .i64 q) ∧ (q = -1 ∨ 0 ≤ q ∧ q + (szRs R : Int) = left) ∧ Below w.heap.size w w' := by
 have HV : Hid (Cel.vw w (lcl 8 rw8 R) (.slice a R.length cap)) := hv
 unfold maxLen at hm
 have wl : wrap64 (left - (R.length : Int)) = left - (R.length : Int) := by unfold wrap64;omega
 clear hv
 by_cases h0 : left - (R.length : Int) < 0
 ·go_enter Try.func67,Try.ntmps67
  go_wp2
  go_ret
  exact ⟨-1,rfl,.inl rfl,Below.refl _ _⟩
 ·obtain ⟨l0,hl0⟩ : ∃ l0 : Int,Hid (left - (R.length : Int) = l0) := ⟨_,rfl⟩
  rw [hl0.out] at h0 wl
  go_enter Try.func67,Try.ntmps67
  have hl1 := hl0.out
  rw [← hl1] at wl h0
  go_wp2_with fail
  rw [hl1] at *
  clear hl1 wl
  go_loopw [1,5] (fun lv v wr => ∃ (k : Nat) (l : Int),k ≤ R.length ∧ v = .int .i64 (k : Int) ∧ lv = .int .i64 l ∧ 0 ≤ l ∧ l ≤ 1048576 ∧ Hid (l + (szP R k : Int) = l0) ∧ Below w.heap.size w wr) (fun _ v _ => R.length - (intOf v).toNat)
  case atStart => exact ⟨0,l0,Nat.zero_le _,rfl,rfl,by omega,by have := hl0.out;omega,by simp [Hid,szP],Below.refl _ _⟩
  case round =>
   obtain ⟨k,l,hk,rfl,rfl,hlp,hlm,hS,hb⟩ := hrel
   by_cases hlt : k < R.length
   ·have k1 : (k : Int) < (R.length : Int) := by omega
    have k0 : (0 : Int) ≤ (k : Int) := by omega
    have hmem : rowN R k ∈ R := rowN_mem hlt
    obtain ⟨g,off,hra,hpv⟩ := vw_elF rw8_len (Cel.vw_below HV.out hb) (k := k) (x := rowN R k) (by simp [rowN,List.getD,hlt])
    obtain ⟨Ak,⟨⟨d0,d1,d2,d3⟩,d4,d5,d6,d7⟩,hrs⟩ := hpv.row (hf _ hmem)
    subst hra
    have hC := szRw_any Ak (rowN R k) l wr hrs (hlg _ hmem) ⟨hlp,hlm⟩
    unfold rwV rwC at hC
    have HN : Hid (szP R (k + 1) = szP R k + szRw (rowN R k)) := szP_next hlt
    have HB : Hid (Below w.heap.size w wr) := hb
    generalize rowN R k = r at *
    clear hrs hpv hb
    go_wp2_with fail
    refine hC.mono ?_
    rintro e w1 ⟨q,rfl,hq,hb1⟩
    have HB1 : Hid (Below w.heap.size w w1) := HB.out.trans (hb1.mono HB.out.size)
    clear d0 d1 d2 d3 d4 d5 d6 d7 hC hb1
    rcases hq with rfl | ⟨hq0,hq1⟩
    ·go_wp2
     go_ret
     exact ⟨-1,rfl,.inl rfl,HB1.out⟩
    ·have n1 : ¬ (q < 0) := by omega
     have HS2 : Hid (q + (szP R (k + 1) : Int) = l0) := by
      have h1 := HN.out
      have h2 := hS.out
      rw [Hid,h1]
      omega
     have hqm : q ≤ 1048576 := by omega
     clear hq1
     go_wp2
     go_roundw
     case rel => exact ⟨k + 1,q,by omega,by go_num,rfl,by omega,hqm,HS2,HB1.out⟩
     case measure => simp [intOf];omega
   ·have k1 : ¬ ((k : Int) < (R.length : Int)) := by omega
    have ek : k = R.length := by omega
    have HE : Hid (l + (szRs R : Int) = left) := by
     have h1 := hS.out
     have h2 := hl0.out
     rw [ek] at h1
     rw [Hid,szRs]
     omega
    have HB : Hid (Below w.heap.size w wr) := hb
    clear hb ek
    go_wp2
    go_ret
    exact ⟨l,rfl,.inr ⟨hlp,HE.out⟩,HB.out⟩
set_option maxRecDepth 100000 in
set_option maxHeartbeats 3200000 in
theorem szMb_any (A : Ma) (m : Mb) (left : Int) (w : World) (hv : MbS w A m) (hlg : ∀ r ∈ m.rows,LongT r.txt) (hl : 0 ≤ left ∧ left ≤ 1048576) :
  Calls Try.prog 26 #[mbV A m,.int .i64 left] w fun e w' => ∃ q : Int,e = .returned (.int .i64 q) ∧ (q = -1 ∨ 0 ≤ q ∧ q + (szMb m : Int) = left) ∧ Below w.heap.size w w' := by
 have hb := oneA16 w (.cells (mbC A m) 35)
 have hx := Bx.new w 35 (mbC A m)
 have hv0 := hv.below hb
 have hS := szRs_any A.ra A.rc m.rows left _ hv0.rows hv0.fit hlg hv0.mr hl
 have hms := hv.ms
 unfold mbV
 unfold mbC at *
 generalize hWW : w.alloc (.cells #[.int .i64 m.id,.int .i64 m.n,.slice A.ra m.rows.length A.rc,.slice A.sa m.sung.length A.sc,.bool m.done] 35) = W at *
 have c2 := (Bx.r5 hx).2.2.1
 have HX : Hid (Bx W w.heap.size 35 #[.int .i64 m.id,.int .i64 m.n,.slice A.ra m.rows.length A.rc,.slice A.sa m.sung.length A.sc,.bool m.done]) := hx
 have HB : Hid (Below w.heap.size w W) := hb
 clear hv hv0 hb hx
 go_enter Try.func26,Try.ntmps26
 go_wp2_with fail
 refine hS.mono ?_
 rintro e w1 ⟨q1,rfl,hq1,hb1⟩
 have HB1 : Hid (Below w.heap.size w w1) := HB.out.trans (hb1.mono HB.out.size)
 have c3 := (Bx.r5 (HX.out.below hb1)).2.2.2.1
 clear hS hb1 c2
 rcases hq1 with rfl | ⟨hq0,hq1⟩
 ·go_wp2
  go_ret
  exact ⟨-1,rfl,.inl rfl,HB1.out⟩
 have n1 : ¬ (q1 < 0) := by omega
 have b1 : q1 ≤ 1048576 := by omega
 have HQ1 : Hid (q1 + (szRs m.rows : Int) = left) := hq1
 clear hq1
 have hs2 := szI14_any A.sa m.sung.length A.sc q1 w1 hms ⟨by omega,by omega⟩
 by_cases g2 : (m.sung.length : Int) ≤ q1
 rotate_left
 ·rw [if_neg g2] at hs2
  go_wp2_with (go_at_call 68;refine hs2.mono ?_;rintro e w' ⟨rfl,hw'⟩;rw [hw'];clear hw')
  go_ret
  exact ⟨-1,rfl,.inl rfl,HB1.out⟩
 rw [if_pos g2] at hs2
 obtain ⟨q2,hq2⟩ : ∃ x : Int,q1 - (m.sung.length : Int) = x := ⟨_,rfl⟩
 rw [hq2] at hs2
 have n2 : ¬ (q2 < 0) := by omega
 have Hq2 : Hid (q1 - (m.sung.length : Int) = q2) := hq2
 clear hq2 g2
 go_wp2_with fail
 refine hs2.mono ?_
 rintro e w' ⟨rfl,hw'⟩
 rw [hw']
 clear hw' hs2
 go_wp2
 go_ret
 refine ⟨q2,rfl,.inr ⟨by omega, ?_⟩,HB1.out⟩
 have h1 := HQ1.out
 have h2 := Hq2.out
 rw [szMb]
 omega
end Go.Proofs.Ythioodpmgifomaa
namespace Go.Proofs.Ythioodpmgifomaa
set_option linter.unusedVariables false
set_option linter.unusedSimpArgs false
open Go.RowKit Go.Sort
def mbN (R : List Mb) (k : Nat) : Mb := R.getD k zeroMb
def zeroMl : Ml := ⟨0,0,zeroRw⟩
def mlN (R : List Ml) (k : Nat) : Ml := R.getD k zeroMl
theorem mbN_at {R : List Mb} {k : Nat} (hk : k < R.length) : R[k]? = some (mbN R k) := by simp [mbN,List.getD,hk]
theorem mlN_at {R : List Ml} {k : Nat} (hk : k < R.length) : R[k]? = some (mlN R k) := by simp [mlN,List.getD,hk]
def LongM (m : Mb) : Prop := ∀ r ∈ m.rows,LongT r.txt
def szMl (x : Ml) : Nat := szRw x.row
theorem Pv.mlr {w : World} {b o : Nat} {x : Ml} (h : Pv w b o (ml10 x)) (hf : FitR x.row) : ∃ A : Ra,(w.cell? ⟨b,o,none⟩ = some (.int .i64 x.fr) ∧ w.cell? ⟨b,o + 1,none⟩ = some (.int .i64 x.to)) ∧ (w.cell? ⟨b,o + 2,none⟩ = some (.int .i64 x.row.ver) ∧ w.cell? ⟨b,o + 3,none⟩ = some (.slice A.ta x.row.txt.length A.tc) ∧ w.cell? ⟨b,o + 4,none⟩ = some (.slice A.ga x.row.got.length A.gc) ∧ w.cell? ⟨b,o + 5,none⟩ = some (.slice A.sa x.row.sus.length A.sc)) ∧ w.cell? ⟨b,o + 6,none⟩ = some (.bool x.row.wed) ∧ w.cell? ⟨b,o + 7,none⟩ = some (.bool x.row.rdy) ∧ w.cell? ⟨b,o + 8,none⟩ = some (.int .i64 x.row.by_) ∧ w.cell? ⟨b,o + 9,none⟩ = some (.slice A.ma x.row.trm.length A.mc) ∧ RwS w A x.row := by
 obtain ⟨A,c0,c1,⟨⟨d0,d1,d2,d3⟩,d4,d5,d6,d7⟩,h4⟩ := h.mail hf
 simp only [Nat.add_assoc] at d1 d2 d3 d4 d5 d6 d7
 exact ⟨A,⟨c0,c1⟩,⟨d0,d1,d2,d3⟩,d4,d5,d6,d7,h4⟩
def mlV (A : Ra) (x : Ml) : Value := .agg (mlC x A)
set_option maxRecDepth 100000 in
set_option maxHeartbeats 1600000 in
theorem szMl_any (A : Ra) (x : Ml) (left : Int) (w : World) (hv : RwS w A x.row) (hlg : LongT x.row.txt) (hl : 0 ≤ left ∧ left ≤ 1048576) :
  Calls Try.prog 132 #[mlV A x,.int .i64 left] w fun e w' => ∃ q : Int,e = .returned (.int .i64 q) ∧ (q = -1 ∨ 0 ≤ q ∧ q + (szMl x : Int) = left) ∧ Below w.heap.size w w' := by
 have hb := oneA16 w (.cells (mlC x A) 145)
 have hx := Bx.new w 145 (mlC x A)
 have hS := szRw_any A x.row left _ (hv.below hb) hlg hl
 unfold mlV
 unfold mlC at *
 unfold rwV rwC at hS
 generalize hWW : w.alloc (.cells #[.int .i64 x.fr,.int .i64 x.to,.int .i64 x.row.ver,.slice A.ta x.row.txt.length A.tc,.slice A.ga x.row.got.length A.gc,.slice A.sa x.row.sus.length A.sc,.bool x.row.wed,.bool x.row.rdy,.int .i64 x.row.by_,.slice A.ma x.row.trm.length A.mc] 145) = W at *
 obtain ⟨⟨c0,c1⟩,⟨c2,c3,c4,c5⟩,c6,c7,c8,c9⟩ := Bx.r10 hx
 have HB : Hid (Below w.heap.size w W) := hb
 clear hv hb hx
 go_enter Try.func132,Try.ntmps132
 go_wp2_with fail
 refine hS.mono ?_
 rintro e w1 ⟨q1,rfl,hq1,hb1⟩
 have HB1 : Hid (Below w.heap.size w w1) := HB.out.trans (hb1.mono HB.out.size)
 clear hS hb1 c0 c1 c2 c3 c4 c5 c6 c7 c8 c9
 rcases hq1 with rfl | ⟨hq0,hq1⟩
 ·go_wp2
  go_ret
  exact ⟨-1,rfl,.inl rfl,HB1.out⟩
 have n1 : ¬ (q1 < 0) := by omega
 have HQ1 : Hid (q1 + (szMl x : Int) = left) := hq1
 clear hq1
 go_wp2
 go_ret
 exact ⟨q1,rfl,.inr ⟨hq0,HQ1.out⟩,HB1.out⟩
attribute [local irreducible] sv
set_option maxHeartbeats 400000 in
theorem szBo_any (a : Option Addr) (n c : Nat) (left : Int) (w : World) (hm : n ≤ maxLen) (hl : 0 ≤ left ∧ left ≤ 1048576) :
  Calls Try.prog 91 #[.slice a n c,.int .i64 left] w fun e w' => e = .returned (.int .i64 (if (n : Int) ≤ left then left - (n : Int) else -1)) ∧ w' = w := by
 unfold maxLen at hm
 have hwl : wrap64 (left - (n : Int)) = left - (n : Int) := by unfold wrap64;omega
 by_cases h0 : (n : Int) ≤ left
 ·have h1 : ¬ (left - (n : Int) < 0) := by omega
  rw [if_pos h0]
  go_enter Try.func91,Try.ntmps91
  go_wp2
  go_ret
  exact ⟨rfl,rfl⟩
 ·have h1 : left - (n : Int) < 0 := by omega
  rw [if_neg h0]
  go_enter Try.func91,Try.ntmps91
  go_wp2
  go_ret
  exact ⟨rfl,rfl⟩
def zPm (R : List Mb) (k : Nat) : Nat := ((R.take k).map szMb).sum
theorem zPm_next {R : List Mb} {k : Nat} (hk : k < R.length) : zPm R (k + 1) = zPm R k + szMb (mbN R k) := by
 have e : mbN R k = R[k] := by simp [mbN,List.getD,hk]
 unfold zPm
 rw [List.take_succ_eq_append_getElem hk,List.map_append,List.sum_append,e]
 simp
theorem zPm_mono (R : List Mb) {a b : Nat} (h : a ≤ b) : zPm R a ≤ zPm R b := by
 unfold zPm
 obtain ⟨c,rfl⟩ := Nat.exists_eq_add_of_le h
 rw [List.take_add,List.map_append,List.sum_append]
 omega
def szMs (R : List Mb) : Nat := R.length + zPm R R.length
theorem szMs_at {R : List Mb} {n k : Nat} (h : szMs R ≤ n) (hk : k < R.length) : szMb (mbN R k) ≤ n := by
 have h1 : zPm R (k + 1) ≤ zPm R R.length := zPm_mono R (by omega)
 rw [zPm_next hk] at h1
 unfold szMs at h
 omega
set_option maxRecDepth 100000 in
set_option maxHeartbeats 3200000 in
theorem szMs_any (a : Option Addr) (cap : Nat) (R : List Mb) (left : Int) (w : World) (hv : Cel.vw w (lcl 5 mb5 R) (.slice a R.length cap)) (hf : ∀ m ∈ R,FitM m) (hlg : ∀ m ∈ R,LongM m) (hm : R.length ≤ maxLen) (hl : 0 ≤ left ∧ left ≤ 1048576) :
  Calls Try.prog 90 #[.slice a R.length cap,.int .i64 left] w fun e w' => ∃ q : Int,e = .returned (.int .i64 q) ∧ (q = -1 ∨ 0 ≤ q ∧ q + (szMs R : Int) = left) ∧ Below w.heap.size w w' := by
 have HV : Hid (Cel.vw w (lcl 5 mb5 R) (.slice a R.length cap)) := hv
 unfold maxLen at hm
 have wl : wrap64 (left - (R.length : Int)) = left - (R.length : Int) := by unfold wrap64;omega
 clear hv
 by_cases h0 : left - (R.length : Int) < 0
 ·go_enter Try.func90,Try.ntmps90
  go_wp2
  go_ret
  exact ⟨-1,rfl,.inl rfl,Below.refl _ _⟩
 ·obtain ⟨l0,hl0⟩ : ∃ l0 : Int,Hid (left - (R.length : Int) = l0) := ⟨_,rfl⟩
  rw [hl0.out] at h0 wl
  go_enter Try.func90,Try.ntmps90
  have hl1 := hl0.out
  rw [← hl1] at wl h0
  go_wp2_with fail
  rw [hl1] at *
  clear hl1 wl
  go_loopw [1,5] (fun lv v wr => ∃ (k : Nat) (l : Int),k ≤ R.length ∧ v = .int .i64 (k : Int) ∧ lv = .int .i64 l ∧ 0 ≤ l ∧ l ≤ 1048576 ∧ Hid (l + (zPm R k : Int) = l0) ∧ Below w.heap.size w wr) (fun _ v _ => R.length - (intOf v).toNat)
  case atStart => exact ⟨0,l0,Nat.zero_le _,rfl,rfl,by omega,by have := hl0.out;omega,by simp [Hid,zPm],Below.refl _ _⟩
  case round =>
   obtain ⟨k,l,hk,rfl,rfl,hlp,hlm,hS,hb⟩ := hrel
   by_cases hlt : k < R.length
   ·have k1 : (k : Int) < (R.length : Int) := by omega
    have k0 : (0 : Int) ≤ (k : Int) := by omega
    have hmem : mbN R k ∈ R := List.mem_of_getElem? (mbN_at hlt)
    obtain ⟨g,off,hra,hpv⟩ := vw_elF mb5_len (Cel.vw_below HV.out hb) (mbN_at hlt)
    obtain ⟨Ak,⟨d0,d1,d2,d3,d4⟩,hrs⟩ := hpv.mem (hf _ hmem)
    subst hra
    have hC := szMb_any Ak (mbN R k) l wr hrs (hlg _ hmem) ⟨hlp,hlm⟩
    unfold mbV mbC at hC
    have HN : Hid (zPm R (k + 1) = zPm R k + szMb (mbN R k)) := zPm_next hlt
    have HB : Hid (Below w.heap.size w wr) := hb
    generalize mbN R k = r at *
    clear hpv hb hrs
    go_wp2_with fail
    refine hC.mono ?_
    rintro e w1 ⟨q,rfl,hq,hb1⟩
    have HB1 : Hid (Below w.heap.size w w1) := HB.out.trans (hb1.mono HB.out.size)
    clear d0 d1 d2 d3 d4 hC hb1
    rcases hq with rfl | ⟨hq0,hq1⟩
    ·go_wp2
     go_ret
     exact ⟨-1,rfl,.inl rfl,HB1.out⟩
    ·have n1 : ¬ (q < 0) := by omega
     have HS2 : Hid (q + (zPm R (k + 1) : Int) = l0) := by
      have h1 := HN.out
      have h2 := hS.out
      rw [Hid,h1]
      omega
     have hqm : q ≤ 1048576 := by omega
     clear hq1
     go_wp2
     go_roundw
     case rel => exact ⟨k + 1,q,by omega,by go_num,rfl,by omega,hqm,HS2,HB1.out⟩
     case measure => simp [intOf];omega
   ·have k1 : ¬ ((k : Int) < (R.length : Int)) := by omega
    have ek : k = R.length := by omega
    have HE : Hid (l + (szMs R : Int) = left) := by
     have h1 := hS.out
     have h2 := hl0.out
     rw [ek] at h1
     rw [Hid,szMs]
     omega
    have HB : Hid (Below w.heap.size w wr) := hb
    clear hb ek
    go_wp2
    go_ret
    exact ⟨l,rfl,.inr ⟨hlp,HE.out⟩,HB.out⟩
def zPl (R : List Ml) (k : Nat) : Nat := ((R.take k).map szMl).sum
theorem zPl_next {R : List Ml} {k : Nat} (hk : k < R.length) : zPl R (k + 1) = zPl R k + szMl (mlN R k) := by
 have e : mlN R k = R[k] := by simp [mlN,List.getD,hk]
 unfold zPl
 rw [List.take_succ_eq_append_getElem hk,List.map_append,List.sum_append,e]
 simp
theorem zPl_mono (R : List Ml) {a b : Nat} (h : a ≤ b) : zPl R a ≤ zPl R b := by
 unfold zPl
 obtain ⟨c,rfl⟩ := Nat.exists_eq_add_of_le h
 rw [List.take_add,List.map_append,List.sum_append]
 omega
def szLs (R : List Ml) : Nat := R.length + zPl R R.length
theorem szLs_at {R : List Ml} {n k : Nat} (h : szLs R ≤ n) (hk : k < R.length) : szMl (mlN R k) ≤ n := by
 have h1 : zPl R (k + 1) ≤ zPl R R.length := zPl_mono R (by omega)
 rw [zPl_next hk] at h1
 unfold szLs at h
 omega
set_option maxRecDepth 100000 in
set_option maxHeartbeats 3200000 in
theorem szLs_any (a : Option Addr) (cap : Nat) (R : List Ml) (left : Int) (w : World) (hv : Cel.vw w (lcl 10 ml10 R) (.slice a R.length cap)) (hf : ∀ x ∈ R,FitR x.row) (hlg : ∀ x ∈ R,LongT x.row.txt) (hm : R.length ≤ maxLen) (hl : 0 ≤ left ∧ left ≤ 1048576) :
  Calls Try.prog 92 #[.slice a R.length cap,.int .i64 left] w fun e w' => ∃ q : Int,e = .returned (.int .i64 q) ∧ (q = -1 ∨ 0 ≤ q ∧ q + (szLs R : Int) = left) ∧ Below w.heap.size w w' := by
 have HV : Hid (Cel.vw w (lcl 10 ml10 R) (.slice a R.length cap)) := hv
 unfold maxLen at hm
 have wl : wrap64 (left - (R.length : Int)) = left - (R.length : Int) := by unfold wrap64;omega
 clear hv
 by_cases h0 : left - (R.length : Int) < 0
 ·go_enter Try.func92,Try.ntmps92
  go_wp2
  go_ret
  exact ⟨-1,rfl,.inl rfl,Below.refl _ _⟩
 ·obtain ⟨l0,hl0⟩ : ∃ l0 : Int,Hid (left - (R.length : Int) = l0) := ⟨_,rfl⟩
  rw [hl0.out] at h0 wl
  go_enter Try.func92,Try.ntmps92
  have hl1 := hl0.out
  rw [← hl1] at wl h0
  go_wp2_with fail
  rw [hl1] at *
  clear hl1 wl
  go_loopw [1,5] (fun lv v wr => ∃ (k : Nat) (l : Int),k ≤ R.length ∧ v = .int .i64 (k : Int) ∧ lv = .int .i64 l ∧ 0 ≤ l ∧ l ≤ 1048576 ∧ Hid (l + (zPl R k : Int) = l0) ∧ Below w.heap.size w wr) (fun _ v _ => R.length - (intOf v).toNat)
  case atStart => exact ⟨0,l0,Nat.zero_le _,rfl,rfl,by omega,by have := hl0.out;omega,by simp [Hid,zPl],Below.refl _ _⟩
  case round =>
   obtain ⟨k,l,hk,rfl,rfl,hlp,hlm,hS,hb⟩ := hrel
   by_cases hlt : k < R.length
   ·have k1 : (k : Int) < (R.length : Int) := by omega
    have k0 : (0 : Int) ≤ (k : Int) := by omega
    have hmem : mlN R k ∈ R := List.mem_of_getElem? (mlN_at hlt)
    obtain ⟨g,off,hra,hpv⟩ := vw_elF ml10_len (Cel.vw_below HV.out hb) (mlN_at hlt)
    obtain ⟨Ak,⟨d0,d1⟩,⟨d2,d3,d4,d5⟩,d6,d7,d8,d9,hrs⟩ := hpv.mlr (hf _ hmem)
    subst hra
    have hC := szMl_any Ak (mlN R k) l wr hrs (hlg _ hmem) ⟨hlp,hlm⟩
    unfold mlV mlC at hC
    have HN : Hid (zPl R (k + 1) = zPl R k + szMl (mlN R k)) := zPl_next hlt
    have HB : Hid (Below w.heap.size w wr) := hb
    generalize mlN R k = r at *
    clear hpv hb hrs
    go_wp2_with fail
    refine hC.mono ?_
    rintro e w1 ⟨q,rfl,hq,hb1⟩
    have HB1 : Hid (Below w.heap.size w w1) := HB.out.trans (hb1.mono HB.out.size)
    clear d0 d1 d2 d3 d4 d5 d6 d7 d8 d9 hC hb1
    rcases hq with rfl | ⟨hq0,hq1⟩
    ·go_wp2
     go_ret
     exact ⟨-1,rfl,.inl rfl,HB1.out⟩
    ·have n1 : ¬ (q < 0) := by omega
     have HS2 : Hid (q + (zPl R (k + 1) : Int) = l0) := by
      have h1 := HN.out
      have h2 := hS.out
      rw [Hid,h1]
      omega
     have hqm : q ≤ 1048576 := by omega
     clear hq1
     go_wp2
     go_roundw
     case rel => exact ⟨k + 1,q,by omega,by go_num,rfl,by omega,hqm,HS2,HB1.out⟩
     case measure => simp [intOf];omega
   ·have k1 : ¬ ((k : Int) < (R.length : Int)) := by omega
    have ek : k = R.length := by omega
    have HE : Hid (l + (szLs R : Int) = left) := by
     have h1 := hS.out
     have h2 := hl0.out
     rw [ek] at h1
     rw [Hid,szLs]
     omega
    have HB : Hid (Below w.heap.size w wr) := hb
    clear hb ek
    go_wp2
    go_ret
    exact ⟨l,rfl,.inr ⟨hlp,HE.out⟩,HB.out⟩
def szGr (g : Gr) : Nat := szMs g.mem + g.up.length + szLs g.mail
def LongG (g : Gr) : Prop := (∀ m ∈ g.mem,LongM m) ∧ ∀ x ∈ g.mail,LongT x.row.txt
set_option maxRecDepth 100000 in
set_option maxHeartbeats 3200000 in
theorem szGr_any (A : Ga) (g : Gr) (left : Int) (w : World) (hv : GrS w A g) (hlg : LongG g) (hl : 0 ≤ left ∧ left ≤ 1048576) :
  Calls Try.prog 39 #[grV A g,.int .i64 left] w fun e w' => ∃ q : Int,e = .returned (.int .i64 q) ∧ (q = -1 ∨ 0 ≤ q ∧ q + (szGr g : Int) = left) ∧ Below w.heap.size w w' := by
 have hb := oneA16 w (.cells (grC A g) 60)
 have hx := Bx.new w 60 (grC A g)
 have hv0 := hv.below hb
 have hS := szMs_any A.ma A.mc g.mem left _ hv0.mem hv0.fit.1 hlg.1 hv0.lm hl
 have hlu := hv.lu
 unfold grV
 unfold grC at *
 generalize hWW : w.alloc (.cells #[.slice A.ma g.mem.length A.mc,.slice A.ua g.up.length A.uc,.slice A.la g.mail.length A.lc] 60) = W at *
 obtain ⟨c0,c1,c2⟩ := Bx.g3 hx
 have HX : Hid (Bx W w.heap.size 60 #[.slice A.ma g.mem.length A.mc,.slice A.ua g.up.length A.uc,.slice A.la g.mail.length A.lc]) := hx
 have HB : Hid (Below w.heap.size w W) := hb
 have HM : Hid (∀ X (l : Int),Below W.heap.size W X → 0 ≤ l ∧ l ≤ 1048576 → Calls Try.prog 92 #[.slice A.la g.mail.length A.lc,.int .i64 l] X fun e w' => ∃ q : Int,e = .returned (.int .i64 q) ∧ (q = -1 ∨ 0 ≤ q ∧ q + (szLs g.mail : Int) = l) ∧ Below X.heap.size X w') := fun X l h hl => szLs_any A.la A.lc g.mail l X (hv0.below h).mail hv0.fit.2 hlg.2 hv0.ll hl
 have HSZ : Hid ((szGr g : Int) = (szMs g.mem : Int) + (g.up.length : Int) + (szLs g.mail : Int)) := by rw [Hid,szGr];omega
 clear hv hv0 hb hx hlg
 go_enter Try.func39,Try.ntmps39
 go_wp2_with fail
 refine hS.mono ?_
 rintro e w1 ⟨q1,rfl,hq1,hb1⟩
 have HB1 : Hid (Below W.heap.size W w1) := hb1
 have HBw : Hid (Below w.heap.size w w1) := HB.out.trans (hb1.mono HB.out.size)
 clear hS c0 c1 c2
 obtain ⟨c0,c1,c2⟩ := Bx.g3 (HX.out.below hb1)
 clear hb1
 rcases hq1 with rfl | ⟨hq0,hq1⟩
 ·go_wp2
  go_ret
  exact ⟨-1,rfl,.inl rfl,HBw.out⟩
 have n1 : ¬ (q1 < 0) := by omega
 have b1 : q1 ≤ 1048576 := by omega
 have HQ1 : Hid (q1 + (szMs g.mem : Int) = left) := hq1
 clear hq1
 have hs2 := szBo_any A.ua g.up.length A.uc q1 w1 hlu ⟨by omega,by omega⟩
 by_cases g2 : (g.up.length : Int) ≤ q1
 rotate_left
 ·rw [if_neg g2] at hs2
  go_wp2_with (go_at_call 91;refine hs2.mono ?_;rintro e w' ⟨rfl,hw'⟩;rw [hw'];clear hw')
  go_ret
  exact ⟨-1,rfl,.inl rfl,HBw.out⟩
 rw [if_pos g2] at hs2
 obtain ⟨q2,hq2⟩ : ∃ x : Int,q1 - (g.up.length : Int) = x := ⟨_,rfl⟩
 rw [hq2] at hs2
 have n2 : ¬ (q2 < 0) := by omega
 have b2 : q2 ≤ 1048576 := by omega
 have Hq2 : Hid (q1 - (g.up.length : Int) = q2) := hq2
 clear hq2 g2
 have hs3 := HM.out w1 q2 HB1.out ⟨by omega,b2⟩
 go_wp2_with (first | (go_at_call 91;refine hs2.mono ?_;rintro e w' ⟨rfl,hw'⟩;rw [hw'];clear hw') | fail)
 refine hs3.mono ?_
 rintro e w3 ⟨q3,rfl,hq3,hb3⟩
 have HB3 : Hid (Below w.heap.size w w3) := HBw.out.trans (hb3.mono HBw.out.size)
 clear hs2 hs3 hb3 c0 c1 c2
 rcases hq3 with rfl | ⟨hq30,hq31⟩
 ·go_wp2
  go_ret
  exact ⟨-1,rfl,.inl rfl,HB3.out⟩
 have n3 : ¬ (q3 < 0) := by omega
 have HE : Hid (q3 + (szGr g : Int) = left) := by
  have h1 := HQ1.out
  have h2 := Hq2.out
  rw [Hid,HSZ.out]
  omega
 clear hq31
 go_wp2
 go_ret
 exact ⟨q3,rfl,.inr ⟨hq30,HE.out⟩,HB3.out⟩
end Go.Proofs.Ythioodpmgifomaa
namespace Go.Proofs.Ythioodpmgifomaa
set_option linter.unusedVariables false
set_option linter.unusedSimpArgs false
open Go.RowKit Go.Sort
set_option maxRecDepth 100000 in
set_option maxHeartbeats 3200000 in
theorem eqRs_any (a a' : Option Addr) (cap cap' : Nat) (R : List Rw) (w : World) (hv : Cel.vw w (lcl 8 rw8 R) (.slice a R.length cap)) (hu : Cel.vw w (lcl 8 rw8 R) (.slice a' R.length cap')) (hf : ∀ r ∈ R,FitR r) (hm : R.length ≤ maxLen) :
  Calls Try.prog 77 #[.slice a R.length cap,.slice a' R.length cap'] w fun e w' => e = .returned (.bool true) ∧ Below w.heap.size w w' := by
 have HV : Hid (Cel.vw w (lcl 8 rw8 R) (.slice a R.length cap)) := hv
 have HU : Hid (Cel.vw w (lcl 8 rw8 R) (.slice a' R.length cap')) := hu
 have hbb : ((R.length : Int) != (R.length : Int)) = false := by simp
 unfold maxLen at hm
 clear hv hu
 go_enter Try.func77,Try.ntmps77
 go_wp2_with fail
 go_loopw [5] (fun v wr => ∃ k : Nat,k ≤ R.length ∧ v = .int .i64 (k : Int) ∧ Below w.heap.size w wr) (fun v _ => R.length - (intOf v).toNat)
 case atStart => exact ⟨0,Nat.zero_le _,rfl,Below.refl _ _⟩
 case round =>
  obtain ⟨k,hk,rfl,hb⟩ := hrel
  by_cases hlt : k < R.length
  ·have k1 : (k : Int) < (R.length : Int) := by omega
   have k0 : (0 : Int) ≤ (k : Int) := by omega
   have hmem : rowN R k ∈ R := rowN_mem hlt
   have hkx : R[k]? = some (rowN R k) := by simp [rowN,List.getD,hlt]
   obtain ⟨g,off,hra,hpv⟩ := vw_elF rw8_len (Cel.vw_below HV.out hb) hkx
   obtain ⟨g',off',hra',hpv'⟩ := vw_elF rw8_len (Cel.vw_below HU.out hb) hkx
   obtain ⟨A,⟨⟨d0,d1,d2,d3⟩,d4,d5,d6,d7⟩,hrs⟩ := hpv.row (hf _ hmem)
   obtain ⟨A',⟨⟨e0,e1,e2,e3⟩,e4,e5,e6,e7⟩,hrs'⟩ := hpv'.row (hf _ hmem)
   subst hra hra'
   have C : ∀ q : Bk wr,Calls Try.prog 37 #[rwV A (rowN R k),rwV A' (rowN R k)] q.w fun e w' => e = .returned (.bool true) ∧ Below q.w.heap.size q.w w' := fun q => eqRw_any A A' _ q.w (hrs.below q.h) (hrs'.below q.h)
   unfold rwV rwC at C
   have T : ∀ {x v},wr.cell? x = some v → ∀ q : Bk wr,q.w.cell? x = some v := fun h q => (q.h.cell (World.block_lt_of_cell? _ _ h)).trans h
   have dp0 := T d0
   have dp1 := T d1
   have dp2 := T d2
   have dp3 := T d3
   have dp4 := T d4
   have dp5 := T d5
   have dp6 := T d6
   have dp7 := T d7
   have ep0 := T e0
   have ep1 := T e1
   have ep2 := T e2
   have ep3 := T e3
   have ep4 := T e4
   have ep5 := T e5
   have ep6 := T e6
   have ep7 := T e7
   have HB : Hid (Below w.heap.size w wr) := hb
   generalize rowN R k = r at *
   clear hrs hrs' hpv hpv' hb T d0 d1 d2 d3 d4 d5 d6 d7 e0 e1 e2 e3 e4 e5 e6 e7 hkx
   go_wp2_with fail
   refine wp_region_bk (by kernel_rfl) (by kernel_rfl) ?_
   repeat (go_big_quiet_step ((first | (go_at_call 37;exact bk_call _ (C _)) | rfl)))
   refine wpQuiet_nil ?_
   intro wE hw'
   obtain ⟨⟨w11,hb11⟩,hw''⟩ := hw'
   have hwe : wE = w11 := hw''
   clear hw''
   subst hwe
   have HB1 : Hid (Below w.heap.size w wE) := HB.out.trans (hb11.mono HB.out.size)
   clear C hb11 dp0 dp1 dp2 dp3 dp4 dp5 dp6 dp7 ep0 ep1 ep2 ep3 ep4 ep5 ep6 ep7
   go_wp2
   go_roundw
   case rel => exact ⟨k + 1,by omega,by go_num,HB1.out⟩
   case measure => simp [intOf];omega
  ·have k1 : ¬ ((k : Int) < (R.length : Int)) := by omega
   have HB : Hid (Below w.heap.size w wr) := hb
   clear hb
   go_wp2
   go_ret
   exact ⟨rfl,HB.out⟩
set_option maxRecDepth 100000 in
set_option maxHeartbeats 3200000 in
theorem eqMb_any (A D : Ma) (m : Mb) (w : World) (hv : MbS w A m) (hu : MbS w D m) :
  Calls Try.prog 30 #[mbV A m,mbV D m] w fun e w' => e = .returned (.bool true) ∧ Below w.heap.size w w' := by
 have hB0 : Below w.heap.size w ((w.alloc (.cells #[.int .i64 m.id,.int .i64 m.n,.slice A.ra m.rows.length A.rc,.slice A.sa m.sung.length A.sc,.bool m.done] 39)).alloc (.cells #[.int .i64 m.id,.int .i64 m.n,.slice D.ra m.rows.length D.rc,.slice D.sa m.sung.length D.sc,.bool m.done] 39)) := (oneA16 w _).trans ((oneA16 _ _).mono (oneA16 w _).size)
 have hx : Bx ((w.alloc (.cells #[.int .i64 m.id,.int .i64 m.n,.slice A.ra m.rows.length A.rc,.slice A.sa m.sung.length A.sc,.bool m.done] 39)).alloc (.cells #[.int .i64 m.id,.int .i64 m.n,.slice D.ra m.rows.length D.rc,.slice D.sa m.sung.length D.sc,.bool m.done] 39)) w.heap.size 39 #[.int .i64 m.id,.int .i64 m.n,.slice A.ra m.rows.length A.rc,.slice A.sa m.sung.length A.sc,.bool m.done] := (Bx.new w _ _).alloc _
 have hy : Bx ((w.alloc (.cells #[.int .i64 m.id,.int .i64 m.n,.slice A.ra m.rows.length A.rc,.slice A.sa m.sung.length A.sc,.bool m.done] 39)).alloc (.cells #[.int .i64 m.id,.int .i64 m.n,.slice D.ra m.rows.length D.rc,.slice D.sa m.sung.length D.sc,.bool m.done] 39)) (w.heap.size + 1) 39 #[.int .i64 m.id,.int .i64 m.n,.slice D.ra m.rows.length D.rc,.slice D.sa m.sung.length D.sc,.bool m.done] := by
  have := Bx.new (w.alloc (.cells #[.int .i64 m.id,.int .i64 m.n,.slice A.ra m.rows.length A.rc,.slice A.sa m.sung.length A.sc,.bool m.done] 39)) 39 #[.int .i64 m.id,.int .i64 m.n,.slice D.ra m.rows.length D.rc,.slice D.sa m.sung.length D.sc,.bool m.done]
  simpa using this
 have h0 := hv.below hB0
 have g0 := hu.below hB0
 have hR := eqRs_any A.ra D.ra A.rc D.rc m.rows _ h0.rows g0.rows h0.fit h0.mr
 have hE : ∀ X,Below w.heap.size w X → Calls Try.prog 78 #[.slice A.sa m.sung.length A.sc,.slice D.sa m.sung.length D.sc] X fun e w' => e = .returned (.bool true) ∧ Below X.heap.size X w' := fun X h => (eq_any A.sa D.sa m.sung.length A.sc m.sung.length D.sc m.sung m.sung X (hv.sung.below h (Nat.le_refl _)) (hu.sung.below h (Nat.le_refl _)) hv.ms).mono (fun e w' ⟨h4,n,h5⟩ => ⟨by rw [h4];simp,by rw [h5];exact belowN (Below.refl _ _)⟩)
 unfold mbV mbC
 generalize hWW : (w.alloc (.cells #[.int .i64 m.id,.int .i64 m.n,.slice A.ra m.rows.length A.rc,.slice A.sa m.sung.length A.sc,.bool m.done] 39)).alloc (.cells #[.int .i64 m.id,.int .i64 m.n,.slice D.ra m.rows.length D.rc,.slice D.sa m.sung.length D.sc,.bool m.done] 39) = W at *
 have n1 : (m.id != m.id) = false := by simp
 have n2 : (m.n != m.n) = false := by simp
 have n3 : (m.done != m.done) = false := by simp
 have HX : Hid (Bx W w.heap.size 39 #[.int .i64 m.id,.int .i64 m.n,.slice A.ra m.rows.length A.rc,.slice A.sa m.sung.length A.sc,.bool m.done]) := hx
 have HY : Hid (Bx W (w.heap.size + 1) 39 #[.int .i64 m.id,.int .i64 m.n,.slice D.ra m.rows.length D.rc,.slice D.sa m.sung.length D.sc,.bool m.done]) := hy
 have HB : Hid (Below w.heap.size w W) := hB0
 obtain ⟨c0,c1,c2,c3,c4⟩ := Bx.r5 hx
 obtain ⟨d0,d1,d2,d3,d4⟩ := Bx.r5 hy
 clear hv hu h0 g0 hB0 hx hy
 go_enter Try.func30,Try.ntmps30
 go_wp2_with fail
 refine hR.mono ?_
 rintro e w1 ⟨rfl,hb1⟩
 have HB1 : Hid (Below w.heap.size w w1) := HB.out.trans (hb1.mono HB.out.size)
 have HX1 : Hid (Bx w1 w.heap.size 39 #[.int .i64 m.id,.int .i64 m.n,.slice A.ra m.rows.length A.rc,.slice A.sa m.sung.length A.sc,.bool m.done]) := HX.out.below hb1
 have HY1 : Hid (Bx w1 (w.heap.size + 1) 39 #[.int .i64 m.id,.int .i64 m.n,.slice D.ra m.rows.length D.rc,.slice D.sa m.sung.length D.sc,.bool m.done]) := HY.out.below hb1
 clear c0 c1 c2 c3 c4 d0 d1 d2 d3 d4 hR hb1
 obtain ⟨c0,c1,c2,c3,c4⟩ := Bx.r5 HX1.out
 obtain ⟨d0,d1,d2,d3,d4⟩ := Bx.r5 HY1.out
 go_wp2_with fail
 refine (hE _ HB1.out).mono ?_
 rintro e w2 ⟨rfl,hb2⟩
 have HB2 : Hid (Below w.heap.size w w2) := HB1.out.trans (hb2.mono HB1.out.size)
 clear c0 c1 c2 c3 c4 d0 d1 d2 d3 d4 hE
 obtain ⟨c0,c1,c2,c3,c4⟩ := Bx.r5 (HX1.out.below hb2)
 obtain ⟨d0,d1,d2,d3,d4⟩ := Bx.r5 (HY1.out.below hb2)
 clear hb2
 go_wp2
 go_ret
 exact ⟨rfl,HB2.out⟩
end Go.Proofs.Ythioodpmgifomaa
namespace Go.Proofs.Ythioodpmgifomaa
set_option linter.unusedVariables false
set_option linter.unusedSimpArgs false
open Go.RowKit Go.Sort
end Go.Proofs.Ythioodpmgifomaa
namespace Go.Proofs.Ythioodpmgifomaa
set_option linter.unusedVariables false
set_option linter.unusedSimpArgs false
open Go.RowKit Go.Sort
end Go.Proofs.Ythioodpmgifomaa
namespace Go.Proofs.Ythioodpmgifomaa
set_option linter.unusedVariables false
set_option linter.unusedSimpArgs false
open Go.RowKit Go.Sort
end Go.Proofs.Ythioodpmgifomaa
namespace Go.Proofs.Ythioodpmgifomaa
set_option linter.unusedVariables false
set_option linter.unusedSimpArgs false
open Go.RowKit Go.Sort
end Go.Proofs.Ythioodpmgifomaa
namespace Go.Proofs.Ythioodpmgifomaa
set_option linter.unusedVariables false
set_option linter.unusedSimpArgs false
open Go.RowKit Go.Sort
end Go.Proofs.Ythioodpmgifomaa
namespace Go.Proofs.Ythioodpmgifomaa
set_option linter.unusedVariables false
set_option linter.unusedSimpArgs false
open Go.RowKit Go.Sort
theorem mixed13 : Try.prog.follows .mixedOrders = true := by kernel_rfl
def FlS (w : World) (a : Option Addr) (al : List Bool) : Prop := al.length = 0 ∨ ∃ b off,a = some ⟨b,off,none⟩ ∧ ∀ i,i < al.length → w.cell? ⟨b,off + i,none⟩ = some (.bool (fl al i))
end Go.Proofs.Ythioodpmgifomaa
namespace Go.Proofs.Ythioodpmgifomaa
set_option linter.unusedVariables false
set_option linter.unusedSimpArgs false
open Go.RowKit Go.Sort
theorem Try.info4b : (Try.prog.info? 4).map (fun i => (i.zero,i.size,i.bytes)) = some (some (.bool false),1,1) := by kernel_rfl
def bov (al : List Bool) : List Value := al.map Value.bool
theorem bov_len (al : List Bool) : (bov al).length = al.length := by simp [bov]
theorem bov_get {al : List Bool} {i : Nat} (h : i < al.length) : (bov al)[i]? = some (.bool (fl al i)) := by simp [bov,fl,h]
def OF (w : World) (g off n cap : Nat) (al : List Bool) : Prop := OSl w 1 g off n cap (bov al)
def bocl (al : List Bool) : Cel := .sl 1 al.length (pl (bov al))
theorem ow_bocl {w : World} {al : List Bool} {u : Value} {fp : Fp} : Cel.ow w (bocl al) u fp ↔ ∃ a c G,u = .slice a al.length c ∧ OSo w 1 a al.length c (bov al) G ∧ ∀ b,fp b ↔ G = some b := by
 constructor
 ·rintro ⟨a,c,us,G,f,e,h1,h2,h3,h4⟩
  obtain ⟨rfl,h5⟩ := owL_pl.1 h2
  exact ⟨a,c,G,e,h1,fun b => by rw [h4 b];exact ⟨fun h => h.elim id (fun k => absurd k (h5 b)),.inl⟩⟩
 ·rintro ⟨a,c,G,e,h1,h2⟩
  exact ⟨a,c,bov al,G,fun _ => False,e,h1,owL_pl.2 ⟨rfl,fun _ h => h⟩,fun _ _ h => h,fun b => by rw [h2 b];simp⟩
theorem OF.length {w : World} {g off n cap : Nat} {al : List Bool} (h : OF w g off n cap al) : al.length = n := by have := h.len;rw [bov_len] at this;omega
theorem OF.cellAt {w : World} {g off n cap : Nat} {al : List Bool} (h : OF w g off n cap al) {i : Nat} (hi : i < n) : w.cell? ⟨g,off + i,none⟩ = some (.bool (fl al i)) := by
 have hl := h.length
 rw [h.cell i (by omega)]
 exact bov_get (by omega)
theorem OF.set {w : World} {g off n cap : Nat} {al : List Bool} (h : OF w g off n cap al) {i : Nat} (hi : i < n) (y : Bool) : OF (w.setCell ⟨g,off + i,none⟩ (.bool y)) g off n cap (al.set i y) := by
 have := osl_put h (j := i) (by omega) (.bool y)
 unfold OF
 rw [show bov (al.set i y) = (bov al).set i (.bool y) by simp [bov,List.map_set]]
 exact this
theorem made_of (w : World) (n : Nat) (hn : n ≤ maxLen) : OF (w.alloc (.cells (madeCells #[.bool false] n) 4)) w.heap.size 0 n n (List.replicate n false) := by
 have h := osl_made w #[.bool false] 1 n 4 rfl (by omega) hn
 have e : (List.replicate n (#[Value.bool false] : Array Value).toList).flatten = bov (List.replicate n false) := by
  unfold bov
  rw [List.map_replicate]
  simp
 rw [e,Nat.mul_one] at h
 exact h
def cpF (al : List Bool) (k : Nat) : List Bool := al.take k ++ List.replicate (al.length - k) false
theorem cpF_zero (al : List Bool) : cpF al 0 = List.replicate al.length false := by simp [cpF]
theorem cpF_all (al : List Bool) : cpF al al.length = al := by simp [cpF]
theorem cpF_step {al : List Bool} {k : Nat} (h : k < al.length) : (cpF al k).set k (fl al k) = cpF al (k + 1) := by
 apply List.ext_getElem?
 intro i
 have h1 : ∀ m,m ≤ al.length → (cpF al m)[i]? = if i < m then al[i]? else if i < al.length then some false else none := fun m hm => by
  unfold cpF
  by_cases hi : i < m
  ·rw [List.getElem?_append_left (by simp;omega),if_pos hi,List.getElem?_take,if_pos hi]
  ·rw [List.getElem?_append_right (by simp;omega),if_neg hi,List.getElem?_replicate]
   simp only [List.length_take]
   by_cases h2 : i < al.length
   ·rw [if_pos (by omega),if_pos h2]
   ·rw [if_neg (by omega),if_neg h2]
 rw [List.getElem?_set,h1 k (by omega),h1 (k + 1) (by omega)]
 have hl : (cpF al k).length = al.length := by simp [cpF];omega
 by_cases e : k = i
 ·subst e
  simp [hl,h,fl]
 ·rw [if_neg e]
  by_cases h2 : i < k
  ·rw [if_pos h2,if_pos (by omega)]
  ·simp only [h2,show ¬ i < k + 1 by omega,if_false]
set_option maxRecDepth 100000 in
set_option maxHeartbeats 1600000 in
theorem toF_any (a : Option Addr) (cap : Nat) (al : List Bool) (w : World) (hv : FlS w a al) (hm : al.length ≤ 1048576) :
  Calls Try.prog 95 #[.slice a al.length cap] w fun e w' => ∃ a' c',e = .returned (.slice a' al.length c') ∧ NewO w w' (bocl al) (.slice a' al.length c') := by
 have HV : Hid (FlS w a al) := hv
 have hmk := run_make_row' (P := Try.prog) 57 4 (.bool false) 1 Try.underlying57 Try.info4b rfl .i64 .i64 al.length (by omega) (by omega)
 have HS0 : Hid (OF (w.alloc (.cells (madeCells #[.bool false] al.length) 4)) w.heap.size 0 al.length al.length (cpF al 0)) := by
  rw [Hid,cpF_zero]
  exact made_of w al.length (by unfold maxLen;omega)
 have HB0 : Hid (Below w.heap.size w (w.alloc (.cells (madeCells #[.bool false] al.length) 4))) := (Below.refl _ _).alloc (Nat.le_refl _) _
 clear hv
 go_enter Try.func95,Try.ntmps95
 go_wp2_with fail
 clear hmk
 go_loopw [4] (fun i wr => ∃ k : Nat,k ≤ al.length ∧ i = .int .i64 k ∧ OF wr w.heap.size 0 al.length al.length (cpF al k) ∧ Below w.heap.size w wr) (fun i _ => al.length - (intOf i).toNat)
 case atStart => exact ⟨0,Nat.zero_le _,rfl,HS0.out,HB0.out⟩
 case round =>
  obtain ⟨k,hk,rfl,ho,hb⟩ := hrel
  by_cases hlt : k < al.length
  ·rcases HV.out with h0 | ⟨b,off,rfl,hc⟩
   ·omega
   have hck := (hb.cell (World.block_lt_of_cell? _ _ (hc k hlt))).trans (hc k hlt)
   have hcg := ho.cellAt hlt
   have hfr := ho.free k (by omega)
   rw [Nat.zero_add] at hcg hfr
   have k1 : (k : Int) < (al.length : Int) := by omega
   have k0 : (0 : Int) ≤ (k : Int) := by omega
   have HO : Hid (OF (wr.setCell ⟨w.heap.size,k,none⟩ (.bool (fl al k))) w.heap.size 0 al.length al.length (cpF al (k + 1))) := by
    have := ho.set hlt (fl al k)
    rw [Nat.zero_add,cpF_step hlt] at this
    exact this
   have HB : Hid (Below w.heap.size w (wr.setCell ⟨w.heap.size,k,none⟩ (.bool (fl al k)))) := hb.setCell (p := ⟨w.heap.size,k,none⟩) (Nat.le_refl _) _
   clear ho hb hc
   generalize fl al k = t at *
   go_wp2
   go_roundw
   case rel => exact ⟨k + 1,by omega,by go_num,HO.out,HB.out⟩
   case measure => simp [intOf];omega
  ·have hkl : k = al.length := by omega
   subst hkl
   rw [cpF_all] at ho
   have HE : Hid (NewO w wr (bocl al) (.slice (some ⟨w.heap.size,0,none⟩) al.length al.length)) := ⟨fun b => b = w.heap.size,ow_bocl.2 ⟨_,_,some w.heap.size,rfl,OSo.of ho,fun b => by simp [eq_comm]⟩,fun b hb => by omega,hb⟩
   clear ho hb
   go_wp2
   go_ret
   exact ⟨_,_,rfl,HE.out⟩
set_option maxRecDepth 100000 in
set_option maxHeartbeats 1600000 in
theorem eqF_any (a a' : Option Addr) (cap cap' : Nat) (al : List Bool) (w : World) (hz : FlS w a al) (hy : FlS w a' al) (hm : al.length ≤ maxLen) :
  Calls Try.prog 102 #[.slice a al.length cap,.slice a' al.length cap'] w fun e w' => e = .returned (.bool true) ∧ Grew w w' := by
 unfold maxLen at hm
 have HZ : Hid (FlS w a al) := hz
 have HY : Hid (FlS w a' al) := hy
 have hne : ((al.length : Int) != (al.length : Int)) = false := by simp
 clear hz hy
 go_enter Try.func102,Try.ntmps102
 go_wp2
 clear hne
 go_loopw [5] (fun i wr => ∃ j : Nat,j ≤ al.length ∧ i = .int .i64 j ∧ ∃ q,wr = w.drewN q) (fun i _ => al.length - (intOf i).toNat)
 case atStart => exact ⟨0,Nat.zero_le _,rfl,0,rfl⟩
 case round =>
  obtain ⟨j,hj,rfl,q,rfl⟩ := hrel
  by_cases hlt : j < al.length
  ·rcases HZ.out with h0 | ⟨b,off,rfl,hc⟩
   ·omega
   rcases HY.out with h0 | ⟨b',off',rfl,hc'⟩
   ·omega
   have c1 := hc j hlt
   have c2 := hc' j hlt
   have j1 : (j : Int) < (al.length : Int) := by omega
   have j0 : (0 : Int) ≤ (j : Int) := by omega
   generalize fl al j = A at *
   have hb : (A != A) = false := by simp
   clear hc hc'
   have hmix := mixed13
   go_wp2_with fail
   go_quiet (fail)
   go_wp2
   go_roundw
   case rel => exact ⟨j + 1,by omega,by go_num,_,rfl⟩
   case measure => simp [intOf];omega
  ·have hjl : j = al.length := by omega
   subst hjl
   go_wp2
   go_ret
   exact ⟨rfl,(Grew.refl _).drewN _⟩
end Go.Proofs.Ythioodpmgifomaa
namespace Go.Proofs.Ythioodpmgifomaa
set_option linter.unusedVariables false
set_option linter.unusedSimpArgs false
open Go.RowKit Go.Sort
set_option maxRecDepth 100000 in
set_option maxHeartbeats 1600000 in
theorem eqMl_any (A D : Ra) (x : Ml) (w : World) (hv : RwS w A x.row) (hu : RwS w D x.row) :
  Calls Try.prog 140 #[mlV A x,mlV D x] w fun e w' => e = .returned (.bool true) ∧ Below w.heap.size w w' := by
 have hB0 : Below w.heap.size w ((w.alloc (.cells #[.int .i64 x.fr,.int .i64 x.to,.int .i64 x.row.ver,.slice A.ta x.row.txt.length A.tc,.slice A.ga x.row.got.length A.gc,.slice A.sa x.row.sus.length A.sc,.bool x.row.wed,.bool x.row.rdy,.int .i64 x.row.by_,.slice A.ma x.row.trm.length A.mc] 112)).alloc (.cells #[.int .i64 x.fr,.int .i64 x.to,.int .i64 x.row.ver,.slice D.ta x.row.txt.length D.tc,.slice D.ga x.row.got.length D.gc,.slice D.sa x.row.sus.length D.sc,.bool x.row.wed,.bool x.row.rdy,.int .i64 x.row.by_,.slice D.ma x.row.trm.length D.mc] 112)) := (oneA16 w _).trans ((oneA16 _ _).mono (oneA16 w _).size)
 have hx : Bx ((w.alloc (.cells #[.int .i64 x.fr,.int .i64 x.to,.int .i64 x.row.ver,.slice A.ta x.row.txt.length A.tc,.slice A.ga x.row.got.length A.gc,.slice A.sa x.row.sus.length A.sc,.bool x.row.wed,.bool x.row.rdy,.int .i64 x.row.by_,.slice A.ma x.row.trm.length A.mc] 112)).alloc (.cells #[.int .i64 x.fr,.int .i64 x.to,.int .i64 x.row.ver,.slice D.ta x.row.txt.length D.tc,.slice D.ga x.row.got.length D.gc,.slice D.sa x.row.sus.length D.sc,.bool x.row.wed,.bool x.row.rdy,.int .i64 x.row.by_,.slice D.ma x.row.trm.length D.mc] 112)) w.heap.size 112 #[.int .i64 x.fr,.int .i64 x.to,.int .i64 x.row.ver,.slice A.ta x.row.txt.length A.tc,.slice A.ga x.row.got.length A.gc,.slice A.sa x.row.sus.length A.sc,.bool x.row.wed,.bool x.row.rdy,.int .i64 x.row.by_,.slice A.ma x.row.trm.length A.mc] := (Bx.new w _ _).alloc _
 have hy : Bx ((w.alloc (.cells #[.int .i64 x.fr,.int .i64 x.to,.int .i64 x.row.ver,.slice A.ta x.row.txt.length A.tc,.slice A.ga x.row.got.length A.gc,.slice A.sa x.row.sus.length A.sc,.bool x.row.wed,.bool x.row.rdy,.int .i64 x.row.by_,.slice A.ma x.row.trm.length A.mc] 112)).alloc (.cells #[.int .i64 x.fr,.int .i64 x.to,.int .i64 x.row.ver,.slice D.ta x.row.txt.length D.tc,.slice D.ga x.row.got.length D.gc,.slice D.sa x.row.sus.length D.sc,.bool x.row.wed,.bool x.row.rdy,.int .i64 x.row.by_,.slice D.ma x.row.trm.length D.mc] 112)) (w.heap.size + 1) 112 #[.int .i64 x.fr,.int .i64 x.to,.int .i64 x.row.ver,.slice D.ta x.row.txt.length D.tc,.slice D.ga x.row.got.length D.gc,.slice D.sa x.row.sus.length D.sc,.bool x.row.wed,.bool x.row.rdy,.int .i64 x.row.by_,.slice D.ma x.row.trm.length D.mc] := by
  have := Bx.new (w.alloc (.cells #[.int .i64 x.fr,.int .i64 x.to,.int .i64 x.row.ver,.slice A.ta x.row.txt.length A.tc,.slice A.ga x.row.got.length A.gc,.slice A.sa x.row.sus.length A.sc,.bool x.row.wed,.bool x.row.rdy,.int .i64 x.row.by_,.slice A.ma x.row.trm.length A.mc] 112)) 112 #[.int .i64 x.fr,.int .i64 x.to,.int .i64 x.row.ver,.slice D.ta x.row.txt.length D.tc,.slice D.ga x.row.got.length D.gc,.slice D.sa x.row.sus.length D.sc,.bool x.row.wed,.bool x.row.rdy,.int .i64 x.row.by_,.slice D.ma x.row.trm.length D.mc]
  simpa using this
 have hR := eqRw_any A D x.row _ (hv.below hB0) (hu.below hB0)
 unfold mlV mlC
 unfold rwV rwC at hR
 generalize hWW : (w.alloc (.cells #[.int .i64 x.fr,.int .i64 x.to,.int .i64 x.row.ver,.slice A.ta x.row.txt.length A.tc,.slice A.ga x.row.got.length A.gc,.slice A.sa x.row.sus.length A.sc,.bool x.row.wed,.bool x.row.rdy,.int .i64 x.row.by_,.slice A.ma x.row.trm.length A.mc] 112)).alloc (.cells #[.int .i64 x.fr,.int .i64 x.to,.int .i64 x.row.ver,.slice D.ta x.row.txt.length D.tc,.slice D.ga x.row.got.length D.gc,.slice D.sa x.row.sus.length D.sc,.bool x.row.wed,.bool x.row.rdy,.int .i64 x.row.by_,.slice D.ma x.row.trm.length D.mc] 112) = W at *
 have n1 : (x.fr != x.fr) = false := by simp
 have n2 : (x.to != x.to) = false := by simp
 have HB : Hid (Below w.heap.size w W) := hB0
 obtain ⟨⟨c0,c1⟩,⟨c2,c3,c4,c5⟩,c6,c7,c8,c9⟩ := Bx.r10 hx
 obtain ⟨⟨d0,d1⟩,⟨d2,d3,d4,d5⟩,d6,d7,d8,d9⟩ := Bx.r10 hy
 clear hv hu hB0 hx hy
 go_enter Try.func140,Try.ntmps140
 go_wp2_with (go_at_call 37;refine hR.mono ?_;rintro e w1 ⟨rfl,hb1⟩;have HB1 : Hid (Below w.heap.size w w1) := (HB.out.trans (hb1.mono HB.out.size));clear hb1)
 go_ret
 exact ⟨rfl,HB1.out⟩
attribute [local irreducible] sv
set_option maxRecDepth 100000 in
set_option maxHeartbeats 3200000 in
theorem eqMs_any (a a' : Option Addr) (cap cap' : Nat) (R : List Mb) (w : World) (hv : Cel.vw w (lcl 5 mb5 R) (.slice a R.length cap)) (hu : Cel.vw w (lcl 5 mb5 R) (.slice a' R.length cap')) (hf : ∀ m ∈ R,FitM m) (hm : R.length ≤ maxLen) :
  Calls Try.prog 101 #[.slice a R.length cap,.slice a' R.length cap'] w fun e w' => e = .returned (.bool true) ∧ Below w.heap.size w w' := by
 have HV : Hid (Cel.vw w (lcl 5 mb5 R) (.slice a R.length cap)) := hv
 have HU : Hid (Cel.vw w (lcl 5 mb5 R) (.slice a' R.length cap')) := hu
 have hbb : ((R.length : Int) != (R.length : Int)) = false := by simp
 unfold maxLen at hm
 clear hv hu
 go_enter Try.func101,Try.ntmps101
 go_wp2_with fail
 go_loopw [5] (fun v wr => ∃ k : Nat,k ≤ R.length ∧ v = .int .i64 (k : Int) ∧ Below w.heap.size w wr) (fun v _ => R.length - (intOf v).toNat)
 case atStart => exact ⟨0,Nat.zero_le _,rfl,Below.refl _ _⟩
 case round =>
  obtain ⟨k,hk,rfl,hb⟩ := hrel
  by_cases hlt : k < R.length
  ·have k1 : (k : Int) < (R.length : Int) := by omega
   have k0 : (0 : Int) ≤ (k : Int) := by omega
   have hkx := mbN_at hlt
   have hmem : mbN R k ∈ R := List.mem_of_getElem? hkx
   obtain ⟨g,off,hra,hpv⟩ := vw_elF mb5_len (Cel.vw_below HV.out hb) hkx
   obtain ⟨g',off',hra',hpv'⟩ := vw_elF mb5_len (Cel.vw_below HU.out hb) hkx
   obtain ⟨A,⟨d0,d1,d2,d3,d4⟩,hrs⟩ := hpv.mem (hf _ hmem)
   obtain ⟨A',⟨e0,e1,e2,e3,e4⟩,hrs'⟩ := hpv'.mem (hf _ hmem)
   subst hra hra'
   have C : ∀ q : Bk wr,Calls Try.prog 30 #[mbV A (mbN R k),mbV A' (mbN R k)] q.w fun e w' => e = .returned (.bool true) ∧ Below q.w.heap.size q.w w' := fun q => eqMb_any A A' _ q.w (hrs.below q.h) (hrs'.below q.h)
   unfold mbV mbC at C
   have T : ∀ {x v},wr.cell? x = some v → ∀ q : Bk wr,q.w.cell? x = some v := fun h q => (q.h.cell (World.block_lt_of_cell? _ _ h)).trans h
   have dp0 := T d0
   have ep0 := T e0
   have dp1 := T d1
   have ep1 := T e1
   have dp2 := T d2
   have ep2 := T e2
   have dp3 := T d3
   have ep3 := T e3
   have dp4 := T d4
   have ep4 := T e4
   have HB : Hid (Below w.heap.size w wr) := hb
   generalize mbN R k = r at *
   clear hrs hrs' hpv hpv' hb T d0 e0 d1 e1 d2 e2 d3 e3 d4 e4 hkx
   go_wp2_with fail
   refine wp_region_bk (by kernel_rfl) (by kernel_rfl) ?_
   repeat (go_big_quiet_step ((first | (go_at_call 30;exact bk_call _ (C _)) | rfl)))
   refine wpQuiet_nil ?_
   intro wE hw'
   obtain ⟨⟨w11,hb11⟩,hw''⟩ := hw'
   have hwe : wE = w11 := hw''
   clear hw''
   subst hwe
   have HB1 : Hid (Below w.heap.size w wE) := HB.out.trans (hb11.mono HB.out.size)
   clear C hb11 dp0 ep0 dp1 ep1 dp2 ep2 dp3 ep3 dp4 ep4
   go_wp2
   go_roundw
   case rel => exact ⟨k + 1,by omega,by go_num,HB1.out⟩
   case measure => simp [intOf];omega
  ·have k1 : ¬ ((k : Int) < (R.length : Int)) := by omega
   have HB : Hid (Below w.heap.size w wr) := hb
   clear hb
   go_wp2
   go_ret
   exact ⟨rfl,HB.out⟩
set_option maxRecDepth 100000 in
set_option maxHeartbeats 3200000 in
theorem eqLs_any (a a' : Option Addr) (cap cap' : Nat) (R : List Ml) (w : World) (hv : Cel.vw w (lcl 10 ml10 R) (.slice a R.length cap)) (hu : Cel.vw w (lcl 10 ml10 R) (.slice a' R.length cap')) (hf : ∀ x ∈ R,FitR x.row) (hm : R.length ≤ maxLen) :
  Calls Try.prog 103 #[.slice a R.length cap,.slice a' R.length cap'] w fun e w' => e = .returned (.bool true) ∧ Below w.heap.size w w' := by
 have HV : Hid (Cel.vw w (lcl 10 ml10 R) (.slice a R.length cap)) := hv
 have HU : Hid (Cel.vw w (lcl 10 ml10 R) (.slice a' R.length cap')) := hu
 have hbb : ((R.length : Int) != (R.length : Int)) = false := by simp
 unfold maxLen at hm
 clear hv hu
 go_enter Try.func103,Try.ntmps103
 go_wp2_with fail
 go_loopw [5] (fun v wr => ∃ k : Nat,k ≤ R.length ∧ v = .int .i64 (k : Int) ∧ Below w.heap.size w wr) (fun v _ => R.length - (intOf v).toNat)
 case atStart => exact ⟨0,Nat.zero_le _,rfl,Below.refl _ _⟩
 case round =>
  obtain ⟨k,hk,rfl,hb⟩ := hrel
  by_cases hlt : k < R.length
  ·have k1 : (k : Int) < (R.length : Int) := by omega
   have k0 : (0 : Int) ≤ (k : Int) := by omega
   have hkx := mlN_at hlt
   have hmem : mlN R k ∈ R := List.mem_of_getElem? hkx
   obtain ⟨g,off,hra,hpv⟩ := vw_elF ml10_len (Cel.vw_below HV.out hb) hkx
   obtain ⟨g',off',hra',hpv'⟩ := vw_elF ml10_len (Cel.vw_below HU.out hb) hkx
   obtain ⟨A,⟨d0,d1⟩,⟨d2,d3,d4,d5⟩,d6,d7,d8,d9,hrs⟩ := hpv.mlr (hf _ hmem)
   obtain ⟨A',⟨e0,e1⟩,⟨e2,e3,e4,e5⟩,e6,e7,e8,e9,hrs'⟩ := hpv'.mlr (hf _ hmem)
   subst hra hra'
   have C : ∀ q : Bk wr,Calls Try.prog 140 #[mlV A (mlN R k),mlV A' (mlN R k)] q.w fun e w' => e = .returned (.bool true) ∧ Below q.w.heap.size q.w w' := fun q => eqMl_any A A' _ q.w (hrs.below q.h) (hrs'.below q.h)
   unfold mlV mlC at C
   have T : ∀ {x v},wr.cell? x = some v → ∀ q : Bk wr,q.w.cell? x = some v := fun h q => (q.h.cell (World.block_lt_of_cell? _ _ h)).trans h
   have dp0 := T d0
   have ep0 := T e0
   have dp1 := T d1
   have ep1 := T e1
   have dp2 := T d2
   have ep2 := T e2
   have dp3 := T d3
   have ep3 := T e3
   have dp4 := T d4
   have ep4 := T e4
   have dp5 := T d5
   have ep5 := T e5
   have dp6 := T d6
   have ep6 := T e6
   have dp7 := T d7
   have ep7 := T e7
   have dp8 := T d8
   have ep8 := T e8
   have dp9 := T d9
   have ep9 := T e9
   have HB : Hid (Below w.heap.size w wr) := hb
   generalize mlN R k = r at *
   clear hrs hrs' hpv hpv' hb T d0 e0 d1 e1 d2 e2 d3 e3 d4 e4 d5 e5 d6 e6 d7 e7 d8 e8 d9 e9 hkx
   go_wp2_with fail
   refine wp_region_bk (by kernel_rfl) (by kernel_rfl) ?_
   repeat (go_big_quiet_step ((first | (go_at_call 140;exact bk_call _ (C _)) | rfl)))
   refine wpQuiet_nil ?_
   intro wE hw'
   obtain ⟨⟨w11,hb11⟩,hw''⟩ := hw'
   have hwe : wE = w11 := hw''
   clear hw''
   subst hwe
   have HB1 : Hid (Below w.heap.size w wE) := HB.out.trans (hb11.mono HB.out.size)
   clear C hb11 dp0 ep0 dp1 ep1 dp2 ep2 dp3 ep3 dp4 ep4 dp5 ep5 dp6 ep6 dp7 ep7 dp8 ep8 dp9 ep9
   go_wp2
   go_roundw
   case rel => exact ⟨k + 1,by omega,by go_num,HB1.out⟩
   case measure => simp [intOf];omega
  ·have k1 : ¬ ((k : Int) < (R.length : Int)) := by omega
   have HB : Hid (Below w.heap.size w wr) := hb
   clear hb
   go_wp2
   go_ret
   exact ⟨rfl,HB.out⟩
set_option maxRecDepth 100000 in
set_option maxHeartbeats 3200000 in
theorem eqGr_any (A D : Ga) (g : Gr) (w : World) (hv : GrS w A g) (hu : GrS w D g) :
  Calls Try.prog 43 #[grV A g,grV D g] w fun e w' => e = .returned (.bool true) ∧ Below w.heap.size w w' := by
 have hB0 : Below w.heap.size w ((w.alloc (.cells #[.slice A.ma g.mem.length A.mc,.slice A.ua g.up.length A.uc,.slice A.la g.mail.length A.lc] 66)).alloc (.cells #[.slice D.ma g.mem.length D.mc,.slice D.ua g.up.length D.uc,.slice D.la g.mail.length D.lc] 66)) := (oneA16 w _).trans ((oneA16 _ _).mono (oneA16 w _).size)
 have hx : Bx ((w.alloc (.cells #[.slice A.ma g.mem.length A.mc,.slice A.ua g.up.length A.uc,.slice A.la g.mail.length A.lc] 66)).alloc (.cells #[.slice D.ma g.mem.length D.mc,.slice D.ua g.up.length D.uc,.slice D.la g.mail.length D.lc] 66)) w.heap.size 66 #[.slice A.ma g.mem.length A.mc,.slice A.ua g.up.length A.uc,.slice A.la g.mail.length A.lc] := (Bx.new w _ _).alloc _
 have hy : Bx ((w.alloc (.cells #[.slice A.ma g.mem.length A.mc,.slice A.ua g.up.length A.uc,.slice A.la g.mail.length A.lc] 66)).alloc (.cells #[.slice D.ma g.mem.length D.mc,.slice D.ua g.up.length D.uc,.slice D.la g.mail.length D.lc] 66)) (w.heap.size + 1) 66 #[.slice D.ma g.mem.length D.mc,.slice D.ua g.up.length D.uc,.slice D.la g.mail.length D.lc] := by
  have := Bx.new (w.alloc (.cells #[.slice A.ma g.mem.length A.mc,.slice A.ua g.up.length A.uc,.slice A.la g.mail.length A.lc] 66)) 66 #[.slice D.ma g.mem.length D.mc,.slice D.ua g.up.length D.uc,.slice D.la g.mail.length D.lc]
  simpa using this
 have h0 := hv.below hB0
 have g0 := hu.below hB0
 have hM := eqMs_any A.ma D.ma A.mc D.mc g.mem _ h0.mem g0.mem h0.fit.1 h0.lm
 have hU : ∀ X,Below w.heap.size w X → Calls Try.prog 102 #[.slice A.ua g.up.length A.uc,.slice D.ua g.up.length D.uc] X fun e w' => e = .returned (.bool true) ∧ Below X.heap.size X w' := fun X h => (eqF_any A.ua D.ua A.uc D.uc g.up X (hv.below h).up (hu.below h).up hv.lu).mono (fun e w' h4 => ⟨h4.1,h4.2.1⟩)
 have hL : ∀ X,Below w.heap.size w X → Calls Try.prog 103 #[.slice A.la g.mail.length A.lc,.slice D.la g.mail.length D.lc] X fun e w' => e = .returned (.bool true) ∧ Below X.heap.size X w' := fun X h => eqLs_any A.la D.la A.lc D.lc g.mail X (hv.below h).mail (hu.below h).mail hv.fit.2 hv.ll
 unfold grV grC
 generalize hWW : (w.alloc (.cells #[.slice A.ma g.mem.length A.mc,.slice A.ua g.up.length A.uc,.slice A.la g.mail.length A.lc] 66)).alloc (.cells #[.slice D.ma g.mem.length D.mc,.slice D.ua g.up.length D.uc,.slice D.la g.mail.length D.lc] 66) = W at *
 have HX : Hid (Bx W w.heap.size 66 #[.slice A.ma g.mem.length A.mc,.slice A.ua g.up.length A.uc,.slice A.la g.mail.length A.lc]) := hx
 have HY : Hid (Bx W (w.heap.size + 1) 66 #[.slice D.ma g.mem.length D.mc,.slice D.ua g.up.length D.uc,.slice D.la g.mail.length D.lc]) := hy
 have HB : Hid (Below w.heap.size w W) := hB0
 obtain ⟨c0,c1,c2⟩ := Bx.g3 hx
 obtain ⟨d0,d1,d2⟩ := Bx.g3 hy
 clear hv hu h0 g0 hB0 hx hy
 go_enter Try.func43,Try.ntmps43
 go_wp2_with fail
 refine hM.mono ?_
 rintro e w1 ⟨rfl,hb1⟩
 have HB1 : Hid (Below w.heap.size w w1) := HB.out.trans (hb1.mono HB.out.size)
 have HX1 : Hid (Bx w1 w.heap.size 66 #[.slice A.ma g.mem.length A.mc,.slice A.ua g.up.length A.uc,.slice A.la g.mail.length A.lc]) := HX.out.below hb1
 have HY1 : Hid (Bx w1 (w.heap.size + 1) 66 #[.slice D.ma g.mem.length D.mc,.slice D.ua g.up.length D.uc,.slice D.la g.mail.length D.lc]) := HY.out.below hb1
 clear c0 c1 c2 d0 d1 d2 hM hb1
 obtain ⟨c0,c1,c2⟩ := Bx.g3 HX1.out
 obtain ⟨d0,d1,d2⟩ := Bx.g3 HY1.out
 go_wp2_with fail
 refine (hU _ HB1.out).mono ?_
 rintro e w2 ⟨rfl,hb2⟩
 have HB2 : Hid (Below w.heap.size w w2) := HB1.out.trans (hb2.mono HB1.out.size)
 clear c0 c1 c2 d0 d1 d2 hU
 obtain ⟨c0,c1,c2⟩ := Bx.g3 (HX1.out.below hb2)
 obtain ⟨d0,d1,d2⟩ := Bx.g3 (HY1.out.below hb2)
 clear hb2
 go_wp2_with fail
 refine (hL _ HB2.out).mono ?_
 rintro e w3 ⟨rfl,hb3⟩
 have HB3 : Hid (Below w.heap.size w w3) := HB2.out.trans (hb3.mono HB2.out.size)
 clear c0 c1 c2 d0 d1 d2 hb3 hL
 go_wp2
 go_ret
 exact ⟨rfl,HB3.out⟩
end Go.Proofs.Ythioodpmgifomaa
namespace Go.Proofs.Ythioodpmgifomaa
set_option linter.unusedVariables false
set_option linter.unusedSimpArgs false
open Go.RowKit Go.Sort
theorem infoRow17 : (Try.prog.info? 51).map (fun i => (i.zero,i.size,i.bytes)) = some (some (.agg zero8),8,120) := by kernel_rfl
theorem make_rs (n : Nat) (hn : n ≤ 1048576) (w : World) :
  (Instr.makeSlice 37 (.int .i64 (n : Int)) (.int .i64 (n : Int))).run Try.prog w = .ok (.slice (some ⟨w.heap.size,0,none⟩) n n) (w.alloc (.cells (madeCells zero8 (n * 8)) 51)) := by
 obtain ⟨i,hi,hz,hs,hb⟩ := info_parts2n infoRow17
 have hr := run_make (P := Try.prog) w 37 51 i _ Try.underlying37 hi hz .i64 .i64 n n (by omega) (Int.le_refl _) (by rw [hb];omega) (by omega)
 simp only [Int.toNat_natCast,hs] at hr
 exact hr
theorem flat_rep {α : Type} (F : α → List Cel) (x : α) : ∀ n,(List.replicate n x).flatMap F = (List.replicate n (F x)).flatten
 | 0 => rfl
 | n + 1 => by rw [List.replicate_succ,List.replicate_succ,List.flatMap_cons,List.flatten_cons,flat_rep F x n]
theorem ow_zero8 (w : World) : owL w (rw8 zeroRw) zero8.toList (fun _ => False) := by
 have h : owL w (rwCels zeroRw) (rwVals ⟨none,0,none,0,none,0,none,0⟩ zeroRw) (fun _ => False) := owL_congr (owL4 (ow_none_s w) (ow_none_i w) (ow_none_i w) (ow_none_i w) (fun _ h => h.elim) (fun _ h => h.elim) (fun _ h => h.elim)) (fun b => by simp)
 exact ow_rw8 h
theorem rows_made (w : World) (n : Nat) (hn : n ≤ 1048576) : Cel.ow (w.alloc (.cells (madeCells zero8 (n * 8)) 51)) (lcl 8 rw8 (List.replicate n zeroRw)) (.slice (some ⟨w.heap.size,0,none⟩) n n) (fun b => b = w.heap.size) := by
 have h := osl_made w zero8 8 n 51 rfl (by omega) (by unfold maxLen;omega)
 unfold lcl
 rw [flat_rep,List.length_replicate]
 exact ⟨_,n,_,some w.heap.size,fun _ => False,rfl,OSo.of h,owL_zeros (ow_zero8 _) (fun b h => h) n,fun _ _ h => h,fun b => by simp [eq_comm]⟩
def prR (R : List Rw) (k : Nat) : List Rw := R.take k ++ List.replicate (R.length - k) zeroRw
theorem prR_len {R : List Rw} {k : Nat} (hk : k ≤ R.length) : (prR R k).length = R.length := by simp [prR];omega
theorem prR_at {R : List Rw} {k : Nat} (hk : k < R.length) : (prR R k)[k]? = some zeroRw := by
 have e2 : R.length - k = (R.length - (k + 1)) + 1 := by omega
 have e3 : (R.take k).length = k := by simp;omega
 rw [prR,List.getElem?_append_right (by omega),e2,List.replicate_succ,e3,Nat.sub_self]
 rfl
theorem prR_set {R : List Rw} {k : Nat} (hk : k < R.length) : (prR R k).set k (rowN R k) = prR R (k + 1) := by
 have e : rowN R k = R[k] := by simp [rowN,List.getD,hk]
 have e2 : R.length - k = (R.length - (k + 1)) + 1 := by omega
 have e3 : (R.take k).length = k := by simp;omega
 rw [prR,prR,e,e2,List.replicate_succ,List.set_append_right _ _ (by omega),List.take_succ_eq_append_getElem hk,e3,Nat.sub_self,List.set_cons_zero,List.append_assoc]
 rfl
theorem szP_mono (R : List Rw) {a b : Nat} (h : a ≤ b) : szP R a ≤ szP R b := by
 unfold szP
 obtain ⟨c,rfl⟩ := Nat.exists_eq_add_of_le h
 rw [List.take_add,List.map_append,List.sum_append]
 omega
theorem prR_all (R : List Rw) : prR R R.length = R := by simp [prR]
set_option maxRecDepth 100000 in
set_option maxHeartbeats 3200000 in
theorem toRs_any (a : Option Addr) (cap : Nat) (R : List Rw) (w : World) (hv : Cel.vw w (lcl 8 rw8 R) (.slice a R.length cap)) (hf : ∀ r ∈ R,FitR r) (hs : szRs R ≤ 1048576) :
  Calls Try.prog 72 #[.slice a R.length cap] w fun e w' => ∃ a' c',e = .returned (.slice a' R.length c') ∧ NewO w w' (lcl 8 rw8 R) (.slice a' R.length c') := by
 have HV : Hid (Cel.vw w (lcl 8 rw8 R) (.slice a R.length cap)) := hv
 have hl : R.length ≤ 1048576 := by unfold szRs at hs;omega
 have HSZ : Hid (∀ k,k < R.length → szRw (rowN R k) ≤ 1048576) := fun k hk => by
  have h1 : szP R (k + 1) ≤ szP R R.length := szP_mono R (by omega)
  rw [szP_next hk] at h1
  unfold szRs at hs
  omega
 have hmk := make_rs R.length hl
 have HS : Hid (Cel.ow (w.alloc (.cells (madeCells zero8 (R.length * 8)) 51)) (lcl 8 rw8 (prR R 0)) (.slice (some ⟨w.heap.size,0,none⟩) R.length R.length) (fun b => b = w.heap.size) ∧ Below w.heap.size w (w.alloc (.cells (madeCells zero8 (R.length * 8)) 51))) := by
  refine ⟨?_,oneA16 w _⟩
  have := rows_made w R.length hl
  have e : prR R 0 = List.replicate R.length zeroRw := by simp [prR]
  rw [e]
  exact this
 clear hv
 go_enter Try.func72,Try.ntmps72
 go_wp2_with fail
 clear hmk
 generalize w.alloc (.cells (madeCells zero8 (R.length * 8)) 51) = W0 at *
 go_loopw [4] (fun i wr => ∃ (k : Nat) (fp : Fp),k ≤ R.length ∧ i = .int .i64 k ∧ Cel.ow wr (lcl 8 rw8 (prR R k)) (.slice (some ⟨w.heap.size,0,none⟩) R.length R.length) fp ∧ (∀ b,fp b → w.heap.size ≤ b) ∧ Below w.heap.size w wr) (fun i _ => R.length - (intOf i).toNat)
 case atStart => exact ⟨0,_,Nat.zero_le _,rfl,HS.out.1,fun b h => by rw [h];exact Nat.le_refl _,HS.out.2⟩
 case round =>
  obtain ⟨k,fp,hk,rfl,ho,hfp,hb⟩ := hrel
  by_cases hlt : k < R.length
  ·have k1 : (k : Int) < (R.length : Int) := by omega
   have k0 : (0 : Int) ≤ (k : Int) := by omega
   have hmem : rowN R k ∈ R := rowN_mem hlt
   obtain ⟨g,off,hra,hpv⟩ := vw_elF rw8_len (Cel.vw_below HV.out hb) (k := k) (x := rowN R k) (by simp [rowN,List.getD,hlt])
   obtain ⟨Ak,⟨⟨d0,d1,d2,d3⟩,d4,d5,d6,d7⟩,hrs⟩ := hpv.row (hf _ hmem)
   subst hra
   have hz := HSZ.out k hlt
   unfold szRw at hz
   have hC := toRw_any Ak (rowN R k) wr hrs (by omega) (by omega) (by omega) (by omega)
   unfold rwV rwC at hC
   have hpl := prR_len hk
   rw [← hpl] at ho
   obtain ⟨g1,off1,f1,e1,hfg,hfs,hP,hglt,hput⟩ := ow_elF rw8_len (by omega) ho (prR_at hlt)
   cases e1
   have hput := fun w1 => hput w1 (rowN R k)
   rw [prR_set hlt,hpl] at hput
   simp only [Nat.zero_add] at hP hput
   have HPut : Hid (∀ w1 : World,Bcm wr w1 w.heap.size (k * 8) (rw8 (rowN R k)) f1 → ∃ fp',Cel.ow w1 (lcl 8 rw8 (prR R (k + 1))) (.slice (some ⟨w.heap.size,0,none⟩) R.length R.length) fp' ∧ (∀ b,fp' b → fp b ∨ wr.heap.size ≤ b) ∧ Wrt fp wr w1) := hput
   have HP : Hid (Plc wr w.heap.size (k * 8) (rw8 zeroRw) f1) := hP
   have HB : Hid (Below w.heap.size w wr) := hb
   have HFP : Hid (∀ b,fp b → w.heap.size ≤ b) := hfp
   generalize rowN R k = r at *
   clear hrs hpv hb ho hput hP hz hpl hfs hmem
   go_wp2_with fail
   refine hC.mono ?_
   rintro e w1 ⟨A1,rfl,fr,hl1,hfr,hb1⟩
   have HA := HP.out.all hb1 (ow_rw8 hl1) rfl hfr
   obtain ⟨vs0,hpc,hov,_⟩ := HP.out
   have hl8 : vs0.length = 8 := owL_len hov
   have hpc1 := hpc.of_block (hb1.block _ hpc.lt) hb1.size
   have cc : ∀ j,j < 8 → ∃ u,w1.cell? ⟨w.heap.size,k * 8 + j,none⟩ = some u ∧ w1.frozen? ⟨w.heap.size,k * 8 + j,none⟩ = false := fun j hj => ⟨_,(hpc1.cell j (by omega)).trans (List.getElem?_eq_getElem (by omega)),hpc1.free j (by omega)⟩
   obtain ⟨u0,e0,f0⟩ := cc 0 (by omega)
   obtain ⟨u1,e1,f1'⟩ := cc 1 (by omega)
   obtain ⟨u2,e2,f2⟩ := cc 2 (by omega)
   obtain ⟨u3,e3,f3⟩ := cc 3 (by omega)
   obtain ⟨u4,e4,f4⟩ := cc 4 (by omega)
   obtain ⟨u5,e5,f5⟩ := cc 5 (by omega)
   obtain ⟨u6,e6,f6⟩ := cc 6 (by omega)
   obtain ⟨u7,e7,f7⟩ := cc 7 (by omega)
   simp only [Nat.add_zero] at e0 f0
   obtain ⟨fp',hN1,hN2,hN3⟩ := HPut.out _ HA
   have HN1 : Hid (Cel.ow _ (lcl 8 rw8 (prR R (k + 1))) (.slice (some ⟨w.heap.size,0,none⟩) R.length R.length) fp') := hN1
   have HN3 : Hid (Wrt fp wr _) := hN3
   have HN2 : Hid (∀ b,fp' b → fp b ∨ wr.heap.size ≤ b) := hN2
   have hsz := HB.out.size
   clear d0 d1 d2 d3 d4 d5 d6 d7 hC hb1 hl1 hN1 hN2 hN3 HA cc hpc1 hov hpc
   unfold rwV rwC
   go_wp2
   go_roundw
   case rel => exact ⟨k + 1,fp',by omega,by go_num,HN1.out,fun b hb => by have := HFP.out b;rcases HN2.out b hb with h | h;exact this h;omega,HN3.out.below HB.out hsz HFP.out⟩
   case measure => simp [intOf];omega
  ·obtain rfl : k = R.length := by omega
   have k1 : ¬ ((R.length : Int) < (R.length : Int)) := by omega
   have HE : Hid (NewO w wr (lcl 8 rw8 R) (.slice (some ⟨w.heap.size,0,none⟩) R.length R.length)) := by rw [prR_all] at ho;exact ⟨fp,ho,hfp,hb⟩
   clear ho hb
   go_wp2
   go_ret
   exact ⟨_,_,rfl,HE.out⟩
end Go.Proofs.Ythioodpmgifomaa
namespace Go.Proofs.Ythioodpmgifomaa
set_option linter.unusedVariables false
set_option linter.unusedSimpArgs false
open Go.RowKit Go.Sort
structure TM (w X : World) (S O : Array Value) (cs : List Cel) (vs : List Value) (fp : Fp) : Prop where
 src : Bx X w.heap.size 35 S
 res : Bx X (w.heap.size + 1) 39 #[.int .i64 0,.int .i64 0,.slice none 0 0,.slice none 0 0,.bool false]
 out : Bx X (w.heap.size + 1 + 1) 39 O
 own : owL X cs vs fp
 fpl : ∀ b,fp b → w.heap.size + 1 + 1 < b
 below : Below w.heap.size w X
theorem TM.set {w X : World} {S O : Array Value} {cs : List Cel} {vs : List Value} {fp : Fp} (h : TM w X S O cs vs fp) (i : Nat) (v : Value) : TM w (X.setCell ⟨w.heap.size + 1 + 1,i,none⟩ v) S (O.setIfInBounds i v) cs vs fp :=
 ⟨h.src.far (by omega) v,h.res.far (by omega) v,h.out.setC i v,owL_wrt h.own (Wrt.set X (w.heap.size + 1 + 1) i v) (fun b hb e => by have := h.fpl b hb;omega),h.fpl,h.below.setCell (p := ⟨w.heap.size + 1 + 1,i,none⟩) (show w.heap.size ≤ w.heap.size + 1 + 1 by omega) v⟩
theorem TM.add {w X X' : World} {S O : Array Value} {cs : List Cel} {vs : List Value} {fp : Fp} (h : TM w X S O cs vs fp) {c : Cel} {v : Value} (hN : NewO X X' c v) : ∃ fp',TM w X' S O (cs ++ [c]) (vs ++ [v]) fp' := by
 obtain ⟨f,ho,hf,hb⟩ := hN
 have hol := h.out.lt
 refine ⟨fun b => fp b ∨ f b,h.src.below hb,h.res.below hb,h.out.below hb,owL_append (owL_below h.own hb) (owL_one.2 ho) (fun b h1 h2 => ?_),fun b hb => ?_,h.below.trans (hb.mono h.below.size)⟩
 ·have := owL_lt h.own b h1
  have := hf b h2
  omega
 ·rcases hb with hb | hb
  ·exact h.fpl b hb
  ·have := hf b hb;omega
set_option maxRecDepth 100000 in
set_option maxHeartbeats 3200000 in
theorem toMb_any (A : Ma) (m : Mb) (w : World) (hv : MbS w A m) (hs : szMb m ≤ 1048576) :
  Calls Try.prog 28 #[mbV A m] w fun e w' => AnsMb w w' e m := by
 have HR : Hid (∀ X,Below w.heap.size w X → Calls Try.prog 72 #[.slice A.ra m.rows.length A.rc] X fun e w' => ∃ a' c',e = .returned (.slice a' m.rows.length c') ∧ NewO X w' (lcl 8 rw8 m.rows) (.slice a' m.rows.length c')) := fun X h => toRs_any A.ra A.rc m.rows X (hv.below h).rows hv.fit (by unfold szMb at hs;omega)
 have HG : Hid (∀ X,Below w.heap.size w X → Calls Try.prog 73 #[.slice A.sa m.sung.length A.sc] X fun e w' => ∃ a' c',e = .returned (.slice a' m.sung.length c') ∧ NewO X w' (icl m.sung) (.slice a' m.sung.length c')) := fun X h => toI16 A.sa A.sc m.sung X (hv.below h).sung (by unfold szMb at hs;omega)
 obtain ⟨id,n,rows,sung,done⟩ := m
 obtain ⟨ra,rc,sa,sc⟩ := A
 simp only at HR HG
 have T0 : TM w (((w.alloc (.cells #[.int .i64 id,.int .i64 n,.slice ra rows.length rc,.slice sa sung.length sc,.bool done] 35)).alloc (.cells #[.int .i64 0,.int .i64 0,.slice none 0 0,.slice none 0 0,.bool false] 39)).alloc (.cells #[.int .i64 id,.int .i64 n,.slice none 0 0,.slice none 0 0,.bool false] 39)) #[.int .i64 id,.int .i64 n,.slice ra rows.length rc,.slice sa sung.length sc,.bool done] #[.int .i64 id,.int .i64 n,.slice none 0 0,.slice none 0 0,.bool false] [] [] (fun _ => False) := by
  have x0 := ((Bx.new w 35 #[.int .i64 id,.int .i64 n,.slice ra rows.length rc,.slice sa sung.length sc,.bool done]).alloc (.cells #[.int .i64 0,.int .i64 0,.slice none 0 0,.slice none 0 0,.bool false] 39)).alloc (.cells #[.int .i64 id,.int .i64 n,.slice none 0 0,.slice none 0 0,.bool false] 39)
  have x1 := (Bx.new (w.alloc (.cells #[.int .i64 id,.int .i64 n,.slice ra rows.length rc,.slice sa sung.length sc,.bool done] 35)) 39 #[.int .i64 0,.int .i64 0,.slice none 0 0,.slice none 0 0,.bool false]).alloc (.cells #[.int .i64 id,.int .i64 n,.slice none 0 0,.slice none 0 0,.bool false] 39)
  have x2 := Bx.new ((w.alloc (.cells #[.int .i64 id,.int .i64 n,.slice ra rows.length rc,.slice sa sung.length sc,.bool done] 35)).alloc (.cells #[.int .i64 0,.int .i64 0,.slice none 0 0,.slice none 0 0,.bool false] 39)) 39 #[.int .i64 id,.int .i64 n,.slice none 0 0,.slice none 0 0,.bool false]
  simp only [World.size_alloc] at x1 x2
  exact ⟨x0,x1,x2,⟨rfl,fun _ h => h⟩,fun b h => h.elim,((Below.refl _ _).alloc (Nat.le_refl _) _).alloc (by simp) _ |>.alloc (by simp only [World.size_alloc];omega) _⟩
 have hC1 := HR.out _ T0.below
 have HT0 : Hid (TM w (((w.alloc (.cells #[.int .i64 id,.int .i64 n,.slice ra rows.length rc,.slice sa sung.length sc,.bool done] 35)).alloc (.cells #[.int .i64 0,.int .i64 0,.slice none 0 0,.slice none 0 0,.bool false] 39)).alloc (.cells #[.int .i64 id,.int .i64 n,.slice none 0 0,.slice none 0 0,.bool false] 39)) #[.int .i64 id,.int .i64 n,.slice ra rows.length rc,.slice sa sung.length sc,.bool done] #[.int .i64 id,.int .i64 n,.slice none 0 0,.slice none 0 0,.bool false] [] [] (fun _ => False)) := T0
 unfold mbV mbC
 simp only
 clear hv T0
 go_enter Try.func28,Try.ntmps28
 go_wp2_with fail
 refine hC1.mono ?_
 rintro e w1 ⟨a1,c1,rfl,hN1⟩
 obtain ⟨fp1,T1⟩ := HT0.out.add hN1
 obtain ⟨s0,s1,s2,s3,s4⟩ := Bx.r5 T1.src
 obtain ⟨o0,o1,o2,o3,o4⟩ := Bx.r5 (show Bx _ _ _ #[.int .i64 id,.int .i64 n,.slice none 0 0,.slice none 0 0,.bool false] from T1.out)
 obtain ⟨f0,f1,f2,f3,f4⟩ := T1.out.f5
 have T1s := T1.set 2 (.slice a1 rows.length c1)
 have T1' : TM w (w1.setCell ⟨w.heap.size + 1 + 1,2,none⟩ (.slice a1 rows.length c1)) #[.int .i64 id,.int .i64 n,.slice ra rows.length rc,.slice sa sung.length sc,.bool done] #[.int .i64 id,.int .i64 n,.slice a1 rows.length c1,.slice none 0 0,.bool false] ([] ++ [lcl 8 rw8 rows]) ([] ++ [.slice a1 rows.length c1]) fp1 := by simpa using T1s
 have hC2 := HG.out _ T1'.below
 have HT1 : Hid (TM w (w1.setCell ⟨w.heap.size + 1 + 1,2,none⟩ (.slice a1 rows.length c1)) #[.int .i64 id,.int .i64 n,.slice ra rows.length rc,.slice sa sung.length sc,.bool done] #[.int .i64 id,.int .i64 n,.slice a1 rows.length c1,.slice none 0 0,.bool false] ([] ++ [lcl 8 rw8 rows]) ([] ++ [.slice a1 rows.length c1]) fp1) := T1'
 have x0 : (w1.setCell ⟨w.heap.size + 1 + 1,2,none⟩ (.slice a1 rows.length c1)).cell? ⟨w.heap.size,3,none⟩ = some (.slice sa sung.length sc) := T1'.src.at 3 rfl
 clear hN1 T1 T1s T1' hC1 HT0
 go_wp2_with fail
 refine hC2.mono ?_
 rintro e w2 ⟨a2,c2,rfl,hN2⟩
 clear s0 s1 s2 s3 s4 o0 o1 o2 o3 o4 f0 f1 f2 f3 f4 x0
 obtain ⟨fp2,T2⟩ := HT1.out.add hN2
 have p0 := (show Bx _ _ _ #[.int .i64 id,.int .i64 n,.slice a1 rows.length c1,.slice none 0 0,.bool false] from T2.out).at 3 rfl
 have q0 := T2.out.f 3
 have T2as := T2.set 3 (.slice a2 sung.length c2)
 have T2a : TM w (w2.setCell ⟨w.heap.size + 1 + 1,3,none⟩ (.slice a2 sung.length c2)) #[.int .i64 id,.int .i64 n,.slice ra rows.length rc,.slice sa sung.length sc,.bool done] #[.int .i64 id,.int .i64 n,.slice a1 rows.length c1,.slice a2 sung.length c2,.bool false] (([] ++ [lcl 8 rw8 rows]) ++ [icl sung]) (([] ++ [.slice a1 rows.length c1]) ++ [.slice a2 sung.length c2]) fp2 := by simpa using T2as
 have s4 : (w2.setCell ⟨w.heap.size + 1 + 1,3,none⟩ (.slice a2 sung.length c2)).cell? ⟨w.heap.size,4,none⟩ = _ := T2a.src.at 4 rfl
 have p4 := T2a.out.at 4 rfl
 have q4 := T2a.out.f 4
 have T2bs := T2a.set 4 (.bool done)
 have T2b : TM w ((w2.setCell ⟨w.heap.size + 1 + 1,3,none⟩ (.slice a2 sung.length c2)).setCell ⟨w.heap.size + 1 + 1,4,none⟩ (.bool done)) #[.int .i64 id,.int .i64 n,.slice ra rows.length rc,.slice sa sung.length sc,.bool done] #[.int .i64 id,.int .i64 n,.slice a1 rows.length c1,.slice a2 sung.length c2,.bool done] (([] ++ [lcl 8 rw8 rows]) ++ [icl sung]) (([] ++ [.slice a1 rows.length c1]) ++ [.slice a2 sung.length c2]) fp2 := by simpa using T2bs
 obtain ⟨o0,o1,o2,o3,o4⟩ := Bx.r5 (show Bx _ _ _ #[.int .i64 id,.int .i64 n,.slice a1 rows.length c1,.slice a2 sung.length c2,.bool done] from T2b.out)
 obtain ⟨r0,r1,r2,r3,r4⟩ := Bx.r5 T2b.res
 obtain ⟨f0,f1,f2,f3,f4⟩ := T2b.res.f5
 have HT3 : Hid (TM w ((w2.setCell ⟨w.heap.size + 1 + 1,3,none⟩ (.slice a2 sung.length c2)).setCell ⟨w.heap.size + 1 + 1,4,none⟩ (.bool done)) #[.int .i64 id,.int .i64 n,.slice ra rows.length rc,.slice sa sung.length sc,.bool done] #[.int .i64 id,.int .i64 n,.slice a1 rows.length c1,.slice a2 sung.length c2,.bool done] (([] ++ [lcl 8 rw8 rows]) ++ [icl sung]) (([] ++ [.slice a1 rows.length c1]) ++ [.slice a2 sung.length c2]) fp2) := T2b
 clear hN2 T2 T2as T2a T2bs T2b hC2 HT1
 go_wp2
 refine bodyPost_ret (v := .agg #[.int .i64 id,.int .i64 n,.slice a1 rows.length c1,.slice a2 sung.length c2,.bool done]) (by simp [results,Try.results28,go_sem, *]) rfl ?_
 refine ⟨⟨a1,c1,a2,c2⟩,rfl,fp2,owL_wrt HT3.out.own (wrt5 _ (w.heap.size + 1)) (fun b hb e => by have := HT3.out.fpl b hb;omega),fun b hb => by have := HT3.out.fpl b hb;omega,(wrt5 _ (w.heap.size + 1)).below HT3.out.below HT3.out.below.size (fun b e => by rw [e];omega)⟩
end Go.Proofs.Ythioodpmgifomaa