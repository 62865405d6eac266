/-
  Texts in one: Mco Mcp Gnd Gne Gnf Mck Mcd Mcf Mcq Gng Gni Nmb.
-/
import Derived.Test.YthioodpmgifomaaJad
import Derived.Test.YthioodpmgifomaaJac
import Derived.Test.YthioodpmgifomaaJab
import Derived.Test.YthioodpmgifomaaJaa
import Derived.Deep.RegionHeld3
import Derived.Defers
import Derived.Recover
namespace Go.Proofs.Ythioodpmgifomaa
set_option linter.unusedVariables false
set_option linter.unusedSimpArgs false
open Go.RowKit Go.Sort
theorem mk8_at {w : World} {g o : Nat} {r : Rw} {K : Nat} {f : Fp} (h : Plc w g o (rw8 (mk8 r K)) f) : ∃ u1 u2 u3 u7 f1 f2 f3 f7,(w.cell? ⟨g,o,none⟩ = some (.int .i64 (K : Int)) ∧ w.cell? ⟨g,o + 1,none⟩ = some u1 ∧ w.cell? ⟨g,o + 2,none⟩ = some u2 ∧ w.cell? ⟨g,o + 3,none⟩ = some u3) ∧ w.cell? ⟨g,o + 4,none⟩ = some (.bool (m3 ((K + 1 + r.txt.length + r.got.length + r.sus.length : Nat) : Int))) ∧ w.cell? ⟨g,o + 5,none⟩ = some (.bool (m3 (((K + 1 + r.txt.length + r.got.length + r.sus.length : Nat) : Int) + 1))) ∧ w.cell? ⟨g,o + 6,none⟩ = some (.int .i64 (((K + 1 + r.txt.length + r.got.length + r.sus.length : Nat) : Int) + 1 + 1)) ∧ w.cell? ⟨g,o + 7,none⟩ = some u7 ∧
  Cel.ow w (scl (marksS r.txt.length (K + 1))) u1 f1 ∧ Cel.ow w (icl (marks r.got.length (K + 1 + r.txt.length))) u2 f2 ∧ Cel.ow w (icl (marks r.sus.length (K + 1 + r.txt.length + r.got.length))) u3 f3 ∧ Cel.ow w (icl (marks r.trm.length (K + 1 + r.txt.length + r.got.length + r.sus.length + 1 + 1 + 1))) u7 f7 := by
 obtain ⟨u0,g0,c0,_,⟨rfl,_⟩,_⟩ := h.at (j := 0) (c := .v (.int .i64 (K : Int))) rfl
 obtain ⟨u1,f1,c1,_,o1,_⟩ := h.at (j := 1) (c := scl (marksS r.txt.length (K + 1))) rfl
 obtain ⟨u2,f2,c2,_,o2,_⟩ := h.at (j := 2) (c := icl (marks r.got.length (K + 1 + r.txt.length))) rfl
 obtain ⟨u3,f3,c3,_,o3,_⟩ := h.at (j := 3) (c := icl (marks r.sus.length (K + 1 + r.txt.length + r.got.length))) rfl
 obtain ⟨u4,g4,c4,_,⟨rfl,_⟩,_⟩ := h.at (j := 4) (c := .v (.bool (m3 ((K + 1 + r.txt.length + r.got.length + r.sus.length : Nat) : Int)))) rfl
 obtain ⟨u5,g5,c5,_,⟨rfl,_⟩,_⟩ := h.at (j := 5) (c := .v (.bool (m3 (((K + 1 + r.txt.length + r.got.length + r.sus.length : Nat) : Int) + 1)))) rfl
 obtain ⟨u6,g6,c6,_,⟨rfl,_⟩,_⟩ := h.at (j := 6) (c := .v (.int .i64 (((K + 1 + r.txt.length + r.got.length + r.sus.length : Nat) : Int) + 1 + 1))) rfl
 obtain ⟨u7,f7,c7,_,o7,_⟩ := h.at (j := 7) (c := icl (marks r.trm.length (K + 1 + r.txt.length + r.got.length + r.sus.length + 1 + 1 + 1))) rfl
 exact ⟨u1,u2,u3,u7,f1,f2,f3,f7,⟨c0,c1,c2,c3⟩,c4,c5,c6,c7,o1,o2,o3,o7⟩
set_option maxRecDepth 100000 in
set_option maxHeartbeats 6400000 in
theorem heldRs_ow (a : Option Addr) (cap k0 : Nat) (R : List Rw) (fp : Fp) (w : World) (h : Cel.ow w (lcl 8 rw8 (mkP R k0 R.length)) (.slice a R.length cap) fp) (hk1 : 1 ≤ k0) (hk : k0 + cP R R.length ≤ 10000000) (hm : R.length ≤ maxLen) :
  Calls Try.prog 81 #[.slice a R.length cap,.int .i64 (k0 : Int)] w fun e w' => e = .returned (.int .i64 ((k0 + cP R R.length : Nat) : Int)) ∧ Below w.heap.size w w' := by
 unfold maxLen at hm
 have HH : Hid (Cel.ow w (lcl 8 rw8 (mkP R k0 R.length)) (.slice a R.length cap) fp) := h
 clear h
 go_enter Try.func81,Try.ntmps81
 go_wp2_with fail
 go_loopw [1,5] (fun kv v wr => ∃ (j K : Nat),j ≤ R.length ∧ v = .int .i64 (j : Int) ∧ kv = .int .i64 (K : Int) ∧ Hid (K = k0 + cP R j) ∧ Below w.heap.size w wr) (fun _ v _ => R.length - (intOf v).toNat)
 case atStart => exact ⟨0,k0,Nat.zero_le _,rfl,rfl,by simp [Hid,cP],Below.refl _ _⟩
 case round =>
  obtain ⟨j,K0,hj,rfl,rfl,hK,hb⟩ := hrel
  have HB : Hid (Below w.heap.size w wr) := hb
  by_cases hlt : j < R.length
  ·have j1 : (j : Int) < (R.length : Int) := by omega
   have j0 : (0 : Int) ≤ (j : Int) := by omega
   have hlen := mkP_len R k0 R.length
   have hat : (mkP R k0 R.length)[j]? = some (mk8 (rowN R j) (k0 + cP R j)) := by
    have := mkP_row (k := k0) (i := j) (Nat.le_refl R.length)
    rw [if_pos hlt] at this
    rw [← this]
    simp [rowN,List.getD,hlen,hlt]
   have ho := Cel.ow_below HH.out hb
   generalize mkP R k0 R.length = MM at ho hlen hat
   rw [← hlen] at ho
   obtain ⟨g,off,f,rfl,hfg,hfs,hP,hglt,hput⟩ := ow_elF rw8_len (by omega) ho hat
   rw [← hK.out] at hP
   have hKb : K0 + cnt8 (rowN R j) ≤ 10000000 := by
    have h1 := cP_mono R (show j + 1 ≤ R.length from hlt)
    rw [cP_next hlt] at h1
    have := hK.out
    omega
   have HKn : Hid (K0 + cnt8 (rowN R j) = k0 + cP R (j + 1)) := by rw [Hid,cP_next hlt,hK.out];omega
   have hK1 : 1 ≤ K0 := by have := hK.out;omega
   have HP : Hid (∀ X,Below wr.heap.size wr X → Plc X g (off + j * 8) (rw8 (mk8 (rowN R j) K0)) f) := fun X hX => hP.below hX
   clear ho hput hP hat hlen hK hfs hb
   generalize rowN R j = r at *
   unfold cnt8 at hKb
   obtain ⟨u1,u2,u3,u7,f1,f2,f3,f7,⟨c0,c1,c2,c3⟩,c4,c5,c6,c7,o1,o2,o3,o7⟩ := mk8_at (HP.out wr (Below.refl _ _))
   obtain ⟨Ka,hKa⟩ : ∃ Ka : Nat,Hid (Ka = K0 + 1) := ⟨_,rfl⟩
   rw [← hKa.out] at o1
   have eKa : (Ka : Int) = (K0 : Int) + 1 := by have := hKa.out;omega
   have hM1 := heldS_ow u1 Ka r.txt.length f1 wr o1 (by have := hKa.out;omega) (by have := hKa.out;omega) (by omega)
   obtain ⟨K2,hK2⟩ : ∃ K2 : Nat,Hid (K2 = Ka + r.txt.length) := ⟨_,rfl⟩
   have eK2 : (Ka : Int) + (r.txt.length : Int) = (K2 : Int) := by have := hK2.out;omega
   rw [eK2,eKa] at hM1
   have ne0 : ((K0 : Int) != (K0 : Int)) = false := by simp
   clear o1 o2 o3 o7 c2 c3 c4 c5 c6 c7 eKa eK2
   go_wp2_with fail
   refine hM1.mono ?_
   rintro e X1 ⟨rfl,hb1⟩
   have HB1 : Hid (Below w.heap.size w X1) := HB.out.trans (hb1.mono HB.out.size)
   have hPP := HP.out X1 hb1
   clear hM1 c0 c1 ne0 hb1
   obtain ⟨u1,u2,u3,u7,f1,f2,f3,f7,⟨c0,c1,c2,c3⟩,c4,c5,c6,c7,o1,o2,o3,o7⟩ := mk8_at hPP
   have eA : K0 + 1 + r.txt.length = K2 := by have := hKa.out;have := hK2.out;omega
   rw [eA] at o2 o3 o7 c4 c5 c6
   obtain ⟨K3,hK3⟩ : ∃ K3 : Nat,Hid (K3 = K2 + r.got.length) := ⟨_,rfl⟩
   rw [← hK3.out] at o3 o7 c4 c5 c6
   obtain ⟨K4,hK4⟩ : ∃ K4 : Nat,Hid (K4 = K3 + r.sus.length) := ⟨_,rfl⟩
   rw [← hK4.out] at o7 c4 c5 c6
   obtain ⟨K7,hK7⟩ : ∃ K7 : Nat,Hid (K7 = K4 + 1 + 1 + 1) := ⟨_,rfl⟩
   rw [← hK7.out] at o7
   obtain ⟨K8,hK8⟩ : ∃ K8 : Nat,Hid (K8 = K7 + r.trm.length) := ⟨_,rfl⟩
   have HK8 : Hid (K8 = k0 + cP R (j + 1)) := by
    have h1 := HKn.out
    unfold cnt8 at h1
    have := hKa.out;have := hK2.out;have := hK3.out;have := hK4.out;have := hK7.out;have := hK8.out
    rw [Hid]
    omega
   have hK8b : K8 ≤ 10000000 := by
    have h1 := HKn.out
    have := hKa.out;have := hK2.out;have := hK3.out;have := hK4.out;have := hK7.out;have := hK8.out
    omega
   have hM2 := heldI_ow u2 K2 r.got.length f2 X1 o2 (by have := hK3.out;have := hK4.out;have := hK7.out;have := hK8.out;omega) (by omega)
   have hM3 := heldI_ow u3 K3 r.sus.length f3 X1 o3 (by have := hK4.out;have := hK7.out;have := hK8.out;omega) (by omega)
   have hM7 := heldI_ow u7 K7 r.trm.length f7 X1 o7 (by have := hK8.out;omega) (by omega)
   rw [show (K2 : Int) + (r.got.length : Int) = (K3 : Int) by have := hK3.out;omega] at hM2
   rw [show (K3 : Int) + (r.sus.length : Int) = (K4 : Int) by have := hK4.out;omega] at hM3
   rw [show (K7 : Int) + (r.trm.length : Int) = (K8 : Int) by have := hK8.out;omega,show (K7 : Int) = (K4 : Int) + 1 + 1 + 1 by have := hK7.out;omega] at hM7
   unfold m3 at c4 c5
   have n4 : (((K4 : Int) % 3 == 0) != ((K4 : Int) % 3 == 0)) = false := by simp
   have n5 : ((((K4 : Int) + 1) % 3 == 0) != (((K4 : Int) + 1) % 3 == 0)) = false := by simp
   have n6 : (((K4 : Int) + 1 + 1) != ((K4 : Int) + 1 + 1)) = false := by simp
   have p2 : ¬ ((K2 : Int) < 0) := by omega
   have p3 : ¬ ((K3 : Int) < 0) := by omega
   have p4 : ¬ ((K4 : Int) < 0) := by omega
   have p8 : ¬ ((K8 : Int) < 0) := by omega
   have hK4b : K4 ≤ 10000000 := by have := hK7.out;have := hK8.out;omega
   clear o1 o2 o3 o7 hPP eA hKb hK8b hk hK1 hk1 c0 c1
   go_wp2_with fail
   refine hM2.mono ?_
   rintro e X2 ⟨rfl,hx2⟩
   obtain rfl := hx2.symm
   clear hM2 hx2
   go_wp2_with fail
   refine hM3.mono ?_
   rintro e X3 ⟨rfl,hx3⟩
   obtain rfl := hx3.symm
   clear hM3 hx3
   go_wp2_with fail
   refine hM7.mono ?_
   rintro e X7 ⟨rfl,hx7⟩
   obtain rfl := hx7.symm
   clear hM7 hx7 c2 c3 c4 c5 c6 c7 n4 n5 n6 hK4b
   go_wp2
   go_roundw
   case rel => exact ⟨j + 1,K8,by omega,by go_num,rfl,HK8,HB1.out⟩
   case measure => simp [intOf];omega
  ·obtain rfl : j = R.length := by omega
   have k1 : ¬ ((R.length : Int) < (R.length : Int)) := by omega
   clear hb hk hk1
   go_wp2
   go_ret
   exact ⟨ret_int (by rw [hK.out];omega),HB.out⟩
end Go.Proofs.Ythioodpmgifomaa
namespace Go.Proofs.Ythioodpmgifomaa
set_option linter.unusedVariables false
set_option linter.unusedSimpArgs false
open Go.RowKit Go.Sort
theorem owL_two {w : World} {c1 c2 : Cel} {v1 v2 : Value} {f : Fp} (h : owL w [c1,c2] [v1,v2] f) : ∃ f1 f2,Cel.ow w c1 v1 f1 ∧ Cel.ow w c2 v2 f2 ∧ (∀ b,f1 b → ¬ f2 b) ∧ ∀ b,f b ↔ f1 b ∨ f2 b := by
 obtain ⟨u1,us1,f1,g1,e1,o1,h2,d1,i1⟩ := h
 cases e1
 obtain ⟨u2,us2,f2,g2,e2,o2,h3,d2,i2⟩ := h2
 cases e2
 have hg : ∀ b,¬ g2 b := h3.2
 refine ⟨f1,f2,o1,o2,fun b h1 h2 => d1 b h1 ((i2 b).2 (.inl h2)),fun b => ?_⟩
 rw [i1,i2]
 exact ⟨fun h => h.imp id (fun h => h.elim id (fun h => absurd h (hg b))),fun h => h.imp id .inl⟩
def cntMb (m : Mb) : Nat := cP m.rows m.rows.length + m.sung.length
end Go.Proofs.Ythioodpmgifomaa
namespace Go.Proofs.Ythioodpmgifomaa
set_option linter.unusedVariables false
set_option linter.unusedSimpArgs false
open Go.RowKit Go.Sort
def mkM5 (m : Mb) (k : Nat) : Mb := ⟨(k : Int),(k : Int) + 1,mkP m.rows (k + 2) m.rows.length,marks m.sung.length (k + 2 + cP m.rows m.rows.length),m3 ((k + 2 + cP m.rows m.rows.length + m.sung.length : Nat) : Int)⟩
def cnt5 (m : Mb) : Nat := 2 + cP m.rows m.rows.length + m.sung.length + 1
def mkM10 (x : Ml) (k : Nat) : Ml := ⟨(k : Int),(k : Int) + 1,mk8 x.row (k + 2)⟩
def cnt10 (x : Ml) : Nat := 2 + cnt8 x.row
def cPm (R : List Mb) (k : Nat) : Nat := ((R.take k).map cnt5).sum
theorem cPm_next {R : List Mb} {k : Nat} (hk : k < R.length) : cPm R (k + 1) = cPm R k + cnt5 (mbN R k) := by
 have e : mbN R k = R[k] := by simp [mbN,List.getD,hk]
 unfold cPm
 rw [List.take_succ_eq_append_getElem hk,List.map_append,List.sum_append,e]
 simp
theorem cPm_mono (R : List Mb) {a b : Nat} (h : a ≤ b) : cPm R a ≤ cPm R b := by
 unfold cPm
 obtain ⟨c,rfl⟩ := Nat.exists_eq_add_of_le h
 rw [List.take_add,List.map_append,List.sum_append]
 omega
theorem mbN_set {R : List Mb} {i j : Nat} {x : Mb} (h : i < R.length) : mbN (R.set i x) j = if j = i then x else mbN R j := by
 unfold mbN
 rw [List.getD_eq_getElem?_getD,List.getD_eq_getElem?_getD,List.getElem?_set]
 by_cases e : i = j
 ·subst e;simp [h]
 ·rw [if_neg e,if_neg (Ne.symm e)]
def mkPm (R : List Mb) (k : Nat) : Nat → List Mb
 | 0 => R
 | j + 1 => (mkPm R k j).set j (mkM5 (mbN R j) (k + cPm R j))
theorem mkPm_len (R : List Mb) (k : Nat) : ∀ j,(mkPm R k j).length = R.length
 | 0 => rfl
 | j + 1 => by rw [mkPm,List.length_set,mkPm_len R k j]
theorem mkPm_el {R : List Mb} {k : Nat} : ∀ {j i : Nat},j ≤ R.length → mbN (mkPm R k j) i = if i < j then mkM5 (mbN R i) (k + cPm R i) else mbN R i
 | 0,i,_ => by simp [mkPm]
 | j + 1,i,h => by
  rw [mkPm,mbN_set (by rw [mkPm_len];omega),mkPm_el (by omega)]
  by_cases e : i = j
  ·subst e;rw [if_pos rfl,if_pos (by omega)]
  ·rw [if_neg e]
   by_cases h2 : i < j
   ·rw [if_pos h2,if_pos (by omega)]
   ·rw [if_neg h2,if_neg (by omega)]
def cPl (R : List Ml) (k : Nat) : Nat := ((R.take k).map cnt10).sum
theorem cPl_next {R : List Ml} {k : Nat} (hk : k < R.length) : cPl R (k + 1) = cPl R k + cnt10 (mlN R k) := by
 have e : mlN R k = R[k] := by simp [mlN,List.getD,hk]
 unfold cPl
 rw [List.take_succ_eq_append_getElem hk,List.map_append,List.sum_append,e]
 simp
theorem cPl_mono (R : List Ml) {a b : Nat} (h : a ≤ b) : cPl R a ≤ cPl R b := by
 unfold cPl
 obtain ⟨c,rfl⟩ := Nat.exists_eq_add_of_le h
 rw [List.take_add,List.map_append,List.sum_append]
 omega
theorem mlN_set {R : List Ml} {i j : Nat} {x : Ml} (h : i < R.length) : mlN (R.set i x) j = if j = i then x else mlN R j := by
 unfold mlN
 rw [List.getD_eq_getElem?_getD,List.getD_eq_getElem?_getD,List.getElem?_set]
 by_cases e : i = j
 ·subst e;simp [h]
 ·rw [if_neg e,if_neg (Ne.symm e)]
def mkPl (R : List Ml) (k : Nat) : Nat → List Ml
 | 0 => R
 | j + 1 => (mkPl R k j).set j (mkM10 (mlN R j) (k + cPl R j))
theorem mkPl_len (R : List Ml) (k : Nat) : ∀ j,(mkPl R k j).length = R.length
 | 0 => rfl
 | j + 1 => by rw [mkPl,List.length_set,mkPl_len R k j]
theorem mkPl_el {R : List Ml} {k : Nat} : ∀ {j i : Nat},j ≤ R.length → mlN (mkPl R k j) i = if i < j then mkM10 (mlN R i) (k + cPl R i) else mlN R i
 | 0,i,_ => by simp [mkPl]
 | j + 1,i,h => by
  rw [mkPl,mlN_set (by rw [mkPl_len];omega),mkPl_el (by omega)]
  by_cases e : i = j
  ·subst e;rw [if_pos rfl,if_pos (by omega)]
  ·rw [if_neg e]
   by_cases h2 : i < j
   ·rw [if_pos h2,if_pos (by omega)]
   ·rw [if_neg h2,if_neg (by omega)]
set_option maxRecDepth 100000 in
set_option maxHeartbeats 6400000 in
theorem markMs_ow (a : Option Addr) (cap k0 : Nat) (R : List Mb) (fp : Fp) (w : World) (h : Cel.ow w (lcl 5 mb5 R) (.slice a R.length cap) fp) (hk1 : 1 ≤ k0) (hk : k0 + cPm R R.length ≤ 10000000) (hm : R.length ≤ maxLen) :
  Calls Try.prog 107 #[.slice a R.length cap,.int .i64 (k0 : Int)] w fun e w' => e = .returned (.int .i64 ((k0 + cPm R R.length : Nat) : Int)) ∧ ∃ fp',Cel.ow w' (lcl 5 mb5 (mkPm R k0 R.length)) (.slice a R.length cap) fp' ∧ (∀ b,fp' b → fp b ∨ w.heap.size ≤ b) ∧ Wrt fp w w' := by
 unfold maxLen at hm
 have HH : Hid (Cel.ow w (lcl 5 mb5 R) (.slice a R.length cap) fp) := h
 clear h
 go_enter Try.func107,Try.ntmps107
 go_wp2_with fail
 go_loopw [1,5] (fun kv v wr => ∃ (j K : Nat) (fpj : Fp),j ≤ R.length ∧ v = .int .i64 (j : Int) ∧ kv = .int .i64 (K : Int) ∧ Hid (K = k0 + cPm R j) ∧ Cel.ow wr (lcl 5 mb5 (mkPm R k0 j)) (.slice a R.length cap) fpj ∧ (∀ b,fpj b → fp b ∨ w.heap.size ≤ b) ∧ Wrt fp w wr) (fun _ v _ => R.length - (intOf v).toNat)
 case atStart => exact ⟨0,k0,fp,Nat.zero_le _,rfl,rfl,by simp [Hid,cPm],HH.out,fun b hb => .inl hb,Wrt.refl _ _⟩
 case round =>
  obtain ⟨j,K0,fpj,hj,rfl,rfl,hK,ho,hfj,hwj⟩ := hrel
  have HWj : Hid (Wrt fp w wr) := hwj
  have HFj : Hid (∀ b,fpj b → fp b ∨ w.heap.size ≤ b) := hfj
  by_cases hlt : j < R.length
  ·have j1 : (j : Int) < (R.length : Int) := by omega
   have j0 : (0 : Int) ≤ (j : Int) := by omega
   have hlen := mkPm_len R k0 j
   have hat : (mkPm R k0 j)[j]? = some (mbN R j) := by
    have := mkPm_el (k := k0) (i := j) hj
    rw [if_neg (Nat.lt_irrefl _)] at this
    rw [← this]
    simp [mbN,List.getD,hlen,hlt]
   rw [← hlen] at ho
   obtain ⟨g,off,f,rfl,hfg,hfs,hP,hglt,hput⟩ := ow_elF mb5_len (by omega) ho hat
   have hput := fun X => hput X (mkM5 (mbN R j) (k0 + cPm R j))
   rw [show (mkPm R k0 j).set j (mkM5 (mbN R j) (k0 + cPm R j)) = mkPm R k0 (j + 1) from rfl,hlen] at hput
   rw [← hK.out] at hput
   have hKb : K0 + cnt5 (mbN R j) ≤ 10000000 := by
    have h1 := cPm_mono R (show j + 1 ≤ R.length from hlt)
    rw [cPm_next hlt] at h1
    have := hK.out
    omega
   have HKn : Hid (K0 + cnt5 (mbN R j) = k0 + cPm R (j + 1)) := by rw [Hid,cPm_next hlt,hK.out];omega
   have hK1 : 1 ≤ K0 := by have := hK.out;omega
   have HPut : Hid (∀ X,Bcm wr X g (off + j * 5) (mb5 (mkM5 (mbN R j) K0)) f → ∃ fp',Cel.ow X (lcl 5 mb5 (mkPm R k0 (j + 1))) (.slice (some ⟨g,off,none⟩) R.length cap) fp' ∧ (∀ b,fp' b → fpj b ∨ wr.heap.size ≤ b) ∧ Wrt fpj wr X) := hput
   have B0 : Bcm wr wr g (off + j * 5) (mb5 (mbN R j)) f := Bcm.refl hP
   clear ho hput hP hat hlen hfj hwj hK hfs
   generalize mbN R j = r at *
   obtain ⟨v0,z0,B1⟩ := B0.put (j := 0) (x := .int .i64 r.id) rfl (.int .i64 (K0 : Int))
   simp only [Nat.add_zero] at v0 z0 B1
   obtain ⟨v1,z1,B2⟩ := B1.put (j := 1) (x := .int .i64 r.n) rfl (.int .i64 ((K0 : Int) + 1))
   unfold cnt5 at hKb
   obtain ⟨Ka,hKa⟩ : ∃ Ka : Nat,Hid (Ka = K0 + 2) := ⟨_,rfl⟩
   have eKa : (Ka : Int) = (K0 : Int) + 1 + 1 := by have := hKa.out;omega
   obtain ⟨u2,f2,t2,_,ho2,hp2⟩ := B2.at (j := 2) (c := lcl 8 rw8 r.rows) rfl
   have ho2' := ho2
   obtain ⟨ra,rc,_,_,_,rfl,hOso,_⟩ := ho2'
   have hM1 := markRs_ow ra rc Ka r.rows f2 _ ho2 (by have := hKa.out;omega) (by have := hKa.out;omega) (by have := hOso.le;omega)
   clear B0 B1 B2 ho2 hOso
   obtain ⟨K2,hK2⟩ : ∃ K2 : Nat,Hid (K2 = Ka + cP r.rows r.rows.length) := ⟨_,rfl⟩
   rw [← hK2.out,eKa] at hM1
   have hKc : K0 + 2 ≤ 10000000 := by omega
   clear hKb
   have HKb : Hid (K0 + (2 + cP r.rows r.rows.length + r.sung.length + 1) = k0 + cPm R (j + 1)) := HKn.out
   have HKc : Hid (k0 + cPm R (j + 1) ≤ 10000000) := by have := cPm_mono R (show j + 1 ≤ R.length from hlt);rw [Hid];omega
   go_wp2_with fail
   refine hM1.mono ?_
   rintro e X1 ⟨rfl,g2,hm1,hg1,hw1⟩
   have B3 := (hp2 X1 _ (.slice ra r.rows.length rc) g2 hw1 hm1 hg1).2.2.2 rfl
   clear hM1 hp2 hm1 hw1 hg1 t2 v0 z0 v1 z1 eKa hKc hk hk1 hK1
   obtain ⟨u3,f3,t3,_,ho3,hp3⟩ := B3.at (j := 3) (c := icl r.sung) rfl
   have hM2 := markI_ow u3 K2 r.sung f3 _ ho3 (by have := hKa.out;have := hK2.out;have := HKb.out;have := HKc.out;omega) (by have := HKb.out;have := HKc.out;omega)
   obtain ⟨K3,hK3⟩ : ∃ K3 : Nat,Hid (K3 = K2 + r.sung.length) := ⟨_,rfl⟩
   have eK3 : (K2 : Int) + (r.sung.length : Int) = (K3 : Int) := by have := hK3.out;omega
   rw [eK3] at hM2
   clear B3 ho3
   go_wp2_with fail
   refine hM2.mono ?_
   rintro e X2 ⟨rfl,hm2,hw2⟩
   have B4 := (hp3 X2 _ u3 f3 hw2 hm2 (fun b hb => .inl hb)).2.2.2 rfl
   clear hM2 hp3 hm2 hw2 t3 eK3
   obtain ⟨v4,z4,B5⟩ := B4.put (j := 4) (x := .bool r.done) rfl (.bool ((K3 : Int) % 3 == 0))
   obtain ⟨KF,hKF⟩ : ∃ KF : Nat,Hid (KF = K3 + 1) := ⟨_,rfl⟩
   have HKF : Hid (KF = k0 + cPm R (j + 1)) := by
    have := hKa.out;have := hK2.out;have := hK3.out;have := hKF.out;have := HKb.out
    rw [Hid]
    omega
   have eKF : (K3 : Int) + 1 = (KF : Int) := by have := hKF.out;omega
   have hKFb : KF ≤ 10000000 := by have := HKF.out;have := HKc.out;omega
   have hE : mb5 (mkM5 r K0) = ((((((mb5 r).set 0 (.v (.int .i64 (K0 : Int)))).set 1 (.v (.int .i64 ((K0 : Int) + 1)))).set 2 (lcl 8 rw8 (mkP r.rows Ka r.rows.length))).set 3 (icl (marks r.sung.length K2))).set 4 (.v (.bool ((K3 : Int) % 3 == 0)))) := by
    rw [hK3.out,hK2.out,hKa.out]
    rfl
   rw [← hE] at B5
   clear B4 hE
   go_upto_region 11 with fail
   have BF := B5
   generalize X2.setCell ⟨g,off + j * 5 + 4,none⟩ (.bool ((K3 : Int) % 3 == 0)) = XF at *
   clear v4 z4 B5
   obtain ⟨fp',n1,n2,n3⟩ := HPut.out XF BF
   have HN1 : Hid (Cel.ow XF (lcl 5 mb5 (mkPm R k0 (j + 1))) (.slice (some ⟨g,off,none⟩) R.length cap) fp') := n1
   have HN2 : Hid (∀ b,fp' b → fpj b ∨ wr.heap.size ≤ b) := n2
   have HN3 : Hid (Wrt fpj wr XF) := n3
   clear BF n1 n2 n3 HPut
   have hws := HWj.out.size
   go_wp2
   go_roundw
   case rel => exact ⟨j + 1,KF,fp',by omega,by go_num,rfl,HKF,HN1.out,fun b hb => by
    rcases HN2.out b hb with h | h
    ·exact HFj.out b h
    ·exact .inr (by omega),HWj.out.trans HN3.out (fun b hb h => by
     rcases HFj.out b h with h | h
     ·exact h
     ·omega)⟩
   case measure => simp [intOf];omega
  ·obtain rfl : j = R.length := by omega
   have k1 : ¬ ((R.length : Int) < (R.length : Int)) := by omega
   have HE : Hid (Cel.ow wr (lcl 5 mb5 (mkPm R k0 R.length)) (.slice a R.length cap) fpj) := ho
   clear ho hfj hwj hk hk1
   go_wp2
   go_ret
   exact ⟨ret_int (by rw [hK.out];omega),fpj,HE.out,HFj.out,HWj.out⟩
set_option maxRecDepth 100000 in
set_option maxHeartbeats 6400000 in
theorem markLs_ow (a : Option Addr) (cap k0 : Nat) (R : List Ml) (fp : Fp) (w : World) (h : Cel.ow w (lcl 10 ml10 R) (.slice a R.length cap) fp) (hk1 : 1 ≤ k0) (hk : k0 + cPl R R.length ≤ 10000000) (hm : R.length ≤ maxLen) :
  Calls Try.prog 109 #[.slice a R.length cap,.int .i64 (k0 : Int)] w fun e w' => e = .returned (.int .i64 ((k0 + cPl R R.length : Nat) : Int)) ∧ ∃ fp',Cel.ow w' (lcl 10 ml10 (mkPl R k0 R.length)) (.slice a R.length cap) fp' ∧ (∀ b,fp' b → fp b ∨ w.heap.size ≤ b) ∧ Wrt fp w w' := by
 unfold maxLen at hm
 have HH : Hid (Cel.ow w (lcl 10 ml10 R) (.slice a R.length cap) fp) := h
 clear h
 go_enter Try.func109,Try.ntmps109
 go_wp2_with fail
 go_loopw [1,5] (fun kv v wr => ∃ (j K : Nat) (fpj : Fp),j ≤ R.length ∧ v = .int .i64 (j : Int) ∧ kv = .int .i64 (K : Int) ∧ Hid (K = k0 + cPl R j) ∧ Cel.ow wr (lcl 10 ml10 (mkPl R k0 j)) (.slice a R.length cap) fpj ∧ (∀ b,fpj b → fp b ∨ w.heap.size ≤ b) ∧ Wrt fp w wr) (fun _ v _ => R.length - (intOf v).toNat)
 case atStart => exact ⟨0,k0,fp,Nat.zero_le _,rfl,rfl,by simp [Hid,cPl],HH.out,fun b hb => .inl hb,Wrt.refl _ _⟩
 case round =>
  obtain ⟨j,K0,fpj,hj,rfl,rfl,hK,ho,hfj,hwj⟩ := hrel
  have HWj : Hid (Wrt fp w wr) := hwj
  have HFj : Hid (∀ b,fpj b → fp b ∨ w.heap.size ≤ b) := hfj
  by_cases hlt : j < R.length
  ·have j1 : (j : Int) < (R.length : Int) := by omega
   have j0 : (0 : Int) ≤ (j : Int) := by omega
   have hlen := mkPl_len R k0 j
   have hat : (mkPl R k0 j)[j]? = some (mlN R j) := by
    have := mkPl_el (k := k0) (i := j) hj
    rw [if_neg (Nat.lt_irrefl _)] at this
    rw [← this]
    simp [mlN,List.getD,hlen,hlt]
   rw [← hlen] at ho
   obtain ⟨g,off,f,rfl,hfg,hfs,hP,hglt,hput⟩ := ow_elF ml10_len (by omega) ho hat
   have hput := fun X => hput X (mkM10 (mlN R j) (k0 + cPl R j))
   rw [show (mkPl R k0 j).set j (mkM10 (mlN R j) (k0 + cPl R j)) = mkPl R k0 (j + 1) from rfl,hlen] at hput
   rw [← hK.out] at hput
   have hKb : K0 + cnt10 (mlN R j) ≤ 10000000 := by
    have h1 := cPl_mono R (show j + 1 ≤ R.length from hlt)
    rw [cPl_next hlt] at h1
    have := hK.out
    omega
   have HKn : Hid (K0 + cnt10 (mlN R j) = k0 + cPl R (j + 1)) := by rw [Hid,cPl_next hlt,hK.out];omega
   have hK1 : 1 ≤ K0 := by have := hK.out;omega
   have HPut : Hid (∀ X,Bcm wr X g (off + j * 10) (ml10 (mkM10 (mlN R j) K0)) f → ∃ fp',Cel.ow X (lcl 10 ml10 (mkPl R k0 (j + 1))) (.slice (some ⟨g,off,none⟩) R.length cap) fp' ∧ (∀ b,fp' b → fpj b ∨ wr.heap.size ≤ b) ∧ Wrt fpj wr X) := hput
   have B0 : Bcm wr wr g (off + j * 10) (ml10 (mlN R j)) f := Bcm.refl hP
   clear ho hput hP hat hlen hfj hwj hK hfs
   generalize mlN R j = r at *
   obtain ⟨v0,z0,B1⟩ := B0.put (j := 0) (x := .int .i64 r.fr) rfl (.int .i64 (K0 : Int))
   simp only [Nat.add_zero] at v0 z0 B1
   obtain ⟨v1,z1,B2⟩ := B1.put (j := 1) (x := .int .i64 r.to) rfl (.int .i64 ((K0 : Int) + 1))
   obtain ⟨v2,z2,B3⟩ := B2.put (j := 2) (x := .int .i64 r.row.ver) rfl (.int .i64 ((K0 : Int) + 1 + 1))
   unfold cnt10 cnt8 at hKb
   obtain ⟨Ka,hKa⟩ : ∃ Ka : Nat,Hid (Ka = K0 + 2 + 1) := ⟨_,rfl⟩
   have eKa : (Ka : Int) = (K0 : Int) + 1 + 1 + 1 := by have := hKa.out;omega
   obtain ⟨u3,f3,t3,_,ho3,hp3⟩ := B3.at (j := 3) (c := scl r.row.txt) rfl
   have hM1 := markS_ow u3 Ka r.row.txt f3 _ ho3 (by have := hKa.out;omega) (by have := hKa.out;omega) (by omega)
   clear B0 B1 B2 B3 ho3
   obtain ⟨K2,hK2⟩ : ∃ K2 : Nat,Hid (K2 = Ka + r.row.txt.length) := ⟨_,rfl⟩
   have eK2 : (Ka : Int) + (r.row.txt.length : Int) = (K2 : Int) := by have := hK2.out;omega
   rw [eK2,eKa] at hM1
   have hKc : K0 + 3 ≤ 10000000 := by omega
   clear hKb
   have HKb : Hid (K0 + (2 + (1 + r.row.txt.length + r.row.got.length + r.row.sus.length + 1 + 1 + 1 + r.row.trm.length)) = k0 + cPl R (j + 1)) := HKn.out
   have HKc : Hid (k0 + cPl R (j + 1) ≤ 10000000) := by have := cPl_mono R (show j + 1 ≤ R.length from hlt);rw [Hid];omega
   go_wp2_with fail
   refine hM1.mono ?_
   rintro e X1 ⟨rfl,hm1,hw1⟩
   have B4 := (hp3 X1 _ u3 f3 hw1 hm1 (fun b hb => .inl hb)).2.2.2 rfl
   clear hM1 hp3 hm1 hw1 t3 v0 z0 v1 z1 v2 z2 eKa eK2 hKc hk hk1 hK1
   obtain ⟨u4,f4,t4,_,ho4,hp4⟩ := B4.at (j := 4) (c := icl r.row.got) rfl
   have hM2 := markI_ow u4 K2 r.row.got f4 _ ho4 (by have := hKa.out;have := hK2.out;have := HKb.out;have := HKc.out;omega) (by have := HKb.out;have := HKc.out;omega)
   obtain ⟨K3,hK3⟩ : ∃ K3 : Nat,Hid (K3 = K2 + r.row.got.length) := ⟨_,rfl⟩
   have eK3 : (K2 : Int) + (r.row.got.length : Int) = (K3 : Int) := by have := hK3.out;omega
   rw [eK3] at hM2
   clear B4 ho4
   go_wp2_with fail
   refine hM2.mono ?_
   rintro e X2 ⟨rfl,hm2,hw2⟩
   have B5 := (hp4 X2 _ u4 f4 hw2 hm2 (fun b hb => .inl hb)).2.2.2 rfl
   clear hM2 hp4 hm2 hw2 t4 eK3
   obtain ⟨u5,f5,t5,_,ho5,hp5⟩ := B5.at (j := 5) (c := icl r.row.sus) rfl
   have hM3 := markI_ow u5 K3 r.row.sus f5 _ ho5 (by have := hKa.out;have := hK2.out;have := hK3.out;have := HKb.out;have := HKc.out;omega) (by have := HKb.out;have := HKc.out;omega)
   obtain ⟨K4,hK4⟩ : ∃ K4 : Nat,Hid (K4 = K3 + r.row.sus.length) := ⟨_,rfl⟩
   have eK4 : (K3 : Int) + (r.row.sus.length : Int) = (K4 : Int) := by have := hK4.out;omega
   rw [eK4] at hM3
   clear B5 ho5
   go_wp2_with fail
   refine hM3.mono ?_
   rintro e X3 ⟨rfl,hm3,hw3⟩
   have B6 := (hp5 X3 _ u5 f5 hw3 hm3 (fun b hb => .inl hb)).2.2.2 rfl
   clear hM3 hp5 hm3 hw3 t5 eK4
   obtain ⟨v6,z6,B7⟩ := B6.put (j := 6) (x := .bool r.row.wed) rfl (.bool ((K4 : Int) % 3 == 0))
   obtain ⟨v7,z7,B8⟩ := B7.put (j := 7) (x := .bool r.row.rdy) rfl (.bool (((K4 : Int) + 1) % 3 == 0))
   obtain ⟨v8,z8,B9⟩ := B8.put (j := 8) (x := .int .i64 r.row.by_) rfl (.int .i64 ((K4 : Int) + 1 + 1))
   obtain ⟨u9,f9,t9,_,ho9,hp9⟩ := B9.at (j := 9) (c := icl r.row.trm) rfl
   obtain ⟨K7,hK7⟩ : ∃ K7 : Nat,Hid (K7 = K4 + 1 + 1 + 1) := ⟨_,rfl⟩
   have eK7 : (K7 : Int) = (K4 : Int) + 1 + 1 + 1 := by have := hK7.out;omega
   have hM7 := markI_ow u9 K7 r.row.trm f9 _ ho9 (by have := hKa.out;have := hK2.out;have := hK3.out;have := hK4.out;have := hK7.out;have := HKb.out;have := HKc.out;omega) (by have := HKb.out;have := HKc.out;omega)
   obtain ⟨KF,hKF⟩ : ∃ KF : Nat,Hid (KF = K7 + r.row.trm.length) := ⟨_,rfl⟩
   have eKF : (K7 : Int) + (r.row.trm.length : Int) = (KF : Int) := by have := hKF.out;omega
   rw [eKF,eK7] at hM7
   have HKF : Hid (KF = k0 + cPl R (j + 1)) := by
    have := hKa.out;have := hK2.out;have := hK3.out;have := hK4.out;have := hK7.out;have := hKF.out;have := HKb.out
    rw [Hid]
    omega
   have hK4b : K4 + 3 ≤ 10000000 := by have := hK7.out;have := hKF.out;have := HKF.out;have := HKc.out;omega
   clear B6 B7 B8 B9 ho9 eKF eK7
   go_wp2_with fail
   refine hM7.mono ?_
   rintro e XF ⟨rfl,hm7,hw7⟩
   have BF := (hp9 XF _ u9 f9 hw7 hm7 (fun b hb => .inl hb)).2.2.2 rfl
   have hE : ml10 (mkM10 r K0) = (((((((((((ml10 r).set 0 (.v (.int .i64 (K0 : Int)))).set 1 (.v (.int .i64 ((K0 : Int) + 1)))).set 2 (.v (.int .i64 ((K0 : Int) + 1 + 1)))).set 3 (scl (marksS r.row.txt.length Ka))).set 4 (icl (marks r.row.got.length K2))).set 5 (icl (marks r.row.sus.length K3))).set 6 (.v (.bool ((K4 : Int) % 3 == 0)))).set 7 (.v (.bool (((K4 : Int) + 1) % 3 == 0)))).set 8 (.v (.int .i64 ((K4 : Int) + 1 + 1)))).set 9 (icl (marks r.row.trm.length K7))) := by
    rw [hK7.out,hK4.out,hK3.out,hK2.out,hKa.out,show ((K0 : Int) + 1 + 1) = ((K0 + 2 : Nat) : Int) by omega]
    rfl
   rw [← hE] at BF
   clear hM7 hp9 hm7 hw7 t9 v6 z6 v7 z7 v8 z8 hE hK4b
   obtain ⟨fp',n1,n2,n3⟩ := HPut.out XF BF
   have HN1 : Hid (Cel.ow XF (lcl 10 ml10 (mkPl R k0 (j + 1))) (.slice (some ⟨g,off,none⟩) R.length cap) fp') := n1
   have HN2 : Hid (∀ b,fp' b → fpj b ∨ wr.heap.size ≤ b) := n2
   have HN3 : Hid (Wrt fpj wr XF) := n3
   clear BF n1 n2 n3 HPut
   have hws := HWj.out.size
   go_wp2
   go_roundw
   case rel => exact ⟨j + 1,KF,fp',by omega,by go_num,rfl,HKF,HN1.out,fun b hb => by
    rcases HN2.out b hb with h | h
    ·exact HFj.out b h
    ·exact .inr (by omega),HWj.out.trans HN3.out (fun b hb h => by
     rcases HFj.out b h with h | h
     ·exact h
     ·omega)⟩
   case measure => simp [intOf];omega
  ·obtain rfl : j = R.length := by omega
   have k1 : ¬ ((R.length : Int) < (R.length : Int)) := by omega
   have HE : Hid (Cel.ow wr (lcl 10 ml10 (mkPl R k0 R.length)) (.slice a R.length cap) fpj) := ho
   clear ho hfj hwj hk hk1
   go_wp2
   go_ret
   exact ⟨ret_int (by rw [hK.out];omega),fpj,HE.out,HFj.out,HWj.out⟩
end Go.Proofs.Ythioodpmgifomaa
namespace Go.Proofs.Ythioodpmgifomaa
set_option linter.unusedVariables false
set_option linter.unusedSimpArgs false
open Go.RowKit Go.Sort
theorem mkM5_at {w : World} {g o : Nat} {r : Mb} {K : Nat} {f : Fp} (h : Plc w g o (mb5 (mkM5 r K)) f) : ∃ ra rc u3 f2 f3,w.cell? ⟨g,o,none⟩ = some (.int .i64 (K : Int)) ∧ w.cell? ⟨g,o + 1,none⟩ = some (.int .i64 ((K : Int) + 1)) ∧ w.cell? ⟨g,o + 2,none⟩ = some (.slice ra r.rows.length rc) ∧ w.cell? ⟨g,o + 3,none⟩ = some u3 ∧ w.cell? ⟨g,o + 4,none⟩ = some (.bool (m3 ((K + 2 + cP r.rows r.rows.length + r.sung.length : Nat) : Int))) ∧
  Cel.ow w (lcl 8 rw8 (mkP r.rows (K + 2) r.rows.length)) (.slice ra r.rows.length rc) f2 ∧ Cel.ow w (icl (marks r.sung.length (K + 2 + cP r.rows r.rows.length))) u3 f3 ∧ r.rows.length ≤ maxLen := by
 obtain ⟨u0,g0,c0,_,⟨rfl,_⟩,_⟩ := h.at (j := 0) (c := .v (.int .i64 (K : Int))) rfl
 obtain ⟨u1,g1,c1,_,⟨rfl,_⟩,_⟩ := h.at (j := 1) (c := .v (.int .i64 ((K : Int) + 1))) rfl
 obtain ⟨u2,f2,c2,_,o2,_⟩ := h.at (j := 2) (c := lcl 8 rw8 (mkP r.rows (K + 2) r.rows.length)) rfl
 obtain ⟨u3,f3,c3,_,o3,_⟩ := h.at (j := 3) (c := icl (marks r.sung.length (K + 2 + cP r.rows r.rows.length))) rfl
 obtain ⟨u4,g4,c4,_,⟨rfl,_⟩,_⟩ := h.at (j := 4) (c := .v (.bool (m3 ((K + 2 + cP r.rows r.rows.length + r.sung.length : Nat) : Int)))) rfl
 have o2' := o2
 obtain ⟨ra,rc,_,_,_,rfl,hO,_⟩ := o2'
 have hl := mkP_len r.rows (K + 2) r.rows.length
 have hle := hO.le
 rw [hl] at c2 o2 hle
 exact ⟨ra,rc,u3,f2,f3,c0,c1,c2,c3,c4,o2,o3,by omega⟩
theorem mkM10_at {w : World} {g o : Nat} {r : Ml} {K : Nat} {f : Fp} (h : Plc w g o (ml10 (mkM10 r K)) f) : ∃ u3 u4 u5 u9 f3 f4 f5 f9,(w.cell? ⟨g,o,none⟩ = some (.int .i64 (K : Int)) ∧ w.cell? ⟨g,o + 1,none⟩ = some (.int .i64 ((K : Int) + 1))) ∧ (w.cell? ⟨g,o + 2,none⟩ = some (.int .i64 ((K + 2 : Nat) : Int)) ∧ w.cell? ⟨g,o + 3,none⟩ = some u3 ∧ w.cell? ⟨g,o + 4,none⟩ = some u4 ∧ w.cell? ⟨g,o + 5,none⟩ = some u5) ∧ w.cell? ⟨g,o + 6,none⟩ = some (.bool (m3 ((K + 2 + 1 + r.row.txt.length + r.row.got.length + r.row.sus.length : Nat) : Int))) ∧ w.cell? ⟨g,o + 7,none⟩ = some (.bool (m3 (((K + 2 + 1 + r.row.txt.length + r.row.got.length + r.row.sus.length : Nat) : Int) + 1))) ∧ w.cell? ⟨g,o + 8,none⟩ = some (.int .i64 (((K + 2 + 1 + r.row.txt.length + r.row.got.length + r.row.sus.length : Nat) : Int) + 1 + 1)) ∧ w.cell? ⟨g,o + 9,none⟩ = some u9 ∧
  Cel.ow w (scl (marksS r.row.txt.length (K + 2 + 1))) u3 f3 ∧ Cel.ow w (icl (marks r.row.got.length (K + 2 + 1 + r.row.txt.length))) u4 f4 ∧ Cel.ow w (icl (marks r.row.sus.length (K + 2 + 1 + r.row.txt.length + r.row.got.length))) u5 f5 ∧ Cel.ow w (icl (marks r.row.trm.length (K + 2 + 1 + r.row.txt.length + r.row.got.length + r.row.sus.length + 1 + 1 + 1))) u9 f9 := by
 obtain ⟨u0,g0,c0,_,⟨rfl,_⟩,_⟩ := h.at (j := 0) (c := .v (.int .i64 (K : Int))) rfl
 obtain ⟨u1,g1,c1,_,⟨rfl,_⟩,_⟩ := h.at (j := 1) (c := .v (.int .i64 ((K : Int) + 1))) rfl
 obtain ⟨u2,g2,c2,_,⟨rfl,_⟩,_⟩ := h.at (j := 2) (c := .v (.int .i64 ((K + 2 : Nat) : Int))) rfl
 obtain ⟨u3,f3,c3,_,o3,_⟩ := h.at (j := 3) (c := scl (marksS r.row.txt.length (K + 2 + 1))) rfl
 obtain ⟨u4,f4,c4,_,o4,_⟩ := h.at (j := 4) (c := icl (marks r.row.got.length (K + 2 + 1 + r.row.txt.length))) rfl
 obtain ⟨u5,f5,c5,_,o5,_⟩ := h.at (j := 5) (c := icl (marks r.row.sus.length (K + 2 + 1 + r.row.txt.length + r.row.got.length))) rfl
 obtain ⟨u6,g6,c6,_,⟨rfl,_⟩,_⟩ := h.at (j := 6) (c := .v (.bool (m3 ((K + 2 + 1 + r.row.txt.length + r.row.got.length + r.row.sus.length : Nat) : Int)))) rfl
 obtain ⟨u7,g7,c7,_,⟨rfl,_⟩,_⟩ := h.at (j := 7) (c := .v (.bool (m3 (((K + 2 + 1 + r.row.txt.length + r.row.got.length + r.row.sus.length : Nat) : Int) + 1)))) rfl
 obtain ⟨u8,g8,c8,_,⟨rfl,_⟩,_⟩ := h.at (j := 8) (c := .v (.int .i64 (((K + 2 + 1 + r.row.txt.length + r.row.got.length + r.row.sus.length : Nat) : Int) + 1 + 1))) rfl
 obtain ⟨u9,f9,c9,_,o9,_⟩ := h.at (j := 9) (c := icl (marks r.row.trm.length (K + 2 + 1 + r.row.txt.length + r.row.got.length + r.row.sus.length + 1 + 1 + 1))) rfl
 exact ⟨u3,u4,u5,u9,f3,f4,f5,f9,⟨c0,c1⟩,⟨c2,c3,c4,c5⟩,c6,c7,c8,c9,o3,o4,o5,o9⟩
set_option maxRecDepth 100000 in
set_option maxHeartbeats 6400000 in
theorem heldMs_ow (a : Option Addr) (cap k0 : Nat) (R : List Mb) (fp : Fp) (w : World) (h : Cel.ow w (lcl 5 mb5 (mkPm R k0 R.length)) (.slice a R.length cap) fp) (hk1 : 1 ≤ k0) (hk : k0 + cPm R R.length ≤ 10000000) (hm : R.length ≤ maxLen) :
  Calls Try.prog 110 #[.slice a R.length cap,.int .i64 (k0 : Int)] w fun e w' => e = .returned (.int .i64 ((k0 + cPm R R.length : Nat) : Int)) ∧ Below w.heap.size w w' := by
 unfold maxLen at hm
 have HH : Hid (Cel.ow w (lcl 5 mb5 (mkPm R k0 R.length)) (.slice a R.length cap) fp) := h
 clear h
 go_enter Try.func110,Try.ntmps110
 go_wp2_with fail
 go_loopw [1,5] (fun kv v wr => ∃ (j K : Nat),j ≤ R.length ∧ v = .int .i64 (j : Int) ∧ kv = .int .i64 (K : Int) ∧ Hid (K = k0 + cPm R j) ∧ Below w.heap.size w wr) (fun _ v _ => R.length - (intOf v).toNat)
 case atStart => exact ⟨0,k0,Nat.zero_le _,rfl,rfl,by simp [Hid,cPm],Below.refl _ _⟩
 case round =>
  obtain ⟨j,K0,hj,rfl,rfl,hK,hb⟩ := hrel
  have HB : Hid (Below w.heap.size w wr) := hb
  by_cases hlt : j < R.length
  ·have j1 : (j : Int) < (R.length : Int) := by omega
   have j0 : (0 : Int) ≤ (j : Int) := by omega
   have hlen := mkPm_len R k0 R.length
   have hat : (mkPm R k0 R.length)[j]? = some (mkM5 (mbN R j) (k0 + cPm R j)) := by
    have := mkPm_el (k := k0) (i := j) (Nat.le_refl R.length)
    rw [if_pos hlt] at this
    rw [← this]
    simp [mbN,List.getD,hlen,hlt]
   have ho := Cel.ow_below HH.out hb
   generalize mkPm R k0 R.length = MM at ho hlen hat
   rw [← hlen] at ho
   obtain ⟨g,off,f,rfl,hfg,hfs,hP,hglt,hput⟩ := ow_elF mb5_len (by omega) ho hat
   rw [← hK.out] at hP
   have hKb : K0 + cnt5 (mbN R j) ≤ 10000000 := by
    have h1 := cPm_mono R (show j + 1 ≤ R.length from hlt)
    rw [cPm_next hlt] at h1
    have := hK.out
    omega
   have HKn : Hid (K0 + cnt5 (mbN R j) = k0 + cPm R (j + 1)) := by rw [Hid,cPm_next hlt,hK.out];omega
   have hK1 : 1 ≤ K0 := by have := hK.out;omega
   have HP : Hid (∀ X,Below wr.heap.size wr X → Plc X g (off + j * 5) (mb5 (mkM5 (mbN R j) K0)) f) := fun X hX => hP.below hX
   clear ho hput hP hat hlen hK hfs hb
   generalize mbN R j = r at *
   unfold cnt5 at hKb
   have HKb : Hid (K0 + (2 + cP r.rows r.rows.length + r.sung.length + 1) = k0 + cPm R (j + 1)) := HKn.out
   have HKc : Hid (k0 + cPm R (j + 1) ≤ 10000000) := by have := cPm_mono R (show j + 1 ≤ R.length from hlt);rw [Hid];omega
   obtain ⟨ra,rc,u3,f2,f3,c0,c1,c2,c3,c4,o2,o3,hrl⟩ := mkM5_at (HP.out wr (Below.refl _ _))
   obtain ⟨Ka,hKa⟩ : ∃ Ka : Nat,Hid (Ka = K0 + 2) := ⟨_,rfl⟩
   rw [← hKa.out] at o2
   have eKa : (Ka : Int) = (K0 : Int) + 1 + 1 := by have := hKa.out;omega
   have hM1 := heldRs_ow ra rc Ka r.rows f2 wr o2 (by have := hKa.out;omega) (by have := hKa.out;omega) hrl
   obtain ⟨K2,hK2⟩ : ∃ K2 : Nat,Hid (K2 = Ka + cP r.rows r.rows.length) := ⟨_,rfl⟩
   rw [← hK2.out,eKa] at hM1
   have ne0 : ((K0 : Int) != (K0 : Int)) = false := by simp
   have ne1 : (((K0 : Int) + 1) != ((K0 : Int) + 1)) = false := by simp
   have hKc : K0 + 2 ≤ 10000000 := by omega
   clear o2 o3 c3 c4 eKa hKb
   go_wp2_with fail
   refine hM1.mono ?_
   rintro e X1 ⟨rfl,hb1⟩
   have HB1 : Hid (Below w.heap.size w X1) := HB.out.trans (hb1.mono HB.out.size)
   have hPP := HP.out X1 hb1
   clear hM1 c0 c1 c2 ne0 ne1 hb1 hKc hk hk1 hK1
   obtain ⟨ra,rc,u3,f2,f3,c0,c1,c2,c3,c4,o2,o3,_⟩ := mkM5_at hPP
   rw [← hKa.out,← hK2.out] at o3 c4
   obtain ⟨K3,hK3⟩ : ∃ K3 : Nat,Hid (K3 = K2 + r.sung.length) := ⟨_,rfl⟩
   rw [← hK3.out] at c4
   obtain ⟨KF,hKF⟩ : ∃ KF : Nat,Hid (KF = K3 + 1) := ⟨_,rfl⟩
   have HKF : Hid (KF = k0 + cPm R (j + 1)) := by
    have := hKa.out;have := hK2.out;have := hK3.out;have := hKF.out;have := HKb.out
    rw [Hid]
    omega
   have hM2 := heldI_ow u3 K2 r.sung.length f3 X1 o3 (by have := hKa.out;have := hK2.out;have := HKb.out;have := HKc.out;omega) (by have := HKb.out;have := HKc.out;omega)
   rw [show (K2 : Int) + (r.sung.length : Int) = (K3 : Int) by have := hK3.out;omega] at hM2
   unfold m3 at c4
   have n4 : (((K3 : Int) % 3 == 0) != ((K3 : Int) % 3 == 0)) = false := by simp
   have p2 : ¬ ((K2 : Int) < 0) := by omega
   have p3 : ¬ ((K3 : Int) < 0) := by omega
   have hK3b : K3 ≤ 10000000 := by have := hKF.out;have := HKF.out;have := HKc.out;omega
   have eKF : (KF : Int) = (K3 : Int) + 1 := by have := hKF.out;omega
   clear o2 o3 hPP c0 c1 c2
   go_wp2_with fail
   refine hM2.mono ?_
   rintro e X2 ⟨rfl,hx2⟩
   obtain rfl := hx2.symm
   have HBF : Hid (Below w.heap.size w X1) := HB1.out
   clear hM2 hx2
   go_wp2
   go_roundw
   case rel => exact ⟨j + 1,KF,by omega,by go_num,by first | rfl | rw [eKF],HKF,HBF.out⟩
   case measure => simp [intOf];omega
  ·obtain rfl : j = R.length := by omega
   have k1 : ¬ ((R.length : Int) < (R.length : Int)) := by omega
   clear hb hk hk1
   go_wp2
   go_ret
   exact ⟨ret_int (by rw [hK.out];omega),HB.out⟩
set_option maxRecDepth 100000 in
set_option maxHeartbeats 6400000 in
theorem heldLs_ow (a : Option Addr) (cap k0 : Nat) (R : List Ml) (fp : Fp) (w : World) (h : Cel.ow w (lcl 10 ml10 (mkPl R k0 R.length)) (.slice a R.length cap) fp) (hk1 : 1 ≤ k0) (hk : k0 + cPl R R.length ≤ 10000000) (hm : R.length ≤ maxLen) :
  Calls Try.prog 112 #[.slice a R.length cap,.int .i64 (k0 : Int)] w fun e w' => e = .returned (.int .i64 ((k0 + cPl R R.length : Nat) : Int)) ∧ Below w.heap.size w w' := by
 unfold maxLen at hm
 have HH : Hid (Cel.ow w (lcl 10 ml10 (mkPl R k0 R.length)) (.slice a R.length cap) fp) := h
 clear h
 go_enter Try.func112,Try.ntmps112
 go_wp2_with fail
 go_loopw [1,5] (fun kv v wr => ∃ (j K : Nat),j ≤ R.length ∧ v = .int .i64 (j : Int) ∧ kv = .int .i64 (K : Int) ∧ Hid (K = k0 + cPl R j) ∧ Below w.heap.size w wr) (fun _ v _ => R.length - (intOf v).toNat)
 case atStart => exact ⟨0,k0,Nat.zero_le _,rfl,rfl,by simp [Hid,cPl],Below.refl _ _⟩
 case round =>
  obtain ⟨j,K0,hj,rfl,rfl,hK,hb⟩ := hrel
  have HB : Hid (Below w.heap.size w wr) := hb
  by_cases hlt : j < R.length
  ·have j1 : (j : Int) < (R.length : Int) := by omega
   have j0 : (0 : Int) ≤ (j : Int) := by omega
   have hlen := mkPl_len R k0 R.length
   have hat : (mkPl R k0 R.length)[j]? = some (mkM10 (mlN R j) (k0 + cPl R j)) := by
    have := mkPl_el (k := k0) (i := j) (Nat.le_refl R.length)
    rw [if_pos hlt] at this
    rw [← this]
    simp [mlN,List.getD,hlen,hlt]
   have ho := Cel.ow_below HH.out hb
   generalize mkPl R k0 R.length = MM at ho hlen hat
   rw [← hlen] at ho
   obtain ⟨g,off,f,rfl,hfg,hfs,hP,hglt,hput⟩ := ow_elF ml10_len (by omega) ho hat
   rw [← hK.out] at hP
   have hKb : K0 + cnt10 (mlN R j) ≤ 10000000 := by
    have h1 := cPl_mono R (show j + 1 ≤ R.length from hlt)
    rw [cPl_next hlt] at h1
    have := hK.out
    omega
   have HKn : Hid (K0 + cnt10 (mlN R j) = k0 + cPl R (j + 1)) := by rw [Hid,cPl_next hlt,hK.out];omega
   have hK1 : 1 ≤ K0 := by have := hK.out;omega
   have HP : Hid (∀ X,Below wr.heap.size wr X → Plc X g (off + j * 10) (ml10 (mkM10 (mlN R j) K0)) f) := fun X hX => hP.below hX
   clear ho hput hP hat hlen hK hfs hb
   generalize mlN R j = r at *
   unfold cnt10 cnt8 at hKb
   have HKb : Hid (K0 + (2 + (1 + r.row.txt.length + r.row.got.length + r.row.sus.length + 1 + 1 + 1 + r.row.trm.length)) = k0 + cPl R (j + 1)) := HKn.out
   have HKc : Hid (k0 + cPl R (j + 1) ≤ 10000000) := by have := cPl_mono R (show j + 1 ≤ R.length from hlt);rw [Hid];omega
   obtain ⟨u3,u4,u5,u9,f3,f4,f5,f9,⟨c0,c1⟩,⟨c2,c3,c4,c5⟩,c6,c7,c8,c9,o3,o4,o5,o9⟩ := mkM10_at (HP.out wr (Below.refl _ _))
   obtain ⟨Ka,hKa⟩ : ∃ Ka : Nat,Hid (Ka = K0 + 2 + 1) := ⟨_,rfl⟩
   rw [← hKa.out] at o3
   rw [show ((K0 + 2 : Nat) : Int) = (K0 : Int) + 1 + 1 by omega] at c2
   have eKa : (Ka : Int) = (K0 : Int) + 1 + 1 + 1 := by have := hKa.out;omega
   have hM1 := heldS_ow u3 Ka r.row.txt.length f3 wr o3 (by have := hKa.out;omega) (by have := hKa.out;omega) (by omega)
   obtain ⟨K2,hK2⟩ : ∃ K2 : Nat,Hid (K2 = Ka + r.row.txt.length) := ⟨_,rfl⟩
   rw [show (Ka : Int) + (r.row.txt.length : Int) = (K2 : Int) by have := hK2.out;omega,eKa] at hM1
   have ne0 : ((K0 : Int) != (K0 : Int)) = false := by simp
   have ne1 : (((K0 : Int) + 1) != ((K0 : Int) + 1)) = false := by simp
   have ne2 : (((K0 : Int) + 1 + 1) != ((K0 : Int) + 1 + 1)) = false := by simp
   have hKc : K0 + 3 ≤ 10000000 := by omega
   clear o3 o4 o5 o9 c4 c5 c6 c7 c8 c9 eKa hKb
   go_wp2_with fail
   refine hM1.mono ?_
   rintro e X1 ⟨rfl,hb1⟩
   have HB1 : Hid (Below w.heap.size w X1) := HB.out.trans (hb1.mono HB.out.size)
   have hPP := HP.out X1 hb1
   clear hM1 c0 c1 c2 c3 ne0 ne1 ne2 hb1 hKc hk hk1 hK1
   obtain ⟨u3,u4,u5,u9,f3,f4,f5,f9,⟨c0,c1⟩,⟨c2,c3,c4,c5⟩,c6,c7,c8,c9,o3,o4,o5,o9⟩ := mkM10_at hPP
   rw [← hKa.out,← hK2.out] at o4 o5 o9 c6 c7 c8
   obtain ⟨K3,hK3⟩ : ∃ K3 : Nat,Hid (K3 = K2 + r.row.got.length) := ⟨_,rfl⟩
   rw [← hK3.out] at o5 o9 c6 c7 c8
   obtain ⟨K4,hK4⟩ : ∃ K4 : Nat,Hid (K4 = K3 + r.row.sus.length) := ⟨_,rfl⟩
   rw [← hK4.out] at o9 c6 c7 c8
   obtain ⟨K7,hK7⟩ : ∃ K7 : Nat,Hid (K7 = K4 + 1 + 1 + 1) := ⟨_,rfl⟩
   rw [← hK7.out] at o9
   obtain ⟨KF,hKF⟩ : ∃ KF : Nat,Hid (KF = K7 + r.row.trm.length) := ⟨_,rfl⟩
   have HKF : Hid (KF = k0 + cPl R (j + 1)) := by
    have := hKa.out;have := hK2.out;have := hK3.out;have := hK4.out;have := hK7.out;have := hKF.out;have := HKb.out
    rw [Hid]
    omega
   have hKFb : KF ≤ 10000000 := by have := HKF.out;have := HKc.out;omega
   have hM2 := heldI_ow u4 K2 r.row.got.length f4 X1 o4 (by have := hK3.out;have := hK4.out;have := hK7.out;have := hKF.out;omega) (by have := hK3.out;have := hK4.out;have := hK7.out;have := hKF.out;omega)
   have hM3 := heldI_ow u5 K3 r.row.sus.length f5 X1 o5 (by have := hK4.out;have := hK7.out;have := hKF.out;omega) (by have := hK4.out;have := hK7.out;have := hKF.out;omega)
   have hM7 := heldI_ow u9 K7 r.row.trm.length f9 X1 o9 (by have := hKF.out;omega) (by have := hKF.out;omega)
   rw [show (K2 : Int) + (r.row.got.length : Int) = (K3 : Int) by have := hK3.out;omega] at hM2
   rw [show (K3 : Int) + (r.row.sus.length : Int) = (K4 : Int) by have := hK4.out;omega] at hM3
   rw [show (K7 : Int) + (r.row.trm.length : Int) = (KF : Int) by have := hKF.out;omega,show (K7 : Int) = (K4 : Int) + 1 + 1 + 1 by have := hK7.out;omega] at hM7
   unfold m3 at c6 c7
   have n6 : (((K4 : Int) % 3 == 0) != ((K4 : Int) % 3 == 0)) = false := by simp
   have n7 : ((((K4 : Int) + 1) % 3 == 0) != (((K4 : Int) + 1) % 3 == 0)) = false := by simp
   have n8 : (((K4 : Int) + 1 + 1) != ((K4 : Int) + 1 + 1)) = false := by simp
   have p2 : ¬ ((K2 : Int) < 0) := by omega
   have p3 : ¬ ((K3 : Int) < 0) := by omega
   have p4 : ¬ ((K4 : Int) < 0) := by omega
   have p8 : ¬ ((KF : Int) < 0) := by omega
   have hK4b : K4 ≤ 10000000 := by have := hK7.out;have := hKF.out;omega
   clear o3 o4 o5 o9 hPP hKFb c0 c1 c2 c3
   go_wp2_with fail
   refine hM2.mono ?_
   rintro e X2 ⟨rfl,hx2⟩
   obtain rfl := hx2.symm
   clear hM2 hx2
   go_wp2_with fail
   refine hM3.mono ?_
   rintro e X3 ⟨rfl,hx3⟩
   obtain rfl := hx3.symm
   clear hM3 hx3
   go_wp2_with fail
   refine hM7.mono ?_
   rintro e X7 ⟨rfl,hx7⟩
   obtain rfl := hx7.symm
   have HBF : Hid (Below w.heap.size w X1) := HB1.out
   clear hM7 hx7 c4 c5 c6 c7 c8 c9 n6 n7 n8 hK4b
   go_wp2
   go_roundw
   case rel => exact ⟨j + 1,KF,by omega,by go_num,by first | rfl | rw [eKF],HKF,HBF.out⟩
   case measure => simp [intOf];omega
  ·obtain rfl : j = R.length := by omega
   have k1 : ¬ ((R.length : Int) < (R.length : Int)) := by omega
   clear hb hk hk1
   go_wp2
   go_ret
   exact ⟨ret_int (by rw [hK.out];omega),HB.out⟩
theorem mkF_get {al : List Bool} {k0 : Nat} : ∀ {j i : Nat},j ≤ al.length → i < al.length → fl (mkF al k0 j) i = if i < j then (((k0 + i : Nat) : Int) % 3 == 0) else fl al i
 | 0,i,_,_ => by simp [mkF]
 | j + 1,i,h,hi => by
  have ih := mkF_get (al := al) (k0 := k0) (j := j) (i := i) (by omega) hi
  have hl := mkF_len al k0 j
  rw [mkF]
  unfold fl at ih ⊢
  rw [List.getD_eq_getElem?_getD] at ih ⊢
  rw [List.getElem?_set]
  by_cases e : j = i
  ·subst e
   rw [if_pos rfl,if_pos (by omega),if_pos (by omega)]
   rfl
  ·rw [if_neg e,ih]
   by_cases h2 : i < j
   ·rw [if_pos h2,if_pos (by omega)]
   ·rw [if_neg h2,if_neg (by omega)]
set_option maxRecDepth 100000 in
set_option maxHeartbeats 1600000 in
theorem heldF_any (a : Option Addr) (c k0 : Nat) (al : List Bool) (w : World) (h : UpS w a (mkF al k0 al.length)) (hk : k0 + al.length ≤ 10000000) :
  Calls Try.prog 111 #[.slice a al.length c,.int .i64 (k0 : Int)] w fun e w' => e = .returned (.int .i64 ((k0 + al.length : Nat) : Int)) ∧ w' = w := by
 have hl := mkF_len al k0 al.length
 have HV : Hid (al.length = 0 ∨ ∃ b off,a = some ⟨b,off,none⟩ ∧ ∀ i,i < al.length → w.cell? ⟨b,off + i,none⟩ = some (.bool (((k0 + i : Nat) : Int) % 3 == 0))) := by
  rcases h with h | ⟨b,off,ha,hc⟩
  ·left;rw [hl] at h;exact h
  ·refine .inr ⟨b,off,ha,fun i hi => ?_⟩
   have := mkF_get (al := al) (k0 := k0) (Nat.le_refl _) hi
   rw [if_pos hi] at this
   rw [hc i (by rw [hl];exact hi),← this]
   rfl
 clear h hl
 go_enter Try.func111,Try.ntmps111
 go_wp2
 go_loop [1,5] (fun q i => ∃ j K : Nat,j ≤ al.length ∧ i = .int .i64 (j : Int) ∧ q = .int .i64 (K : Int) ∧ Hid (K = k0 + j)) (fun _ i => al.length - (intOf i).toNat)
 case atStart => exact ⟨0,k0,Nat.zero_le _,rfl,rfl,rfl⟩
 case round =>
  obtain ⟨j,K,hj,rfl,rfl,hK⟩ := hrel
  by_cases hlt : j < al.length
  ·have j1 : (j : Int) < (al.length : Int) := by omega
   have j0 : (0 : Int) ≤ (j : Int) := by omega
   rcases HV.out with h0 | ⟨b,off,rfl,hc⟩
   ·omega
   have hck := hc j hlt
   rw [← hK.out] at hck
   have n1 : (((K : Int) % 3 == 0) != ((K : Int) % 3 == 0)) = false := by simp
   have hkb : K + 1 ≤ 10000000 := by have := hK.out;omega
   have HK2 : Hid (K + 1 = k0 + (j + 1)) := by have := hK.out;rw [Hid];omega
   clear hc hK
   obtain ⟨K2,hK2⟩ : ∃ K2 : Nat,Hid (K2 = K + 1) := ⟨_,rfl⟩
   have eK2 : (K : Int) + 1 = (K2 : Int) := by have := hK2.out;omega
   have hal : al.length ≤ 10000000 := by omega
   clear hk
   go_wp2
   go_round
   case rel => exact ⟨j + 1,K2,by omega,by go_num,by first | rfl | (rw [eK2]),by rw [Hid,hK2.out];exact HK2.out⟩
   case measure => simp [intOf];omega
  ·obtain rfl : j = al.length := by omega
   have k1 : ¬ ((al.length : Int) < (al.length : Int)) := by omega
   clear hk
   go_wp2
   go_ret
   exact ⟨ret_int (by rw [hK.out];omega),rfl⟩
end Go.Proofs.Ythioodpmgifomaa
namespace Go.Proofs.Ythioodpmgifomaa
set_option linter.unusedVariables false
set_option linter.unusedSimpArgs false
open Go.RowKit Go.Sort
theorem markF_ow (a : Option Addr) (c k0 : Nat) (al : List Bool) (f : Fp) (w : World) (h : Cel.ow w (ocl al) (.slice a al.length c) f) (hk : k0 ≤ 10000000) (hn : al.length ≤ 10000000) :
  Calls Try.prog 108 #[.slice a al.length c,.int .i64 (k0 : Int)] w fun e w' => e = .returned (.int .i64 ((k0 + al.length : Nat) : Int)) ∧ ∃ f',Cel.ow w' (ocl (mkF al k0 al.length)) (.slice a al.length c) f' ∧ (∀ b,f' b → f b) ∧ Wrt f w w' := by
 obtain ⟨a',c',G,e,ho,hG⟩ := ow_ocl.1 h
 cases e
 cases G with
 | none =>
  have hf : ∀ b,¬ f b := fun b hb => by have := (hG b).1 hb;cases this
  refine (markF_it a c k0 0 0 al w (It.of1 h (fun b hb => absurd hb (hf b))) hk hn).mono (fun e w' h1 => ?_)
  obtain ⟨h1,h2,h3⟩ := h1
  obtain ⟨f',k1,k2⟩ := h2.ow1
  exact ⟨h1,f',k1,fun b hb => by have := k2 b hb;omega,h3.mono (fun b _ hb => by have := hb.1;have := hb.2;omega)⟩
 | some g =>
  refine (markF_it a c k0 g (g + 1) al w (It.of1 h (fun b hb => by have := (hG b).1 hb;cases this;omega)) hk hn).mono (fun e w' h1 => ?_)
  obtain ⟨h1,h2,h3⟩ := h1
  obtain ⟨f',k1,k2⟩ := h2.ow1
  exact ⟨h1,f',k1,fun b hb => (hG b).2 (by have := k2 b hb;congr 1;omega),h3.mono (fun b _ hb => (hG b).2 (by have := hb.1;have := hb.2;congr 1;omega))⟩
theorem owL_three {w : World} {c1 c2 c3 : Cel} {v1 v2 v3 : Value} {f : Fp} (h : owL w [c1,c2,c3] [v1,v2,v3] f) : ∃ f1 f2 f3,Cel.ow w c1 v1 f1 ∧ Cel.ow w c2 v2 f2 ∧ Cel.ow w c3 v3 f3 ∧ (∀ b,f1 b → ¬ f2 b) ∧ (∀ b,f1 b → ¬ f3 b) ∧ (∀ b,f2 b → ¬ f3 b) ∧ (∀ b,f1 b → f b) ∧ (∀ b,f2 b → f b) ∧ ∀ b,f3 b → f b := by
 obtain ⟨u1,us1,f1,g1,e1,o1,h2,d1,i1⟩ := h
 cases e1
 obtain ⟨f2,f3,o2,o3,d2,i2⟩ := owL_two h2
 exact ⟨f1,f2,f3,o1,o2,o3,fun b h1 h2 => d1 b h1 ((i2 b).2 (.inl h2)),fun b h1 h3 => d1 b h1 ((i2 b).2 (.inr h3)),d2,fun b h => (i1 b).2 (.inl h),fun b h => (i1 b).2 (.inr ((i2 b).2 (.inl h))),fun b h => (i1 b).2 (.inr ((i2 b).2 (.inr h)))⟩
def mkGr (g : Gr) (k : Nat) : Gr := ⟨mkPm g.mem k g.mem.length,mkF g.up (k + cPm g.mem g.mem.length) g.up.length,mkPl g.mail (k + cPm g.mem g.mem.length + g.up.length) g.mail.length⟩
def cntGr (g : Gr) : Nat := cPm g.mem g.mem.length + g.up.length + cPl g.mail g.mail.length
set_option maxRecDepth 100000 in
set_option maxHeartbeats 1600000 in
theorem markGr_it (A : Ga) (g : Gr) (k0 lo hi : Nat) (w : World) (h : It w (gr3 g) (grVals A g) lo hi) (hlo : lo ≤ w.heap.size) (hh : hi ≤ w.heap.size) (hk1 : 1 ≤ k0) (hk : k0 + cntGr g ≤ 10000000) (hm : g.mem.length ≤ maxLen) (hl : g.mail.length ≤ maxLen) :
  Calls Try.prog 46 #[grV A g,.int .i64 (k0 : Int)] w fun e w' => e = .returned (.int .i64 ((k0 + cntGr g : Nat) : Int)) ∧ It w' (gr3 (mkGr g k0)) (grVals A g) lo w'.heap.size ∧ Wrt (Iv lo hi) w w' := by
 have hb := oneA16 w (.cells (grC A g) 66)
 have hx := Bx.new w 66 (grC A g)
 obtain ⟨fp,hl0,hfp⟩ := h.below hb
 obtain ⟨f1,f2,f3,o1,o2,o3,d12,d13,d23,i1,i2,i3⟩ := owL_three hl0
 have HF1 : Hid (∀ b,f1 b → lo ≤ b ∧ b < hi) := fun b hb => hfp b (i1 b hb)
 have HF2 : Hid (∀ b,f2 b → lo ≤ b ∧ b < hi) := fun b hb => hfp b (i2 b hb)
 have HF3 : Hid (∀ b,f3 b → lo ≤ b ∧ b < hi) := fun b hb => hfp b (i3 b hb)
 have HD12 : Hid (∀ b,f1 b → ¬ f2 b) := d12
 have HD13 : Hid (∀ b,f1 b → ¬ f3 b) := d13
 have HD23 : Hid (∀ b,f2 b → ¬ f3 b) := d23
 unfold cntGr at hk ⊢
 unfold grV
 unfold grC at *
 have HW0 : Hid (Wrt (Iv lo hi) w (w.alloc (.cells #[.slice A.ma g.mem.length A.mc,.slice A.ua g.up.length A.uc,.slice A.la g.mail.length A.lc] 66))) := Wrt.of_below hb
 have hws := hb.size
 generalize hWW : w.alloc (.cells #[.slice A.ma g.mem.length A.mc,.slice A.ua g.up.length A.uc,.slice A.la g.mail.length A.lc] 66) = W at *
 have HX : Hid (∀ X,Wrt (Iv lo hi) W X → Bx X w.heap.size 66 #[.slice A.ma g.mem.length A.mc,.slice A.ua g.up.length A.uc,.slice A.la g.mail.length A.lc]) := fun X hX => hx.wrt hX (fun k => by have := k.2;omega)
 obtain ⟨c0,c1,c2⟩ := Bx.g3 (HX.out W (Wrt.refl _ _))
 obtain ⟨KR,hKR⟩ : ∃ KR : Nat,Hid (KR = k0 + cPm g.mem g.mem.length) := ⟨_,rfl⟩
 obtain ⟨KU,hKU⟩ : ∃ KU : Nat,Hid (KU = KR + g.up.length) := ⟨_,rfl⟩
 have hM1 := markMs_ow A.ma A.mc k0 g.mem f1 W o1 hk1 (by omega) hm
 rw [← hKR.out] at hM1
 have HO2 : Hid (Cel.ow W (ocl g.up) (.slice A.ua g.up.length A.uc) f2) := o2
 have HO3 : Hid (Cel.ow W (lcl 10 ml10 g.mail) (.slice A.la g.mail.length A.lc) f3) := o3
 have HKb : Hid (KU + cPl g.mail g.mail.length ≤ 10000000 ∧ 1 ≤ KU) := by have := hKR.out;have := hKU.out;rw [Hid];omega
 have HML : Hid (g.mail.length ≤ maxLen) := hl
 clear h hl0 hfp i1 i2 i3 o1 o2 o3 hx hb d12 d13 d23 hk hl
 go_enter Try.func46,Try.ntmps46
 go_wp2_with fail
 refine hM1.mono ?_
 rintro e X1 ⟨rfl,g1,q1,hg1,hw1⟩
 have HQ1 : Hid (Cel.ow X1 (lcl 5 mb5 (mkPm g.mem k0 g.mem.length)) (.slice A.ma g.mem.length A.mc) g1) := q1
 have HG1 : Hid (∀ b,g1 b → f1 b ∨ W.heap.size ≤ b) := hg1
 have HW1 : Hid (Wrt f1 W X1) := hw1
 have HV1 : Hid (Wrt (Iv lo hi) W X1) := hw1.mono (fun b _ h => HF1.out b h)
 have hM2 := markF_ow A.ua A.uc KR g.up f2 X1 (Cel.ow_wrt HO2.out hw1 (fun b hb k => HD12.out b k hb)) (by have := HKb.out;have := hKU.out;omega) (by have := HKb.out;have := hKU.out;omega)
 rw [← hKU.out] at hM2
 clear c0 c1 c2
 obtain ⟨c0,c1,c2⟩ := Bx.g3 (HX.out X1 HV1.out)
 clear hM1 q1 hg1 hw1 hk1
 go_wp2_with fail
 refine hM2.mono ?_
 rintro e X2 ⟨rfl,g2,q2,hg2,hw2⟩
 have hs1 := HW1.out.size
 have hs2 := hw2.size
 have HQ2 : Hid (Cel.ow X2 (ocl (mkF g.up KR g.up.length)) (.slice A.ua g.up.length A.uc) g2) := q2
 have HG2 : Hid (∀ b,g2 b → f2 b) := hg2
 have HQ1' : Hid (Cel.ow X2 (lcl 5 mb5 (mkPm g.mem k0 g.mem.length)) (.slice A.ma g.mem.length A.mc) g1) := Cel.ow_wrt HQ1.out hw2 (fun b hb k => by
  rcases HG1.out b hb with h | h
  ·exact HD12.out b h k
  ·have := (HF2.out b k).2;omega)
 have HV2 : Hid (Wrt (Iv lo hi) W X2) := HV1.out.trans (hw2.mono (fun b _ h => HF2.out b h)) (fun _ _ h => h)
 have p3 := Cel.ow_wrt (Cel.ow_wrt HO3.out HW1.out (fun b hb k => HD13.out b k hb)) hw2 (fun b hb k => HD23.out b k hb)
 have hM3 := markLs_ow A.la A.lc KU g.mail f3 X2 p3 HKb.out.2 HKb.out.1 HML.out
 clear c0 c1 c2
 obtain ⟨c0,c1,c2⟩ := Bx.g3 (HX.out X2 HV2.out)
 clear hM2 q2 hg2 hw2 p3
 go_wp2_with fail
 refine hM3.mono ?_
 rintro e X3 ⟨rfl,g3,q3,hg3,hw3⟩
 have hs3 := hw3.size
 have HE : Hid (It X3 (gr3 (mkGr g k0)) (grVals A g) lo X3.heap.size) := by
  have a13 : ∀ b,g1 b → ¬ f3 b := fun b h1 h3 => by
   rcases HG1.out b h1 with h | h
   ·exact HD13.out b h h3
   ·have := (HF3.out b h3).2;omega
  have b1 := Cel.ow_wrt HQ1'.out hw3 (fun b hb k => a13 b hb k)
  have b2 := Cel.ow_wrt HQ2.out hw3 (fun b hb k => HD23.out b (HG2.out b hb) k)
  have e12 : ∀ b,g1 b → ¬ g2 b := fun b h1 h2 => by
   rcases HG1.out b h1 with h | h
   ·exact HD12.out b h (HG2.out b h2)
   ·have := (HF2.out b (HG2.out b h2)).2;omega
  have l1 := Cel.ow_lt HQ1'.out
  have l2 := Cel.ow_lt HQ2.out
  have e13 : ∀ b,g1 b → ¬ g3 b := fun b h1 h2 => by
   rcases hg3 b h2 with h | h
   ·exact a13 b h1 h
   ·have := l1 b h1;omega
  have e23 : ∀ b,g2 b → ¬ g3 b := fun b h1 h2 => by
   rcases hg3 b h2 with h | h
   ·exact HD23.out b (HG2.out b h1) h
   ·have := l2 b h1;omega
  rw [hKU.out,hKR.out] at q3
  rw [hKR.out] at b2
  have hO : owL X3 (gr3 (mkGr g k0)) (grVals A g) (fun b => g1 b ∨ (g2 b ∨ (g3 b ∨ False))) := owL_c b1 (owL_c b2 (owL_c q3 (⟨rfl,fun _ h => h⟩ : owL X3 [] [] (fun _ => False)) (fun _ _ h => h)) (fun b h1 h2 => by
   rcases h2 with h2 | h2
   ·exact e23 b h1 h2
   ·exact h2)) (fun b h1 h2 => by
   rcases h2 with h2 | h2 | h2
   ·exact e12 b h1 h2
   ·exact e13 b h1 h2
   ·exact h2)
  refine ⟨_,hO,fun b hb => ?_⟩
  have hlt : b < X3.heap.size := owL_lt hO b hb
  rcases hb with hb | hb | hb | hb
  ·rcases HG1.out b hb with h | h
   ·exact ⟨(HF1.out b h).1,hlt⟩
   ·exact ⟨by omega,hlt⟩
  ·exact ⟨(HF2.out b (HG2.out b hb)).1,hlt⟩
  ·rcases hg3 b hb with h | h
   ·exact ⟨(HF3.out b h).1,hlt⟩
   ·exact ⟨by omega,hlt⟩
  ·exact hb.elim
 have HWf : Hid (Wrt (Iv lo hi) w X3) := (HW0.out.trans HV2.out (fun _ _ h => h)).trans (hw3.mono (fun b _ h => HF3.out b h)) (fun _ _ h => h)
 clear hM3 q3 hw3 c0 c1 c2 hg3
 go_wp2
 go_ret
 exact ⟨ret_int (by rw [hKU.out,hKR.out];omega),HE.out,HWf.out⟩
set_option maxRecDepth 100000 in
set_option maxHeartbeats 1600000 in
theorem heldGr_it (A : Ga) (g : Gr) (k0 lo hi : Nat) (w : World) (h : It w (gr3 (mkGr g k0)) (grVals A g) lo hi) (hk1 : 1 ≤ k0) (hk : k0 + cntGr g ≤ 10000000) (hm : g.mem.length ≤ maxLen) (hl : g.mail.length ≤ maxLen) :
  Calls Try.prog 47 #[grV A g,.int .i64 (k0 : Int)] w fun e w' => e = .returned (.int .i64 ((k0 + cntGr g : Nat) : Int)) ∧ Below w.heap.size w w' := by
 have hb := oneA16 w (.cells (grC A g) 66)
 have hx := Bx.new w 66 (grC A g)
 obtain ⟨fp,hl0,hfp⟩ := h.below hb
 obtain ⟨f1,f2,f3,o1,o2,o3,_⟩ := owL_three hl0
 unfold cntGr at hk ⊢
 unfold mkGr at o1 o2 o3
 simp only at o1 o2 o3
 unfold grV
 unfold grC at *
 generalize hWW : w.alloc (.cells #[.slice A.ma g.mem.length A.mc,.slice A.ua g.up.length A.uc,.slice A.la g.mail.length A.lc] 66) = W at *
 have HB0 : Hid (Below w.heap.size w W) := hb
 obtain ⟨c0,c1,c2⟩ := Bx.g3 hx
 have HX : Hid (Bx W w.heap.size 66 #[.slice A.ma g.mem.length A.mc,.slice A.ua g.up.length A.uc,.slice A.la g.mail.length A.lc]) := hx
 obtain ⟨KR,hKR⟩ : ∃ KR : Nat,Hid (KR = k0 + cPm g.mem g.mem.length) := ⟨_,rfl⟩
 obtain ⟨KU,hKU⟩ : ∃ KU : Nat,Hid (KU = KR + g.up.length) := ⟨_,rfl⟩
 have hM1 := heldMs_ow A.ma A.mc k0 g.mem f1 W o1 hk1 (by omega) hm
 rw [← hKR.out] at hM1 o2 o3
 rw [← hKU.out] at o3
 have HO2 : Hid (∀ X,Below W.heap.size W X → UpS X A.ua (mkF g.up KR g.up.length)) := fun X hX => by
  obtain ⟨a,c,e,k1,_⟩ := vw_ocl (Cel.ow_vw (Cel.ow_below o2 hX))
  injection e with e1 e2 e3
  rw [e1]
  exact k1
 have HO3 : Hid (Cel.ow W (lcl 10 ml10 (mkPl g.mail KU g.mail.length)) (.slice A.la g.mail.length A.lc) f3) := o3
 have HKb : Hid (KU + cPl g.mail g.mail.length ≤ 10000000 ∧ 1 ≤ KU) := by have := hKR.out;have := hKU.out;rw [Hid];omega
 have HML : Hid (g.mail.length ≤ maxLen) := hl
 clear h hl0 hfp o1 o2 o3 hx hb hk hl
 go_enter Try.func47,Try.ntmps47
 go_wp2_with fail
 refine hM1.mono ?_
 rintro e X1 ⟨rfl,hb1⟩
 have HB1 : Hid (Below w.heap.size w X1) := HB0.out.trans (hb1.mono HB0.out.size)
 have hM2 := heldF_any A.ua A.uc KR g.up X1 (HO2.out X1 hb1) (by have := HKb.out;have := hKU.out;omega)
 rw [← hKU.out] at hM2
 have hM3 := heldLs_ow A.la A.lc KU g.mail f3 X1 (Cel.ow_below HO3.out hb1) HKb.out.2 HKb.out.1 HML.out
 clear c0 c1 c2
 obtain ⟨c0,c1,c2⟩ := Bx.g3 (HX.out.below hb1)
 have p1 : ¬ ((KR : Int) < 0) := by omega
 have p2 : ¬ ((KU : Int) < 0) := by omega
 obtain ⟨KL,hKL⟩ : ∃ KL : Nat,Hid (KL = KU + cPl g.mail g.mail.length) := ⟨_,rfl⟩
 rw [← hKL.out] at hM3
 have p3 : ¬ ((KL : Int) < 0) := by omega
 clear hM1 hb1 hk1
 go_wp2_with fail
 refine hM2.mono ?_
 rintro e X2 ⟨rfl,hx2⟩
 obtain rfl := hx2.symm
 clear hM2 hx2
 go_wp2_with fail
 refine hM3.mono ?_
 rintro e X3 ⟨rfl,hb3⟩
 have HB3 : Hid (Below w.heap.size w X3) := HB1.out.trans (hb3.mono HB1.out.size)
 clear hM3 hb3 c0 c1 c2
 go_wp2
 go_ret
 exact ⟨ret_int (by rw [hKL.out,hKU.out,hKR.out];omega),HB3.out⟩
end Go.Proofs.Ythioodpmgifomaa
namespace Go.Proofs.Ythioodpmgifomaa
set_option linter.unusedVariables false
set_option linter.unusedSimpArgs false
open Go.RowKit Go.Sort
end Go.Proofs.Ythioodpmgifomaa
namespace Go.Proofs.Ythioodpmgifomaa
set_option linter.unusedVariables false
set_option linter.unusedSimpArgs false
open Go.RowKit Go.Sort
attribute [local irreducible] sv
end Go.Proofs.Ythioodpmgifomaa
namespace Go.Proofs.Ythioodpmgifomaa
set_option linter.unusedVariables false
set_option linter.unusedSimpArgs false
open Go.RowKit Go.Sort
end Go.Proofs.Ythioodpmgifomaa
namespace Go.Proofs.Ythioodpmgifomaa
set_option linter.unusedVariables false
set_option linter.unusedSimpArgs false
open Go.RowKit Go.Sort
def Mb64 (m : Mb) : Prop := I64v m.id ∧ I64v m.n ∧ ∀ r ∈ m.rows,Rw64 r
structure MbP (w : World) (A : Ma) (m : Mb) : Prop where
 own : ∃ f,owL w (mbCels m) (mbVals A m) f
 fit : FitM m
 i64 : Mb64 m
 sz : szMb m ≤ 1048576
def ImplNewMember : Prop := ∀ (id n : Int) (w : World),I64v id → I64v n → Calls Try.prog 106 #[.int .i64 id,.int .i64 n] w fun e w' => AnsMf w w' e (newMb id n).1 (newMb id n).2
def SmM (m : Mb) : Prop := FitM m ∧ cntMb m ≤ 1000 ∧ m.rows.length ≤ 5 ∧ szMb m ≤ 100000
theorem sum_le (F : Rw → Nat) (c : Nat) : ∀ (R : List Rw),(∀ r ∈ R,F r ≤ c) → (R.map F).sum ≤ c * R.length
 | [],_ => by simp
 | r :: R,h => by
  have ih := sum_le F c R (fun x hx => h x (List.mem_cons_of_mem _ hx))
  have h1 := h r List.mem_cons_self
  rw [List.map_cons,List.sum_cons,List.length_cons,Nat.mul_succ]
  omega
theorem OkR.c8 {r : Rw} {n : Nat} (h : OkR r n) : cnt8 r ≤ 31 ∧ szRw r ≤ 300 := by
 have h5 := h.n5
 have h1 := h.gl
 have h2 := h.sl
 have h3 := h.ml
 have h4 := h.tl
 have h6 : totS r.txt r.txt.length ≤ r.txt.length * 20 := totS_le (fun i hi => h.ts _ (by rw [List.getD_eq_getElem?_getD,List.getElem?_eq_getElem hi];exact List.getElem_mem hi)) _ (Nat.le_refl _)
 unfold cnt8 szRw
 omega
theorem OkM.small {m : Mb} {i n : Nat} (h : OkM m i n) : SmM m := by
 have h5 := h.n5
 have hl := h.len
 have hs := h.sl
 have e1 : cP m.rows m.rows.length ≤ 31 * m.rows.length := by
  unfold cP
  rw [List.take_length]
  exact sum_le cnt8 31 m.rows (fun r hr => (h.rowOk r hr).c8.1)
 have e2 : szP m.rows m.rows.length ≤ 300 * m.rows.length := by
  unfold szP
  rw [List.take_length]
  exact sum_le szRw 300 m.rows (fun r hr => (h.rowOk r hr).c8.2)
 refine ⟨h.fit, ?_,by omega, ?_⟩
 ·unfold cntMb;omega
 ·unfold szMb szRs;omega
attribute [local irreducible] sv
end Go.Proofs.Ythioodpmgifomaa
namespace Go.Proofs.Ythioodpmgifomaa
set_option linter.unusedVariables false
set_option linter.unusedSimpArgs false
open Go.RowKit Go.Sort
def Gr64 (g : Gr) : Prop := (∀ m ∈ g.mem,Mb64 m) ∧ ∀ x ∈ g.mail,I64v x.fr ∧ I64v x.to ∧ Rw64 x.row
structure GrP (w : World) (A : Ga) (g : Gr) : Prop where
 own : ∃ f,owL w (gr3 g) (grVals A g) f
 fit : FitG g
 i64 : Gr64 g
 sz : szGr g ≤ 1048576
theorem it_grs {w : World} {A : Ga} {g : Gr} {lo hi : Nat} (h : It w (gr3 g) (grVals A g) lo hi) (hf : FitG g) : GrS w A g := grs_of h.vw hf
theorem AnsGf.it {w w' : World} {e : Ending} {g : Gr} {b : Bool} (h : AnsGf w w' e g b) : ∃ A,e = .returned (.tuple #[grV A g,.bool b]) ∧ It w' (gr3 g) (grVals A g) w.heap.size w'.heap.size ∧ Below w.heap.size w w' := by
 obtain ⟨A,h1,h2⟩ := h
 exact ⟨A,h1,It.of_new h2,h2.choose_spec.2.2⟩
def ImplGroupOk : Prop := ∀ (A : Ga) (g : Gr) (w : World),GrP w A g → Calls Try.prog 42 #[grV A g] w fun e w' => e = .returned (.bool (okGr g)) ∧ Below w.heap.size w w'
def ImplNewGroup : Prop := ∀ (n : Int) (w : World),I64v n → Calls Try.prog 45 #[.int .i64 n] w fun e w' => AnsGf w w' e (newGr n).1 (newGr n).2
def SmG (g : Gr) : Prop := FitG g ∧ cntGr g ≤ 100000 ∧ g.mem.length ≤ 5 ∧ g.mail.length ≤ 200 ∧ szGr g ≤ 1000000
theorem sum_leG {α : Type} (F : α → Nat) (c : Nat) : ∀ (R : List α),(∀ r ∈ R,F r ≤ c) → (R.map F).sum ≤ c * R.length
 | [],_ => by simp
 | r :: R,h => by
  have ih := sum_leG F c R (fun x hx => h x (List.mem_cons_of_mem _ hx))
  have h1 := h r List.mem_cons_self
  rw [List.map_cons,List.sum_cons,List.length_cons,Nat.mul_succ]
  omega
theorem OkG.mems {g : Gr} {n : Nat} (h : OkG g n) {m : Mb} (hm : m ∈ g.mem) : ∃ i,OkM m i n := by
 obtain ⟨i,hi,rfl⟩ := List.mem_iff_getElem.1 hm
 refine ⟨i, ?_⟩
 have := h.mem i (by rw [← h.ml];exact hi)
 unfold memN at this
 rwa [List.getD_eq_getElem?_getD,List.getElem?_eq_getElem hi,Option.getD_some] at this
theorem OkG.small {g : Gr} {n : Nat} (h : OkG g n) : SmG g := by
 have h5 := h.n5
 have hl := h.ml
 have hu := h.ul
 have h2 := h.m200
 have e1 : cPm g.mem g.mem.length ≤ 1003 * g.mem.length := by
  unfold cPm
  rw [List.take_length]
  refine sum_leG cnt5 1003 g.mem (fun m hm => ?_)
  obtain ⟨i,ok⟩ := h.mems hm
  have := ok.small.2.1
  have h2 : cnt5 m = 3 + cntMb m := by unfold cnt5 cntMb;omega
  omega
 have e2 : zPm g.mem g.mem.length ≤ 100000 * g.mem.length := by
  unfold zPm
  rw [List.take_length]
  refine sum_leG szMb 100000 g.mem (fun m hm => ?_)
  obtain ⟨i,ok⟩ := h.mems hm
  exact ok.small.2.2.2
 have e3 : cPl g.mail g.mail.length ≤ 33 * g.mail.length := by
  unfold cPl
  rw [List.take_length]
  refine sum_leG cnt10 33 g.mail (fun x hx => ?_)
  obtain ⟨a,b,_,_,_,_,_,ok⟩ := h.mails x hx
  have := ok.c8.1
  unfold cnt10
  omega
 have e4 : zPl g.mail g.mail.length ≤ 300 * g.mail.length := by
  unfold zPl
  rw [List.take_length]
  refine sum_leG szMl 300 g.mail (fun x hx => ?_)
  obtain ⟨a,b,_,_,_,_,_,ok⟩ := h.mails x hx
  exact ok.c8.2
 refine ⟨h.fit, ?_,by omega,h2, ?_⟩
 ·unfold cntGr;omega
 ·unfold szGr szMs szLs;omega
theorem zeroGr_small : SmG zeroGr := ⟨⟨fun r hr => absurd hr List.not_mem_nil,fun x hx => absurd hx List.not_mem_nil⟩,by simp [cntGr,cPm,cPl,zeroGr],by simp [zeroGr],by simp [zeroGr],by simp [szGr,szMs,szLs,zPm,zPl,zeroGr]⟩
theorem newGr_small (n : Int) : SmG (newGr n).1 := by
 by_cases h : inB n 1 5 = true
 ·have hn : 1 ≤ n ∧ n ≤ 5 := by simpa [inB] using h
  obtain ⟨k,rfl⟩ : ∃ k : Nat,n = (k : Int) := ⟨n.toNat,by omega⟩
  exact (newGr_ok (by omega)).okG.small
 ·unfold newGr
  rw [if_neg h]
  exact zeroGr_small
end Go.Proofs.Ythioodpmgifomaa
namespace Go.Proofs.Ythioodpmgifomaa
set_option linter.unusedVariables false
set_option linter.unusedSimpArgs false
open Go.RowKit Go.Sort
set_option maxRecDepth 100000 in
set_option maxHeartbeats 6400000 in
theorem lawNewGroup (hI : ImplNewGroup) (n : Int) (w : World) (h60 : I64v n) :
  Calls Try.prog 7 #[.int .i64 n] w fun e w' => e = .returned (.bool true) ∧ Below w.heap.size w w' := by
 have hSp : ∀ (X : World),Calls Try.prog 44 #[.int .i64 n] X fun e w' => ∃ A',e = .returned (.tuple #[grV A' ((newGr n).1),.bool (newGr n).2]) ∧ It w' (gr3 ((newGr n).1)) (grVals A' ((newGr n).1)) X.heap.size w'.heap.size ∧ Below X.heap.size X w' := fun X => (ngrS_any n X).mono (fun e w' h => h.it)
 have hIm : ∀ (X : World),Calls Try.prog 45 #[.int .i64 n] X fun e w' => ∃ A',e = .returned (.tuple #[grV A' ((newGr n).1),.bool (newGr n).2]) ∧ It w' (gr3 ((newGr n).1)) (grVals A' ((newGr n).1)) X.heap.size w'.heap.size ∧ Below X.heap.size X w' := fun X => (hI n X h60).mono (fun e w' h => h.it)
 obtain ⟨hfZ,hcZ,hrZ,hlZ,hsZ⟩ := newGr_small n
 generalize (newGr n) = ZZ at *
 obtain ⟨Z,ok⟩ := ZZ
 simp only at *
 have hok : (ok != ok) = false := by cases ok <;> rfl
 obtain ⟨N,hN⟩ : ∃ N : Int,Hid (N = ((1 + cntGr Z : Nat) : Int)) := ⟨_,rfl⟩
 have hN0 : decide (N < 0) = false := by rw [hN.out];simp;omega
 have hNN : (N != N) = false := by simp
 have hEz : ∀ (X : World) (A1 A2 : Ga) {l1 h1 l2 h2 : Nat},It X (gr3 Z) (grVals A1 Z) l1 h1 → It X (gr3 Z) (grVals A2 Z) l2 h2 → Calls Try.prog 43 #[grV A1 Z,grV A2 Z] X fun e w' => e = .returned (.bool true) ∧ Below X.heap.size X w' := fun X A1 A2 l1 h1 l2 h2 i1 i2 => eqGr_any A1 A2 Z X (it_grs i1 hfZ) (it_grs i2 hfZ)
 have hMz : ∀ (X : World) (A1 : Ga) (lo hi : Nat),It X (gr3 Z) (grVals A1 Z) lo hi → lo ≤ X.heap.size → hi ≤ X.heap.size → Calls Try.prog 46 #[grV A1 Z,.int .i64 1] X fun e w' => e = .returned (.int .i64 N) ∧ It w' (gr3 (mkGr Z 1)) (grVals A1 Z) lo w'.heap.size ∧ Wrt (Iv lo hi) X w' := fun X A1 lo hi i hlo hh => by rw [hN.out];exact markGr_it A1 Z 1 lo hi X i hlo hh (by omega) (by omega) (by unfold maxLen;omega) (by unfold maxLen;omega)
 have hHz : ∀ (X : World) (A1 : Ga) (lo hi : Nat),It X (gr3 (mkGr Z 1)) (grVals A1 Z) lo hi → Calls Try.prog 47 #[grV A1 Z,.int .i64 1] X fun e w' => e = .returned (.int .i64 N) ∧ Below X.heap.size X w' := fun X A1 lo hi i => by rw [hN.out];exact heldGr_it A1 Z 1 lo hi X i (by omega) (by omega) (by unfold maxLen;omega) (by unfold maxLen;omega)
 clear hI
 unfold grV grC at *
 have hb00 : Below w.heap.size w w := Below.refl _ _
 go_enter Try.func7,Try.ntmps7
 have hS2 := hSp 
 have hI2 := hIm 
 clear hSp hIm
 go_wp2_with fail
 refine (hS2 w).mono ?_
 rintro e ws ⟨Av,rfl,iv,hbv⟩
 have B1 : Below w.heap.size w ws := hb00.trans (hbv.mono hb00.size)
 have sB1 : w.heap.size ≤ ws.heap.size := hbv.size
 clear hb00
 have b3 := oneA16 ws (.cells #[.slice Av.ma Z.mem.length Av.mc,.slice Av.ua Z.up.length Av.uc,.slice Av.la Z.mail.length Av.lc] 66)
 have h4 := Bx.new ws 66 #[.slice Av.ma Z.mem.length Av.mc,.slice Av.ua Z.up.length Av.uc,.slice Av.la Z.mail.length Av.lc]
 generalize hX2 : ws.alloc (.cells #[.slice Av.ma Z.mem.length Av.mc,.slice Av.ua Z.up.length Av.uc,.slice Av.la Z.mail.length Av.lc] 66) = X2 at *
 have B6 : Below w.heap.size w X2 := B1.trans (b3.mono B1.size)
 have sB6 : ws.heap.size ≤ X2.heap.size := b3.size
 have h7 := iv.below b3
 clear B1 iv
 have k5 : ws.heap.size < X2.heap.size := h4.lt
 clear b3
 go_wp2_with fail
 refine (hI2 X2).mono ?_
 rintro e wi ⟨Ag,rfl,ig,hbg⟩
 have B8 : Below w.heap.size w wi := B6.trans (hbg.mono B6.size)
 have sB8 : X2.heap.size ≤ wi.heap.size := hbg.size
 have h9 := h7.below hbg
 have h10 := h4.below hbg
 clear B6 h7 h4
 have b12 := oneA16 wi (.cells #[.slice Ag.ma Z.mem.length Ag.mc,.slice Ag.ua Z.up.length Ag.uc,.slice Ag.la Z.mail.length Ag.lc] 66)
 have h13 := Bx.new wi 66 #[.slice Ag.ma Z.mem.length Ag.mc,.slice Ag.ua Z.up.length Ag.uc,.slice Ag.la Z.mail.length Ag.lc]
 generalize hX11 : wi.alloc (.cells #[.slice Ag.ma Z.mem.length Ag.mc,.slice Ag.ua Z.up.length Ag.uc,.slice Ag.la Z.mail.length Ag.lc] 66) = X11 at *
 have B15 : Below w.heap.size w X11 := B8.trans (b12.mono B8.size)
 have sB15 : wi.heap.size ≤ X11.heap.size := b12.size
 have h16 := h9.below b12
 have h17 := h10.below b12
 have h18 := ig.below b12
 clear B8 h9 h10 ig
 have k14 : wi.heap.size < X11.heap.size := h13.lt
 clear b12
 obtain ⟨c190,c191,c192⟩ := Bx.g3 h13
 obtain ⟨c200,c201,c202⟩ := Bx.g3 h17
 go_wp2_with fail
 refine (hEz X11 _ _ h18 h16).mono ?_
 rintro e we ⟨rfl,hbwe⟩
 clear c190 c191 c192 c200 c201 c202
 have B21 : Below w.heap.size w we := B15.trans (hbwe.mono B15.size)
 have sB21 : X11.heap.size ≤ we.heap.size := hbwe.size
 have h22 := h16.below hbwe
 have h23 := h17.below hbwe
 have h24 := h18.below hbwe
 have h25 := h13.below hbwe
 clear B15 h16 h17 h18 h13
 obtain ⟨c260,c261,c262⟩ := Bx.g3 h25
 go_wp2_with fail
 refine (hMz we _ _ _ h24 (by omega) (by omega)).mono ?_
 rintro e wm ⟨rfl,im,hwm⟩
 clear c260 c261 c262
 have sB27 : we.heap.size ≤ wm.heap.size := hwm.size
 have B27 : Below w.heap.size w wm := below_iv hwm B21 B21.size (by omega)
 have h28 := h22.far hwm (by omega)
 have h29 := h23.iv hwm (by omega)
 have h30 := h25.iv hwm (by omega)
 clear B21 h22 h23 h24 h25
 obtain ⟨c310,c311,c312⟩ := Bx.g3 h30
 go_wp2_with fail
 refine (hHz wm _ _ _ im).mono ?_
 rintro e wh ⟨rfl,hbh⟩
 clear c310 c311 c312
 have B32 : Below w.heap.size w wh := B27.trans (hbh.mono B27.size)
 have sB32 : wm.heap.size ≤ wh.heap.size := hbh.size
 have h33 := h28.below hbh
 have h34 := h29.below hbh
 have h35 := im.below hbh
 have h36 := h30.below hbh
 clear B27 h28 h29 im h30
 go_wp2_with fail
 refine (hI2 wh).mono ?_
 rintro e wj ⟨Ah,rfl,ih,hbh⟩
 have B37 : Below w.heap.size w wj := B32.trans (hbh.mono B32.size)
 have sB37 : wh.heap.size ≤ wj.heap.size := hbh.size
 have h38 := h33.below hbh
 have h39 := h34.below hbh
 have h40 := h35.below hbh
 have h41 := h36.below hbh
 clear B32 h33 h34 h35 h36
 have b43 := oneA16 wj (.cells #[.slice Ah.ma Z.mem.length Ah.mc,.slice Ah.ua Z.up.length Ah.uc,.slice Ah.la Z.mail.length Ah.lc] 66)
 have h44 := Bx.new wj 66 #[.slice Ah.ma Z.mem.length Ah.mc,.slice Ah.ua Z.up.length Ah.uc,.slice Ah.la Z.mail.length Ah.lc]
 generalize hX42 : wj.alloc (.cells #[.slice Ah.ma Z.mem.length Ah.mc,.slice Ah.ua Z.up.length Ah.uc,.slice Ah.la Z.mail.length Ah.lc] 66) = X42 at *
 have B46 : Below w.heap.size w X42 := B37.trans (b43.mono B37.size)
 have sB46 : wj.heap.size ≤ X42.heap.size := b43.size
 have h47 := h38.below b43
 have h48 := h39.below b43
 have h49 := h40.below b43
 have h50 := h41.below b43
 have h51 := ih.below b43
 clear B37 h38 h39 h40 h41 ih
 have k45 : wj.heap.size < X42.heap.size := h44.lt
 clear b43
 obtain ⟨c520,c521,c522⟩ := Bx.g3 h44
 obtain ⟨c530,c531,c532⟩ := Bx.g3 h48
 go_wp2_with fail
 refine (hEz X42 _ _ h51 h47).mono ?_
 rintro e wk ⟨rfl,hbwk⟩
 clear c520 c521 c522 c530 c531 c532
 have B54 : Below w.heap.size w wk := B46.trans (hbwk.mono B46.size)
 have sB54 : X42.heap.size ≤ wk.heap.size := hbwk.size
 have h55 := h47.below hbwk
 have h56 := h48.below hbwk
 have h57 := h49.below hbwk
 have h58 := h50.below hbwk
 have h59 := h51.below hbwk
 have h60 := h44.below hbwk
 clear B46 h47 h48 h49 h50 h51 h44
 obtain ⟨c610,c611,c612⟩ := Bx.g3 h58
 go_wp2_with fail
 refine (hHz wk _ _ _ h57).mono ?_
 rintro e wl ⟨rfl,hbl⟩
 clear c610 c611 c612
 have B62 : Below w.heap.size w wl := B54.trans (hbl.mono B54.size)
 have sB62 : wk.heap.size ≤ wl.heap.size := hbl.size
 have h63 := h55.below hbl
 have h64 := h56.below hbl
 have h65 := h57.below hbl
 have h66 := h58.below hbl
 have h67 := h59.below hbl
 have h68 := h60.below hbl
 clear B54 h55 h56 h57 h58 h59 h60
 go_wp2
 go_ret
 exact ⟨rfl,B62⟩
end Go.Proofs.Ythioodpmgifomaa
namespace Go.Proofs.Ythioodpmgifomaa
set_option linter.unusedVariables false
set_option linter.unusedSimpArgs false
open Go.RowKit Go.Sort
def Gu (e : Ending) : Prop := ∃ T v,e = .panicked [{ v := .iface T v,recovered := false }]
set_option maxHeartbeats 400000 in
theorem wantT (w : World) : Calls Try.prog 121 #[.bool true] w fun e w' => e = .returned (.tuple #[]) ∧ w' = w := by
 have hnot : ∀ (x : Bool) (w : World),(Op.unary .not (.bool x)).run Try.prog w = .ok (.bool (!x)) w := fun _ _ => rfl
 go_enter Try.func121,Try.ntmps121
 go_wp2
 first | go_end0 | go_ret
 exact ⟨rfl,rfl⟩
set_option maxHeartbeats 400000 in
theorem wantF (w : World) : Calls Try.prog 121 #[.bool false] w fun e w' => Gu e ∧ w' = w := by
 go_enter Try.func121,Try.ntmps121
 go_wp2
 exact ⟨rfl,⟨_,_,rfl⟩,rfl⟩
theorem tellP (p : Addr) (x : Value) (u : TypeId) (pv : Value) (older : List PanicEntry) (w : World) (hc : w.cell? p = some x) (hz : w.frozen? p = false) :
  CallsD Try.prog 143 #[.pointer (some p)] (.panicking ({ v := .iface u pv,recovered := false } :: older)) w fun e u' w' =>
   e = .returned (.tuple #[]) ∧ u' = .panicking ({ v := .iface u pv,recovered := true } :: older) ∧ w' = w.setCell p (.bool false) := by
 refine callsD_of_wpS Try.func143 rfl fun c₀ cs hu => ?_
 apply wpS_region
 simp [wpOpsS,go_sem,recoverD,hu,Try.ntmps143,hc,hz,bodyPostS,results,Try.results143]
theorem tellR (p : Addr) (x : Value) (w : World) (hc : w.cell? p = some x) (hz : w.frozen? p = false) :
  CallsD Try.prog 143 #[.pointer (some p)] .returning w fun e u' w' => e = .returned (.tuple #[]) ∧ u' = .returning ∧ w' = w.setCell p (.bool true) := by
 refine callsD_of_wpS Try.func143 rfl fun c₀ cs hu => ?_
 apply wpS_region
 simp [wpOpsS,go_sem,recoverD,hu,Try.ntmps143,hc,hz,bodyPostS,results,Try.results143]
 cases c₀
 simp_all
set_option maxRecDepth 100000 in
set_option maxHeartbeats 800000 in
theorem told_any (F : Nat) (C D : Array Value) (w : World) (Q : Bool → World → Prop) (hE : ∀ (args : Array Value) (w : World),(callFunc F args).run Try.prog w = .ok (.enter F args) w)
  (h : Calls Try.prog F (C ++ D) (w.alloc (.cells #[.bool false] 4)) fun e w' => (e = .returned (.tuple #[]) ∧ Q true w') ∨ (Gu e ∧ Q false w')) (hq : ∀ b w',Q b w' → Bx w' w.heap.size 4 #[.bool false]) :
  Calls Try.prog 119 #[.func (.func F) C D] w fun e w' => ∃ b X,e = .returned (.bool b) ∧ Q b X ∧ Wrt (fun x => x = w.heap.size) X w' := by
 have hmf : ∀ (fn : Fn) (first cap : Array Value) (w : World),(Instr.makeFunc fn first cap).run Try.prog w = .ok (.func fn first cap) w := fun _ _ _ _ => rfl
 have HQ : Hid (∀ b w',Q b w' → Bx w' w.heap.size 4 #[.bool false]) := hq
 clear hq
 go_enter_defers Try.func119,Try.ntmps119
 go_wp2_with fail
 refine h.mono ?_
 rintro e w1 (⟨rfl,hQ⟩ | ⟨⟨T,v,rfl⟩,hQ⟩)
 ·have hx := HQ.out _ _ hQ
  have c0 := hx.at 0 (v := .bool false) rfl
  have f0 := hx.f 0
  have HQ1 : Hid (Q true w1) := hQ
  clear hQ h hx
  go_wp2
  refine leaves_cons (f := 143) (args := #[.pointer (some ⟨w.heap.size,0,none⟩)]) (by simp) (by simp [go_sem]) ?_
  refine (tellR ⟨w.heap.size,0,none⟩ (.bool true) _ (World.cell?_setCell_same _ _ _ c0) (by rw [World.frozen?_setCell];exact f0)).mono ?_
  rintro e u' w'' ⟨rfl,rfl,rfl⟩
  have hc : ((w1.setCell ⟨w.heap.size,0,none⟩ (.bool true)).setCell ⟨w.heap.size,0,none⟩ (.bool true)).cell? ⟨w.heap.size,0,none⟩ = some (.bool true) := World.cell?_setCell_same _ _ _ (World.cell?_setCell_same _ _ _ c0)
  have hW := (Wrt.set w1 w.heap.size 0 (.bool true)).trans (Wrt.set (w1.setCell ⟨w.heap.size,0,none⟩ (.bool true)) w.heap.size 0 (.bool true)) (fun _ _ h => h)
  generalize (w1.setCell ⟨w.heap.size,0,none⟩ (.bool true)).setCell ⟨w.heap.size,0,none⟩ (.bool true) = W2 at *
  refine ⟨.bool true,by simp [results,Try.results119,go_sem,hc],true,w1,rfl,HQ1.out,hW⟩
 ·have hx := HQ.out _ _ hQ
  have c0 := hx.at 0 (v := .bool false) rfl
  have f0 := hx.f 0
  have HQ1 : Hid (Q false w1) := hQ
  clear hQ h hx
  simp only
  refine leaves_cons (f := 143) (args := #[.pointer (some ⟨w.heap.size,0,none⟩)]) (by simp) (by simp [go_sem]) ?_
  refine (tellP ⟨w.heap.size,0,none⟩ (.bool false) T v [] _ c0 f0).mono ?_
  rintro e u' w'' ⟨rfl,rfl,rfl⟩
  have hc : (w1.setCell ⟨w.heap.size,0,none⟩ (.bool false)).cell? ⟨w.heap.size,0,none⟩ = some (.bool false) := World.cell?_setCell_same _ _ _ c0
  have hW := Wrt.set w1 w.heap.size 0 (.bool false)
  generalize w1.setCell ⟨w.heap.size,0,none⟩ (.bool false) = W2 at *
  refine ⟨.bool false,by simp [results,Try.results119,go_sem,hc],false,w1,rfl,HQ1.out,hW⟩
end Go.Proofs.Ythioodpmgifomaa