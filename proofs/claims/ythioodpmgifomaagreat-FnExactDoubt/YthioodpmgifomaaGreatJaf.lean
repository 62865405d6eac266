/-
  Texts in one: Mco Mcp Mch Mbn Mcc Mbl Plo Mbi Mbj Mbz Mba Ear Mbr Mbb Mbe Rns Rwo Mca Sdk Dvo Rdk Drt Rdw Rdr Rds Mci Mcj Mck Mcd Mcf Mcq Mct Ozr Omb.
-/
import Derived.Test.YthioodpmgifomaaGreatJae
import Derived.Test.YthioodpmgifomaaGreatJad
import Derived.Test.YthioodpmgifomaaGreatJaa
import Derived.Test.YthioodpmgifomaaGreatJac
import Derived.Test.YthioodpmgifomaaGreatJab
import Derived.BigQuiet
import Derived.Deep.LoopGhost
import Derived.Deep.CutRange
import Derived.Deep.Cut
import Derived.Deep.RegionHeld3
import Derived.Lib.SmallJoins
import Derived.OpenShut
import Derived.ChangeOld
import Derived.ShutString
import Derived.Deep.Matrix
import Derived.Deep.Slices
import Derived.Deep.Strs
import Derived.Deep.Grids
namespace Go.Proofs.YthioodpmgifomaaGreat
set_option linter.unusedVariables false
set_option linter.unusedSimpArgs false
open Go.RowKit Go.Sort
theorem mk8_at {w : World} {g o : Nat} {r : Rw} {K : Nat} {f : Fp} (h : Plc w g o (rw8 (mk8 r K)) f) : ∃ u1 u2 u3 u7 f1 f2 f3 f7,(w.cell? ⟨g,o,none⟩ = some (.int .i64 (K : Int)) ∧ w.cell? ⟨g,o + 1,none⟩ = some u1 ∧ w.cell? ⟨g,o + 2,none⟩ = some u2 ∧ w.cell? ⟨g,o + 3,none⟩ = some u3) ∧ w.cell? ⟨g,o + 4,none⟩ = some (.bool (m3 ((K + 1 + r.txt.length + r.got.length + r.sus.length : Nat) : Int))) ∧ w.cell? ⟨g,o + 5,none⟩ = some (.bool (m3 (((K + 1 + r.txt.length + r.got.length + r.sus.length : Nat) : Int) + 1))) ∧ w.cell? ⟨g,o + 6,none⟩ = some (.int .i64 (((K + 1 + r.txt.length + r.got.length + r.sus.length : Nat) : Int) + 1 + 1)) ∧ w.cell? ⟨g,o + 7,none⟩ = some u7 ∧
  Cel.ow w (scl (marksS r.txt.length (K + 1))) u1 f1 ∧ Cel.ow w (icl (marks r.got.length (K + 1 + r.txt.length))) u2 f2 ∧ Cel.ow w (icl (marks r.sus.length (K + 1 + r.txt.length + r.got.length))) u3 f3 ∧ Cel.ow w (icl (marks r.trm.length (K + 1 + r.txt.length + r.got.length + r.sus.length + 1 + 1 + 1))) u7 f7 := by
 obtain ⟨u0,g0,c0,_,⟨rfl,_⟩,_⟩ := h.at (j := 0) (c := .v (.int .i64 (K : Int))) rfl
 obtain ⟨u1,f1,c1,_,o1,_⟩ := h.at (j := 1) (c := scl (marksS r.txt.length (K + 1))) rfl
 obtain ⟨u2,f2,c2,_,o2,_⟩ := h.at (j := 2) (c := icl (marks r.got.length (K + 1 + r.txt.length))) rfl
 obtain ⟨u3,f3,c3,_,o3,_⟩ := h.at (j := 3) (c := icl (marks r.sus.length (K + 1 + r.txt.length + r.got.length))) rfl
 obtain ⟨u4,g4,c4,_,⟨rfl,_⟩,_⟩ := h.at (j := 4) (c := .v (.bool (m3 ((K + 1 + r.txt.length + r.got.length + r.sus.length : Nat) : Int)))) rfl
 obtain ⟨u5,g5,c5,_,⟨rfl,_⟩,_⟩ := h.at (j := 5) (c := .v (.bool (m3 (((K + 1 + r.txt.length + r.got.length + r.sus.length : Nat) : Int) + 1)))) rfl
 obtain ⟨u6,g6,c6,_,⟨rfl,_⟩,_⟩ := h.at (j := 6) (c := .v (.int .i64 (((K + 1 + r.txt.length + r.got.length + r.sus.length : Nat) : Int) + 1 + 1))) rfl
 obtain ⟨u7,f7,c7,_,o7,_⟩ := h.at (j := 7) (c := icl (marks r.trm.length (K + 1 + r.txt.length + r.got.length + r.sus.length + 1 + 1 + 1))) rfl
 exact ⟨u1,u2,u3,u7,f1,f2,f3,f7,⟨c0,c1,c2,c3⟩,c4,c5,c6,c7,o1,o2,o3,o7⟩
set_option maxRecDepth 100000 in
set_option maxHeartbeats 6400000 in
theorem heldRs_ow (a : Option Addr) (cap k0 : Nat) (R : List Rw) (fp : Fp) (w : World) (h : Cel.ow w (lcl 8 rw8 (mkP R k0 R.length)) (.slice a R.length cap) fp) (hk1 : 1 ≤ k0) (hk : k0 + cP R R.length ≤ 10000000) (hm : R.length ≤ maxLen) :
  Calls Tryz.prog 109 #[.slice a R.length cap,.int .i64 (k0 : Int)] w fun e w' => e = .returned (.int .i64 ((k0 + cP R R.length : Nat) : Int)) ∧ Below w.heap.size w w' := by
 unfold maxLen at hm
 have HH : Hid (Cel.ow w (lcl 8 rw8 (mkP R k0 R.length)) (.slice a R.length cap) fp) := h
 clear h
 go_enter Tryz.func109,Tryz.ntmps109
 go_wp2_with fail
 go_loopw [1,5] (fun kv v wr => ∃ (j K : Nat),j ≤ R.length ∧ v = .int .i64 (j : Int) ∧ kv = .int .i64 (K : Int) ∧ Hid (K = k0 + cP R j) ∧ Below w.heap.size w wr) (fun _ v _ => R.length - (intOf v).toNat)
 case atStart => exact ⟨0,k0,Nat.zero_le _,rfl,rfl,by simp [Hid,cP],Below.refl _ _⟩
 case round =>
  obtain ⟨j,K0,hj,rfl,rfl,hK,hb⟩ := hrel
  have HB : Hid (Below w.heap.size w wr) := hb
  by_cases hlt : j < R.length
  ·have j1 : (j : Int) < (R.length : Int) := by omega
   have j0 : (0 : Int) ≤ (j : Int) := by omega
   have hlen := mkP_len R k0 R.length
   have hat : (mkP R k0 R.length)[j]? = some (mk8 (rowN R j) (k0 + cP R j)) := by
    have := mkP_row (k := k0) (i := j) (Nat.le_refl R.length)
    rw [if_pos hlt] at this
    rw [← this]
    simp [rowN,List.getD,hlen,hlt]
   have ho := Cel.ow_below HH.out hb
   generalize mkP R k0 R.length = MM at ho hlen hat
   rw [← hlen] at ho
   obtain ⟨g,off,f,rfl,hfg,hfs,hP,hglt,hput⟩ := ow_elF rw8_len (by omega) ho hat
   rw [← hK.out] at hP
   have hKb : K0 + cnt8 (rowN R j) ≤ 10000000 := by
    have h1 := cP_mono R (show j + 1 ≤ R.length from hlt)
    rw [cP_next hlt] at h1
    have := hK.out
    omega
   have HKn : Hid (K0 + cnt8 (rowN R j) = k0 + cP R (j + 1)) := by rw [Hid,cP_next hlt,hK.out];omega
   have hK1 : 1 ≤ K0 := by have := hK.out;omega
   have HP : Hid (∀ X,Below wr.heap.size wr X → Plc X g (off + j * 8) (rw8 (mk8 (rowN R j) K0)) f) := fun X hX => hP.below hX
   clear ho hput hP hat hlen hK hfs hb
   generalize rowN R j = r at *
   unfold cnt8 at hKb
   obtain ⟨u1,u2,u3,u7,f1,f2,f3,f7,⟨c0,c1,c2,c3⟩,c4,c5,c6,c7,o1,o2,o3,o7⟩ := mk8_at (HP.out wr (Below.refl _ _))
   obtain ⟨Ka,hKa⟩ : ∃ Ka : Nat,Hid (Ka = K0 + 1) := ⟨_,rfl⟩
   rw [← hKa.out] at o1
   have eKa : (Ka : Int) = (K0 : Int) + 1 := by have := hKa.out;omega
   have hM1 := heldS_ow u1 Ka r.txt.length f1 wr o1 (by have := hKa.out;omega) (by have := hKa.out;omega) (by omega)
   obtain ⟨K2,hK2⟩ : ∃ K2 : Nat,Hid (K2 = Ka + r.txt.length) := ⟨_,rfl⟩
   have eK2 : (Ka : Int) + (r.txt.length : Int) = (K2 : Int) := by have := hK2.out;omega
   rw [eK2,eKa] at hM1
   have ne0 : ((K0 : Int) != (K0 : Int)) = false := by simp
   clear o1 o2 o3 o7 c2 c3 c4 c5 c6 c7 eKa eK2
   go_wp2_with fail
   refine hM1.mono ?_
   rintro e X1 ⟨rfl,hb1⟩
   have HB1 : Hid (Below w.heap.size w X1) := HB.out.trans (hb1.mono HB.out.size)
   have hPP := HP.out X1 hb1
   clear hM1 c0 c1 ne0 hb1
   obtain ⟨u1,u2,u3,u7,f1,f2,f3,f7,⟨c0,c1,c2,c3⟩,c4,c5,c6,c7,o1,o2,o3,o7⟩ := mk8_at hPP
   have eA : K0 + 1 + r.txt.length = K2 := by have := hKa.out;have := hK2.out;omega
   rw [eA] at o2 o3 o7 c4 c5 c6
   obtain ⟨K3,hK3⟩ : ∃ K3 : Nat,Hid (K3 = K2 + r.got.length) := ⟨_,rfl⟩
   rw [← hK3.out] at o3 o7 c4 c5 c6
   obtain ⟨K4,hK4⟩ : ∃ K4 : Nat,Hid (K4 = K3 + r.sus.length) := ⟨_,rfl⟩
   rw [← hK4.out] at o7 c4 c5 c6
   obtain ⟨K7,hK7⟩ : ∃ K7 : Nat,Hid (K7 = K4 + 1 + 1 + 1) := ⟨_,rfl⟩
   rw [← hK7.out] at o7
   obtain ⟨K8,hK8⟩ : ∃ K8 : Nat,Hid (K8 = K7 + r.trm.length) := ⟨_,rfl⟩
   have HK8 : Hid (K8 = k0 + cP R (j + 1)) := by
    have h1 := HKn.out
    unfold cnt8 at h1
    have := hKa.out;have := hK2.out;have := hK3.out;have := hK4.out;have := hK7.out;have := hK8.out
    rw [Hid]
    omega
   have hK8b : K8 ≤ 10000000 := by
    have h1 := HKn.out
    have := hKa.out;have := hK2.out;have := hK3.out;have := hK4.out;have := hK7.out;have := hK8.out
    omega
   have hM2 := heldI_ow u2 K2 r.got.length f2 X1 o2 (by have := hK3.out;have := hK4.out;have := hK7.out;have := hK8.out;omega) (by omega)
   have hM3 := heldI_ow u3 K3 r.sus.length f3 X1 o3 (by have := hK4.out;have := hK7.out;have := hK8.out;omega) (by omega)
   have hM7 := heldI_ow u7 K7 r.trm.length f7 X1 o7 (by have := hK8.out;omega) (by omega)
   rw [show (K2 : Int) + (r.got.length : Int) = (K3 : Int) by have := hK3.out;omega] at hM2
   rw [show (K3 : Int) + (r.sus.length : Int) = (K4 : Int) by have := hK4.out;omega] at hM3
   rw [show (K7 : Int) + (r.trm.length : Int) = (K8 : Int) by have := hK8.out;omega,show (K7 : Int) = (K4 : Int) + 1 + 1 + 1 by have := hK7.out;omega] at hM7
   unfold m3 at c4 c5
   have n4 : (((K4 : Int) % 3 == 0) != ((K4 : Int) % 3 == 0)) = false := by simp
   have n5 : ((((K4 : Int) + 1) % 3 == 0) != (((K4 : Int) + 1) % 3 == 0)) = false := by simp
   have n6 : (((K4 : Int) + 1 + 1) != ((K4 : Int) + 1 + 1)) = false := by simp
   have p2 : ¬ ((K2 : Int) < 0) := by omega
   have p3 : ¬ ((K3 : Int) < 0) := by omega
   have p4 : ¬ ((K4 : Int) < 0) := by omega
   have p8 : ¬ ((K8 : Int) < 0) := by omega
   have hK4b : K4 ≤ 10000000 := by have := hK7.out;have := hK8.out;omega
   clear o1 o2 o3 o7 hPP eA hKb hK8b hk hK1 hk1 c0 c1
   go_wp2_with fail
   refine hM2.mono ?_
   rintro e X2 ⟨rfl,hx2⟩
   obtain rfl := hx2.symm
   clear hM2 hx2
   go_wp2_with fail
   refine hM3.mono ?_
   rintro e X3 ⟨rfl,hx3⟩
   obtain rfl := hx3.symm
   clear hM3 hx3
   go_wp2_with fail
   refine hM7.mono ?_
   rintro e X7 ⟨rfl,hx7⟩
   obtain rfl := hx7.symm
   clear hM7 hx7 c2 c3 c4 c5 c6 c7 n4 n5 n6 hK4b
   go_wp2
   go_roundw
   case rel => exact ⟨j + 1,K8,by omega,by go_num,rfl,HK8,HB1.out⟩
   case measure => simp [intOf];omega
  ·obtain rfl : j = R.length := by omega
   have k1 : ¬ ((R.length : Int) < (R.length : Int)) := by omega
   clear hb hk hk1
   go_wp2
   go_ret
   exact ⟨ret_int (by rw [hK.out];omega),HB.out⟩
end Go.Proofs.YthioodpmgifomaaGreat
namespace Go.Proofs.YthioodpmgifomaaGreat
set_option linter.unusedVariables false
set_option linter.unusedSimpArgs false
open Go.RowKit Go.Sort
theorem owL_two {w : World} {c1 c2 : Cel} {v1 v2 : Value} {f : Fp} (h : owL w [c1,c2] [v1,v2] f) : ∃ f1 f2,Cel.ow w c1 v1 f1 ∧ Cel.ow w c2 v2 f2 ∧ (∀ b,f1 b → ¬ f2 b) ∧ ∀ b,f b ↔ f1 b ∨ f2 b := by
 obtain ⟨u1,us1,f1,g1,e1,o1,h2,d1,i1⟩ := h
 cases e1
 obtain ⟨u2,us2,f2,g2,e2,o2,h3,d2,i2⟩ := h2
 cases e2
 have hg : ∀ b,¬ g2 b := h3.2
 refine ⟨f1,f2,o1,o2,fun b h1 h2 => d1 b h1 ((i2 b).2 (.inl h2)),fun b => ?_⟩
 rw [i1,i2]
 exact ⟨fun h => h.imp id (fun h => h.elim id (fun h => absurd h (hg b))),fun h => h.imp id .inl⟩
theorem owL_both {w : World} {c1 c2 : Cel} {v1 v2 : Value} {f1 f2 : Fp} (h1 : Cel.ow w c1 v1 f1) (h2 : Cel.ow w c2 v2 f2) (hd : ∀ b,f1 b → ¬ f2 b) : owL w [c1,c2] [v1,v2] (fun b => f1 b ∨ f2 b) :=
 ⟨v1,[v2],f1,f2,rfl,h1,⟨v2,[],f2,fun _ => False,rfl,h2,⟨rfl,fun _ h => h⟩,fun _ _ h => h,fun b => by simp⟩,hd,fun b => Iff.rfl⟩
def mkMb (m : Mb) (k : Nat) : Mb := { m with rows := mkP m.rows k m.rows.length,sung := marks m.sung.length (k + cP m.rows m.rows.length) }
def cntMb (m : Mb) : Nat := cP m.rows m.rows.length + m.sung.length
set_option maxRecDepth 100000 in
set_option maxHeartbeats 1600000 in
theorem markMb_it (A : Ma) (m : Mb) (k0 lo hi : Nat) (w : World) (h : It w (mbCels m) (mbVals A m) lo hi) (hlo : lo ≤ w.heap.size) (hh : hi ≤ w.heap.size) (hk1 : 1 ≤ k0) (hk : k0 + cntMb m ≤ 10000000) (hm : m.rows.length ≤ maxLen) :
  Calls Tryz.prog 50 #[mbV A m,.int .i64 (k0 : Int)] w fun e w' => e = .returned (.int .i64 ((k0 + cntMb m : Nat) : Int)) ∧ It w' (mbCels (mkMb m k0)) (mbVals A m) lo w'.heap.size ∧ Wrt (Iv lo hi) w w' := by
 have hb := oneA16 w (.cells (mbC A m) 27)
 have hx := Bx.new w 27 (mbC A m)
 obtain ⟨fp,hl,hfp⟩ := h.below hb
 obtain ⟨f1,f2,o1,o2,hd,hi2⟩ := owL_two hl
 have HF1 : Hid (∀ b,f1 b → lo ≤ b ∧ b < hi) := fun b hb => hfp b ((hi2 b).2 (.inl hb))
 have HF2 : Hid (∀ b,f2 b → lo ≤ b ∧ b < hi) := fun b hb => hfp b ((hi2 b).2 (.inr hb))
 have HD : Hid (∀ b,f1 b → ¬ f2 b) := hd
 obtain ⟨id,n,rows,sung,done⟩ := m
 obtain ⟨ra,rc,sa,sc⟩ := A
 unfold cntMb at hk ⊢
 simp only at hk hm o1 o2 ⊢
 unfold mbV
 unfold mbC at *
 simp only at *
 have HW0 : Hid (Wrt (Iv lo hi) w (w.alloc (.cells #[.int .i64 id,.int .i64 n,.slice ra rows.length rc,.slice sa sung.length sc,.bool done] 27))) := Wrt.of_below hb
 have hws := hb.size
 generalize hWW : w.alloc (.cells #[.int .i64 id,.int .i64 n,.slice ra rows.length rc,.slice sa sung.length sc,.bool done] 27) = W at *
 have HX : Hid (∀ X,Wrt f1 W X → Bx X w.heap.size 27 #[.int .i64 id,.int .i64 n,.slice ra rows.length rc,.slice sa sung.length sc,.bool done]) := fun X hX => hx.wrt hX (fun k => by have := (HF1.out _ k).2;omega)
 obtain ⟨c0,c1,c2,c3,c4⟩ := Bx.r5 (HX.out W (Wrt.refl _ _))
 obtain ⟨KR,hKR⟩ : ∃ KR : Nat,Hid (KR = k0 + cP rows rows.length) := ⟨_,rfl⟩
 have hM1 := markRs_ow ra rc k0 rows f1 W o1 hk1 (by omega) hm
 rw [← hKR.out] at hM1
 have HO2 : Hid (Cel.ow W (icl sung) (.slice sa sung.length sc) f2) := o2
 have hsb : sung.length ≤ 10000000 := by omega
 have HKb : Hid (KR + sung.length ≤ 10000000) := by have := hKR.out;rw [Hid];omega
 clear h hl hfp hi2 o1 o2 hx hb hd hk
 go_enter Tryz.func50,Tryz.ntmps50
 go_wp2_with fail
 refine hM1.mono ?_
 rintro e X1 ⟨rfl,g1,q1,hg1,hw1⟩
 have HQ1 : Hid (Cel.ow X1 (lcl 8 rw8 (mkP rows k0 rows.length)) (.slice ra rows.length rc) g1) := q1
 have HG1 : Hid (∀ b,g1 b → f1 b ∨ W.heap.size ≤ b) := hg1
 have HW1 : Hid (Wrt f1 W X1) := hw1
 have p2 := Cel.ow_wrt HO2.out hw1 (fun b hb k => HD.out b k hb)
 have hM2 := markI_ow _ KR sung f2 X1 p2 (by have := HKb.out;omega) hsb
 have hK2 : (KR : Int) + (sung.length : Int) = ((KR + sung.length : Nat) : Int) := by omega
 rw [hK2] at hM2
 clear c0 c1 c2 c3 c4
 obtain ⟨c0,c1,c2,c3,c4⟩ := Bx.r5 (HX.out X1 hw1)
 clear hM1 q1 hg1 hw1 p2 hk1 hsb hK2
 go_wp2_with fail
 refine hM2.mono ?_
 rintro e X2 ⟨rfl,q2,hw2⟩
 have hs1 := HW1.out.size
 have hs2 := hw2.size
 have HE : Hid (It X2 (mbCels (mkMb ⟨id,n,rows,sung,done⟩ k0)) [.slice ra rows.length rc,.slice sa sung.length sc] lo X2.heap.size) := by
  have hd2 : ∀ b,g1 b → ¬ f2 b := fun b h1 h2 => by
   rcases HG1.out b h1 with h | h
   ·exact HD.out b h h2
   ·have := (HF2.out b h2).2;omega
  have o1' := Cel.ow_wrt HQ1.out hw2 (fun b hb k => hd2 b hb k)
  rw [hKR.out] at q2
  refine ⟨_,owL_both o1' q2 hd2,fun b hb => ?_⟩
  have hlt : b < X2.heap.size := owL_lt (owL_both o1' q2 hd2) b hb
  rcases hb with hb | hb
  ·rcases HG1.out b hb with h | h
   ·exact ⟨(HF1.out b h).1,hlt⟩
   ·exact ⟨by omega,hlt⟩
  ·exact ⟨(HF2.out b hb).1,hlt⟩
 have HWf : Hid (Wrt (Iv lo hi) w X2) := (HW0.out.trans (HW1.out.mono (fun b _ h => HF1.out b h)) (fun _ _ h => h)).trans (hw2.mono (fun b _ h => HF2.out b h)) (fun _ _ h => h)
 clear hM2 q2 hw2 c0 c1 c2 c3 c4
 go_wp2
 go_ret
 exact ⟨ret_int (by rw [hKR.out];omega),HE.out,HWf.out⟩
set_option maxRecDepth 100000 in
set_option maxHeartbeats 1600000 in
theorem heldMb_it (A : Ma) (m : Mb) (k0 lo hi : Nat) (w : World) (h : It w (mbCels (mkMb m k0)) (mbVals A m) lo hi) (hk1 : 1 ≤ k0) (hk : k0 + cntMb m ≤ 10000000) (hm : m.rows.length ≤ maxLen) :
  Calls Tryz.prog 51 #[mbV A m,.int .i64 (k0 : Int)] w fun e w' => e = .returned (.int .i64 ((k0 + cntMb m : Nat) : Int)) ∧ Below w.heap.size w w' := by
 have hb := oneA16 w (.cells (mbC A m) 27)
 have hx := Bx.new w 27 (mbC A m)
 obtain ⟨fp,hl,hfp⟩ := h.below hb
 obtain ⟨f1,f2,o1,o2,hd,hi2⟩ := owL_two hl
 obtain ⟨id,n,rows,sung,done⟩ := m
 obtain ⟨ra,rc,sa,sc⟩ := A
 unfold cntMb at hk ⊢
 unfold mkMb at o1 o2
 simp only at hk hm o1 o2 ⊢
 unfold mbV
 unfold mbC at *
 simp only at *
 generalize hWW : w.alloc (.cells #[.int .i64 id,.int .i64 n,.slice ra rows.length rc,.slice sa sung.length sc,.bool done] 27) = W at *
 have HB0 : Hid (Below w.heap.size w W) := hb
 obtain ⟨c0,c1,c2,c3,c4⟩ := Bx.r5 hx
 have HX : Hid (Bx W w.heap.size 27 #[.int .i64 id,.int .i64 n,.slice ra rows.length rc,.slice sa sung.length sc,.bool done]) := hx
 obtain ⟨KR,hKR⟩ : ∃ KR : Nat,Hid (KR = k0 + cP rows rows.length) := ⟨_,rfl⟩
 have hM1 := heldRs_ow ra rc k0 rows f1 W o1 hk1 (by omega) hm
 rw [← hKR.out] at hM1
 rw [← hKR.out] at o2
 have HO2 : Hid (Cel.ow W (icl (marks sung.length KR)) (.slice sa sung.length sc) f2) := o2
 have hsb : sung.length ≤ 10000000 := by omega
 have HKb : Hid (KR + sung.length ≤ 10000000) := by have := hKR.out;rw [Hid];omega
 clear h hl hfp hi2 o1 o2 hx hb hd hk
 go_enter Tryz.func51,Tryz.ntmps51
 go_wp2_with fail
 refine hM1.mono ?_
 rintro e X1 ⟨rfl,hb1⟩
 have HB1 : Hid (Below w.heap.size w X1) := HB0.out.trans (hb1.mono HB0.out.size)
 have hM2 := heldI_ow _ KR sung.length f2 X1 (Cel.ow_below HO2.out hb1) (by have := HKb.out;omega) hsb
 have hK2 : (KR : Int) + (sung.length : Int) = ((KR + sung.length : Nat) : Int) := by omega
 rw [hK2] at hM2
 clear c0 c1 c2 c3 c4
 obtain ⟨c0,c1,c2,c3,c4⟩ := Bx.r5 (HX.out.below hb1)
 have p1 : ¬ ((KR : Int) < 0) := by omega
 have p2 : ¬ (((KR + sung.length : Nat) : Int) < 0) := by omega
 clear hM1 hb1 hk1 hsb hK2
 go_wp2_with fail
 refine hM2.mono ?_
 rintro e X2 ⟨rfl,hx2⟩
 obtain rfl := hx2.symm
 clear hM2 hx2 c0 c1 c2 c3 c4
 go_wp2
 go_ret
 exact ⟨ret_int (by rw [hKR.out];omega),HB1.out⟩
end Go.Proofs.YthioodpmgifomaaGreat
namespace Go.Proofs.YthioodpmgifomaaGreat
set_option linter.unusedVariables false
set_option linter.unusedSimpArgs false
open Go.RowKit Go.Sort
set_option maxRecDepth 100000 in
set_option maxHeartbeats 3200000 in
theorem eqRs_any (a a' : Option Addr) (cap cap' : Nat) (R : List Rw) (w : World) (hv : Cel.vw w (lcl 8 rw8 R) (.slice a R.length cap)) (hu : Cel.vw w (lcl 8 rw8 R) (.slice a' R.length cap')) (hf : ∀ r ∈ R,FitR r) (hm : R.length ≤ maxLen) :
  Calls Tryz.prog 105 #[.slice a R.length cap,.slice a' R.length cap'] w fun e w' => e = .returned (.bool true) ∧ Below w.heap.size w w' := by
 have HV : Hid (Cel.vw w (lcl 8 rw8 R) (.slice a R.length cap)) := hv
 have HU : Hid (Cel.vw w (lcl 8 rw8 R) (.slice a' R.length cap')) := hu
 have hbb : ((R.length : Int) != (R.length : Int)) = false := by simp
 unfold maxLen at hm
 clear hv hu
 go_enter Tryz.func105,Tryz.ntmps105
 go_wp2_with fail
 go_loopw [5] (fun v wr => ∃ k : Nat,k ≤ R.length ∧ v = .int .i64 (k : Int) ∧ Below w.heap.size w wr) (fun v _ => R.length - (intOf v).toNat)
 case atStart => exact ⟨0,Nat.zero_le _,rfl,Below.refl _ _⟩
 case round =>
  obtain ⟨k,hk,rfl,hb⟩ := hrel
  by_cases hlt : k < R.length
  ·have k1 : (k : Int) < (R.length : Int) := by omega
   have k0 : (0 : Int) ≤ (k : Int) := by omega
   have hmem : rowN R k ∈ R := rowN_mem hlt
   have hkx : R[k]? = some (rowN R k) := by simp [rowN,List.getD,hlt]
   obtain ⟨g,off,hra,hpv⟩ := vw_elF rw8_len (Cel.vw_below HV.out hb) hkx
   obtain ⟨g',off',hra',hpv'⟩ := vw_elF rw8_len (Cel.vw_below HU.out hb) hkx
   obtain ⟨A,⟨⟨d0,d1,d2,d3⟩,d4,d5,d6,d7⟩,hrs⟩ := hpv.row (hf _ hmem)
   obtain ⟨A',⟨⟨e0,e1,e2,e3⟩,e4,e5,e6,e7⟩,hrs'⟩ := hpv'.row (hf _ hmem)
   subst hra hra'
   have C : ∀ q : Bk wr,Calls Tryz.prog 169 #[rwV A (rowN R k),rwV A' (rowN R k)] q.w fun e w' => e = .returned (.bool true) ∧ Below q.w.heap.size q.w w' := fun q => eqRw_any A A' _ q.w (hrs.below q.h) (hrs'.below q.h)
   unfold rwV rwC at C
   have T : ∀ {x v},wr.cell? x = some v → ∀ q : Bk wr,q.w.cell? x = some v := fun h q => (q.h.cell (World.block_lt_of_cell? _ _ h)).trans h
   have dp0 := T d0
   have dp1 := T d1
   have dp2 := T d2
   have dp3 := T d3
   have dp4 := T d4
   have dp5 := T d5
   have dp6 := T d6
   have dp7 := T d7
   have ep0 := T e0
   have ep1 := T e1
   have ep2 := T e2
   have ep3 := T e3
   have ep4 := T e4
   have ep5 := T e5
   have ep6 := T e6
   have ep7 := T e7
   have HB : Hid (Below w.heap.size w wr) := hb
   generalize rowN R k = r at *
   clear hrs hrs' hpv hpv' hb T d0 d1 d2 d3 d4 d5 d6 d7 e0 e1 e2 e3 e4 e5 e6 e7 hkx
   go_wp2_with fail
   refine wp_region_bk (by kernel_rfl) (by kernel_rfl) ?_
   repeat (go_big_quiet_step ((first | (go_at_call 169;exact bk_call _ (C _)) | rfl)))
   refine wpQuiet_nil ?_
   intro wE hw'
   obtain ⟨⟨w11,hb11⟩,hw''⟩ := hw'
   have hwe : wE = w11 := hw''
   clear hw''
   subst hwe
   have HB1 : Hid (Below w.heap.size w wE) := HB.out.trans (hb11.mono HB.out.size)
   clear C hb11 dp0 dp1 dp2 dp3 dp4 dp5 dp6 dp7 ep0 ep1 ep2 ep3 ep4 ep5 ep6 ep7
   go_wp2
   go_roundw
   case rel => exact ⟨k + 1,by omega,by go_num,HB1.out⟩
   case measure => simp [intOf];omega
  ·have k1 : ¬ ((k : Int) < (R.length : Int)) := by omega
   have HB : Hid (Below w.heap.size w wr) := hb
   clear hb
   go_wp2
   go_ret
   exact ⟨rfl,HB.out⟩
set_option maxRecDepth 100000 in
set_option maxHeartbeats 3200000 in
theorem eqMb_any (A D : Ma) (m : Mb) (w : World) (hv : MbS w A m) (hu : MbS w D m) :
  Calls Tryz.prog 49 #[mbV A m,mbV D m] w fun e w' => e = .returned (.bool true) ∧ Below w.heap.size w w' := by
 have hB0 : Below w.heap.size w ((w.alloc (.cells #[.int .i64 m.id,.int .i64 m.n,.slice A.ra m.rows.length A.rc,.slice A.sa m.sung.length A.sc,.bool m.done] 27)).alloc (.cells #[.int .i64 m.id,.int .i64 m.n,.slice D.ra m.rows.length D.rc,.slice D.sa m.sung.length D.sc,.bool m.done] 27)) := (oneA16 w _).trans ((oneA16 _ _).mono (oneA16 w _).size)
 have hx : Bx ((w.alloc (.cells #[.int .i64 m.id,.int .i64 m.n,.slice A.ra m.rows.length A.rc,.slice A.sa m.sung.length A.sc,.bool m.done] 27)).alloc (.cells #[.int .i64 m.id,.int .i64 m.n,.slice D.ra m.rows.length D.rc,.slice D.sa m.sung.length D.sc,.bool m.done] 27)) w.heap.size 27 #[.int .i64 m.id,.int .i64 m.n,.slice A.ra m.rows.length A.rc,.slice A.sa m.sung.length A.sc,.bool m.done] := (Bx.new w _ _).alloc _
 have hy : Bx ((w.alloc (.cells #[.int .i64 m.id,.int .i64 m.n,.slice A.ra m.rows.length A.rc,.slice A.sa m.sung.length A.sc,.bool m.done] 27)).alloc (.cells #[.int .i64 m.id,.int .i64 m.n,.slice D.ra m.rows.length D.rc,.slice D.sa m.sung.length D.sc,.bool m.done] 27)) (w.heap.size + 1) 27 #[.int .i64 m.id,.int .i64 m.n,.slice D.ra m.rows.length D.rc,.slice D.sa m.sung.length D.sc,.bool m.done] := by
  have := Bx.new (w.alloc (.cells #[.int .i64 m.id,.int .i64 m.n,.slice A.ra m.rows.length A.rc,.slice A.sa m.sung.length A.sc,.bool m.done] 27)) 27 #[.int .i64 m.id,.int .i64 m.n,.slice D.ra m.rows.length D.rc,.slice D.sa m.sung.length D.sc,.bool m.done]
  simpa using this
 have h0 := hv.below hB0
 have g0 := hu.below hB0
 have hR := eqRs_any A.ra D.ra A.rc D.rc m.rows _ h0.rows g0.rows h0.fit h0.mr
 have hE : ∀ X,Below w.heap.size w X → Calls Tryz.prog 106 #[.slice A.sa m.sung.length A.sc,.slice D.sa m.sung.length D.sc] X fun e w' => e = .returned (.bool true) ∧ Below X.heap.size X w' := fun X h => (eq_any A.sa D.sa m.sung.length A.sc m.sung.length D.sc m.sung m.sung X (hv.sung.below h (Nat.le_refl _)) (hu.sung.below h (Nat.le_refl _)) hv.ms).mono (fun e w' ⟨h4,n,h5⟩ => ⟨by rw [h4];simp,by rw [h5];exact belowN (Below.refl _ _)⟩)
 unfold mbV mbC
 generalize hWW : (w.alloc (.cells #[.int .i64 m.id,.int .i64 m.n,.slice A.ra m.rows.length A.rc,.slice A.sa m.sung.length A.sc,.bool m.done] 27)).alloc (.cells #[.int .i64 m.id,.int .i64 m.n,.slice D.ra m.rows.length D.rc,.slice D.sa m.sung.length D.sc,.bool m.done] 27) = W at *
 have n1 : (m.id != m.id) = false := by simp
 have n2 : (m.n != m.n) = false := by simp
 have n3 : (m.done != m.done) = false := by simp
 have HX : Hid (Bx W w.heap.size 27 #[.int .i64 m.id,.int .i64 m.n,.slice A.ra m.rows.length A.rc,.slice A.sa m.sung.length A.sc,.bool m.done]) := hx
 have HY : Hid (Bx W (w.heap.size + 1) 27 #[.int .i64 m.id,.int .i64 m.n,.slice D.ra m.rows.length D.rc,.slice D.sa m.sung.length D.sc,.bool m.done]) := hy
 have HB : Hid (Below w.heap.size w W) := hB0
 obtain ⟨c0,c1,c2,c3,c4⟩ := Bx.r5 hx
 obtain ⟨d0,d1,d2,d3,d4⟩ := Bx.r5 hy
 clear hv hu h0 g0 hB0 hx hy
 go_enter Tryz.func49,Tryz.ntmps49
 go_wp2_with fail
 refine hR.mono ?_
 rintro e w1 ⟨rfl,hb1⟩
 have HB1 : Hid (Below w.heap.size w w1) := HB.out.trans (hb1.mono HB.out.size)
 have HX1 : Hid (Bx w1 w.heap.size 27 #[.int .i64 m.id,.int .i64 m.n,.slice A.ra m.rows.length A.rc,.slice A.sa m.sung.length A.sc,.bool m.done]) := HX.out.below hb1
 have HY1 : Hid (Bx w1 (w.heap.size + 1) 27 #[.int .i64 m.id,.int .i64 m.n,.slice D.ra m.rows.length D.rc,.slice D.sa m.sung.length D.sc,.bool m.done]) := HY.out.below hb1
 clear c0 c1 c2 c3 c4 d0 d1 d2 d3 d4 hR hb1
 obtain ⟨c0,c1,c2,c3,c4⟩ := Bx.r5 HX1.out
 obtain ⟨d0,d1,d2,d3,d4⟩ := Bx.r5 HY1.out
 go_wp2_with fail
 refine (hE _ HB1.out).mono ?_
 rintro e w2 ⟨rfl,hb2⟩
 have HB2 : Hid (Below w.heap.size w w2) := HB1.out.trans (hb2.mono HB1.out.size)
 clear c0 c1 c2 c3 c4 d0 d1 d2 d3 d4 hE
 obtain ⟨c0,c1,c2,c3,c4⟩ := Bx.r5 (HX1.out.below hb2)
 obtain ⟨d0,d1,d2,d3,d4⟩ := Bx.r5 (HY1.out.below hb2)
 clear hb2
 go_wp2
 go_ret
 exact ⟨rfl,HB2.out⟩
end Go.Proofs.YthioodpmgifomaaGreat
namespace Go.Proofs.YthioodpmgifomaaGreat
set_option linter.unusedVariables false
set_option linter.unusedSimpArgs false
open Go.RowKit Go.Sort
end Go.Proofs.YthioodpmgifomaaGreat
namespace Go.Proofs.YthioodpmgifomaaGreat
set_option linter.unusedVariables false
set_option linter.unusedSimpArgs false
open Go.RowKit Go.Sort
def dbtM (m : Mb) (who : Int) : Mb × Bool := if okMb m = true then doubtMb m who else (zeroMb,false)
theorem Bx.pc {w : World} {B : Nat} {T : TypeId} {cs : Array Value} (h : Bx w B T cs) : Pc w B 0 cs.toList :=
 ⟨fun j hj => by
  have hj' : j < cs.size := by simpa using hj
  rw [Nat.zero_add,h.at j (Array.getElem?_eq_getElem hj')]
  simp [hj'],fun j _ => by rw [Nat.zero_add];exact h.f j,h.lt⟩
theorem box_plc {w : World} {B : Nat} {T : TypeId} {A : Ma} {m : Mb} {fp : Fp} (h : Bx w B T (mbC A m)) (hl : owL w (mbCels m) (mbVals A m) fp) (hB : ¬ fp B) : Plc w B 0 (mb5 m) fp := ⟨_,h.pc,ow_mb5 hl,hB⟩
theorem box_done {w X Y : World} {B r : Nat} {m : Mb} {fp : Fp} (h : Bcm X Y B 0 (mb5 m) fp) (hf : ∀ b,fp b → w.heap.size ≤ b ∧ b ≠ r) (hB : w.heap.size ≤ B) (hrB : r ≠ B) (hr : w.heap.size ≤ r) (hrX : r < X.heap.size) (hw : Below w.heap.size w X) {T : TypeId} {Z : Array Value} (hz : Bx X r T Z) : ∃ A : Ma,C5 Y B 0 (.int .i64 m.id) (.int .i64 m.n) (.slice A.ra m.rows.length A.rc) (.slice A.sa m.sung.length A.sc) (.bool m.done) ∧ Bx Y r T Z ∧
  ∀ {a b c d e : Value},NewL w (((((Y.setCell ⟨r,0,none⟩ a).setCell ⟨r,1,none⟩ b).setCell ⟨r,2,none⟩ c).setCell ⟨r,3,none⟩ d).setCell ⟨r,4,none⟩ e) (mbCels m) (mbVals A m) := by
 obtain ⟨fp1,hp,hs,_⟩ := h.next
 obtain ⟨vs,hpc,hov,hnB⟩ := hp
 obtain ⟨A,rfl,hl⟩ := mb5_ow hov
 have hl5 : (mbC A m).toList.length = 5 := rfl
 have c := hpc.cell
 have hXs := hw.size
 have hfp : ∀ b,fp1 b → w.heap.size ≤ b ∧ b ≠ r := fun b hb => by
  rcases hs b hb with k | k
  ·exact hf b k
  ·exact ⟨by omega,by omega⟩
 have hbY : Below w.heap.size w Y := h.wrt.below hw hXs (fun b hb => by
  rcases hb with hb | hb
  ·exact (hf b hb).1
  ·omega)
 refine ⟨A,⟨c 0 (by rw [hl5];omega),c 1 (by rw [hl5];omega),c 2 (by rw [hl5];omega),c 3 (by rw [hl5];omega),c 4 (by rw [hl5];omega)⟩,hz.wrt h.wrt (fun k => by
  rcases k with k | k
  ·exact (hf r k).2 rfl
  ·exact hrB k),fun {a b c d e} => ⟨fp1,owL_wrt hl (wrt5 Y r) (fun b hb e => (hfp b hb).2 e),fun b hb => (hfp b hb).1,(wrt5 Y r).below hbY hbY.size (fun b e => by omega)⟩⟩
attribute [local irreducible] sv
set_option maxRecDepth 100000 in
set_option maxHeartbeats 3200000 in
theorem dbtS_any (A : Ma) (m : Mb) (who : Int) (w : World) (hv : MbS w A m) :
  Calls Tryz.prog 22 #[mbV A m,.int .i64 who] w fun e w' => AnsMf w w' e (dbtM m who).1 (dbtM m who).2 := by
 have hb0 : Below w.heap.size w ((w.alloc (.cells #[.int .i64 m.id,.int .i64 m.n,.slice A.ra m.rows.length A.rc,.slice A.sa m.sung.length A.sc,.bool m.done] 27)).alloc (.cells #[.int .i64 0,.int .i64 0,.slice none 0 0,.slice none 0 0,.bool false] 27)) := (oneA16 w _).trans ((oneA16 _ _).mono (oneA16 w _).size)
 have hx0 : Bx ((w.alloc (.cells #[.int .i64 m.id,.int .i64 m.n,.slice A.ra m.rows.length A.rc,.slice A.sa m.sung.length A.sc,.bool m.done] 27)).alloc (.cells #[.int .i64 0,.int .i64 0,.slice none 0 0,.slice none 0 0,.bool false] 27)) w.heap.size 27 #[.int .i64 m.id,.int .i64 m.n,.slice A.ra m.rows.length A.rc,.slice A.sa m.sung.length A.sc,.bool m.done] := (Bx.new w _ _).alloc _
 have hz0 : Bx ((w.alloc (.cells #[.int .i64 m.id,.int .i64 m.n,.slice A.ra m.rows.length A.rc,.slice A.sa m.sung.length A.sc,.bool m.done] 27)).alloc (.cells #[.int .i64 0,.int .i64 0,.slice none 0 0,.slice none 0 0,.bool false] 27)) (w.heap.size + 1) 27 #[.int .i64 0,.int .i64 0,.slice none 0 0,.slice none 0 0,.bool false] := by
  have := Bx.new (w.alloc (.cells #[.int .i64 m.id,.int .i64 m.n,.slice A.ra m.rows.length A.rc,.slice A.sa m.sung.length A.sc,.bool m.done] 27)) 27 #[.int .i64 0,.int .i64 0,.slice none 0 0,.slice none 0 0,.bool false]
  simp only [World.size_alloc] at this
  exact this
 have hv0 := hv.below hb0
 unfold mbV mbC
 generalize hWW : (w.alloc (.cells #[.int .i64 m.id,.int .i64 m.n,.slice A.ra m.rows.length A.rc,.slice A.sa m.sung.length A.sc,.bool m.done] 27)).alloc (.cells #[.int .i64 0,.int .i64 0,.slice none 0 0,.slice none 0 0,.bool false] 27) = W0 at *
 have hK := mbkS_any A m W0 hv0
 unfold mbV mbC at hK
 have HX0 : Hid (Bx W0 w.heap.size 27 #[.int .i64 m.id,.int .i64 m.n,.slice A.ra m.rows.length A.rc,.slice A.sa m.sung.length A.sc,.bool m.done]) := hx0
 have HZ0 : Hid (Bx W0 (w.heap.size + 1) 27 #[.int .i64 0,.int .i64 0,.slice none 0 0,.slice none 0 0,.bool false]) := hz0
 have HV0 : Hid (MbS W0 A m) := hv0
 have HB0 : Hid (Below w.heap.size w W0) := hb0
 obtain ⟨c0,c1,c2,c3,c4⟩ := Bx.r5 hx0
 clear hv hb0 hx0 hz0 hv0
 cases hok : okMb m with
 | false =>
  have HZ : Hid (dbtM m who = (zeroMb,false)) := by rw [Hid,dbtM,hok];rfl
  rw [hok] at hK
  clear hok
  go_enter Tryz.func22,Tryz.ntmps22
  go_wp2_with fail
  refine hK.mono ?_
  rintro e w1 ⟨rfl,hb1⟩
  have hz1 := HZ0.out.below hb1
  have HB1 : Hid (Below w.heap.size w w1) := HB0.out.trans (hb1.mono HB0.out.size)
  obtain ⟨z0,z1,z2,z3,z4⟩ := Bx.r5 hz1
  obtain ⟨f0,f1,f2,f3,f4⟩ := hz1.f5
  clear hz1 hb1 c0 c1 c2 c3 c4 hK
  go_wp2
  refine bodyPost_ret (v := .tuple #[mbV ⟨none,0,none,0⟩ zeroMb,.bool false]) (by simp [results,Tryz.results22,go_sem,mbV,mbC,zeroMb, *]) rfl ?_
  rw [HZ.out]
  exact ⟨_,rfl,ansM_zero ((wrt5 w1 (w.heap.size + 1)).below HB1.out HB1.out.size (fun b h => by omega))⟩
 | true =>
  have HZ : Hid (dbtM m who = doubtMb m who) := by rw [Hid,dbtM,hok];rfl
  obtain ⟨i,n,ok⟩ := okMb_iff.1 hok
  rw [hok] at hK
  clear hok
  go_enter Tryz.func22,Tryz.ntmps22
  go_wp2_with fail
  refine hK.mono ?_
  rintro e w1 ⟨rfl,hb1⟩
  have HB1 : Hid (Below w.heap.size w w1) := HB0.out.trans (hb1.mono HB0.out.size)
  have HZ1 : Hid (Bx w1 (w.heap.size + 1) 27 #[.int .i64 0,.int .i64 0,.slice none 0 0,.slice none 0 0,.bool false]) := HZ0.out.below hb1
  have hC := cpyMb_any A m w1 (HV0.out.below hb1) ok.ln
  unfold mbV mbC at hC
  clear c0 c1 c2 c3 c4 hK
  obtain ⟨c0,c1,c2,c3,c4⟩ := Bx.r5 (HX0.out.below hb1)
  clear hb1
  go_wp2_with fail
  refine hC.mono ?_
  rintro e w2 ⟨A2,rfl,fp,hl2,hf2,hb2⟩
  have hlt2 := owL_lt hl2
  have HB2 : Hid (Below w.heap.size w w2) := HB1.out.trans (hb2.mono HB1.out.size)
  have hba := oneA16 w2 (.cells #[.int .i64 m.id,.int .i64 m.n,.slice A2.ra m.rows.length A2.rc,.slice A2.sa m.sung.length A2.sc,.bool m.done] 27)
  have hxb := Bx.new w2 27 #[.int .i64 m.id,.int .i64 m.n,.slice A2.ra m.rows.length A2.rc,.slice A2.sa m.sung.length A2.sc,.bool m.done]
  have hP : Plc (w2.alloc (.cells #[.int .i64 m.id,.int .i64 m.n,.slice A2.ra m.rows.length A2.rc,.slice A2.sa m.sung.length A2.sc,.bool m.done] 27)) w2.heap.size 0 (mb5 m) fp := box_plc hxb (owL_below hl2 hba) (fun k => by have := hlt2 _ k;omega)
  have HZ3 : Hid (Bx (w2.alloc (.cells #[.int .i64 m.id,.int .i64 m.n,.slice A2.ra m.rows.length A2.rc,.slice A2.sa m.sung.length A2.sc,.bool m.done] 27)) (w.heap.size + 1) 27 #[.int .i64 0,.int .i64 0,.slice none 0 0,.slice none 0 0,.bool false]) := (HZ1.out.below hb2).below hba
  have HB3 : Hid (Below w.heap.size w (w2.alloc (.cells #[.int .i64 m.id,.int .i64 m.n,.slice A2.ra m.rows.length A2.rc,.slice A2.sa m.sung.length A2.sc,.bool m.done] 27))) := HB2.out.trans (hba.mono HB2.out.size)
  have hr1 : (w.heap.size + 1) < w1.heap.size := HZ1.out.lt
  have hs2 := hb2.size
  have hS := dbtSp_any w2.heap.size 0 m i n who fp _ hP ok
  unfold mbV mbC
  generalize hV3 : w2.alloc (.cells #[.int .i64 m.id,.int .i64 m.n,.slice A2.ra m.rows.length A2.rc,.slice A2.sa m.sung.length A2.sc,.bool m.done] 27) = V3 at *
  have HF2 : Hid (∀ b,fp b → w1.heap.size ≤ b) := hf2
  have hB3 : w2.heap.size < V3.heap.size := hxb.lt
  clear hxb hP hl2 hf2 hlt2 hb2 hba c0 c1 c2 c3 c4 hC
  go_wp2_with fail
  refine hS.mono ?_
  rintro e Y ⟨rfl,hBc⟩
  have hsw := HB1.out.size
  obtain ⟨A3,⟨y0,y1,y2,y3,y4⟩,hz3,HN⟩ := box_done (w := w) (r := (w.heap.size + 1)) hBc (fun b hb => by have := HF2.out b hb;exact ⟨by omega,by omega⟩) (by omega) (by omega) (by omega) (by have := HZ3.out.lt;omega) HB3.out HZ3.out
  simp only [Nat.zero_add] at y0 y1 y2 y3 y4
  obtain ⟨z0,z1,z2,z3,z4⟩ := Bx.r5 hz3
  obtain ⟨f0,f1,f2,f3,f4⟩ := hz3.f5
  have HNN : Hid (∀ {a b c d e : Value},NewL w (((((Y.setCell ⟨(w.heap.size + 1),0,none⟩ a).setCell ⟨(w.heap.size + 1),1,none⟩ b).setCell ⟨(w.heap.size + 1),2,none⟩ c).setCell ⟨(w.heap.size + 1),3,none⟩ d).setCell ⟨(w.heap.size + 1),4,none⟩ e) (mbCels (doubtMb m who).1) (mbVals A3 (doubtMb m who).1)) := HN
  generalize hpm : doubtMb m who = pm at *
  clear hS hBc HN hz3 hpm
  go_wp2
  refine bodyPost_ret (v := .tuple #[mbV A3 pm.1,.bool pm.2]) (by simp [results,Tryz.results22,go_sem,mbV,mbC, *]) rfl ?_
  rw [HZ.out]
  exact ⟨_,rfl,HNN.out⟩
end Go.Proofs.YthioodpmgifomaaGreat
namespace Go.Proofs.YthioodpmgifomaaGreat
set_option linter.unusedVariables false
set_option linter.unusedSimpArgs false
open Go.RowKit Go.Sort
def AnsL (w w' : World) (e : Ending) (Z : List Int) : Prop := ∃ a c,e = .returned (.slice a Z.length c) ∧ NewO w w' (icl Z) (.slice a Z.length c)
end Go.Proofs.YthioodpmgifomaaGreat
namespace Go.Proofs.YthioodpmgifomaaGreat
set_option linter.unusedVariables false
set_option linter.unusedSimpArgs false
open Go.RowKit Go.Sort
end Go.Proofs.YthioodpmgifomaaGreat
namespace Go.Proofs.YthioodpmgifomaaGreat
set_option linter.unusedVariables false
set_option linter.unusedSimpArgs false
open Go.RowKit Go.Sort
theorem learnS_take {id : Nat} {s r : List Int} {j : Nat} (hj : j < r.length) : learnS id s (r.take (j + 1)) = if el r j = (id : Int) then learnS id s (r.take j) else putL (learnS id s (r.take j)) (el r j) := by
 have e : el r j = r[j] := by simp [el,hj]
 unfold learnS
 rw [List.take_succ_eq_append_getElem hj,List.foldl_append,e]
 rfl
theorem learnS_ris {id : Nat} : ∀ {r s : List Int},s.Pairwise (· < ·) → (learnS id s r).Pairwise (· < ·)
 | [],s,h => h
 | x :: r,s,h => by
  have ih := learnS_ris (id := id) (r := r) (s := if x = (id : Int) then s else putL s x)
  unfold learnS at ih ⊢
  rw [List.foldl_cons]
  apply ih
  split
  ·exact h
  ·exact putL_rises h
end Go.Proofs.YthioodpmgifomaaGreat
namespace Go.Proofs.YthioodpmgifomaaGreat
set_option linter.unusedVariables false
set_option linter.unusedSimpArgs false
open Go.RowKit Go.Sort
theorem vec_of_ow {w : World} {a : Option Addr} {c : Nat} {Z : List Int} {f : Fp} (h : Cel.ow w (icl Z) (.slice a Z.length c) f) (hf : Fits Z) : Vec w a Z.length Z := by
 obtain ⟨a',c',e,hv,_⟩ := vw_icl (Cel.ow_vw h) hf
 cases e
 exact hv
end Go.Proofs.YthioodpmgifomaaGreat
namespace Go.Proofs.YthioodpmgifomaaGreat
set_option linter.unusedVariables false
set_option linter.unusedSimpArgs false
open Go.RowKit Go.Sort
end Go.Proofs.YthioodpmgifomaaGreat
namespace Go.Proofs.YthioodpmgifomaaGreat
set_option linter.unusedVariables false
set_option linter.unusedSimpArgs false
open Go.RowKit Go.Sort
theorem vec_copied {X : World} {x : Option Addr} {c : Nat} {xs : List Int} (hv : Vec X x xs.length xs) (hl : xs.length ≤ 1000000) :
  ∀ Z,Same Z (X.alloc (.cells #[] 2)) → ∃ v' w4,(Builtin.append_ #[25,25] 25 #[.slice (some ⟨X.heap.size,0,none⟩) 0 0,.slice x xs.length c]).run Tryz.prog Z = .ok v' w4 ∧ ∃ a' c' f',v' = .slice a' xs.length c' ∧ Cel.ow w4 (icl xs) v' f' ∧ (∀ b,f' b → X.heap.size ≤ b) ∧ Below X.heap.size X w4 := by
 intro Z hZ
 obtain ⟨i0,hi0,hz0,hz1,hz2⟩ := info_parts2n Tryz.info2n
 have hbZ : Below X.heap.size X Z := (oneA16 X _).trans (hZ.below.mono (oneA16 X _).size)
 obtain ⟨a6,c6,w6,fp6,hr6,ho6,hw6,hf6⟩ := ints_copied (P := Tryz.prog) (w := Z) 25 25 2 i0 Tryz.underlying25 hi0 hz0 hz1 hz2 (plainS X.heap.size 0) (x := x) (c := c) (hv.below hbZ (Nat.le_refl _)) hl
 exact ⟨_,w6,hr6,a6,c6,fp6,rfl,ho6,fun b hb => by have := hf6 b hb;have := hbZ.size;omega,hw6.below hbZ hbZ.size (fun b h => h.elim)⟩
end Go.Proofs.YthioodpmgifomaaGreat
namespace Go.Proofs.YthioodpmgifomaaGreat
set_option linter.unusedSimpArgs false
set_option linter.unusedVariables false
open Go.RowKit
end Go.Proofs.YthioodpmgifomaaGreat
namespace Go.Proofs.YthioodpmgifomaaGreat
set_option linter.unusedVariables false
set_option linter.unusedSimpArgs false
open Go.RowKit Go.Sort
end Go.Proofs.YthioodpmgifomaaGreat
namespace Go.Proofs.YthioodpmgifomaaGreat
set_option linter.unusedVariables false
set_option linter.unusedSimpArgs false
open Go.RowKit Go.Sort
end Go.Proofs.YthioodpmgifomaaGreat
namespace Go.Proofs.YthioodpmgifomaaGreat
set_option linter.unusedVariables false
set_option linter.unusedSimpArgs false
open Go.RowKit Go.Sort
end Go.Proofs.YthioodpmgifomaaGreat
namespace Go.Proofs.YthioodpmgifomaaGreat
set_option linter.unusedVariables false
set_option linter.unusedSimpArgs false
open Go.RowKit Go.Sort
end Go.Proofs.YthioodpmgifomaaGreat
namespace Go.Proofs.YthioodpmgifomaaGreat
set_option linter.unusedVariables false
set_option linter.unusedSimpArgs false
open Go.RowKit Go.Sort
end Go.Proofs.YthioodpmgifomaaGreat
namespace Go.Proofs.YthioodpmgifomaaGreat
set_option linter.unusedVariables false
set_option linter.unusedSimpArgs false
open Go.RowKit Go.Sort
end Go.Proofs.YthioodpmgifomaaGreat
namespace Go.Proofs.YthioodpmgifomaaGreat
set_option linter.unusedVariables false
set_option linter.unusedSimpArgs false
open Go.RowKit Go.Sort
section
variable {w X Y Y' : World} {p : Nat} {a : Option Addr} {len cap : Nat} {bs : Nat → Int} {T : TypeId} {o : Nat} {Z C : Array Value} {cs : List Cel} {vs : List Value} {fp : Fp}
end
end Go.Proofs.YthioodpmgifomaaGreat
namespace Go.Proofs.YthioodpmgifomaaGreat
set_option linter.unusedVariables false
set_option linter.unusedSimpArgs false
open Go.RowKit Go.Sort
end Go.Proofs.YthioodpmgifomaaGreat
namespace Go.Proofs.YthioodpmgifomaaGreat
set_option linter.unusedVariables false
set_option linter.unusedSimpArgs false
open Go.RowKit Go.Sort
section
variable {w X Y Y' : World} {p : Nat} {a : Option Addr} {len cap : Nat} {bs : Nat → Int} {o : Nat} {Zr : Array Value} {A : Ra} {r : Rw} {fp : Fp}
end
end Go.Proofs.YthioodpmgifomaaGreat
namespace Go.Proofs.YthioodpmgifomaaGreat
set_option linter.unusedSimpArgs false
set_option linter.unusedVariables false
open Go.RowKit Go.Sort
attribute [local irreducible] sv
end Go.Proofs.YthioodpmgifomaaGreat
namespace Go.Proofs.YthioodpmgifomaaGreat
set_option linter.unusedVariables false
set_option linter.unusedSimpArgs false
open Go.RowKit Go.Sort
attribute [local irreducible] sv
end Go.Proofs.YthioodpmgifomaaGreat
namespace Go.Proofs.YthioodpmgifomaaGreat
set_option linter.unusedVariables false
set_option linter.unusedSimpArgs false
open Go.RowKit Go.Sort
theorem totS_le {T : List (List UInt8)} {m : Nat} (h : ∀ i,i < T.length → (T.getD i []).length ≤ m) : ∀ k,k ≤ T.length → totS T k ≤ k * m
 | 0,_ => by simp [totS]
 | k + 1,hk => by
  have := totS_le h k (by omega)
  have := h k (by omega)
  rw [totS,Nat.add_mul]
  omega
theorem owL_it {w : World} {cs : List Cel} {vs : List Value} {fp : Fp} (h : owL w cs vs fp) {lo : Nat} (hl : ∀ b,fp b → lo ≤ b) : It w cs vs lo w.heap.size := ⟨fp,h,fun b hb => ⟨hl b hb,owL_lt h b hb⟩⟩
end Go.Proofs.YthioodpmgifomaaGreat
namespace Go.Proofs.YthioodpmgifomaaGreat
set_option linter.unusedVariables false
set_option linter.unusedSimpArgs false
open Go.RowKit Go.Sort
end Go.Proofs.YthioodpmgifomaaGreat
namespace Go.Proofs.YthioodpmgifomaaGreat
set_option linter.unusedVariables false
set_option linter.unusedSimpArgs false
open Go.RowKit Go.Sort
end Go.Proofs.YthioodpmgifomaaGreat
namespace Go.Proofs.YthioodpmgifomaaGreat
set_option linter.unusedVariables false
set_option linter.unusedSimpArgs false
open Go.RowKit Go.Sort
end Go.Proofs.YthioodpmgifomaaGreat
namespace Go.Proofs.YthioodpmgifomaaGreat
set_option linter.unusedVariables false
set_option linter.unusedSimpArgs false
open Go.RowKit Go.Sort
end Go.Proofs.YthioodpmgifomaaGreat
namespace Go.Proofs.YthioodpmgifomaaGreat
set_option linter.unusedVariables false
set_option linter.unusedSimpArgs false
open Go.RowKit Go.Sort
attribute [local irreducible] sv
end Go.Proofs.YthioodpmgifomaaGreat
namespace Go.Proofs.YthioodpmgifomaaGreat
set_option linter.unusedVariables false
set_option linter.unusedSimpArgs false
open Go.RowKit Go.Sort
end Go.Proofs.YthioodpmgifomaaGreat
namespace Go.Proofs.YthioodpmgifomaaGreat
set_option linter.unusedVariables false
set_option linter.unusedSimpArgs false
open Go.RowKit Go.Sort
def Mb64 (m : Mb) : Prop := I64v m.id ∧ I64v m.n ∧ ∀ r ∈ m.rows,Rw64 r
structure MbP (w : World) (A : Ma) (m : Mb) : Prop where
 own : ∃ f,owL w (mbCels m) (mbVals A m) f
 fit : FitM m
 i64 : Mb64 m
 sz : szMb m ≤ 1048576
theorem MbS.fitM {w : World} {A : Ma} {m : Mb} (h : MbS w A m) : FitM m := ⟨h.fit,h.sung.2.1⟩
theorem it_mbs {w : World} {A : Ma} {m : Mb} {lo hi : Nat} (h : It w (mbCels m) (mbVals A m) lo hi) (hf : FitM m) : MbS w A m := mbs_of h.vw hf
theorem it_mbp {w : World} {A : Ma} {m : Mb} {lo hi : Nat} (h : It w (mbCels m) (mbVals A m) lo hi) (hf : FitM m) (h6 : Mb64 m) (hs : szMb m ≤ 1048576) : MbP w A m := ⟨h.imp (fun _ h => h.1),hf,h6,hs⟩
theorem AnsMb.it {w w' : World} {e : Ending} {m : Mb} (h : AnsMb w w' e m) : ∃ A,e = .returned (mbV A m) ∧ It w' (mbCels m) (mbVals A m) w.heap.size w'.heap.size ∧ Below w.heap.size w w' := by
 obtain ⟨A,h1,h2⟩ := h
 exact ⟨A,h1,It.of_new h2,h2.choose_spec.2.2⟩
theorem AnsMf.it {w w' : World} {e : Ending} {m : Mb} {b : Bool} (h : AnsMf w w' e m b) : ∃ A,e = .returned (.tuple #[mbV A m,.bool b]) ∧ It w' (mbCels m) (mbVals A m) w.heap.size w'.heap.size ∧ Below w.heap.size w w' := by
 obtain ⟨A,h1,h2⟩ := h
 exact ⟨A,h1,It.of_new h2,h2.choose_spec.2.2⟩
def ImplDoubt : Prop := ∀ (A : Ma) (m : Mb) (who : Int) (w : World),MbP w A m → I64v who → Calls Tryz.prog 13 #[mbV A m,.int .i64 who] w fun e w' => AnsMf w w' e (dbtM m who).1 (dbtM m who).2
theorem cnt8_le (r : Rw) : cnt8 r ≤ 4 + szRw r := by unfold cnt8 szRw;omega
theorem cP_le (R : List Rw) : ∀ k,k ≤ R.length → cP R k ≤ 4 * k + szP R k
 | 0,_ => by simp [cP]
 | k + 1,h => by
  have ih := cP_le R k (by omega)
  have := cnt8_le (rowN R k)
  rw [cP_next (by omega),szP_next (by omega)]
  omega
theorem cntMb_le4 (m : Mb) : cntMb m ≤ 4 * szMb m := by
 have := cP_le m.rows m.rows.length (Nat.le_refl _)
 unfold cntMb szMb szRs
 omega
theorem cntMb_le {m : Mb} {k : Nat} (hs : szMb m ≤ 1048576) (hk : k ≤ 1) : k + cntMb m ≤ 10000000 := by
 have := cntMb_le4 m
 omega
theorem rows_le {m : Mb} (hs : szMb m ≤ 1048576) : m.rows.length ≤ maxLen := by unfold szMb szRs at hs;unfold maxLen;omega
def SmM (m : Mb) : Prop := FitM m ∧ cntMb m ≤ 1000 ∧ m.rows.length ≤ 5 ∧ szMb m ≤ 100000
theorem sum_le (F : Rw → Nat) (c : Nat) : ∀ (R : List Rw),(∀ r ∈ R,F r ≤ c) → (R.map F).sum ≤ c * R.length
 | [],_ => by simp
 | r :: R,h => by
  have ih := sum_le F c R (fun x hx => h x (List.mem_cons_of_mem _ hx))
  have h1 := h r List.mem_cons_self
  rw [List.map_cons,List.sum_cons,List.length_cons,Nat.mul_succ]
  omega
theorem OkR.c8 {r : Rw} {n : Nat} (h : OkR r n) : cnt8 r ≤ 31 ∧ szRw r ≤ 300 := by
 have h5 := h.n5
 have h1 := h.gl
 have h2 := h.sl
 have h3 := h.ml
 have h4 := h.tl
 have h6 : totS r.txt r.txt.length ≤ r.txt.length * 20 := totS_le (fun i hi => h.ts _ (by rw [List.getD_eq_getElem?_getD,List.getElem?_eq_getElem hi];exact List.getElem_mem hi)) _ (Nat.le_refl _)
 unfold cnt8 szRw
 omega
theorem OkM.small {m : Mb} {i n : Nat} (h : OkM m i n) : SmM m := by
 have h5 := h.n5
 have hl := h.len
 have hs := h.sl
 have e1 : cP m.rows m.rows.length ≤ 31 * m.rows.length := by
  unfold cP
  rw [List.take_length]
  exact sum_le cnt8 31 m.rows (fun r hr => (h.rowOk r hr).c8.1)
 have e2 : szP m.rows m.rows.length ≤ 300 * m.rows.length := by
  unfold szP
  rw [List.take_length]
  exact sum_le szRw 300 m.rows (fun r hr => (h.rowOk r hr).c8.2)
 refine ⟨h.fit, ?_,by omega, ?_⟩
 ·unfold cntMb;omega
 ·unfold szMb szRs;omega
theorem zeroMb_small : SmM zeroMb := ⟨⟨fun r hr => absurd hr List.not_mem_nil,fun x hx => absurd hx List.not_mem_nil⟩,by simp [cntMb,cP,zeroMb],by simp [zeroMb],by simp [szMb,szRs,szP,zeroMb]⟩
theorem dbtM_small (m : Mb) (who : Int) : SmM (dbtM m who).1 := by
 unfold dbtM
 split
 ·rename_i h;obtain ⟨i,n,ok⟩ := okMb_iff.1 h;exact (doubt_loc ok who).1.small
 ·exact zeroMb_small
attribute [local irreducible] sv
end Go.Proofs.YthioodpmgifomaaGreat
namespace Go.Proofs.YthioodpmgifomaaGreat
set_option linter.unusedVariables false
set_option linter.unusedSimpArgs false
open Go.RowKit Go.Sort
attribute [local irreducible] sv
set_option maxRecDepth 100000 in
set_option maxHeartbeats 6400000 in
theorem lawDoubt (hI : ImplDoubt) (A0 : Ma) (m : Mb) (who : Int) (w : World) (hv0 : MbS w A0 m) (hg0 : ∀ r ∈ m.rows,LongT r.txt) (h60 : Mb64 m) (h61 : I64v who) :
  Calls Tryz.prog 8 #[mbV A0 m,.int .i64 who] w fun e w' => e = .returned (.bool true) ∧ Below w.heap.size w w' := by
 have hf0 : FitM m := hv0.fitM
 have hZ0 : ∀ (X : World) (left : Int),Below w.heap.size w X → (0 ≤ left ∧ left ≤ 1048576) → Calls Tryz.prog 47 #[mbV A0 m,.int .i64 left] X fun e w' => ∃ q : Int,e = .returned (.int .i64 q) ∧ (q = -1 ∨ 0 ≤ q ∧ q + (szMb m : Int) = left) ∧ Below X.heap.size X w' := fun X left hX hl => szMb_any A0 m left X (hv0.below hX) hg0 hl
 have hTo0 : szMb m ≤ 1048576 → ∀ X,Below w.heap.size w X → Calls Tryz.prog 48 #[mbV A0 m] X fun e w' => ∃ A',e = .returned (mbV A' m) ∧ It w' (mbCels m) (mbVals A' m) X.heap.size w'.heap.size ∧ Below X.heap.size X w' := fun hs X hX => (toMb_any A0 m X (hv0.below hX) hs).mono (fun e w' h => h.it)
 have hE0 : szMb m ≤ 1048576 → ∀ (X : World) (A1 A2 : Ma) {l1 h1 l2 h2 : Nat},It X (mbCels m) (mbVals A1 m) l1 h1 → It X (mbCels m) (mbVals A2 m) l2 h2 → Calls Tryz.prog 49 #[mbV A1 m,mbV A2 m] X fun e w' => e = .returned (.bool true) ∧ Below X.heap.size X w' := fun hs X A1 A2 l1 h1 l2 h2 i1 i2 => eqMb_any A1 A2 m X (it_mbs i1 hf0) (it_mbs i2 hf0)
 have hSp : szMb m ≤ 1048576 → ∀ (X : World) (B0 : Ma) {l0 u0 : Nat},It X (mbCels m) (mbVals B0 m) l0 u0 → Calls Tryz.prog 22 #[mbV B0 m,.int .i64 who] X fun e w' => ∃ A',e = .returned (.tuple #[mbV A' ((dbtM m who).1),.bool (dbtM m who).2]) ∧ It w' (mbCels ((dbtM m who).1)) (mbVals A' ((dbtM m who).1)) X.heap.size w'.heap.size ∧ Below X.heap.size X w' := fun hs0 X B0 l0 u0 i0 => (dbtS_any B0 m who X (it_mbs i0 hf0)).mono (fun e w' h => h.it)
 have hIm : szMb m ≤ 1048576 → ∀ (X : World) (B0 : Ma) {l0 u0 : Nat},It X (mbCels m) (mbVals B0 m) l0 u0 → Calls Tryz.prog 13 #[mbV B0 m,.int .i64 who] X fun e w' => ∃ A',e = .returned (.tuple #[mbV A' ((dbtM m who).1),.bool (dbtM m who).2]) ∧ It w' (mbCels ((dbtM m who).1)) (mbVals A' ((dbtM m who).1)) X.heap.size w'.heap.size ∧ Below X.heap.size X w' := fun hs0 X B0 l0 u0 i0 => (hI B0 m who X (it_mbp i0 hf0 h60 hs0) h61).mono (fun e w' h => h.it)
 obtain ⟨hfZ,hcZ,hrZ,hsZ⟩ := dbtM_small m who
 generalize (dbtM m who) = ZZ at *
 obtain ⟨Z,ok⟩ := ZZ
 simp only at *
 have hok : (ok != ok) = false := by cases ok <;> rfl
 obtain ⟨N,hN⟩ : ∃ N : Int,Hid (N = ((1 + cntMb Z : Nat) : Int)) := ⟨_,rfl⟩
 have hN0 : decide (N < 0) = false := by rw [hN.out];simp;omega
 have hNN : (N != N) = false := by simp
 have hEz : ∀ (X : World) (A1 A2 : Ma) {l1 h1 l2 h2 : Nat},It X (mbCels Z) (mbVals A1 Z) l1 h1 → It X (mbCels Z) (mbVals A2 Z) l2 h2 → Calls Tryz.prog 49 #[mbV A1 Z,mbV A2 Z] X fun e w' => e = .returned (.bool true) ∧ Below X.heap.size X w' := fun X A1 A2 l1 h1 l2 h2 i1 i2 => eqMb_any A1 A2 Z X (it_mbs i1 hfZ) (it_mbs i2 hfZ)
 have hMz : ∀ (X : World) (A1 : Ma) (lo hi : Nat),It X (mbCels Z) (mbVals A1 Z) lo hi → lo ≤ X.heap.size → hi ≤ X.heap.size → Calls Tryz.prog 50 #[mbV A1 Z,.int .i64 1] X fun e w' => e = .returned (.int .i64 N) ∧ It w' (mbCels (mkMb Z 1)) (mbVals A1 Z) lo w'.heap.size ∧ Wrt (Iv lo hi) X w' := fun X A1 lo hi i hlo hh => by rw [hN.out];exact markMb_it A1 Z 1 lo hi X i hlo hh (by omega) (by omega) (by unfold maxLen;omega)
 have hHz : ∀ (X : World) (A1 : Ma) (lo hi : Nat),It X (mbCels (mkMb Z 1)) (mbVals A1 Z) lo hi → Calls Tryz.prog 51 #[mbV A1 Z,.int .i64 1] X fun e w' => e = .returned (.int .i64 N) ∧ Below X.heap.size X w' := fun X A1 lo hi i => by rw [hN.out];exact heldMb_it A1 Z 1 lo hi X i (by omega) (by omega) (by unfold maxLen;omega)
 obtain ⟨K0,hK0⟩ : ∃ K : Nat,Hid (K = 1 + cntMb m) := ⟨_,rfl⟩
 have hMx0 : szMb m ≤ 1048576 → ∀ (X : World) (A1 : Ma) (lo hi : Nat),It X (mbCels m) (mbVals A1 m) lo hi → lo ≤ X.heap.size → hi ≤ X.heap.size → Calls Tryz.prog 50 #[mbV A1 m,.int .i64 1] X fun e w' => e = .returned (.int .i64 (K0 : Int)) ∧ It w' (mbCels (mkMb m 1)) (mbVals A1 m) lo w'.heap.size ∧ Wrt (Iv lo hi) X w' := fun hs0 X A1 lo hi i hlo hh => by rw [hK0.out];exact markMb_it A1 m 1 lo hi X i hlo hh (by omega) (cntMb_le hs0 (by omega)) (rows_le hs0)
 have hKn0 : decide ((K0 : Int) < 0) = false := by simp
 clear hI hv0
 unfold mbV mbC at *
 have hb00 : Below w.heap.size w w := Below.refl _ _
 have b2 := oneA16 w (.cells #[.int .i64 m.id,.int .i64 m.n,.slice A0.ra m.rows.length A0.rc,.slice A0.sa m.sung.length A0.sc,.bool m.done] 76)
 have h3 := Bx.new w 76 #[.int .i64 m.id,.int .i64 m.n,.slice A0.ra m.rows.length A0.rc,.slice A0.sa m.sung.length A0.sc,.bool m.done]
 generalize hX1 : w.alloc (.cells #[.int .i64 m.id,.int .i64 m.n,.slice A0.ra m.rows.length A0.rc,.slice A0.sa m.sung.length A0.sc,.bool m.done] 76) = X1 at *
 have B5 : Below w.heap.size w X1 := hb00.trans (b2.mono hb00.size)
 have sB5 : w.heap.size ≤ X1.heap.size := b2.size
 clear hb00
 have k4 : w.heap.size < X1.heap.size := h3.lt
 clear b2
 go_enter Tryz.func8,Tryz.ntmps8
 obtain ⟨c60,c61,c62,c63,c64⟩ := Bx.r5 h3
 go_wp2_with fail
 refine (hZ0 X1 1048576 B5 ⟨by omega,by omega⟩).mono ?_
 rintro e z0 ⟨q0,rfl,hq0,hbz0⟩
 clear c60 c61 c62 c63 c64
 have B7 : Below w.heap.size w z0 := B5.trans (hbz0.mono B5.size)
 have sB7 : X1.heap.size ≤ z0.heap.size := hbz0.size
 have h8 := h3.below hbz0
 clear B5 h3
 rcases hq0 with rfl | ⟨hqa0,hqb0⟩
 ·go_wp2
  go_ret
  exact ⟨rfl,B7⟩
 have hqn0 : decide (q0 < 0) = false := by simp;omega
 have hs0 : szMb m ≤ 1048576 := by omega
 have hT0 := hTo0 hs0
 have hEE0 := hE0 hs0
 have hMM0 := hMx0 hs0
 have hS2 := hSp hs0
 have hI2 := hIm hs0
 clear hSp hIm hTo0 hE0 hZ0 hMx0
 obtain ⟨c90,c91,c92,c93,c94⟩ := Bx.r5 h8
 go_wp2_with fail
 refine (hT0 z0 B7).mono ?_
 rintro e s0 ⟨As0,rfl,is0,hbs0⟩
 clear c90 c91 c92 c93 c94
 have B10 : Below w.heap.size w s0 := B7.trans (hbs0.mono B7.size)
 have sB10 : z0.heap.size ≤ s0.heap.size := hbs0.size
 have h11 := h8.below hbs0
 clear B7 h8
 go_wp2_with fail
 refine (hS2 s0 _ is0).mono ?_
 rintro e ws ⟨Av,rfl,iv,hbv⟩
 have B12 : Below w.heap.size w ws := B10.trans (hbv.mono B10.size)
 have sB12 : s0.heap.size ≤ ws.heap.size := hbv.size
 have h13 := h11.below hbv
 have h14 := is0.below hbv
 clear B10 h11 is0
 have b16 := oneA16 ws (.cells #[.int .i64 Z.id,.int .i64 Z.n,.slice Av.ra Z.rows.length Av.rc,.slice Av.sa Z.sung.length Av.sc,.bool Z.done] 27)
 have h17 := Bx.new ws 27 #[.int .i64 Z.id,.int .i64 Z.n,.slice Av.ra Z.rows.length Av.rc,.slice Av.sa Z.sung.length Av.sc,.bool Z.done]
 generalize hX15 : ws.alloc (.cells #[.int .i64 Z.id,.int .i64 Z.n,.slice Av.ra Z.rows.length Av.rc,.slice Av.sa Z.sung.length Av.sc,.bool Z.done] 27) = X15 at *
 have B19 : Below w.heap.size w X15 := B12.trans (b16.mono B12.size)
 have sB19 : ws.heap.size ≤ X15.heap.size := b16.size
 have h20 := h13.below b16
 have h21 := h14.below b16
 have h22 := iv.below b16
 clear B12 h13 h14 iv
 have k18 : ws.heap.size < X15.heap.size := h17.lt
 clear b16
 clear h21
 obtain ⟨c230,c231,c232,c233,c234⟩ := Bx.r5 h20
 go_wp2_with fail
 refine (hT0 X15 B19).mono ?_
 rintro e wx0 ⟨Ax0,rfl,ix0,hbx0⟩
 clear c230 c231 c232 c233 c234
 have B24 : Below w.heap.size w wx0 := B19.trans (hbx0.mono B19.size)
 have sB24 : X15.heap.size ≤ wx0.heap.size := hbx0.size
 have h25 := h20.below hbx0
 have h26 := h22.below hbx0
 have h27 := h17.below hbx0
 clear B19 h20 h22 h17
 have b29 := oneA16 wx0 (.cells #[.int .i64 m.id,.int .i64 m.n,.slice Ax0.ra m.rows.length Ax0.rc,.slice Ax0.sa m.sung.length Ax0.sc,.bool m.done] 27)
 have h30 := Bx.new wx0 27 #[.int .i64 m.id,.int .i64 m.n,.slice Ax0.ra m.rows.length Ax0.rc,.slice Ax0.sa m.sung.length Ax0.sc,.bool m.done]
 generalize hX28 : wx0.alloc (.cells #[.int .i64 m.id,.int .i64 m.n,.slice Ax0.ra m.rows.length Ax0.rc,.slice Ax0.sa m.sung.length Ax0.sc,.bool m.done] 27) = X28 at *
 have B32 : Below w.heap.size w X28 := B24.trans (b29.mono B24.size)
 have sB32 : wx0.heap.size ≤ X28.heap.size := b29.size
 have h33 := h25.below b29
 have h34 := h26.below b29
 have h35 := h27.below b29
 have h36 := ix0.below b29
 clear B24 h25 h26 h27 ix0
 have k31 : wx0.heap.size < X28.heap.size := h30.lt
 clear b29
 obtain ⟨c370,c371,c372,c373,c374⟩ := Bx.r5 h30
 go_wp2_with fail
 refine (hI2 X28 _ h36).mono ?_
 rintro e wi ⟨Ag,rfl,ig,hbg⟩
 have B38 : Below w.heap.size w wi := B32.trans (hbg.mono B32.size)
 have sB38 : X28.heap.size ≤ wi.heap.size := hbg.size
 have h39 := h33.below hbg
 have h40 := h34.below hbg
 have h41 := h35.below hbg
 have h42 := h36.below hbg
 have h43 := h30.below hbg
 clear B32 h33 h34 h35 h36 h30
 have b45 := oneA16 wi (.cells #[.int .i64 Z.id,.int .i64 Z.n,.slice Ag.ra Z.rows.length Ag.rc,.slice Ag.sa Z.sung.length Ag.sc,.bool Z.done] 27)
 have h46 := Bx.new wi 27 #[.int .i64 Z.id,.int .i64 Z.n,.slice Ag.ra Z.rows.length Ag.rc,.slice Ag.sa Z.sung.length Ag.sc,.bool Z.done]
 generalize hX44 : wi.alloc (.cells #[.int .i64 Z.id,.int .i64 Z.n,.slice Ag.ra Z.rows.length Ag.rc,.slice Ag.sa Z.sung.length Ag.sc,.bool Z.done] 27) = X44 at *
 have B48 : Below w.heap.size w X44 := B38.trans (b45.mono B38.size)
 have sB48 : wi.heap.size ≤ X44.heap.size := b45.size
 have h49 := h39.below b45
 have h50 := h40.below b45
 have h51 := h41.below b45
 have h52 := h42.below b45
 have h53 := h43.below b45
 have h54 := ig.below b45
 clear B38 h39 h40 h41 h42 h43 ig
 have k47 : wi.heap.size < X44.heap.size := h46.lt
 clear b45
 clear c370 c371 c372 c373 c374
 obtain ⟨c550,c551,c552,c553,c554⟩ := Bx.r5 h46
 obtain ⟨c560,c561,c562,c563,c564⟩ := Bx.r5 h51
 go_wp2_with fail
 refine (hEz X44 _ _ h54 h50).mono ?_
 rintro e we ⟨rfl,hbwe⟩
 clear c550 c551 c552 c553 c554 c560 c561 c562 c563 c564
 have B57 : Below w.heap.size w we := B48.trans (hbwe.mono B48.size)
 have sB57 : X44.heap.size ≤ we.heap.size := hbwe.size
 have h58 := h49.below hbwe
 have h59 := h50.below hbwe
 have h60 := h51.below hbwe
 have h61 := h52.below hbwe
 have h62 := h53.below hbwe
 have h63 := h54.below hbwe
 have h64 := h46.below hbwe
 clear B48 h49 h50 h51 h52 h53 h54 h46
 have KS : ∀ X,Below we.heap.size we X → (X.cell? ⟨w.heap.size,0,none⟩ = some (.int .i64 m.id) ∧ X.cell? ⟨w.heap.size,1,none⟩ = some (.int .i64 m.n) ∧ X.cell? ⟨w.heap.size,2,none⟩ = some (.slice A0.ra m.rows.length A0.rc) ∧ X.cell? ⟨w.heap.size,3,none⟩ = some (.slice A0.sa m.sung.length A0.sc) ∧ X.cell? ⟨w.heap.size,4,none⟩ = some (.bool m.done)) ∧ (X.cell? ⟨wx0.heap.size,0,none⟩ = some (.int .i64 m.id) ∧ X.cell? ⟨wx0.heap.size,1,none⟩ = some (.int .i64 m.n) ∧ X.cell? ⟨wx0.heap.size,2,none⟩ = some (.slice Ax0.ra m.rows.length Ax0.rc) ∧ X.cell? ⟨wx0.heap.size,3,none⟩ = some (.slice Ax0.sa m.sung.length Ax0.sc) ∧ X.cell? ⟨wx0.heap.size,4,none⟩ = some (.bool m.done)) := fun X hX => ⟨Bx.r5 (h58.below hX),Bx.r5 (h62.below hX)⟩
 have bd : Below we.heap.size we (we.drewN 1) := belowN (Below.refl _ _)
 have hTo2 := fun X (h : Below we.heap.size we X) => hT0 X (B57.trans (h.mono B57.size))
 have hEq2 := fun X (A7 : Ma) (h : Below we.heap.size we X) (h7 : ∃ lo hi,It X (mbCels m) (mbVals A7 m) lo hi) => hEE0 X Ax0 A7 (h61.below h) h7.choose_spec.choose_spec
 go_wp2_with fail
 go_region_held3 (fun X => (X.cell? ⟨w.heap.size,0,none⟩ = some (.int .i64 m.id) ∧ X.cell? ⟨w.heap.size,1,none⟩ = some (.int .i64 m.n) ∧ X.cell? ⟨w.heap.size,2,none⟩ = some (.slice A0.ra m.rows.length A0.rc) ∧ X.cell? ⟨w.heap.size,3,none⟩ = some (.slice A0.sa m.sung.length A0.sc) ∧ X.cell? ⟨w.heap.size,4,none⟩ = some (.bool m.done)) ∧ (X.cell? ⟨wx0.heap.size,0,none⟩ = some (.int .i64 m.id) ∧ X.cell? ⟨wx0.heap.size,1,none⟩ = some (.int .i64 m.n) ∧ X.cell? ⟨wx0.heap.size,2,none⟩ = some (.slice Ax0.ra m.rows.length Ax0.rc) ∧ X.cell? ⟨wx0.heap.size,3,none⟩ = some (.slice Ax0.sa m.sung.length Ax0.sc) ∧ X.cell? ⟨wx0.heap.size,4,none⟩ = some (.bool m.done)))
  (first | exact KS _ b8 | exact KS _ b7b | exact KS _ bd)
  (first
   | (go_at_call 48;refine (hTo2 _ bd).mono ?_;rintro e t0 ⟨A7,rfl,i7,hb7⟩;have b7b : Below we.heap.size we t0 := bd.trans (hb7.mono bd.size))
   | (go_at_call 49;refine (hEq2 t0 A7 b7b ⟨_,_,i7⟩).mono ?_;rintro e u0 ⟨rfl,hb8⟩;have b8 : Below we.heap.size we u0 := b7b.trans (hb8.mono b7b.size)))
 clear KS bd hTo2 hEq2 i7 hb7 b7b hb8
 have B65 : Below w.heap.size w u0 := B57.trans (b8.mono B57.size)
 have sB65 : we.heap.size ≤ u0.heap.size := b8.size
 have h66 := h58.below b8
 have h67 := h59.below b8
 have h68 := h60.below b8
 have h69 := h61.below b8
 have h70 := h62.below b8
 have h71 := h63.below b8
 have h72 := h64.below b8
 clear B57 h58 h59 h60 h61 h62 h63 h64
 obtain ⟨c730,c731,c732,c733,c734⟩ := Bx.r5 h70
 go_wp2_with fail
 refine (hMM0 u0 _ _ _ h69 (by omega) (by omega)).mono ?_
 rintro e wq0 ⟨rfl,_,hwq0⟩
 clear c730 c731 c732 c733 c734
 have sB74 : u0.heap.size ≤ wq0.heap.size := hwq0.size
 have B74 : Below w.heap.size w wq0 := below_iv hwq0 B65 B65.size (by omega)
 have h75 := h66.iv hwq0 (by omega)
 have h76 := h67.far hwq0 (by omega)
 have h77 := h68.iv hwq0 (by omega)
 have h78 := h70.iv hwq0 (by omega)
 have h79 := h71.far hwq0 (by omega)
 have h80 := h72.iv hwq0 (by omega)
 clear B65 h69 h66 h67 h68 h70 h71 h72
 obtain ⟨c810,c811,c812,c813,c814⟩ := Bx.r5 h80
 obtain ⟨c820,c821,c822,c823,c824⟩ := Bx.r5 h77
 go_wp2_with fail
 refine (hEz wq0 _ _ h79 h76).mono ?_
 rintro e wo ⟨rfl,hbwo⟩
 clear c810 c811 c812 c813 c814 c820 c821 c822 c823 c824
 have B83 : Below w.heap.size w wo := B74.trans (hbwo.mono B74.size)
 have sB83 : wq0.heap.size ≤ wo.heap.size := hbwo.size
 have h84 := h75.below hbwo
 have h85 := h76.below hbwo
 have h86 := h77.below hbwo
 have h87 := h78.below hbwo
 have h88 := h79.below hbwo
 have h89 := h80.below hbwo
 clear B74 h75 h76 h77 h78 h79 h80
 obtain ⟨c900,c901,c902,c903,c904⟩ := Bx.r5 h89
 go_wp2_with fail
 refine (hMz wo _ _ _ h88 (by omega) (by omega)).mono ?_
 rintro e wm ⟨rfl,im,hwm⟩
 clear c900 c901 c902 c903 c904
 have sB91 : wo.heap.size ≤ wm.heap.size := hwm.size
 have B91 : Below w.heap.size w wm := below_iv hwm B83 B83.size (by omega)
 have h92 := h84.iv hwm (by omega)
 have h93 := h85.far hwm (by omega)
 have h94 := h86.iv hwm (by omega)
 have h95 := h87.iv hwm (by omega)
 have h96 := h89.iv hwm (by omega)
 clear B83 h84 h85 h86 h87 h88 h89
 obtain ⟨c970,c971,c972,c973,c974⟩ := Bx.r5 h96
 go_wp2_with fail
 refine (hHz wm _ _ _ im).mono ?_
 rintro e wh ⟨rfl,hbh⟩
 clear c970 c971 c972 c973 c974
 have B98 : Below w.heap.size w wh := B91.trans (hbh.mono B91.size)
 have sB98 : wm.heap.size ≤ wh.heap.size := hbh.size
 have h99 := h92.below hbh
 have h100 := h93.below hbh
 have h101 := h94.below hbh
 have h102 := h95.below hbh
 have h103 := im.below hbh
 have h104 := h96.below hbh
 clear B91 h92 h93 h94 h95 im h96
 obtain ⟨c1050,c1051,c1052,c1053,c1054⟩ := Bx.r5 h99
 go_wp2_with fail
 refine (hT0 wh B98).mono ?_
 rintro e h0 ⟨Ah0,rfl,ih0,hbh0⟩
 clear c1050 c1051 c1052 c1053 c1054
 have B106 : Below w.heap.size w h0 := B98.trans (hbh0.mono B98.size)
 have sB106 : wh.heap.size ≤ h0.heap.size := hbh0.size
 have h107 := h99.below hbh0
 have h108 := h100.below hbh0
 have h109 := h101.below hbh0
 have h110 := h102.below hbh0
 have h111 := h103.below hbh0
 have h112 := h104.below hbh0
 clear B98 h99 h100 h101 h102 h103 h104
 go_wp2_with fail
 refine (hI2 h0 _ ih0).mono ?_
 rintro e wj ⟨Ah,rfl,ih,hbh⟩
 have B113 : Below w.heap.size w wj := B106.trans (hbh.mono B106.size)
 have sB113 : h0.heap.size ≤ wj.heap.size := hbh.size
 have h114 := h107.below hbh
 have h115 := h108.below hbh
 have h116 := h109.below hbh
 have h117 := h110.below hbh
 have h118 := h111.below hbh
 have h119 := h112.below hbh
 have h120 := ih0.below hbh
 clear B106 h107 h108 h109 h110 h111 h112 ih0
 have b122 := oneA16 wj (.cells #[.int .i64 Z.id,.int .i64 Z.n,.slice Ah.ra Z.rows.length Ah.rc,.slice Ah.sa Z.sung.length Ah.sc,.bool Z.done] 27)
 have h123 := Bx.new wj 27 #[.int .i64 Z.id,.int .i64 Z.n,.slice Ah.ra Z.rows.length Ah.rc,.slice Ah.sa Z.sung.length Ah.sc,.bool Z.done]
 generalize hX121 : wj.alloc (.cells #[.int .i64 Z.id,.int .i64 Z.n,.slice Ah.ra Z.rows.length Ah.rc,.slice Ah.sa Z.sung.length Ah.sc,.bool Z.done] 27) = X121 at *
 have B125 : Below w.heap.size w X121 := B113.trans (b122.mono B113.size)
 have sB125 : wj.heap.size ≤ X121.heap.size := b122.size
 have h126 := h114.below b122
 have h127 := h115.below b122
 have h128 := h116.below b122
 have h129 := h117.below b122
 have h130 := h118.below b122
 have h131 := h119.below b122
 have h132 := h120.below b122
 have h133 := ih.below b122
 clear B113 h114 h115 h116 h117 h118 h119 h120 ih
 have k124 : wj.heap.size < X121.heap.size := h123.lt
 clear b122
 clear h132
 obtain ⟨c1340,c1341,c1342,c1343,c1344⟩ := Bx.r5 h123
 obtain ⟨c1350,c1351,c1352,c1353,c1354⟩ := Bx.r5 h128
 go_wp2_with fail
 refine (hEz X121 _ _ h133 h127).mono ?_
 rintro e wk ⟨rfl,hbwk⟩
 clear c1340 c1341 c1342 c1343 c1344 c1350 c1351 c1352 c1353 c1354
 have B136 : Below w.heap.size w wk := B125.trans (hbwk.mono B125.size)
 have sB136 : X121.heap.size ≤ wk.heap.size := hbwk.size
 have h137 := h126.below hbwk
 have h138 := h127.below hbwk
 have h139 := h128.below hbwk
 have h140 := h129.below hbwk
 have h141 := h130.below hbwk
 have h142 := h131.below hbwk
 have h143 := h133.below hbwk
 have h144 := h123.below hbwk
 clear B125 h126 h127 h128 h129 h130 h131 h133 h123
 obtain ⟨c1450,c1451,c1452,c1453,c1454⟩ := Bx.r5 h142
 go_wp2_with fail
 refine (hHz wk _ _ _ h141).mono ?_
 rintro e wl ⟨rfl,hbl⟩
 clear c1450 c1451 c1452 c1453 c1454
 have B146 : Below w.heap.size w wl := B136.trans (hbl.mono B136.size)
 have sB146 : wk.heap.size ≤ wl.heap.size := hbl.size
 have h147 := h137.below hbl
 have h148 := h138.below hbl
 have h149 := h139.below hbl
 have h150 := h140.below hbl
 have h151 := h141.below hbl
 have h152 := h142.below hbl
 have h153 := h143.below hbl
 have h154 := h144.below hbl
 clear B136 h137 h138 h139 h140 h141 h142 h143 h144
 go_wp2
 go_ret
 exact ⟨rfl,B146⟩
end Go.Proofs.YthioodpmgifomaaGreat
namespace Go.Proofs.YthioodpmgifomaaGreat
set_option linter.unusedVariables false
set_option linter.unusedSimpArgs false
open Go.ChangeShapes Go.WideShapes Go.ChangeAt Go.RowKit Go.Deep
section
variable {H : Type} {enc : TypeId × Value → H} {P : Program} {W : World} {base : Nat} {held : Bool}
theorem field_of {t : TypeId} {fs : Array Field} {fuel : Nat} {cs : List Value} {x : DataW H × List MemPlace} (ht : P.underlying t = some (.struct fs)) (hone : oneCellFields P fs = true) (h : DataW.trod enc P W base (fun _ => true) held fuel t cs = some x) :
  cs.length = P.cellsOf t ∧ ∃ n,∀ (i : Nat) (f : Field) (c : Value),fs[i]? = some f → cs[i]? = some c → ∃ y,DataW.trod enc P W base (fun _ => true) held n f.type [c] = some y := by
 obtain ⟨xs,n,_,rfl,hl,hlen,hf⟩ := DataW.trod_struct ht h
 refine ⟨hl,n,fun i f c hi hc => ?_⟩
 obtain ⟨o,k⟩ := hone_of hone i f hi
 have h1 := hf i f hi
 have hix : i < xs.length := by
  rw [hlen]
  exact (Array.getElem?_eq_some_iff.1 hi).1
 have e : (cs.drop i).take 1 = [c] := by
  have hic := (List.getElem?_eq_some_iff.1 hc).1
  have hcc := (List.getElem?_eq_some_iff.1 hc).2
  rw [List.drop_eq_getElem_cons hic,hcc]
  rfl
 rw [o,k,e,List.getElem?_eq_getElem hix] at h1
 exact ⟨_,h1⟩
theorem ints_of {t e : TypeId} {fuel : Nat} {c : Value} {y : DataW H × List MemPlace} (ht : P.underlying t = some (.slice e)) (he : P.underlying e = some (.int .i64)) (hc : P.cellsOf e = 1) (h : DataW.trod enc P W base (fun _ => true) held fuel t [c] = some y) :
  ∃ a cap M,c = .slice a (List.length M) cap ∧ Vec W a (List.length M) M ∧ List.length M ≤ maxLen := by
 obtain ⟨a,len,cap,z,rfl,hw⟩ : ∃ a len cap zs,c = .slice a len cap ∧ IsRow .i64 W a len cap zs := by
  rcases open_ints ht he hc h with ⟨hcs,_⟩ | ⟨x,l,c,zs,hcs,_,hl,hm,hz,_,hcell,hwz⟩
  ·simp at hcs
   exact ⟨none,0,0,[],hcs,.inl ⟨rfl,rfl,rfl,rfl⟩⟩
  ·simp at hcs
   exact ⟨some x,l,c,zs,hcs,.inr ⟨_,rfl,hl,hm,by simpa using hz,hcell,hwz⟩⟩
 rcases hw with ⟨rfl,rfl,rfl,rfl⟩ | ⟨ad,rfl,hl,hm,hz,hcell,hwz⟩
 ·exact ⟨none,0,[],rfl,⟨rfl,fun x hx => absurd hx List.not_mem_nil,.inl rfl⟩,Nat.zero_le _⟩
 ·have hz' : z.length = cap := by simpa using hz
  have hlen : (z.take len).length = len := by rw [List.length_take];omega
  have hfit : Fits (z.take len) := fun n hn => bounds_i64 (hwz n (List.mem_of_mem_take hn))
  refine ⟨some ad,cap,z.take len,by rw [hlen],⟨rfl,hfit, ?_⟩,by rw [hlen];exact Nat.le_trans hl hm⟩
  rcases Nat.eq_zero_or_pos len with e | e
  ·exact .inl (by omega)
  ·obtain ⟨b,off,spot⟩ := ad
   have hs : spot = none := by
    have := hcell 0 (by omega)
    simpa [Addr.add] using World.cell?_spot this
   subst hs
   refine .inr ⟨b,off,rfl,fun i hi => ?_⟩
   have h1 := hcell i (by omega)
   rw [add_lit0] at h1
   rw [h1]
   simp [el,List.getD,List.getElem?_take_of_lt (show i < len by omega)]
theorem str_short16 {s : ByteArray} (h : s.size ≤ maxLen) : s.data.toList.length ≤ 9223372036854775807 := by
 have e : s.data.toList.length = s.size := by rw [Array.length_toList];rfl
 rw [e]
 unfold maxLen at h
 exact h
end
theorem list8 {α : Type} {l : List α} (h : l.length = 8) : ∃ c0 c1 c2 c3 c4 c5 c6 c7,l = [c0,c1,c2,c3,c4,c5,c6,c7] := by
 match l,h with
 | [c0,c1,c2,c3,c4,c5,c6,c7],_ => exact ⟨c0,c1,c2,c3,c4,c5,c6,c7,rfl⟩
end Go.Proofs.YthioodpmgifomaaGreat
namespace Go.Proofs.YthioodpmgifomaaGreat
set_option linter.unusedVariables false
set_option linter.unusedSimpArgs false
open Go.ChangeShapes Go.WideShapes Go.ChangeAt Go.RowKit Go.Deep
theorem vw_of_txs {w : World} {a : Option Addr} {c : Nat} {T : List (List UInt8)} (h : TxS w a T) (h1 : T.length ≤ c) (h2 : c ≤ maxLen) : Cel.vw w (scl T) (.slice a T.length c) := by
 refine ⟨a,c,_,rfl,h1,h2,by rw [svs_len];omega, ?_,vwL_pl.2 rfl⟩
 rcases h with h0 | ⟨b,off,ha,hc⟩
 ·exact .inl h0
 ·refine .inr ⟨b,off,ha,fun i hi => ?_⟩
  rw [svs_get (by omega)]
  exact hc i (by omega)
theorem vw_lcl_of {α : Type} {F : α → List Cel} {s : Nat} {w : World} {b off : Nat} (R : Nat → α) (V : Nat → List Value) : ∀ n,(∀ i,i < n → (V i).length = s ∧ (∀ j,j < s → w.cell? ⟨b,off + i * s + j,none⟩ = (V i)[j]?) ∧ vwL w (F (R i)) (V i)) →
  ∃ us : List Value,us.length = n * s ∧ (∀ j,j < n * s → w.cell? ⟨b,off + j,none⟩ = us[j]?) ∧ vwL w (((List.range n).map R).flatMap F) us
 | 0,_ => ⟨[],by simp,fun j hj => by omega,rfl⟩
 | n + 1,h => by
  obtain ⟨us,h1,h2,h3⟩ := vw_lcl_of R V n (fun i hi => h i (by omega))
  obtain ⟨k1,k2,k3⟩ := h n (by omega)
  have hm : (n + 1) * s = n * s + s := by rw [Nat.add_mul,Nat.one_mul]
  refine ⟨us ++ V n,by rw [List.length_append,h1,k1,hm],fun j hj => ?_, ?_⟩
  ·rcases Nat.lt_or_ge j (n * s) with hj2 | hj2
   ·rw [List.getElem?_append_left (by omega)];exact h2 j hj2
   ·rw [List.getElem?_append_right (by omega),h1]
    have := k2 (j - n * s) (by omega)
    rw [show off + n * s + (j - n * s) = off + j by omega] at this
    exact this
  ·rw [List.range_succ,List.map_append,List.flatMap_append]
   refine vwL_append h3 ?_
   simpa using k3
section
variable {H : Type} {enc : TypeId × Value → H} {P : Program} {W : World} {base : Nat} {held : Bool}
theorem ints_ofC {t e : TypeId} {fuel : Nat} {c : Value} {y : DataW H × List MemPlace} (ht : P.underlying t = some (.slice e)) (he : P.underlying e = some (.int .i64)) (hc : P.cellsOf e = 1) (h : DataW.trod enc P W base (fun _ => true) held fuel t [c] = some y) :
  ∃ a cap M,c = .slice a (List.length M) cap ∧ Cel.vw W (icl M) (.slice a (List.length M) cap) ∧ Fits M ∧ List.length M ≤ maxLen := by
 obtain ⟨a,len,cap,z,rfl,hw⟩ : ∃ a len cap zs,c = .slice a len cap ∧ IsRow .i64 W a len cap zs := by
  rcases open_ints ht he hc h with ⟨hcs,_⟩ | ⟨x,l,c,zs,hcs,_,hl,hm,hz,_,hcell,hwz⟩
  ·simp at hcs
   exact ⟨none,0,0,[],hcs,.inl ⟨rfl,rfl,rfl,rfl⟩⟩
  ·simp at hcs
   exact ⟨some x,l,c,zs,hcs,.inr ⟨_,rfl,hl,hm,by simpa using hz,hcell,hwz⟩⟩
 rcases hw with ⟨rfl,rfl,rfl,rfl⟩ | ⟨ad,rfl,hl,hm,hz,hcell,hwz⟩
 ·exact ⟨none,0,[],rfl,vw_of_vec ⟨rfl,fun x hx => absurd hx List.not_mem_nil,.inl rfl⟩ (Nat.le_refl _) (Nat.zero_le _),fun x hx => absurd hx List.not_mem_nil,Nat.zero_le _⟩
 ·have hz' : z.length = cap := by simpa using hz
  have hlen : (z.take len).length = len := by rw [List.length_take];omega
  have hfit : Fits (z.take len) := fun n hn => bounds_i64 (hwz n (List.mem_of_mem_take hn))
  refine ⟨some ad,cap,z.take len,by rw [hlen],vw_of_vec ⟨rfl,hfit, ?_⟩ (by rw [hlen];exact hl) hm,hfit,by rw [hlen];exact Nat.le_trans hl hm⟩
  rcases Nat.eq_zero_or_pos len with e | e
  ·exact .inl (by omega)
  ·obtain ⟨b,off,spot⟩ := ad
   have hs : spot = none := by
    have := hcell 0 (by omega)
    simpa [Addr.add] using World.cell?_spot this
   subst hs
   refine .inr ⟨b,off,rfl,fun i hi => ?_⟩
   have h1 := hcell i (by omega)
   rw [add_lit0] at h1
   rw [h1]
   simp [el,List.getD,List.getElem?_take_of_lt (show i < len by omega)]
theorem txts_ofC {t e : TypeId} {fuel : Nat} {c : Value} {y : DataW H × List MemPlace} (ht : P.underlying t = some (.slice e)) (he : P.underlying e = some .string) (hc : P.cellsOf e = 1) (h : DataW.trod enc P W base (fun _ => true) held fuel t [c] = some y) :
  ∃ a cap T,c = .slice a (List.length T) cap ∧ Cel.vw W (scl T) (.slice a (List.length T) cap) ∧ LongT T ∧ List.length T ≤ maxLen := by
 rcases open_strs ht he hc h with ⟨hcs,_⟩ | ⟨ad,len,cap,m,S,hcs,_,hl,hm,hmm,_,hx⟩
 ·simp at hcs
  subst hcs
  exact ⟨none,0,[],rfl,vw_of_txs (.inl rfl) (Nat.le_refl _) (Nat.zero_le _),fun i hi => absurd hi (Nat.not_lt_zero _),Nat.zero_le _⟩
 ·simp at hcs
  subst hcs
  have hlm : len ≤ m := by rw [hmm];split <;> omega
  have hlen : ((List.range len).map fun r => (S r).data.toList).length = len := by simp
  have hget : ∀ i,i < len → ((List.range len).map fun r => (S r).data.toList).getD i [] = (S i).data.toList := fun i hi => by simp [List.getD,hi]
  refine ⟨some ad,cap,(List.range len).map fun r => (S r).data.toList,by rw [hlen],vw_of_txs ?_ (by rw [hlen];exact hl) hm,fun i hi => ?_,by rw [hlen];exact Nat.le_trans hl hm⟩
  ·by_cases h0 : len = 0
   ·exact .inl (by rw [hlen];exact h0)
   ·obtain ⟨b,off,spot⟩ := ad
    have hs : spot = none := by
     have := (hx 0 (by omega)).1
     simpa [Addr.add] using World.cell?_spot this
    subst hs
    refine .inr ⟨b,off,rfl,fun i hi => ?_⟩
    rw [hlen] at hi
    rw [hget i hi]
    have hc := (hx i (by omega)).1
    rw [add_lit0] at hc
    rw [hc,← sv_of]
  ·rw [hlen] at hi
   rw [hget i hi]
   exact str_short16 (hx i (by omega)).2
end
set_option maxRecDepth 100000 in
theorem row_ofC {H : Type} {enc : TypeId × Value → H} {W : World} {base fuel : Nat} {held : Bool} {cs : List Value} {x : DataW H × List MemPlace} (h : DataW.trod enc Tryz.prog W base (fun _ => true) held fuel 171 cs = some x) :
  ∃ r,cs.length = 8 ∧ vwL W (rw8 r) cs ∧ FitR r ∧ LongT r.txt ∧ Rw64 r := by
 obtain ⟨hl,n,hf⟩ := field_of Tryz.underlying171 (by kernel_rfl) h
 rw [show Tryz.prog.cellsOf 171 = 8 by kernel_rfl] at hl
 obtain ⟨c0,c1,c2,c3,c4,c5,c6,c7,rfl⟩ := list8 hl
 obtain ⟨y0,g0⟩ := hf 0 _ c0 rfl rfl
 obtain ⟨y1,g1⟩ := hf 1 _ c1 rfl rfl
 obtain ⟨y2,g2⟩ := hf 2 _ c2 rfl rfl
 obtain ⟨y3,g3⟩ := hf 3 _ c3 rfl rfl
 obtain ⟨y4,g4⟩ := hf 4 _ c4 rfl rfl
 obtain ⟨y5,g5⟩ := hf 5 _ c5 rfl rfl
 obtain ⟨y6,g6⟩ := hf 6 _ c6 rfl rfl
 obtain ⟨y7,g7⟩ := hf 7 _ c7 rfl rfl
 obtain ⟨i0,e0,_,b0⟩ := DataW.trod_int Tryz.underlying2 g0
 obtain ⟨a1,d1,T,rfl,t1,t2,t3⟩ := txts_ofC Tryz.underlying35 Tryz.underlying9 (by kernel_rfl) g1
 obtain ⟨a2,d2,M2,rfl,u2,v2,_⟩ := ints_ofC Tryz.underlying25 Tryz.underlying2 (by kernel_rfl) g2
 obtain ⟨a3,d3,M3,rfl,u3,v3,_⟩ := ints_ofC Tryz.underlying25 Tryz.underlying2 (by kernel_rfl) g3
 obtain ⟨z4,e4,_⟩ := DataW.trod_bool Tryz.underlying4 g4
 obtain ⟨z5,e5,_⟩ := DataW.trod_bool Tryz.underlying4 g5
 obtain ⟨i6,e6,_,b6⟩ := DataW.trod_int Tryz.underlying2 g6
 obtain ⟨a7,d7,M7,rfl,u7,v7,_⟩ := ints_ofC Tryz.underlying25 Tryz.underlying2 (by kernel_rfl) g7
 simp at e0 e4 e5 e6
 subst e0 e4 e5 e6
 exact ⟨⟨i0,T,M2,M3,z4,z5,i6,M7⟩,rfl,⟨_,_,rfl,rfl,_,_,rfl,t1,_,_,rfl,u2,_,_,rfl,u3,_,_,rfl,rfl,_,_,rfl,rfl,_,_,rfl,rfl,_,_,rfl,u7,rfl⟩,⟨v2,v3,v7⟩,t2,⟨bounds_i64 b0,bounds_i64 b6⟩⟩
set_option maxRecDepth 100000 in
theorem rows_of {H : Type} {enc : TypeId × Value → H} {W : World} {base fuel : Nat} {held : Bool} {c : Value} {y : DataW H × List MemPlace} (h : DataW.trod enc Tryz.prog W base (fun _ => true) held fuel 74 [c] = some y) :
  ∃ a cap R,c = .slice a (List.length R) cap ∧ Cel.vw W (lcl 8 rw8 R) (.slice a (List.length R) cap) ∧ (∀ r ∈ R,FitR r ∧ LongT r.txt ∧ Rw64 r) ∧ List.length R ≤ maxLen := by
 rcases open_slice Tryz.underlying74 h with ⟨h0,_⟩ | ⟨ad,len,cap,m,n,D,Pl,hcs,_,hl,hm,hmm,_,hx⟩
 ·simp at h0
  subst h0
  exact ⟨none,0,[],rfl,⟨none,0,[],rfl,Nat.le_refl _,Nat.zero_le _,rfl,.inl rfl,rfl⟩,fun r hr => absurd hr List.not_mem_nil,Nat.zero_le _⟩
 ·simp at hcs
  subst hcs
  have hlm : len ≤ m := by rw [hmm];split <;> omega
  have ce : Tryz.prog.cellsOf 171 = 8 := by kernel_rfl
  by_cases h0 : len = 0
  ·subst h0
   exact ⟨some ad,cap,[],rfl,⟨some ad,cap,[],rfl,hl,hm,rfl,.inl rfl,rfl⟩,fun r hr => absurd hr List.not_mem_nil,Nat.zero_le _⟩
  obtain ⟨b,off,spot⟩ := ad
  have each : ∀ i,i < len → ∃ q : List Value × Rw,(q.1.length = 8 ∧ (∀ j,j < 8 → W.cell? ((⟨b,off,spot⟩ : Addr).add (i * 8 + j)) = q.1[j]?) ∧ vwL W (rw8 q.2) q.1) ∧ FitR q.2 ∧ LongT q.2.txt ∧ Rw64 q.2 := by
   intro i hi
   obtain ⟨cs',h1,h2⟩ := hx i (by omega)
   rw [ce] at h1
   obtain ⟨_,hlen,hcell⟩ := World.cells?_some h1
   obtain ⟨r,e8,hv,hf,hg,h6⟩ := row_ofC h2
   refine ⟨(cs',r),⟨e8,fun j hj => ?_,hv⟩,hf,hg,h6⟩
   have := hcell j hj
   rw [add_add] at this
   exact this
  have hs : spot = none := by
   obtain ⟨q,⟨h1,h2,_⟩,_⟩ := each 0 (by omega)
   have := h2 0 (by omega)
   rw [List.getElem?_eq_getElem (by omega)] at this
   simpa [Addr.add] using World.cell?_spot this
  subst hs
  haveI : Inhabited (List Value × Rw) := ⟨([],zeroRw)⟩
  obtain ⟨q,hq⟩ := choose_lt each
  obtain ⟨us,u1,u2,u3⟩ := vw_lcl_of (F := rw8) (s := 8) (w := W) (b := b) (off := off) (fun i => (q i).2) (fun i => (q i).1) len (fun i hi => ⟨(hq i hi).1.1,fun j hj => by have := (hq i hi).1.2.1 j hj;rw [add_lit0,← Nat.add_assoc] at this;exact this,(hq i hi).1.2.2⟩)
  have hlen : ((List.range len).map (fun i => (q i).2)).length = len := by simp
  refine ⟨some ⟨b,off,none⟩,cap,(List.range len).map (fun i => (q i).2),by rw [hlen], ?_,fun r hr => ?_,by rw [hlen];exact Nat.le_trans hl hm⟩
  ·unfold lcl
   rw [hlen]
   exact ⟨_,cap,us,rfl,hl,hm,u1,.inr ⟨b,off,rfl,u2⟩,u3⟩
  ·obtain ⟨i,hi,rfl⟩ := List.mem_map.1 hr
   exact (hq i (List.mem_range.1 hi)).2
theorem list5 {α : Type} {l : List α} (h : l.length = 5) : ∃ c0 c1 c2 c3 c4,l = [c0,c1,c2,c3,c4] := by
 match l,h with
 | [c0,c1,c2,c3,c4],_ => exact ⟨c0,c1,c2,c3,c4,rfl⟩
set_option maxRecDepth 100000 in
theorem mb_of {H : Type} {enc : TypeId × Value → H} {W : World} {base fuel : Nat} {held : Bool} {cs : List Value} {x : DataW H × List MemPlace} (h : DataW.trod enc Tryz.prog W base (fun _ => true) held fuel 76 cs = some x) :
  ∃ A m,cs = (mbC A m).toList ∧ MbS W A m ∧ (∀ r ∈ m.rows,LongT r.txt) ∧ Mb64 m := by
 obtain ⟨hl,n,hf⟩ := field_of Tryz.underlying76 (by kernel_rfl) h
 rw [show Tryz.prog.cellsOf 76 = 5 by kernel_rfl] at hl
 obtain ⟨c0,c1,c2,c3,c4,rfl⟩ := list5 hl
 obtain ⟨y0,g0⟩ := hf 0 _ c0 rfl rfl
 obtain ⟨y1,g1⟩ := hf 1 _ c1 rfl rfl
 obtain ⟨y2,g2⟩ := hf 2 _ c2 rfl rfl
 obtain ⟨y3,g3⟩ := hf 3 _ c3 rfl rfl
 obtain ⟨y4,g4⟩ := hf 4 _ c4 rfl rfl
 obtain ⟨i0,e0,_,b0⟩ := DataW.trod_int Tryz.underlying2 g0
 obtain ⟨i1,e1,_,b1⟩ := DataW.trod_int Tryz.underlying2 g1
 obtain ⟨a2,d2,R,rfl,t1,t2,t3⟩ := rows_of g2
 obtain ⟨a3,d3,M3,rfl,u3,v3⟩ := ints_of Tryz.underlying25 Tryz.underlying2 (by kernel_rfl) g3
 obtain ⟨z4,e4,_⟩ := DataW.trod_bool Tryz.underlying4 g4
 simp at e0 e1 e4
 subst e0 e1 e4
 exact ⟨⟨a2,d2,a3,d3⟩,⟨i0,i1,R,M3,z4⟩,rfl,⟨t1,u3,t3,v3,fun r hr => (t2 r hr).1⟩,fun r hr => (t2 r hr).2.1,bounds_i64 b0,bounds_i64 b1,fun r hr => (t2 r hr).2.2⟩
set_option maxRecDepth 100000 in
theorem open_mem {H : Type} {enc : TypeId × Value → H} {W : World} {base : Nat} {v : Value} {d : DataW H} {p : List MemPlace} (hv : Value.okWide Tryz.prog W .any base 76 v) (h : DataW.Trod enc Tryz.prog W 0 (fun _ => true) true 76 v d p) :
  ∃ A m,v = mbV A m ∧ MbS W A m ∧ (∀ r ∈ m.rows,LongT r.txt) ∧ Mb64 m := by
 obtain ⟨cs,rfl,hsz⟩ := okWide_struct Tryz.underlying76 hv
 obtain ⟨fuel,hf⟩ := h
 obtain ⟨A,m,e,h1,h2,h3⟩ := mb_of hf
 have e' : cs.toList = (mbC A m).toList := by simpa [Value.cells] using e
 exact ⟨A,m,by rw [mbV,Array.toList_inj.1 e'],h1,h2,h3⟩
end Go.Proofs.YthioodpmgifomaaGreat