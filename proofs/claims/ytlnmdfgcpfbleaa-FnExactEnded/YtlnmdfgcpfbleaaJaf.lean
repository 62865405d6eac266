/-
  Texts in one: Mcn Mco Mcp Gnd Gne Gnf Mck Mcd Mcf Mcq Gng Gpa Gpb Gpc Gpd Gpe Gpf Gph Gpl Ozr Omb.
-/
import Derived.Test.YtlnmdfgcpfbleaaJae
import Derived.Test.YtlnmdfgcpfbleaaJac
import Derived.Test.YtlnmdfgcpfbleaaJad
import Derived.Test.YtlnmdfgcpfbleaaJab
import Derived.BigQuiet
import Derived.Deep.RegionHeld3
import Derived.Lib.SmallJoins
import Derived.OpenShut
import Derived.ChangeOld
import Derived.ShutString
import Derived.Deep.Matrix
import Derived.Deep.Slices
import Derived.Deep.Strs
import Derived.Deep.Grids
namespace Go.Proofs.Ytlnmdfgcpfbleaa
set_option linter.unusedVariables false
set_option linter.unusedSimpArgs false
open Go.RowKit Go.Sort
theorem Bcm.at {w X : World} {B o : Nat} {cs : List Cel} {fp : Fp} (h : Bcm w X B o cs fp) {j : Nat} {c : Cel} (hj : cs[j]? = some c) : ∃ u f,X.cell? ⟨B,o + j,none⟩ = some u ∧ X.frozen? ⟨B,o + j,none⟩ = false ∧ Cel.ow X c u f ∧
  ∀ (X1 : World) (c' : Cel) (u' : Value) (f' : Fp),Wrt f X X1 → Cel.ow X1 c' u' f' → (∀ b,f' b → f b ∨ X.heap.size ≤ b) → X1.cell? ⟨B,o + j,none⟩ = some u ∧ X1.frozen? ⟨B,o + j,none⟩ = false ∧ Bcm w (X1.setCell ⟨B,o + j,none⟩ u') B o (cs.set j c') fp ∧ (u' = u → Bcm w X1 B o (cs.set j c') fp) := by
 obtain ⟨fp1,hp,_,hgo⟩ := h.next
 obtain ⟨u,f,h1,h2,h3,h4,h5,h6⟩ := hp.at hj
 refine ⟨u,f,h1,h2,h3,fun X1 c' u' f' hw hc hf => ?_⟩
 obtain ⟨k1,k2,k3,k4⟩ := h6 X1 c' u' f' hw hc hf
 exact ⟨k1,k2,hgo _ _ (by simp) k3,fun e => hgo _ _ (by simp) (k4 e)⟩
theorem Bcm.put {w X : World} {B o : Nat} {cs : List Cel} {fp : Fp} (h : Bcm w X B o cs fp) {j : Nat} {x : Value} (hj : cs[j]? = some (.v x)) (y : Value) : X.cell? ⟨B,o + j,none⟩ = some x ∧ X.frozen? ⟨B,o + j,none⟩ = false ∧ Bcm w (X.setCell ⟨B,o + j,none⟩ y) B o (cs.set j (.v y)) fp := by
 obtain ⟨u,f,h1,h2,⟨rfl,_⟩,h4⟩ := h.at hj
 exact ⟨h1,h2,(h4 X (.v y) y (fun _ => False) (Wrt.refl _ _) ⟨rfl,fun _ h => h⟩ (fun b hb => hb.elim)).2.2.1⟩
def m3 (k : Int) : Bool := k % 3 == 0
def mk8 (r : Rw) (k : Nat) : Rw :=
 { ver := (k : Int),txt := marksS r.txt.length (k + 1),got := marks r.got.length (k + 1 + r.txt.length),sus := marks r.sus.length (k + 1 + r.txt.length + r.got.length),wed := m3 ((k + 1 + r.txt.length + r.got.length + r.sus.length : Nat) : Int),rdy := m3 (((k + 1 + r.txt.length + r.got.length + r.sus.length : Nat) : Int) + 1),by_ := ((k + 1 + r.txt.length + r.got.length + r.sus.length : Nat) : Int) + 1 + 1,trm := marks r.trm.length (k + 1 + r.txt.length + r.got.length + r.sus.length + 1 + 1 + 1) }
def cnt8 (r : Rw) : Nat := 1 + r.txt.length + r.got.length + r.sus.length + 1 + 1 + 1 + r.trm.length
def cP (R : List Rw) (k : Nat) : Nat := ((R.take k).map cnt8).sum
theorem cP_next {R : List Rw} {k : Nat} (hk : k < R.length) : cP R (k + 1) = cP R k + cnt8 (rowN R k) := by
 have e : rowN R k = R[k] := by simp [rowN,List.getD,hk]
 unfold cP
 rw [List.take_succ_eq_append_getElem hk,List.map_append,List.sum_append,e]
 simp
theorem cP_mono (R : List Rw) {a b : Nat} (h : a ≤ b) : cP R a ≤ cP R b := by
 unfold cP
 obtain ⟨c,rfl⟩ := Nat.exists_eq_add_of_le h
 rw [List.take_add,List.map_append,List.sum_append]
 omega
def mkP (R : List Rw) (k : Nat) : Nat → List Rw
 | 0 => R
 | j + 1 => (mkP R k j).set j (mk8 (rowN R j) (k + cP R j))
theorem mkP_len (R : List Rw) (k : Nat) : ∀ j,(mkP R k j).length = R.length
 | 0 => rfl
 | j + 1 => by rw [mkP,List.length_set,mkP_len R k j]
theorem mkP_row {R : List Rw} {k : Nat} : ∀ {j i : Nat},j ≤ R.length → rowN (mkP R k j) i = if i < j then mk8 (rowN R i) (k + cP R i) else rowN R i
 | 0,i,_ => by simp [mkP]
 | j + 1,i,h => by
  rw [mkP,rowN_set (by rw [mkP_len];omega),mkP_row (by omega)]
  by_cases e : i = j
  ·subst e;rw [if_pos rfl,if_pos (by omega)]
  ·rw [if_neg e]
   by_cases h2 : i < j
   ·rw [if_pos h2,if_pos (by omega)]
   ·rw [if_neg h2,if_neg (by omega)]
set_option maxRecDepth 100000 in
set_option maxHeartbeats 6400000 in
theorem markRs_ow (a : Option Addr) (cap k0 : Nat) (R : List Rw) (fp : Fp) (w : World) (h : Cel.ow w (lcl 8 rw8 R) (.slice a R.length cap) fp) (hk1 : 1 ≤ k0) (hk : k0 + cP R R.length ≤ 10000000) (hm : R.length ≤ maxLen) :
  Calls Try.prog 132 #[.slice a R.length cap,.int .i64 (k0 : Int)] w fun e w' => e = .returned (.int .i64 ((k0 + cP R R.length : Nat) : Int)) ∧ ∃ fp',Cel.ow w' (lcl 8 rw8 (mkP R k0 R.length)) (.slice a R.length cap) fp' ∧ (∀ b,fp' b → fp b ∨ w.heap.size ≤ b) ∧ Wrt fp w w' := by
 unfold maxLen at hm
 have HH : Hid (Cel.ow w (lcl 8 rw8 R) (.slice a R.length cap) fp) := h
 clear h
 go_enter Try.func132,Try.ntmps132
 go_wp2_with fail
 go_loopw [1,5] (fun kv v wr => ∃ (j K : Nat) (fpj : Fp),j ≤ R.length ∧ v = .int .i64 (j : Int) ∧ kv = .int .i64 (K : Int) ∧ Hid (K = k0 + cP R j) ∧ Cel.ow wr (lcl 8 rw8 (mkP R k0 j)) (.slice a R.length cap) fpj ∧ (∀ b,fpj b → fp b ∨ w.heap.size ≤ b) ∧ Wrt fp w wr) (fun _ v _ => R.length - (intOf v).toNat)
 case atStart => exact ⟨0,k0,fp,Nat.zero_le _,rfl,rfl,by simp [Hid,cP],HH.out,fun b hb => .inl hb,Wrt.refl _ _⟩
 case round =>
  obtain ⟨j,K0,fpj,hj,rfl,rfl,hK,ho,hfj,hwj⟩ := hrel
  have HWj : Hid (Wrt fp w wr) := hwj
  have HFj : Hid (∀ b,fpj b → fp b ∨ w.heap.size ≤ b) := hfj
  by_cases hlt : j < R.length
  ·have j1 : (j : Int) < (R.length : Int) := by omega
   have j0 : (0 : Int) ≤ (j : Int) := by omega
   have hlen := mkP_len R k0 j
   have hat : (mkP R k0 j)[j]? = some (rowN R j) := by
    have := mkP_row (k := k0) (i := j) hj
    rw [if_neg (Nat.lt_irrefl _)] at this
    rw [← this]
    simp [rowN,List.getD,hlen,hlt]
   rw [← hlen] at ho
   obtain ⟨g,off,f,rfl,hfg,hfs,hP,hglt,hput⟩ := ow_elF rw8_len (by omega) ho hat
   have hput := fun X => hput X (mk8 (rowN R j) (k0 + cP R j))
   rw [show (mkP R k0 j).set j (mk8 (rowN R j) (k0 + cP R j)) = mkP R k0 (j + 1) from rfl,hlen] at hput
   rw [← hK.out] at hput
   have hKb : K0 + cnt8 (rowN R j) ≤ 10000000 := by
    have h1 := cP_mono R (show j + 1 ≤ R.length from hlt)
    rw [cP_next hlt] at h1
    have := hK.out
    omega
   have HKn : Hid (K0 + cnt8 (rowN R j) = k0 + cP R (j + 1)) := by rw [Hid,cP_next hlt,hK.out];omega
   have hK1 : 1 ≤ K0 := by have := hK.out;omega
   have HPut : Hid (∀ X,Bcm wr X g (off + j * 8) (rw8 (mk8 (rowN R j) K0)) f → ∃ fp',Cel.ow X (lcl 8 rw8 (mkP R k0 (j + 1))) (.slice (some ⟨g,off,none⟩) R.length cap) fp' ∧ (∀ b,fp' b → fpj b ∨ wr.heap.size ≤ b) ∧ Wrt fpj wr X) := hput
   have B0 : Bcm wr wr g (off + j * 8) (rw8 (rowN R j)) f := Bcm.refl hP
   clear ho hput hP hat hlen hfj hwj hK hfs
   generalize rowN R j = r at *
   obtain ⟨v0,z0,B1⟩ := B0.put (j := 0) (x := .int .i64 r.ver) rfl (.int .i64 (K0 : Int))
   simp only [Nat.add_zero] at v0 z0 B1
   have HB1 : Hid (Bcm wr (wr.setCell ⟨g,off + j * 8,none⟩ (.int .i64 (K0 : Int))) g (off + j * 8) ((rw8 r).set 0 (.v (.int .i64 (K0 : Int)))) f) := B1
   unfold cnt8 at hKb
   obtain ⟨Ka,hKa⟩ : ∃ Ka : Nat,Hid (Ka = K0 + 1) := ⟨_,rfl⟩
   have eKa : (Ka : Int) = (K0 : Int) + 1 := by have := hKa.out;omega
   obtain ⟨u1,f1,t1,_,ho1,hp1⟩ := B1.at (j := 1) (c := scl r.txt) rfl
   have hM1 := markS_ow u1 Ka r.txt f1 _ ho1 (by have := hKa.out;omega) (by have := hKa.out;omega) (by omega)
   clear B0 B1 ho1
   obtain ⟨K2,hK2⟩ : ∃ K2 : Nat,Hid (K2 = Ka + r.txt.length) := ⟨_,rfl⟩
   have eK2 : (Ka : Int) + (r.txt.length : Int) = (K2 : Int) := by have := hK2.out;omega
   rw [eK2,eKa] at hM1
   go_wp2_with fail
   refine hM1.mono ?_
   rintro e X1 ⟨rfl,hm1,hw1⟩
   have B2 := (hp1 X1 _ u1 f1 hw1 hm1 (fun b hb => .inl hb)).2.2.2 rfl
   clear hM1 hp1 hm1 hw1 t1 v0 z0 eKa eK2
   obtain ⟨u2,f2,t2,_,ho2,hp2⟩ := B2.at (j := 2) (c := icl r.got) rfl
   have hM2 := markI_ow u2 K2 r.got f2 _ ho2 (by have := hKa.out;have := hK2.out;omega) (by omega)
   obtain ⟨K3,hK3⟩ : ∃ K3 : Nat,Hid (K3 = K2 + r.got.length) := ⟨_,rfl⟩
   have eK3 : (K2 : Int) + (r.got.length : Int) = (K3 : Int) := by have := hK3.out;omega
   rw [eK3] at hM2
   clear B2 ho2
   go_wp2_with fail
   refine hM2.mono ?_
   rintro e X2 ⟨rfl,hm2,hw2⟩
   have B3 := (hp2 X2 _ u2 f2 hw2 hm2 (fun b hb => .inl hb)).2.2.2 rfl
   clear hM2 hp2 hm2 hw2 t2 eK3
   obtain ⟨u3,f3,t3,_,ho3,hp3⟩ := B3.at (j := 3) (c := icl r.sus) rfl
   have hM3 := markI_ow u3 K3 r.sus f3 _ ho3 (by have := hKa.out;have := hK2.out;have := hK3.out;omega) (by omega)
   obtain ⟨K4,hK4⟩ : ∃ K4 : Nat,Hid (K4 = K3 + r.sus.length) := ⟨_,rfl⟩
   have eK4 : (K3 : Int) + (r.sus.length : Int) = (K4 : Int) := by have := hK4.out;omega
   rw [eK4] at hM3
   clear B3 ho3
   go_wp2_with fail
   refine hM3.mono ?_
   rintro e X3 ⟨rfl,hm3,hw3⟩
   have B4 := (hp3 X3 _ u3 f3 hw3 hm3 (fun b hb => .inl hb)).2.2.2 rfl
   clear hM3 hp3 hm3 hw3 t3 eK4
   have hK4b : K4 + 3 ≤ K0 + (1 + r.txt.length + r.got.length + r.sus.length + 1 + 1 + 1 + r.trm.length) := by have := hKa.out;have := hK2.out;have := hK3.out;have := hK4.out;omega
   obtain ⟨v4,z4,B5⟩ := B4.put (j := 4) (x := .bool r.wed) rfl (.bool ((K4 : Int) % 3 == 0))
   obtain ⟨v5,z5,B6⟩ := B5.put (j := 5) (x := .bool r.rdy) rfl (.bool (((K4 : Int) + 1) % 3 == 0))
   obtain ⟨v6,z6,B7⟩ := B6.put (j := 6) (x := .int .i64 r.by_) rfl (.int .i64 ((K4 : Int) + 1 + 1))
   obtain ⟨u7,f7,t7,_,ho7,hp7⟩ := B7.at (j := 7) (c := icl r.trm) rfl
   obtain ⟨K7,hK7⟩ : ∃ K7 : Nat,Hid (K7 = K4 + 1 + 1 + 1) := ⟨_,rfl⟩
   have eK7 : (K7 : Int) = (K4 : Int) + 1 + 1 + 1 := by have := hK7.out;omega
   have hM7 := markI_ow u7 K7 r.trm f7 _ ho7 (by have := hK7.out;omega) (by omega)
   obtain ⟨K8,hK8⟩ : ∃ K8 : Nat,Hid (K8 = K7 + r.trm.length) := ⟨_,rfl⟩
   have eK8 : (K7 : Int) + (r.trm.length : Int) = (K8 : Int) := by have := hK8.out;omega
   rw [eK8,eK7] at hM7
   have HK8 : Hid (K8 = k0 + cP R (j + 1)) := by
    have h1 := HKn.out
    unfold cnt8 at h1
    have := hKa.out;have := hK2.out;have := hK3.out;have := hK4.out;have := hK7.out;have := hK8.out
    rw [Hid]
    omega
   have wj : wrap64 ((j : Int) + 1) = (j : Int) + 1 := by unfold wrap64;omega
   clear B4 B5 B6 B7 ho7 HB1 eK8 eK7
   go_wp2_with fail
   refine hM7.mono ?_
   rintro e X7 ⟨rfl,hm7,hw7⟩
   have B8 := (hp7 X7 _ u7 f7 hw7 hm7 (fun b hb => .inl hb)).2.2.2 rfl
   have hE : rw8 (mk8 r K0) = (((((((((rw8 r).set 0 (.v (.int .i64 (K0 : Int)))).set 1 (scl (marksS r.txt.length Ka))).set 2 (icl (marks r.got.length K2))).set 3 (icl (marks r.sus.length K3))).set 4 (.v (.bool ((K4 : Int) % 3 == 0)))).set 5 (.v (.bool (((K4 : Int) + 1) % 3 == 0)))).set 6 (.v (.int .i64 ((K4 : Int) + 1 + 1)))).set 7 (icl (marks r.trm.length K7))) := by
    rw [hK7.out,hK4.out,hK3.out,hK2.out,hKa.out]
    rfl
   rw [← hE] at B8
   obtain ⟨fp',n1,n2,n3⟩ := HPut.out X7 B8
   have HN1 : Hid (Cel.ow X7 (lcl 8 rw8 (mkP R k0 (j + 1))) (.slice (some ⟨g,off,none⟩) R.length cap) fp') := n1
   have HN2 : Hid (∀ b,fp' b → fpj b ∨ wr.heap.size ≤ b) := n2
   have HN3 : Hid (Wrt fpj wr X7) := n3
   clear hM7 hp7 hm7 hw7 t7 v4 z4 v5 z5 v6 z6 B8 hE n1 n2 n3 HPut
   have hws := HWj.out.size
   clear hKb hK4b hk hK1 hk1
   go_wp2
   go_roundw
   case rel => exact ⟨j + 1,K8,fp',by omega,by go_num,rfl,HK8,HN1.out,fun b hb => by
    rcases HN2.out b hb with h | h
    ·exact HFj.out b h
    ·exact .inr (by omega),HWj.out.trans HN3.out (fun b hb h => by
     rcases HFj.out b h with h | h
     ·exact h
     ·omega)⟩
   case measure => simp [intOf];omega
  ·obtain rfl : j = R.length := by omega
   have k1 : ¬ ((R.length : Int) < (R.length : Int)) := by omega
   have HE : Hid (Cel.ow wr (lcl 8 rw8 (mkP R k0 R.length)) (.slice a R.length cap) fpj) := ho
   clear ho hfj hwj hk hk1
   go_wp2
   go_ret
   exact ⟨ret_int (by rw [hK.out];omega),fpj,HE.out,HFj.out,HWj.out⟩
end Go.Proofs.Ytlnmdfgcpfbleaa
namespace Go.Proofs.Ytlnmdfgcpfbleaa
set_option linter.unusedVariables false
set_option linter.unusedSimpArgs false
open Go.RowKit Go.Sort
end Go.Proofs.Ytlnmdfgcpfbleaa
namespace Go.Proofs.Ytlnmdfgcpfbleaa
set_option linter.unusedVariables false
set_option linter.unusedSimpArgs false
open Go.RowKit Go.Sort
theorem owL_two {w : World} {c1 c2 : Cel} {v1 v2 : Value} {f : Fp} (h : owL w [c1,c2] [v1,v2] f) : ∃ f1 f2,Cel.ow w c1 v1 f1 ∧ Cel.ow w c2 v2 f2 ∧ (∀ b,f1 b → ¬ f2 b) ∧ ∀ b,f b ↔ f1 b ∨ f2 b := by
 obtain ⟨u1,us1,f1,g1,e1,o1,h2,d1,i1⟩ := h
 cases e1
 obtain ⟨u2,us2,f2,g2,e2,o2,h3,d2,i2⟩ := h2
 cases e2
 have hg : ∀ b,¬ g2 b := h3.2
 refine ⟨f1,f2,o1,o2,fun b h1 h2 => d1 b h1 ((i2 b).2 (.inl h2)),fun b => ?_⟩
 rw [i1,i2]
 exact ⟨fun h => h.imp id (fun h => h.elim id (fun h => absurd h (hg b))),fun h => h.imp id .inl⟩
def cntMb (m : Mb) : Nat := cP m.rows m.rows.length + m.sung.length
end Go.Proofs.Ytlnmdfgcpfbleaa
namespace Go.Proofs.Ytlnmdfgcpfbleaa
set_option linter.unusedVariables false
set_option linter.unusedSimpArgs false
open Go.RowKit Go.Sort
def mkM5 (m : Mb) (k : Nat) : Mb := ⟨(k : Int),(k : Int) + 1,mkP m.rows (k + 2) m.rows.length,marks m.sung.length (k + 2 + cP m.rows m.rows.length),m3 ((k + 2 + cP m.rows m.rows.length + m.sung.length : Nat) : Int)⟩
def cnt5 (m : Mb) : Nat := 2 + cP m.rows m.rows.length + m.sung.length + 1
def mkM10 (x : Ml) (k : Nat) : Ml := ⟨(k : Int),(k : Int) + 1,mk8 x.row (k + 2)⟩
def cnt10 (x : Ml) : Nat := 2 + cnt8 x.row
def cPm (R : List Mb) (k : Nat) : Nat := ((R.take k).map cnt5).sum
theorem cPm_next {R : List Mb} {k : Nat} (hk : k < R.length) : cPm R (k + 1) = cPm R k + cnt5 (mbN R k) := by
 have e : mbN R k = R[k] := by simp [mbN,List.getD,hk]
 unfold cPm
 rw [List.take_succ_eq_append_getElem hk,List.map_append,List.sum_append,e]
 simp
theorem cPm_mono (R : List Mb) {a b : Nat} (h : a ≤ b) : cPm R a ≤ cPm R b := by
 unfold cPm
 obtain ⟨c,rfl⟩ := Nat.exists_eq_add_of_le h
 rw [List.take_add,List.map_append,List.sum_append]
 omega
theorem mbN_set {R : List Mb} {i j : Nat} {x : Mb} (h : i < R.length) : mbN (R.set i x) j = if j = i then x else mbN R j := by
 unfold mbN
 rw [List.getD_eq_getElem?_getD,List.getD_eq_getElem?_getD,List.getElem?_set]
 by_cases e : i = j
 ·subst e;simp [h]
 ·rw [if_neg e,if_neg (Ne.symm e)]
def mkPm (R : List Mb) (k : Nat) : Nat → List Mb
 | 0 => R
 | j + 1 => (mkPm R k j).set j (mkM5 (mbN R j) (k + cPm R j))
theorem mkPm_len (R : List Mb) (k : Nat) : ∀ j,(mkPm R k j).length = R.length
 | 0 => rfl
 | j + 1 => by rw [mkPm,List.length_set,mkPm_len R k j]
theorem mkPm_el {R : List Mb} {k : Nat} : ∀ {j i : Nat},j ≤ R.length → mbN (mkPm R k j) i = if i < j then mkM5 (mbN R i) (k + cPm R i) else mbN R i
 | 0,i,_ => by simp [mkPm]
 | j + 1,i,h => by
  rw [mkPm,mbN_set (by rw [mkPm_len];omega),mkPm_el (by omega)]
  by_cases e : i = j
  ·subst e;rw [if_pos rfl,if_pos (by omega)]
  ·rw [if_neg e]
   by_cases h2 : i < j
   ·rw [if_pos h2,if_pos (by omega)]
   ·rw [if_neg h2,if_neg (by omega)]
def cPl (R : List Ml) (k : Nat) : Nat := ((R.take k).map cnt10).sum
theorem cPl_next {R : List Ml} {k : Nat} (hk : k < R.length) : cPl R (k + 1) = cPl R k + cnt10 (mlN R k) := by
 have e : mlN R k = R[k] := by simp [mlN,List.getD,hk]
 unfold cPl
 rw [List.take_succ_eq_append_getElem hk,List.map_append,List.sum_append,e]
 simp
theorem cPl_mono (R : List Ml) {a b : Nat} (h : a ≤ b) : cPl R a ≤ cPl R b := by
 unfold cPl
 obtain ⟨c,rfl⟩ := Nat.exists_eq_add_of_le h
 rw [List.take_add,List.map_append,List.sum_append]
 omega
theorem mlN_set {R : List Ml} {i j : Nat} {x : Ml} (h : i < R.length) : mlN (R.set i x) j = if j = i then x else mlN R j := by
 unfold mlN
 rw [List.getD_eq_getElem?_getD,List.getD_eq_getElem?_getD,List.getElem?_set]
 by_cases e : i = j
 ·subst e;simp [h]
 ·rw [if_neg e,if_neg (Ne.symm e)]
def mkPl (R : List Ml) (k : Nat) : Nat → List Ml
 | 0 => R
 | j + 1 => (mkPl R k j).set j (mkM10 (mlN R j) (k + cPl R j))
theorem mkPl_len (R : List Ml) (k : Nat) : ∀ j,(mkPl R k j).length = R.length
 | 0 => rfl
 | j + 1 => by rw [mkPl,List.length_set,mkPl_len R k j]
theorem mkPl_el {R : List Ml} {k : Nat} : ∀ {j i : Nat},j ≤ R.length → mlN (mkPl R k j) i = if i < j then mkM10 (mlN R i) (k + cPl R i) else mlN R i
 | 0,i,_ => by simp [mkPl]
 | j + 1,i,h => by
  rw [mkPl,mlN_set (by rw [mkPl_len];omega),mkPl_el (by omega)]
  by_cases e : i = j
  ·subst e;rw [if_pos rfl,if_pos (by omega)]
  ·rw [if_neg e]
   by_cases h2 : i < j
   ·rw [if_pos h2,if_pos (by omega)]
   ·rw [if_neg h2,if_neg (by omega)]
set_option maxRecDepth 100000 in
set_option maxHeartbeats 6400000 in
theorem markMs_ow (a : Option Addr) (cap k0 : Nat) (R : List Mb) (fp : Fp) (w : World) (h : Cel.ow w (lcl 5 mb5 R) (.slice a R.length cap) fp) (hk1 : 1 ≤ k0) (hk : k0 + cPm R R.length ≤ 10000000) (hm : R.length ≤ maxLen) :
  Calls Try.prog 107 #[.slice a R.length cap,.int .i64 (k0 : Int)] w fun e w' => e = .returned (.int .i64 ((k0 + cPm R R.length : Nat) : Int)) ∧ ∃ fp',Cel.ow w' (lcl 5 mb5 (mkPm R k0 R.length)) (.slice a R.length cap) fp' ∧ (∀ b,fp' b → fp b ∨ w.heap.size ≤ b) ∧ Wrt fp w w' := by
 unfold maxLen at hm
 have HH : Hid (Cel.ow w (lcl 5 mb5 R) (.slice a R.length cap) fp) := h
 clear h
 go_enter Try.func107,Try.ntmps107
 go_wp2_with fail
 go_loopw [1,5] (fun kv v wr => ∃ (j K : Nat) (fpj : Fp),j ≤ R.length ∧ v = .int .i64 (j : Int) ∧ kv = .int .i64 (K : Int) ∧ Hid (K = k0 + cPm R j) ∧ Cel.ow wr (lcl 5 mb5 (mkPm R k0 j)) (.slice a R.length cap) fpj ∧ (∀ b,fpj b → fp b ∨ w.heap.size ≤ b) ∧ Wrt fp w wr) (fun _ v _ => R.length - (intOf v).toNat)
 case atStart => exact ⟨0,k0,fp,Nat.zero_le _,rfl,rfl,by simp [Hid,cPm],HH.out,fun b hb => .inl hb,Wrt.refl _ _⟩
 case round =>
  obtain ⟨j,K0,fpj,hj,rfl,rfl,hK,ho,hfj,hwj⟩ := hrel
  have HWj : Hid (Wrt fp w wr) := hwj
  have HFj : Hid (∀ b,fpj b → fp b ∨ w.heap.size ≤ b) := hfj
  by_cases hlt : j < R.length
  ·have j1 : (j : Int) < (R.length : Int) := by omega
   have j0 : (0 : Int) ≤ (j : Int) := by omega
   have hlen := mkPm_len R k0 j
   have hat : (mkPm R k0 j)[j]? = some (mbN R j) := by
    have := mkPm_el (k := k0) (i := j) hj
    rw [if_neg (Nat.lt_irrefl _)] at this
    rw [← this]
    simp [mbN,List.getD,hlen,hlt]
   rw [← hlen] at ho
   obtain ⟨g,off,f,rfl,hfg,hfs,hP,hglt,hput⟩ := ow_elF mb5_len (by omega) ho hat
   have hput := fun X => hput X (mkM5 (mbN R j) (k0 + cPm R j))
   rw [show (mkPm R k0 j).set j (mkM5 (mbN R j) (k0 + cPm R j)) = mkPm R k0 (j + 1) from rfl,hlen] at hput
   rw [← hK.out] at hput
   have hKb : K0 + cnt5 (mbN R j) ≤ 10000000 := by
    have h1 := cPm_mono R (show j + 1 ≤ R.length from hlt)
    rw [cPm_next hlt] at h1
    have := hK.out
    omega
   have HKn : Hid (K0 + cnt5 (mbN R j) = k0 + cPm R (j + 1)) := by rw [Hid,cPm_next hlt,hK.out];omega
   have hK1 : 1 ≤ K0 := by have := hK.out;omega
   have HPut : Hid (∀ X,Bcm wr X g (off + j * 5) (mb5 (mkM5 (mbN R j) K0)) f → ∃ fp',Cel.ow X (lcl 5 mb5 (mkPm R k0 (j + 1))) (.slice (some ⟨g,off,none⟩) R.length cap) fp' ∧ (∀ b,fp' b → fpj b ∨ wr.heap.size ≤ b) ∧ Wrt fpj wr X) := hput
   have B0 : Bcm wr wr g (off + j * 5) (mb5 (mbN R j)) f := Bcm.refl hP
   clear ho hput hP hat hlen hfj hwj hK hfs
   generalize mbN R j = r at *
   obtain ⟨v0,z0,B1⟩ := B0.put (j := 0) (x := .int .i64 r.id) rfl (.int .i64 (K0 : Int))
   simp only [Nat.add_zero] at v0 z0 B1
   obtain ⟨v1,z1,B2⟩ := B1.put (j := 1) (x := .int .i64 r.n) rfl (.int .i64 ((K0 : Int) + 1))
   unfold cnt5 at hKb
   obtain ⟨Ka,hKa⟩ : ∃ Ka : Nat,Hid (Ka = K0 + 2) := ⟨_,rfl⟩
   have eKa : (Ka : Int) = (K0 : Int) + 1 + 1 := by have := hKa.out;omega
   obtain ⟨u2,f2,t2,_,ho2,hp2⟩ := B2.at (j := 2) (c := lcl 8 rw8 r.rows) rfl
   have ho2' := ho2
   obtain ⟨ra,rc,_,_,_,rfl,hOso,_⟩ := ho2'
   have hM1 := markRs_ow ra rc Ka r.rows f2 _ ho2 (by have := hKa.out;omega) (by have := hKa.out;omega) (by have := hOso.le;omega)
   clear B0 B1 B2 ho2 hOso
   obtain ⟨K2,hK2⟩ : ∃ K2 : Nat,Hid (K2 = Ka + cP r.rows r.rows.length) := ⟨_,rfl⟩
   rw [← hK2.out,eKa] at hM1
   have hKc : K0 + 2 ≤ 10000000 := by omega
   clear hKb
   have HKb : Hid (K0 + (2 + cP r.rows r.rows.length + r.sung.length + 1) = k0 + cPm R (j + 1)) := HKn.out
   have HKc : Hid (k0 + cPm R (j + 1) ≤ 10000000) := by have := cPm_mono R (show j + 1 ≤ R.length from hlt);rw [Hid];omega
   go_wp2_with fail
   refine hM1.mono ?_
   rintro e X1 ⟨rfl,g2,hm1,hg1,hw1⟩
   have B3 := (hp2 X1 _ (.slice ra r.rows.length rc) g2 hw1 hm1 hg1).2.2.2 rfl
   clear hM1 hp2 hm1 hw1 hg1 t2 v0 z0 v1 z1 eKa hKc hk hk1 hK1
   obtain ⟨u3,f3,t3,_,ho3,hp3⟩ := B3.at (j := 3) (c := icl r.sung) rfl
   have hM2 := markI_ow u3 K2 r.sung f3 _ ho3 (by have := hKa.out;have := hK2.out;have := HKb.out;have := HKc.out;omega) (by have := HKb.out;have := HKc.out;omega)
   obtain ⟨K3,hK3⟩ : ∃ K3 : Nat,Hid (K3 = K2 + r.sung.length) := ⟨_,rfl⟩
   have eK3 : (K2 : Int) + (r.sung.length : Int) = (K3 : Int) := by have := hK3.out;omega
   rw [eK3] at hM2
   clear B3 ho3
   go_wp2_with fail
   refine hM2.mono ?_
   rintro e X2 ⟨rfl,hm2,hw2⟩
   have B4 := (hp3 X2 _ u3 f3 hw2 hm2 (fun b hb => .inl hb)).2.2.2 rfl
   clear hM2 hp3 hm2 hw2 t3 eK3
   obtain ⟨v4,z4,B5⟩ := B4.put (j := 4) (x := .bool r.done) rfl (.bool ((K3 : Int) % 3 == 0))
   obtain ⟨KF,hKF⟩ : ∃ KF : Nat,Hid (KF = K3 + 1) := ⟨_,rfl⟩
   have HKF : Hid (KF = k0 + cPm R (j + 1)) := by
    have := hKa.out;have := hK2.out;have := hK3.out;have := hKF.out;have := HKb.out
    rw [Hid]
    omega
   have eKF : (K3 : Int) + 1 = (KF : Int) := by have := hKF.out;omega
   have hKFb : KF ≤ 10000000 := by have := HKF.out;have := HKc.out;omega
   have hE : mb5 (mkM5 r K0) = ((((((mb5 r).set 0 (.v (.int .i64 (K0 : Int)))).set 1 (.v (.int .i64 ((K0 : Int) + 1)))).set 2 (lcl 8 rw8 (mkP r.rows Ka r.rows.length))).set 3 (icl (marks r.sung.length K2))).set 4 (.v (.bool ((K3 : Int) % 3 == 0)))) := by
    rw [hK3.out,hK2.out,hKa.out]
    rfl
   rw [← hE] at B5
   clear B4 hE
   go_upto_region 11 with fail
   have BF := B5
   generalize X2.setCell ⟨g,off + j * 5 + 4,none⟩ (.bool ((K3 : Int) % 3 == 0)) = XF at *
   clear v4 z4 B5
   obtain ⟨fp',n1,n2,n3⟩ := HPut.out XF BF
   have HN1 : Hid (Cel.ow XF (lcl 5 mb5 (mkPm R k0 (j + 1))) (.slice (some ⟨g,off,none⟩) R.length cap) fp') := n1
   have HN2 : Hid (∀ b,fp' b → fpj b ∨ wr.heap.size ≤ b) := n2
   have HN3 : Hid (Wrt fpj wr XF) := n3
   clear BF n1 n2 n3 HPut
   have hws := HWj.out.size
   go_wp2
   go_roundw
   case rel => exact ⟨j + 1,KF,fp',by omega,by go_num,rfl,HKF,HN1.out,fun b hb => by
    rcases HN2.out b hb with h | h
    ·exact HFj.out b h
    ·exact .inr (by omega),HWj.out.trans HN3.out (fun b hb h => by
     rcases HFj.out b h with h | h
     ·exact h
     ·omega)⟩
   case measure => simp [intOf];omega
  ·obtain rfl : j = R.length := by omega
   have k1 : ¬ ((R.length : Int) < (R.length : Int)) := by omega
   have HE : Hid (Cel.ow wr (lcl 5 mb5 (mkPm R k0 R.length)) (.slice a R.length cap) fpj) := ho
   clear ho hfj hwj hk hk1
   go_wp2
   go_ret
   exact ⟨ret_int (by rw [hK.out];omega),fpj,HE.out,HFj.out,HWj.out⟩
set_option maxRecDepth 100000 in
set_option maxHeartbeats 6400000 in
theorem markLs_ow (a : Option Addr) (cap k0 : Nat) (R : List Ml) (fp : Fp) (w : World) (h : Cel.ow w (lcl 10 ml10 R) (.slice a R.length cap) fp) (hk1 : 1 ≤ k0) (hk : k0 + cPl R R.length ≤ 10000000) (hm : R.length ≤ maxLen) :
  Calls Try.prog 109 #[.slice a R.length cap,.int .i64 (k0 : Int)] w fun e w' => e = .returned (.int .i64 ((k0 + cPl R R.length : Nat) : Int)) ∧ ∃ fp',Cel.ow w' (lcl 10 ml10 (mkPl R k0 R.length)) (.slice a R.length cap) fp' ∧ (∀ b,fp' b → fp b ∨ w.heap.size ≤ b) ∧ Wrt fp w w' := by
 unfold maxLen at hm
 have HH : Hid (Cel.ow w (lcl 10 ml10 R) (.slice a R.length cap) fp) := h
 clear h
 go_enter Try.func109,Try.ntmps109
 go_wp2_with fail
 go_loopw [1,5] (fun kv v wr => ∃ (j K : Nat) (fpj : Fp),j ≤ R.length ∧ v = .int .i64 (j : Int) ∧ kv = .int .i64 (K : Int) ∧ Hid (K = k0 + cPl R j) ∧ Cel.ow wr (lcl 10 ml10 (mkPl R k0 j)) (.slice a R.length cap) fpj ∧ (∀ b,fpj b → fp b ∨ w.heap.size ≤ b) ∧ Wrt fp w wr) (fun _ v _ => R.length - (intOf v).toNat)
 case atStart => exact ⟨0,k0,fp,Nat.zero_le _,rfl,rfl,by simp [Hid,cPl],HH.out,fun b hb => .inl hb,Wrt.refl _ _⟩
 case round =>
  obtain ⟨j,K0,fpj,hj,rfl,rfl,hK,ho,hfj,hwj⟩ := hrel
  have HWj : Hid (Wrt fp w wr) := hwj
  have HFj : Hid (∀ b,fpj b → fp b ∨ w.heap.size ≤ b) := hfj
  by_cases hlt : j < R.length
  ·have j1 : (j : Int) < (R.length : Int) := by omega
   have j0 : (0 : Int) ≤ (j : Int) := by omega
   have hlen := mkPl_len R k0 j
   have hat : (mkPl R k0 j)[j]? = some (mlN R j) := by
    have := mkPl_el (k := k0) (i := j) hj
    rw [if_neg (Nat.lt_irrefl _)] at this
    rw [← this]
    simp [mlN,List.getD,hlen,hlt]
   rw [← hlen] at ho
   obtain ⟨g,off,f,rfl,hfg,hfs,hP,hglt,hput⟩ := ow_elF ml10_len (by omega) ho hat
   have hput := fun X => hput X (mkM10 (mlN R j) (k0 + cPl R j))
   rw [show (mkPl R k0 j).set j (mkM10 (mlN R j) (k0 + cPl R j)) = mkPl R k0 (j + 1) from rfl,hlen] at hput
   rw [← hK.out] at hput
   have hKb : K0 + cnt10 (mlN R j) ≤ 10000000 := by
    have h1 := cPl_mono R (show j + 1 ≤ R.length from hlt)
    rw [cPl_next hlt] at h1
    have := hK.out
    omega
   have HKn : Hid (K0 + cnt10 (mlN R j) = k0 + cPl R (j + 1)) := by rw [Hid,cPl_next hlt,hK.out];omega
   have hK1 : 1 ≤ K0 := by have := hK.out;omega
   have HPut : Hid (∀ X,Bcm wr X g (off + j * 10) (ml10 (mkM10 (mlN R j) K0)) f → ∃ fp',Cel.ow X (lcl 10 ml10 (mkPl R k0 (j + 1))) (.slice (some ⟨g,off,none⟩) R.length cap) fp' ∧ (∀ b,fp' b → fpj b ∨ wr.heap.size ≤ b) ∧ Wrt fpj wr X) := hput
   have B0 : Bcm wr wr g (off + j * 10) (ml10 (mlN R j)) f := Bcm.refl hP
   clear ho hput hP hat hlen hfj hwj hK hfs
   generalize mlN R j = r at *
   obtain ⟨v0,z0,B1⟩ := B0.put (j := 0) (x := .int .i64 r.fr) rfl (.int .i64 (K0 : Int))
   simp only [Nat.add_zero] at v0 z0 B1
   obtain ⟨v1,z1,B2⟩ := B1.put (j := 1) (x := .int .i64 r.to) rfl (.int .i64 ((K0 : Int) + 1))
   obtain ⟨v2,z2,B3⟩ := B2.put (j := 2) (x := .int .i64 r.row.ver) rfl (.int .i64 ((K0 : Int) + 1 + 1))
   unfold cnt10 cnt8 at hKb
   obtain ⟨Ka,hKa⟩ : ∃ Ka : Nat,Hid (Ka = K0 + 2 + 1) := ⟨_,rfl⟩
   have eKa : (Ka : Int) = (K0 : Int) + 1 + 1 + 1 := by have := hKa.out;omega
   obtain ⟨u3,f3,t3,_,ho3,hp3⟩ := B3.at (j := 3) (c := scl r.row.txt) rfl
   have hM1 := markS_ow u3 Ka r.row.txt f3 _ ho3 (by have := hKa.out;omega) (by have := hKa.out;omega) (by omega)
   clear B0 B1 B2 B3 ho3
   obtain ⟨K2,hK2⟩ : ∃ K2 : Nat,Hid (K2 = Ka + r.row.txt.length) := ⟨_,rfl⟩
   have eK2 : (Ka : Int) + (r.row.txt.length : Int) = (K2 : Int) := by have := hK2.out;omega
   rw [eK2,eKa] at hM1
   have hKc : K0 + 3 ≤ 10000000 := by omega
   clear hKb
   have HKb : Hid (K0 + (2 + (1 + r.row.txt.length + r.row.got.length + r.row.sus.length + 1 + 1 + 1 + r.row.trm.length)) = k0 + cPl R (j + 1)) := HKn.out
   have HKc : Hid (k0 + cPl R (j + 1) ≤ 10000000) := by have := cPl_mono R (show j + 1 ≤ R.length from hlt);rw [Hid];omega
   go_wp2_with fail
   refine hM1.mono ?_
   rintro e X1 ⟨rfl,hm1,hw1⟩
   have B4 := (hp3 X1 _ u3 f3 hw1 hm1 (fun b hb => .inl hb)).2.2.2 rfl
   clear hM1 hp3 hm1 hw1 t3 v0 z0 v1 z1 v2 z2 eKa eK2 hKc hk hk1 hK1
   obtain ⟨u4,f4,t4,_,ho4,hp4⟩ := B4.at (j := 4) (c := icl r.row.got) rfl
   have hM2 := markI_ow u4 K2 r.row.got f4 _ ho4 (by have := hKa.out;have := hK2.out;have := HKb.out;have := HKc.out;omega) (by have := HKb.out;have := HKc.out;omega)
   obtain ⟨K3,hK3⟩ : ∃ K3 : Nat,Hid (K3 = K2 + r.row.got.length) := ⟨_,rfl⟩
   have eK3 : (K2 : Int) + (r.row.got.length : Int) = (K3 : Int) := by have := hK3.out;omega
   rw [eK3] at hM2
   clear B4 ho4
   go_wp2_with fail
   refine hM2.mono ?_
   rintro e X2 ⟨rfl,hm2,hw2⟩
   have B5 := (hp4 X2 _ u4 f4 hw2 hm2 (fun b hb => .inl hb)).2.2.2 rfl
   clear hM2 hp4 hm2 hw2 t4 eK3
   obtain ⟨u5,f5,t5,_,ho5,hp5⟩ := B5.at (j := 5) (c := icl r.row.sus) rfl
   have hM3 := markI_ow u5 K3 r.row.sus f5 _ ho5 (by have := hKa.out;have := hK2.out;have := hK3.out;have := HKb.out;have := HKc.out;omega) (by have := HKb.out;have := HKc.out;omega)
   obtain ⟨K4,hK4⟩ : ∃ K4 : Nat,Hid (K4 = K3 + r.row.sus.length) := ⟨_,rfl⟩
   have eK4 : (K3 : Int) + (r.row.sus.length : Int) = (K4 : Int) := by have := hK4.out;omega
   rw [eK4] at hM3
   clear B5 ho5
   go_wp2_with fail
   refine hM3.mono ?_
   rintro e X3 ⟨rfl,hm3,hw3⟩
   have B6 := (hp5 X3 _ u5 f5 hw3 hm3 (fun b hb => .inl hb)).2.2.2 rfl
   clear hM3 hp5 hm3 hw3 t5 eK4
   obtain ⟨v6,z6,B7⟩ := B6.put (j := 6) (x := .bool r.row.wed) rfl (.bool ((K4 : Int) % 3 == 0))
   obtain ⟨v7,z7,B8⟩ := B7.put (j := 7) (x := .bool r.row.rdy) rfl (.bool (((K4 : Int) + 1) % 3 == 0))
   obtain ⟨v8,z8,B9⟩ := B8.put (j := 8) (x := .int .i64 r.row.by_) rfl (.int .i64 ((K4 : Int) + 1 + 1))
   obtain ⟨u9,f9,t9,_,ho9,hp9⟩ := B9.at (j := 9) (c := icl r.row.trm) rfl
   obtain ⟨K7,hK7⟩ : ∃ K7 : Nat,Hid (K7 = K4 + 1 + 1 + 1) := ⟨_,rfl⟩
   have eK7 : (K7 : Int) = (K4 : Int) + 1 + 1 + 1 := by have := hK7.out;omega
   have hM7 := markI_ow u9 K7 r.row.trm f9 _ ho9 (by have := hKa.out;have := hK2.out;have := hK3.out;have := hK4.out;have := hK7.out;have := HKb.out;have := HKc.out;omega) (by have := HKb.out;have := HKc.out;omega)
   obtain ⟨KF,hKF⟩ : ∃ KF : Nat,Hid (KF = K7 + r.row.trm.length) := ⟨_,rfl⟩
   have eKF : (K7 : Int) + (r.row.trm.length : Int) = (KF : Int) := by have := hKF.out;omega
   rw [eKF,eK7] at hM7
   have HKF : Hid (KF = k0 + cPl R (j + 1)) := by
    have := hKa.out;have := hK2.out;have := hK3.out;have := hK4.out;have := hK7.out;have := hKF.out;have := HKb.out
    rw [Hid]
    omega
   have hK4b : K4 + 3 ≤ 10000000 := by have := hK7.out;have := hKF.out;have := HKF.out;have := HKc.out;omega
   clear B6 B7 B8 B9 ho9 eKF eK7
   go_wp2_with fail
   refine hM7.mono ?_
   rintro e XF ⟨rfl,hm7,hw7⟩
   have BF := (hp9 XF _ u9 f9 hw7 hm7 (fun b hb => .inl hb)).2.2.2 rfl
   have hE : ml10 (mkM10 r K0) = (((((((((((ml10 r).set 0 (.v (.int .i64 (K0 : Int)))).set 1 (.v (.int .i64 ((K0 : Int) + 1)))).set 2 (.v (.int .i64 ((K0 : Int) + 1 + 1)))).set 3 (scl (marksS r.row.txt.length Ka))).set 4 (icl (marks r.row.got.length K2))).set 5 (icl (marks r.row.sus.length K3))).set 6 (.v (.bool ((K4 : Int) % 3 == 0)))).set 7 (.v (.bool (((K4 : Int) + 1) % 3 == 0)))).set 8 (.v (.int .i64 ((K4 : Int) + 1 + 1)))).set 9 (icl (marks r.row.trm.length K7))) := by
    rw [hK7.out,hK4.out,hK3.out,hK2.out,hKa.out,show ((K0 : Int) + 1 + 1) = ((K0 + 2 : Nat) : Int) by omega]
    rfl
   rw [← hE] at BF
   clear hM7 hp9 hm7 hw7 t9 v6 z6 v7 z7 v8 z8 hE hK4b
   obtain ⟨fp',n1,n2,n3⟩ := HPut.out XF BF
   have HN1 : Hid (Cel.ow XF (lcl 10 ml10 (mkPl R k0 (j + 1))) (.slice (some ⟨g,off,none⟩) R.length cap) fp') := n1
   have HN2 : Hid (∀ b,fp' b → fpj b ∨ wr.heap.size ≤ b) := n2
   have HN3 : Hid (Wrt fpj wr XF) := n3
   clear BF n1 n2 n3 HPut
   have hws := HWj.out.size
   go_wp2
   go_roundw
   case rel => exact ⟨j + 1,KF,fp',by omega,by go_num,rfl,HKF,HN1.out,fun b hb => by
    rcases HN2.out b hb with h | h
    ·exact HFj.out b h
    ·exact .inr (by omega),HWj.out.trans HN3.out (fun b hb h => by
     rcases HFj.out b h with h | h
     ·exact h
     ·omega)⟩
   case measure => simp [intOf];omega
  ·obtain rfl : j = R.length := by omega
   have k1 : ¬ ((R.length : Int) < (R.length : Int)) := by omega
   have HE : Hid (Cel.ow wr (lcl 10 ml10 (mkPl R k0 R.length)) (.slice a R.length cap) fpj) := ho
   clear ho hfj hwj hk hk1
   go_wp2
   go_ret
   exact ⟨ret_int (by rw [hK.out];omega),fpj,HE.out,HFj.out,HWj.out⟩
end Go.Proofs.Ytlnmdfgcpfbleaa
namespace Go.Proofs.Ytlnmdfgcpfbleaa
set_option linter.unusedVariables false
set_option linter.unusedSimpArgs false
open Go.RowKit Go.Sort
end Go.Proofs.Ytlnmdfgcpfbleaa
namespace Go.Proofs.Ytlnmdfgcpfbleaa
set_option linter.unusedVariables false
set_option linter.unusedSimpArgs false
open Go.RowKit Go.Sort
theorem markF_ow (a : Option Addr) (c k0 : Nat) (al : List Bool) (f : Fp) (w : World) (h : Cel.ow w (ocl al) (.slice a al.length c) f) (hk : k0 ≤ 10000000) (hn : al.length ≤ 10000000) :
  Calls Try.prog 108 #[.slice a al.length c,.int .i64 (k0 : Int)] w fun e w' => e = .returned (.int .i64 ((k0 + al.length : Nat) : Int)) ∧ ∃ f',Cel.ow w' (ocl (mkF al k0 al.length)) (.slice a al.length c) f' ∧ (∀ b,f' b → f b) ∧ Wrt f w w' := by
 obtain ⟨a',c',G,e,ho,hG⟩ := ow_ocl.1 h
 cases e
 cases G with
 | none =>
  have hf : ∀ b,¬ f b := fun b hb => by have := (hG b).1 hb;cases this
  refine (markF_it a c k0 0 0 al w (It.of1 h (fun b hb => absurd hb (hf b))) hk hn).mono (fun e w' h1 => ?_)
  obtain ⟨h1,h2,h3⟩ := h1
  obtain ⟨f',k1,k2⟩ := h2.ow1
  exact ⟨h1,f',k1,fun b hb => by have := k2 b hb;omega,h3.mono (fun b _ hb => by have := hb.1;have := hb.2;omega)⟩
 | some g =>
  refine (markF_it a c k0 g (g + 1) al w (It.of1 h (fun b hb => by have := (hG b).1 hb;cases this;omega)) hk hn).mono (fun e w' h1 => ?_)
  obtain ⟨h1,h2,h3⟩ := h1
  obtain ⟨f',k1,k2⟩ := h2.ow1
  exact ⟨h1,f',k1,fun b hb => (hG b).2 (by have := k2 b hb;congr 1;omega),h3.mono (fun b _ hb => (hG b).2 (by have := hb.1;have := hb.2;congr 1;omega))⟩
theorem owL_three {w : World} {c1 c2 c3 : Cel} {v1 v2 v3 : Value} {f : Fp} (h : owL w [c1,c2,c3] [v1,v2,v3] f) : ∃ f1 f2 f3,Cel.ow w c1 v1 f1 ∧ Cel.ow w c2 v2 f2 ∧ Cel.ow w c3 v3 f3 ∧ (∀ b,f1 b → ¬ f2 b) ∧ (∀ b,f1 b → ¬ f3 b) ∧ (∀ b,f2 b → ¬ f3 b) ∧ (∀ b,f1 b → f b) ∧ (∀ b,f2 b → f b) ∧ ∀ b,f3 b → f b := by
 obtain ⟨u1,us1,f1,g1,e1,o1,h2,d1,i1⟩ := h
 cases e1
 obtain ⟨f2,f3,o2,o3,d2,i2⟩ := owL_two h2
 exact ⟨f1,f2,f3,o1,o2,o3,fun b h1 h2 => d1 b h1 ((i2 b).2 (.inl h2)),fun b h1 h3 => d1 b h1 ((i2 b).2 (.inr h3)),d2,fun b h => (i1 b).2 (.inl h),fun b h => (i1 b).2 (.inr ((i2 b).2 (.inl h))),fun b h => (i1 b).2 (.inr ((i2 b).2 (.inr h)))⟩
def mkGr (g : Gr) (k : Nat) : Gr := ⟨mkPm g.mem k g.mem.length,mkF g.up (k + cPm g.mem g.mem.length) g.up.length,mkPl g.mail (k + cPm g.mem g.mem.length + g.up.length) g.mail.length⟩
def cntGr (g : Gr) : Nat := cPm g.mem g.mem.length + g.up.length + cPl g.mail g.mail.length
set_option maxRecDepth 100000 in
set_option maxHeartbeats 1600000 in
theorem markGr_it (A : Ga) (g : Gr) (k0 lo hi : Nat) (w : World) (h : It w (gr3 g) (grVals A g) lo hi) (hlo : lo ≤ w.heap.size) (hh : hi ≤ w.heap.size) (hk1 : 1 ≤ k0) (hk : k0 + cntGr g ≤ 10000000) (hm : g.mem.length ≤ maxLen) (hl : g.mail.length ≤ maxLen) :
  Calls Try.prog 53 #[grV A g,.int .i64 (k0 : Int)] w fun e w' => e = .returned (.int .i64 ((k0 + cntGr g : Nat) : Int)) ∧ It w' (gr3 (mkGr g k0)) (grVals A g) lo w'.heap.size ∧ Wrt (Iv lo hi) w w' := by
 have hb := oneA16 w (.cells (grC A g) 61)
 have hx := Bx.new w 61 (grC A g)
 obtain ⟨fp,hl0,hfp⟩ := h.below hb
 obtain ⟨f1,f2,f3,o1,o2,o3,d12,d13,d23,i1,i2,i3⟩ := owL_three hl0
 have HF1 : Hid (∀ b,f1 b → lo ≤ b ∧ b < hi) := fun b hb => hfp b (i1 b hb)
 have HF2 : Hid (∀ b,f2 b → lo ≤ b ∧ b < hi) := fun b hb => hfp b (i2 b hb)
 have HF3 : Hid (∀ b,f3 b → lo ≤ b ∧ b < hi) := fun b hb => hfp b (i3 b hb)
 have HD12 : Hid (∀ b,f1 b → ¬ f2 b) := d12
 have HD13 : Hid (∀ b,f1 b → ¬ f3 b) := d13
 have HD23 : Hid (∀ b,f2 b → ¬ f3 b) := d23
 unfold cntGr at hk ⊢
 unfold grV
 unfold grC at *
 have HW0 : Hid (Wrt (Iv lo hi) w (w.alloc (.cells #[.slice A.ma g.mem.length A.mc,.slice A.ua g.up.length A.uc,.slice A.la g.mail.length A.lc] 61))) := Wrt.of_below hb
 have hws := hb.size
 generalize hWW : w.alloc (.cells #[.slice A.ma g.mem.length A.mc,.slice A.ua g.up.length A.uc,.slice A.la g.mail.length A.lc] 61) = W at *
 have HX : Hid (∀ X,Wrt (Iv lo hi) W X → Bx X w.heap.size 61 #[.slice A.ma g.mem.length A.mc,.slice A.ua g.up.length A.uc,.slice A.la g.mail.length A.lc]) := fun X hX => hx.wrt hX (fun k => by have := k.2;omega)
 obtain ⟨c0,c1,c2⟩ := Bx.g3 (HX.out W (Wrt.refl _ _))
 obtain ⟨KR,hKR⟩ : ∃ KR : Nat,Hid (KR = k0 + cPm g.mem g.mem.length) := ⟨_,rfl⟩
 obtain ⟨KU,hKU⟩ : ∃ KU : Nat,Hid (KU = KR + g.up.length) := ⟨_,rfl⟩
 have hM1 := markMs_ow A.ma A.mc k0 g.mem f1 W o1 hk1 (by omega) hm
 rw [← hKR.out] at hM1
 have HO2 : Hid (Cel.ow W (ocl g.up) (.slice A.ua g.up.length A.uc) f2) := o2
 have HO3 : Hid (Cel.ow W (lcl 10 ml10 g.mail) (.slice A.la g.mail.length A.lc) f3) := o3
 have HKb : Hid (KU + cPl g.mail g.mail.length ≤ 10000000 ∧ 1 ≤ KU) := by have := hKR.out;have := hKU.out;rw [Hid];omega
 have HML : Hid (g.mail.length ≤ maxLen) := hl
 clear h hl0 hfp i1 i2 i3 o1 o2 o3 hx hb d12 d13 d23 hk hl
 go_enter Try.func53,Try.ntmps53
 go_wp2_with fail
 refine hM1.mono ?_
 rintro e X1 ⟨rfl,g1,q1,hg1,hw1⟩
 have HQ1 : Hid (Cel.ow X1 (lcl 5 mb5 (mkPm g.mem k0 g.mem.length)) (.slice A.ma g.mem.length A.mc) g1) := q1
 have HG1 : Hid (∀ b,g1 b → f1 b ∨ W.heap.size ≤ b) := hg1
 have HW1 : Hid (Wrt f1 W X1) := hw1
 have HV1 : Hid (Wrt (Iv lo hi) W X1) := hw1.mono (fun b _ h => HF1.out b h)
 have hM2 := markF_ow A.ua A.uc KR g.up f2 X1 (Cel.ow_wrt HO2.out hw1 (fun b hb k => HD12.out b k hb)) (by have := HKb.out;have := hKU.out;omega) (by have := HKb.out;have := hKU.out;omega)
 rw [← hKU.out] at hM2
 clear c0 c1 c2
 obtain ⟨c0,c1,c2⟩ := Bx.g3 (HX.out X1 HV1.out)
 clear hM1 q1 hg1 hw1 hk1
 go_wp2_with fail
 refine hM2.mono ?_
 rintro e X2 ⟨rfl,g2,q2,hg2,hw2⟩
 have hs1 := HW1.out.size
 have hs2 := hw2.size
 have HQ2 : Hid (Cel.ow X2 (ocl (mkF g.up KR g.up.length)) (.slice A.ua g.up.length A.uc) g2) := q2
 have HG2 : Hid (∀ b,g2 b → f2 b) := hg2
 have HQ1' : Hid (Cel.ow X2 (lcl 5 mb5 (mkPm g.mem k0 g.mem.length)) (.slice A.ma g.mem.length A.mc) g1) := Cel.ow_wrt HQ1.out hw2 (fun b hb k => by
  rcases HG1.out b hb with h | h
  ·exact HD12.out b h k
  ·have := (HF2.out b k).2;omega)
 have HV2 : Hid (Wrt (Iv lo hi) W X2) := HV1.out.trans (hw2.mono (fun b _ h => HF2.out b h)) (fun _ _ h => h)
 have p3 := Cel.ow_wrt (Cel.ow_wrt HO3.out HW1.out (fun b hb k => HD13.out b k hb)) hw2 (fun b hb k => HD23.out b k hb)
 have hM3 := markLs_ow A.la A.lc KU g.mail f3 X2 p3 HKb.out.2 HKb.out.1 HML.out
 clear c0 c1 c2
 obtain ⟨c0,c1,c2⟩ := Bx.g3 (HX.out X2 HV2.out)
 clear hM2 q2 hg2 hw2 p3
 go_wp2_with fail
 refine hM3.mono ?_
 rintro e X3 ⟨rfl,g3,q3,hg3,hw3⟩
 have hs3 := hw3.size
 have HE : Hid (It X3 (gr3 (mkGr g k0)) (grVals A g) lo X3.heap.size) := by
  have a13 : ∀ b,g1 b → ¬ f3 b := fun b h1 h3 => by
   rcases HG1.out b h1 with h | h
   ·exact HD13.out b h h3
   ·have := (HF3.out b h3).2;omega
  have b1 := Cel.ow_wrt HQ1'.out hw3 (fun b hb k => a13 b hb k)
  have b2 := Cel.ow_wrt HQ2.out hw3 (fun b hb k => HD23.out b (HG2.out b hb) k)
  have e12 : ∀ b,g1 b → ¬ g2 b := fun b h1 h2 => by
   rcases HG1.out b h1 with h | h
   ·exact HD12.out b h (HG2.out b h2)
   ·have := (HF2.out b (HG2.out b h2)).2;omega
  have l1 := Cel.ow_lt HQ1'.out
  have l2 := Cel.ow_lt HQ2.out
  have e13 : ∀ b,g1 b → ¬ g3 b := fun b h1 h2 => by
   rcases hg3 b h2 with h | h
   ·exact a13 b h1 h
   ·have := l1 b h1;omega
  have e23 : ∀ b,g2 b → ¬ g3 b := fun b h1 h2 => by
   rcases hg3 b h2 with h | h
   ·exact HD23.out b (HG2.out b h1) h
   ·have := l2 b h1;omega
  rw [hKU.out,hKR.out] at q3
  rw [hKR.out] at b2
  have hO : owL X3 (gr3 (mkGr g k0)) (grVals A g) (fun b => g1 b ∨ (g2 b ∨ (g3 b ∨ False))) := owL_c b1 (owL_c b2 (owL_c q3 (⟨rfl,fun _ h => h⟩ : owL X3 [] [] (fun _ => False)) (fun _ _ h => h)) (fun b h1 h2 => by
   rcases h2 with h2 | h2
   ·exact e23 b h1 h2
   ·exact h2)) (fun b h1 h2 => by
   rcases h2 with h2 | h2 | h2
   ·exact e12 b h1 h2
   ·exact e13 b h1 h2
   ·exact h2)
  refine ⟨_,hO,fun b hb => ?_⟩
  have hlt : b < X3.heap.size := owL_lt hO b hb
  rcases hb with hb | hb | hb | hb
  ·rcases HG1.out b hb with h | h
   ·exact ⟨(HF1.out b h).1,hlt⟩
   ·exact ⟨by omega,hlt⟩
  ·exact ⟨(HF2.out b (HG2.out b hb)).1,hlt⟩
  ·rcases hg3 b hb with h | h
   ·exact ⟨(HF3.out b h).1,hlt⟩
   ·exact ⟨by omega,hlt⟩
  ·exact hb.elim
 have HWf : Hid (Wrt (Iv lo hi) w X3) := (HW0.out.trans HV2.out (fun _ _ h => h)).trans (hw3.mono (fun b _ h => HF3.out b h)) (fun _ _ h => h)
 clear hM3 q3 hw3 c0 c1 c2 hg3
 go_wp2
 go_ret
 exact ⟨ret_int (by rw [hKU.out,hKR.out];omega),HE.out,HWf.out⟩
end Go.Proofs.Ytlnmdfgcpfbleaa
namespace Go.Proofs.Ytlnmdfgcpfbleaa
set_option linter.unusedVariables false
set_option linter.unusedSimpArgs false
open Go.RowKit Go.Sort
end Go.Proofs.Ytlnmdfgcpfbleaa
namespace Go.Proofs.Ytlnmdfgcpfbleaa
set_option linter.unusedVariables false
set_option linter.unusedSimpArgs false
open Go.RowKit Go.Sort
def hadB (R : List Rw) (n : Nat) (q : Int) : Bool := decide (q.toNat / n < (rowN R (q.toNat % n)).txt.length)
def txtOf (R : List Rw) (n : Nat) (q : Int) : List UInt8 := (rowN R (q.toNat % n)).txt.getD (q.toNat / n) []
def voiL (m : Mb) : List (List UInt8) × Bool := if m.sung.all (hadB m.rows m.k) = true then (m.sung.map (txtOf m.rows m.k),true) else ([],false)
attribute [local irreducible] sv
end Go.Proofs.Ytlnmdfgcpfbleaa
namespace Go.Proofs.Ytlnmdfgcpfbleaa
set_option linter.unusedVariables false
set_option linter.unusedSimpArgs false
open Go.RowKit Go.Sort
theorem NewO.before {w w1 w2 : World} {c : Cel} {v : Value} (h : NewO w1 w2 c v) (hb : Below w.heap.size w w1) : NewO w w2 c v := by
 obtain ⟨f,h1,h2,h3⟩ := h
 exact ⟨f,h1,fun b hb' => Nat.le_trans hb.size (h2 b hb'),hb.trans (h3.mono hb.size)⟩
end Go.Proofs.Ytlnmdfgcpfbleaa
namespace Go.Proofs.Ytlnmdfgcpfbleaa
set_option linter.unusedVariables false
set_option linter.unusedSimpArgs false
open Go.RowKit Go.Sort
def Mb64 (m : Mb) : Prop := I64v m.id ∧ I64v m.n ∧ ∀ r ∈ m.rows,Rw64 r
structure MbP (w : World) (A : Ma) (m : Mb) : Prop where
 own : ∃ f,owL w (mbCels m) (mbVals A m) f
 fit : FitM m
 i64 : Mb64 m
 sz : szMb m ≤ 1048576
theorem It.wide {w X : World} {cs : List Cel} {vs : List Value} {lo hi : Nat} (h : It w cs vs lo hi) (hs : X.heap.size ≤ w.heap.size) (hh : hi ≤ X.heap.size) : It w cs vs lo w.heap.size := by
 obtain ⟨f,h1,h2⟩ := h
 exact ⟨f,h1,fun b hb => ⟨(h2 b hb).1,by have := (h2 b hb).2;omega⟩⟩
theorem cnt8_le (r : Rw) : cnt8 r ≤ 4 + szRw r := by unfold cnt8 szRw;omega
theorem cP_le (R : List Rw) : ∀ k,k ≤ R.length → cP R k ≤ 4 * k + szP R k
 | 0,_ => by simp [cP]
 | k + 1,h => by
  have ih := cP_le R k (by omega)
  have := cnt8_le (rowN R k)
  rw [cP_next (by omega),szP_next (by omega)]
  omega
theorem cntMb_le4 (m : Mb) : cntMb m ≤ 4 * szMb m := by
 have := cP_le m.rows m.rows.length (Nat.le_refl _)
 unfold cntMb szMb szRs
 omega
attribute [local irreducible] sv
end Go.Proofs.Ytlnmdfgcpfbleaa
namespace Go.Proofs.Ytlnmdfgcpfbleaa
set_option linter.unusedVariables false
set_option linter.unusedSimpArgs false
open Go.RowKit Go.Sort
def Gr64 (g : Gr) : Prop := (∀ m ∈ g.mem,Mb64 m) ∧ ∀ x ∈ g.mail,I64v x.fr ∧ I64v x.to ∧ Rw64 x.row
structure GrP (w : World) (A : Ga) (g : Gr) : Prop where
 own : ∃ f,owL w (gr3 g) (grVals A g) f
 fit : FitG g
 i64 : Gr64 g
 sz : szGr g ≤ 1048576
theorem it_grs {w : World} {A : Ga} {g : Gr} {lo hi : Nat} (h : It w (gr3 g) (grVals A g) lo hi) (hf : FitG g) : GrS w A g := grs_of h.vw hf
theorem it_grp {w : World} {A : Ga} {g : Gr} {lo hi : Nat} (h : It w (gr3 g) (grVals A g) lo hi) (hf : FitG g) (h6 : Gr64 g) (hs : szGr g ≤ 1048576) : GrP w A g := ⟨h.imp (fun _ h => h.1),hf,h6,hs⟩
theorem AnsGr.it {w w' : World} {e : Ending} {g : Gr} (h : AnsGr w w' e g) : ∃ A,e = .returned (grV A g) ∧ It w' (gr3 g) (grVals A g) w.heap.size w'.heap.size ∧ Below w.heap.size w w' := by
 obtain ⟨A,h1,h2⟩ := h
 exact ⟨A,h1,It.of_new h2,h2.choose_spec.2.2⟩
theorem cPm_le (R : List Mb) : ∀ k,k ≤ R.length → cPm R k ≤ 3 * k + 4 * zPm R k
 | 0,_ => by simp [cPm]
 | k + 1,h => by
  have ih := cPm_le R k (by omega)
  have h1 := cntMb_le4 (mbN R k)
  have h2 : cnt5 (mbN R k) = 3 + cntMb (mbN R k) := by unfold cnt5 cntMb;omega
  rw [cPm_next (by omega),zPm_next (by omega)]
  omega
theorem cPl_le (R : List Ml) : ∀ k,k ≤ R.length → cPl R k ≤ 6 * k + zPl R k
 | 0,_ => by simp [cPl]
 | k + 1,h => by
  have ih := cPl_le R k (by omega)
  have h1 := cnt8_le (mlN R k).row
  have h2 : cnt10 (mlN R k) = 2 + cnt8 (mlN R k).row := rfl
  have h3 : szMl (mlN R k) = szRw (mlN R k).row := rfl
  rw [cPl_next (by omega),zPl_next (by omega)]
  omega
theorem cntGr_le6 (g : Gr) : cntGr g ≤ 6 * szGr g := by
 have h1 := cPm_le g.mem g.mem.length (Nat.le_refl _)
 have h2 := cPl_le g.mail g.mail.length (Nat.le_refl _)
 unfold cntGr szGr szMs szLs
 omega
theorem cntGr_le {g : Gr} {k : Nat} (hs : szGr g ≤ 1048576) (hk : k ≤ 1) : k + cntGr g ≤ 10000000 := by
 have := cntGr_le6 g
 omega
theorem mems_le {g : Gr} (hs : szGr g ≤ 1048576) : g.mem.length ≤ maxLen := by unfold szGr szMs at hs;unfold maxLen;omega
theorem mails_le {g : Gr} (hs : szGr g ≤ 1048576) : g.mail.length ≤ maxLen := by unfold szGr szLs at hs;unfold maxLen;omega
end Go.Proofs.Ytlnmdfgcpfbleaa
namespace Go.Proofs.Ytlnmdfgcpfbleaa
set_option linter.unusedVariables false
set_option linter.unusedSimpArgs false
open Go.RowKit Go.Sort
end Go.Proofs.Ytlnmdfgcpfbleaa
namespace Go.Proofs.Ytlnmdfgcpfbleaa
set_option linter.unusedVariables false
set_option linter.unusedSimpArgs false
open Go.RowKit Go.Sort
end Go.Proofs.Ytlnmdfgcpfbleaa
namespace Go.Proofs.Ytlnmdfgcpfbleaa
set_option linter.unusedVariables false
set_option linter.unusedSimpArgs false
open Go.RowKit Go.Sort
end Go.Proofs.Ytlnmdfgcpfbleaa
namespace Go.Proofs.Ytlnmdfgcpfbleaa
set_option linter.unusedVariables false
set_option linter.unusedSimpArgs false
open Go.RowKit Go.Sort
def dnK (g : Gr) (k : Nat) : List Int := lN ((List.range k).filter (fun i => (memN g i).done))
def dnM (g : Gr) : List Int := if okGr g = true then dnK g g.mem.length else []
theorem dnK_len (g : Gr) (k : Nat) : (dnK g k).length ≤ k := by
 unfold dnK
 rw [lN_len]
 have := List.length_filter_le (fun i => (memN g i).done) (List.range k)
 simpa using this
theorem dnK_more (g : Gr) (k : Nat) : dnK g (k + 1) = if (memN g k).done = true then dnK g k ++ [(k : Int)] else dnK g k := by
 unfold dnK
 rw [List.range_succ,List.filter_append]
 cases h : (memN g k).done <;> simp [h,lN]
set_option maxRecDepth 100000 in
set_option maxHeartbeats 3200000 in
theorem dnS_any (A : Ga) (g : Gr) (w : World) (hv : GrS w A g) :
  Calls Try.prog 50 #[grV A g] w fun e w' => AnsL w w' e (dnM g) := by
 have hB0 := oneA16 w (.cells (grC A g) 61)
 have hx := Bx.new w 61 (grC A g)
 have h0 := hv.below hB0
 have lm := hv.lm
 unfold maxLen at lm
 unfold grV at *
 unfold grC at *
 generalize hW : w.alloc (.cells #[.slice A.ma g.mem.length A.mc,.slice A.ua g.up.length A.uc,.slice A.la g.mail.length A.lc] 61) = W at *
 have hb0 := oneA16 W (.cells #[] 2)
 have HO0 : Hid (Cel.ow (W.alloc (.cells #[] 2)) (icl []) (.slice (some ⟨W.heap.size,0,none⟩) 0 0) (fun _ => False)) := ow_icl.2 ⟨_,0,none,rfl,OSo.nil _ _ (plainS _ _),fun b => by simp⟩
 have hG := grkS_any A g (W.alloc (.cells #[] 2)) (h0.below hb0)
 unfold grV grC at hG
 have HX : Hid (Bx W w.heap.size 61 #[.slice A.ma g.mem.length A.mc,.slice A.ua g.up.length A.uc,.slice A.la g.mail.length A.lc]) := hx
 have HV : Hid (GrS W A g) := h0
 have HB0 : Hid (∀ X,Below W.heap.size W X → Below w.heap.size w X) := fun X h => hB0.trans (h.mono hB0.size)
 have hws := hB0.size
 have HBz : Hid (Below W.heap.size W (W.alloc (.cells #[] 2))) := hb0
 obtain ⟨c0,c1,c2⟩ := Bx.g3 (hx.below hb0)
 clear hv hx h0 hB0 hb0
 go_enter Try.func50,Try.ntmps50
 go_wp2_with fail
 refine hG.mono ?_
 rintro e w1 ⟨rfl,hb1⟩
 have HB1 : Hid (Below W.heap.size W w1) := HBz.out.trans (hb1.mono HBz.out.size)
 have HO1 : Hid (Cel.ow w1 (icl []) (.slice (some ⟨W.heap.size,0,none⟩) 0 0) (fun _ => False)) := Cel.ow_below HO0.out hb1
 clear c0 c1 c2
 obtain ⟨c0,c1,c2⟩ := Bx.g3 (HX.out.below HB1.out)
 clear hb1 hG hW
 cases hok : okGr g with
 | false =>
  have HZ : Hid (dnM g = []) := by rw [Hid,dnM,hok];rfl
  clear hok
  go_wp2
  go_ret
  rw [HZ.out]
  exact ⟨_,_,rfl,_,HO1.out,fun b h => h.elim,HB0.out _ HB1.out⟩
 | true =>
  have HZ : Hid (dnM g = dnK g g.mem.length) := by rw [Hid,dnM,if_pos hok]
  obtain ⟨n,ok⟩ := okGr_iff.1 hok
  have h5 : g.mem.length ≤ 5 := by rw [ok.ml];exact ok.n5.2
  clear hok ok
  go_wp2
  clear c0 c1 c2
  go_loopw [3,4] (fun v i wr => ∃ (k : Nat) (a : Option Addr) (cc : Nat) (Z : List Int) (fz : Fp),k ≤ g.mem.length ∧ i = .int .i64 (k : Int) ∧ v = .slice a Z.length cc ∧ Hid (Z = dnK g k) ∧ Cel.ow wr (icl Z) (.slice a Z.length cc) fz ∧ (∀ b,fz b → W.heap.size ≤ b) ∧ Below W.heap.size W wr) (fun _ i _ => g.mem.length - (intOf i).toNat)
  case atStart => exact ⟨0,some ⟨W.heap.size,0,none⟩,0,[],_,Nat.zero_le _,rfl,rfl,rfl,HO1.out,fun b h => h.elim,HB1.out⟩
  case round =>
   obtain ⟨k,a,cc,Z,fz,hk,rfl,rfl,hZ,hO,hfz,hgr⟩ := hrel
   have HG : Hid (Below W.heap.size W wr) := hgr
   have HO : Hid (Cel.ow wr (icl Z) (.slice a Z.length cc) fz) := hO
   have hzl : Z.length ≤ 1000000 := by rw [hZ.out];have := dnK_len g k;omega
   obtain ⟨c0,c1,c2⟩ := Bx.g3 (HX.out.below hgr)
   have hgs := hgr.size
   clear hO
   by_cases hlt : k < g.mem.length
   ·have k1 : (k : Int) < (g.mem.length : Int) := by omega
    have k0 : (0 : Int) ≤ (k : Int) := by omega
    obtain ⟨b,off,Ak,hma,⟨d0,d1,d2,d3,d4⟩,hms⟩ := (HV.out.below hgr).member (k := k) hlt
    rw [hma] at c0
    have HN : Hid (dnK g (k + 1) = if (memN g k).done = true then Z ++ [(k : Int)] else Z) := by rw [Hid,dnK_more,hZ.out]
    clear hma hms d0 d1 d2 d3 hgr
    cases hd : (memN g k).done with
    | false =>
     have HE : Hid (Z = dnK g (k + 1)) := by rw [Hid,HN.out,hd];rfl
     rw [hd] at d4
     clear hd HN
     go_wp2
     go_roundw
     case rel => exact ⟨k + 1,a,cc,Z,fz,by omega,by go_num,rfl,HE,HO.out,hfz,HG.out⟩
     case measure => simp [intOf];omega
    | true =>
     have HE : Hid (Z ++ [(k : Int)] = dnK g (k + 1)) := by rw [Hid,HN.out,hd];rfl
     rw [hd] at d4
     clear hd HN
     obtain ⟨a',c',ea,hA⟩ := ow_int_app (k : Int) HO.out hzl
     cases ea
     go_wp2_with (at_builtin;refine wpList_append_of (by rfl) _ _ _ _ (by rfl) _ _ (by rfl) (by rfl) hA ⟨rfl,rfl,rfl,rfl⟩ ?_;rintro v1 w2 ⟨a1,e1,f1,rfl,q1,q2,q3⟩;have HQ1 : Hid (Cel.ow w2 (icl (Z ++ [(k : Int)])) (.slice a1 (Z.length + 1) e1) f1) := q1;have HQ2 : Hid (∀ b,f1 b → fz b ∨ wr.heap.size ≤ b) := q2;have HQ3 : Hid (Wrt fz wr w2) := q3;clear q1 q2 q3 hA)
     have HL : Hid ((Z ++ [(k : Int)]).length = Z.length + 1) := by rw [Hid,List.length_append];rfl
     go_roundw
     case rel => exact ⟨k + 1,a1,e1,Z ++ [(k : Int)],f1,by omega,by go_num,by rw [HL.out],HE,by rw [HL.out];exact HQ1.out,fun b hb => (HQ2.out b hb).elim (hfz b) (fun h => by omega),HQ3.out.below HG.out (by omega) (fun b hb => hfz b hb)⟩
     case measure => simp [intOf];omega
   ·have k1 : ¬ ((k : Int) < (g.mem.length : Int)) := by omega
    have HE : Hid (dnM g = Z) := by rw [Hid,HZ.out,hZ.out,show k = g.mem.length by omega]
    have HF : Hid (NewO w wr (icl Z) (.slice a Z.length cc)) := ⟨fz,HO.out,fun b hb => by have := hfz b hb;omega,HB0.out _ HG.out⟩
    go_wp2
    go_ret
    rw [HE.out]
    exact ⟨a,cc,rfl,HF.out⟩
end Go.Proofs.Ytlnmdfgcpfbleaa
namespace Go.Proofs.Ytlnmdfgcpfbleaa
set_option linter.unusedVariables false
set_option linter.unusedSimpArgs false
open Go.RowKit Go.Sort
def voN (g : Gr) (i : Nat) : List (List UInt8) := (voiL (memN g i)).1
def q4 (g : Gr) (i k j h : Nat) : Bool := !(decide (el (memN g i).sung k = el (memN g j).sung h) && !decide ((voN g i).getD k [] = (voN g j).getD h []))
end Go.Proofs.Ytlnmdfgcpfbleaa
namespace Go.Proofs.Ytlnmdfgcpfbleaa
set_option linter.unusedVariables false
set_option linter.unusedSimpArgs false
open Go.RowKit Go.Sort
attribute [local irreducible] sv
end Go.Proofs.Ytlnmdfgcpfbleaa
namespace Go.Proofs.Ytlnmdfgcpfbleaa
set_option linter.unusedVariables false
set_option linter.unusedSimpArgs false
open Go.RowKit Go.Sort
theorem AnsL.it {w w' : World} {e : Ending} {Z : List Int} (h : AnsL w w' e Z) : ∃ a c,e = .returned (.slice a Z.length c) ∧ It w' [icl Z] [.slice a Z.length c] w.heap.size w'.heap.size ∧ Below w.heap.size w w' := by
 obtain ⟨a,c,h1,h2⟩ := h
 exact ⟨a,c,h1,It.of_newO h2,h2.choose_spec.2.2⟩
def ImplEnded : Prop := ∀ (A : Ga) (g : Gr) (w : World),GrP w A g → Calls Try.prog 51 #[grV A g] w fun e w' => AnsL w w' e (dnM g)
theorem dnM_small (g : Gr) : Fits (dnM g) ∧ (dnM g).length ≤ 60 := by
 unfold dnM
 split
 ·rename_i h
  obtain ⟨n,ok⟩ := okGr_iff.1 h
  have h5 := ok.n5
  have hl := ok.ml
  have := dnK_len g g.mem.length
  refine ⟨fun x hx => ?_,by omega⟩
  unfold dnK lN at hx
  obtain ⟨i,hi,rfl⟩ := List.mem_map.1 hx
  have := List.mem_range.1 (List.mem_filter.1 hi).1
  omega
 ·exact ⟨fun x hx => absurd hx List.not_mem_nil,by simp⟩
theorem eqIn_it {X : World} {a1 a2 : Option Addr} {c1 c2 l1 h1 l2 h2 : Nat} {Z : List Int} (i1 : It X [icl Z] [.slice a1 Z.length c1] l1 h1) (i2 : It X [icl Z] [.slice a2 Z.length c2] l2 h2) (hf : Fits Z) (hl : Z.length ≤ 60) :
  Calls Try.prog 52 #[.slice a1 Z.length c1,.slice a2 Z.length c2] X fun e w' => e = .returned (.bool true) ∧ Below X.heap.size X w' := by
 obtain ⟨f1,o1,_⟩ := i1.ow1
 obtain ⟨f2,o2,_⟩ := i2.ow1
 refine (eq_any a1 a2 Z.length c1 Z.length c2 Z Z X (ow_vcp o1 hf).vec (ow_vcp o2 hf).vec (by unfold maxLen;omega)).mono ?_
 rintro e w' ⟨h1,n,rfl⟩
 exact ⟨by rw [h1,decide_eq_true rfl],belowN (Below.refl _ _)⟩
theorem markIn_it (a : Option Addr) (c k0 lo hi : Nat) (Z : List Int) (w : World) (h : It w [icl Z] [.slice a Z.length c] lo hi) (hk : k0 ≤ 10000000) (hn : Z.length ≤ 10000000) :
  Calls Try.prog 54 #[.slice a Z.length c,.int .i64 (k0 : Int)] w fun e w' => e = .returned (.int .i64 ((k0 : Int) + (Z.length : Int))) ∧ It w' [icl (marks Z.length k0)] [.slice a Z.length c] lo hi ∧ Wrt (Iv lo hi) w w' := by
 obtain ⟨f,o,hf⟩ := h.ow1
 refine (markI_ow _ k0 Z f w o hk hn).mono ?_
 rintro e w' ⟨rfl,h1,h2⟩
 exact ⟨rfl,It.of1 h1 hf,h2.mono (fun b _ e => hf b e)⟩
theorem heldIn_it {X : World} {a1 : Option Addr} {c1 lo hi : Nat} {Z : List Int} (i : It X [icl (marks Z.length 1)] [.slice a1 Z.length c1] lo hi) (hl : Z.length ≤ 60) :
  Calls Try.prog 55 #[.slice a1 Z.length c1,.int .i64 1] X fun e w' => e = .returned (.int .i64 ((1 + Z.length : Nat) : Int)) ∧ Below X.heap.size X w' := by
 obtain ⟨f,o,_⟩ := i.ow1
 refine (heldI_ow _ 1 Z.length f X o (by omega) (by omega)).mono ?_
 rintro e w' ⟨rfl,rfl⟩
 exact ⟨by congr 2,Below.refl _ _⟩
end Go.Proofs.Ytlnmdfgcpfbleaa
namespace Go.Proofs.Ytlnmdfgcpfbleaa
set_option linter.unusedVariables false
set_option linter.unusedSimpArgs false
open Go.RowKit Go.Sort
set_option maxRecDepth 100000 in
set_option maxHeartbeats 6400000 in
theorem lawEnded (hI : ImplEnded) (A0 : Ga) (g : Gr) (w : World) (hv0 : GrS w A0 g) (hg0 : LongG g) (h60 : Gr64 g) :
  Calls Try.prog 8 #[grV A0 g] w fun e w' => e = .returned (.bool true) ∧ Below w.heap.size w w' := by
 have hf0 : FitG g := hv0.fit
 have hZ0 : ∀ (X : World) (left : Int),Below w.heap.size w X → (0 ≤ left ∧ left ≤ 1048576) → Calls Try.prog 43 #[grV A0 g,.int .i64 left] X fun e w' => ∃ q : Int,e = .returned (.int .i64 q) ∧ (q = -1 ∨ 0 ≤ q ∧ q + (szGr g : Int) = left) ∧ Below X.heap.size X w' := fun X left hX hl => szGr_any A0 g left X (hv0.below hX) hg0 hl
 have hTo0 : szGr g ≤ 1048576 → ∀ X,Below w.heap.size w X → Calls Try.prog 45 #[grV A0 g] X fun e w' => ∃ A',e = .returned (grV A' g) ∧ It w' (gr3 g) (grVals A' g) X.heap.size w'.heap.size ∧ Below X.heap.size X w' := fun hs X hX => (toGr_any A0 g X (hv0.below hX) hs).mono (fun e w' h => h.it)
 have hE0 : szGr g ≤ 1048576 → ∀ (X : World) (A1 A2 : Ga) {l1 h1 l2 h2 : Nat},It X (gr3 g) (grVals A1 g) l1 h1 → It X (gr3 g) (grVals A2 g) l2 h2 → Calls Try.prog 47 #[grV A1 g,grV A2 g] X fun e w' => e = .returned (.bool true) ∧ Below X.heap.size X w' := fun hs X A1 A2 l1 h1 l2 h2 i1 i2 => eqGr_any A1 A2 g X (it_grs i1 hf0) (it_grs i2 hf0)
 have hSp : szGr g ≤ 1048576 → ∀ (X : World) (B0 : Ga) {l0 u0 : Nat},It X (gr3 g) (grVals B0 g) l0 u0 → Calls Try.prog 50 #[grV B0 g] X fun e w' => ∃ a' c',e = .returned (.slice a' ((dnM g)).length c') ∧ It w' [icl ((dnM g))] [.slice a' ((dnM g)).length c'] X.heap.size w'.heap.size ∧ Below X.heap.size X w' := fun hs0 X B0 l0 u0 i0 => (dnS_any B0 g X (it_grs i0 hf0)).mono (fun e w' h => h.it)
 have hIm : szGr g ≤ 1048576 → ∀ (X : World) (B0 : Ga) {l0 u0 : Nat},It X (gr3 g) (grVals B0 g) l0 u0 → Calls Try.prog 51 #[grV B0 g] X fun e w' => ∃ a' c',e = .returned (.slice a' ((dnM g)).length c') ∧ It w' [icl ((dnM g))] [.slice a' ((dnM g)).length c'] X.heap.size w'.heap.size ∧ Below X.heap.size X w' := fun hs0 X B0 l0 u0 i0 => (hI B0 g X (it_grp i0 hf0 h60 hs0)).mono (fun e w' h => h.it)
 obtain ⟨hfZ,hlZ⟩ := dnM_small g
 generalize (dnM g) = Z at *
 obtain ⟨N,hN⟩ : ∃ N : Int,Hid (N = ((1 + List.length Z : Nat) : Int)) := ⟨_,rfl⟩
 have hN0 : decide (N < 0) = false := by rw [hN.out];simp;omega
 have hNN : (N != N) = false := by simp
 have hEz : ∀ (X : World) (a1 : Option Addr) (c1 : Nat) (a2 : Option Addr) (c2 : Nat) {l1 h1 l2 h2 : Nat},It X [icl Z] [.slice a1 Z.length c1] l1 h1 → It X [icl Z] [.slice a2 Z.length c2] l2 h2 → Calls Try.prog 52 #[.slice a1 Z.length c1,.slice a2 Z.length c2] X fun e w' => e = .returned (.bool true) ∧ Below X.heap.size X w' := fun X a1 c1 a2 c2 l1 h1 l2 h2 i1 i2 => eqIn_it i1 i2 hfZ hlZ
 have hMz : ∀ (X : World) (a1 : Option Addr) (c1 lo hi : Nat),It X [icl Z] [.slice a1 Z.length c1] lo hi → lo ≤ X.heap.size → hi ≤ X.heap.size → Calls Try.prog 54 #[.slice a1 Z.length c1,.int .i64 1] X fun e w' => e = .returned (.int .i64 N) ∧ It w' [icl (marks Z.length 1)] [.slice a1 Z.length c1] lo w'.heap.size ∧ Wrt (Iv lo hi) X w' := fun X a1 c1 lo hi i hlo hh => by rw [hN.out];exact (markIn_it a1 c1 1 lo hi Z X i (by omega) (by omega)).mono (fun e w' ⟨h1,h2,h3⟩ => ⟨by rw [h1];congr 2,h2.wide h3.size hh,h3⟩)
 have hHz : ∀ (X : World) (a1 : Option Addr) (c1 lo hi : Nat),It X [icl (marks Z.length 1)] [.slice a1 Z.length c1] lo hi → Calls Try.prog 55 #[.slice a1 Z.length c1,.int .i64 1] X fun e w' => e = .returned (.int .i64 N) ∧ Below X.heap.size X w' := fun X a1 c1 lo hi i => by rw [hN.out];exact heldIn_it i hlZ
 obtain ⟨K0,hK0⟩ : ∃ K : Nat,Hid (K = 1 + cntGr g) := ⟨_,rfl⟩
 have hMx0 : szGr g ≤ 1048576 → ∀ (X : World) (A1 : Ga) (lo hi : Nat),It X (gr3 g) (grVals A1 g) lo hi → lo ≤ X.heap.size → hi ≤ X.heap.size → Calls Try.prog 53 #[grV A1 g,.int .i64 1] X fun e w' => e = .returned (.int .i64 (K0 : Int)) ∧ It w' (gr3 (mkGr g 1)) (grVals A1 g) lo w'.heap.size ∧ Wrt (Iv lo hi) X w' := fun hs0 X A1 lo hi i hlo hh => by rw [hK0.out];exact markGr_it A1 g 1 lo hi X i hlo hh (by omega) (cntGr_le hs0 (by omega)) (mems_le hs0) (mails_le hs0)
 have hKn0 : decide ((K0 : Int) < 0) = false := by simp
 clear hI hv0
 unfold grV grC at *
 have hb00 : Below w.heap.size w w := Below.refl _ _
 have b2 := oneA16 w (.cells #[.slice A0.ma g.mem.length A0.mc,.slice A0.ua g.up.length A0.uc,.slice A0.la g.mail.length A0.lc] 55)
 have h3 := Bx.new w 55 #[.slice A0.ma g.mem.length A0.mc,.slice A0.ua g.up.length A0.uc,.slice A0.la g.mail.length A0.lc]
 generalize hX1 : w.alloc (.cells #[.slice A0.ma g.mem.length A0.mc,.slice A0.ua g.up.length A0.uc,.slice A0.la g.mail.length A0.lc] 55) = X1 at *
 have B5 : Below w.heap.size w X1 := hb00.trans (b2.mono hb00.size)
 have sB5 : w.heap.size ≤ X1.heap.size := b2.size
 clear hb00
 have k4 : w.heap.size < X1.heap.size := h3.lt
 clear b2
 go_enter Try.func8,Try.ntmps8
 obtain ⟨c60,c61,c62⟩ := Bx.g3 h3
 go_wp2_with fail
 refine (hZ0 X1 1048576 B5 ⟨by omega,by omega⟩).mono ?_
 rintro e z0 ⟨q0,rfl,hq0,hbz0⟩
 clear c60 c61 c62
 have B7 : Below w.heap.size w z0 := B5.trans (hbz0.mono B5.size)
 have sB7 : X1.heap.size ≤ z0.heap.size := hbz0.size
 have h8 := h3.below hbz0
 clear B5 h3
 rcases hq0 with rfl | ⟨hqa0,hqb0⟩
 ·go_wp2
  go_ret
  exact ⟨rfl,B7⟩
 have hqn0 : decide (q0 < 0) = false := by simp;omega
 have hs0 : szGr g ≤ 1048576 := by omega
 have hT0 := hTo0 hs0
 have hEE0 := hE0 hs0
 have hMM0 := hMx0 hs0
 have hS2 := hSp hs0
 have hI2 := hIm hs0
 clear hSp hIm hTo0 hE0 hZ0 hMx0
 obtain ⟨c90,c91,c92⟩ := Bx.g3 h8
 go_wp2_with fail
 refine (hT0 z0 B7).mono ?_
 rintro e s0 ⟨As0,rfl,is0,hbs0⟩
 clear c90 c91 c92
 have B10 : Below w.heap.size w s0 := B7.trans (hbs0.mono B7.size)
 have sB10 : z0.heap.size ≤ s0.heap.size := hbs0.size
 have h11 := h8.below hbs0
 clear B7 h8
 go_wp2_with fail
 refine (hS2 s0 _ is0).mono ?_
 rintro e ws ⟨av,cv,rfl,iv,hbv⟩
 have B12 : Below w.heap.size w ws := B10.trans (hbv.mono B10.size)
 have sB12 : s0.heap.size ≤ ws.heap.size := hbv.size
 have h13 := h11.below hbv
 have h14 := is0.below hbv
 clear B10 h11 is0
 clear h14
 obtain ⟨c150,c151,c152⟩ := Bx.g3 h13
 go_wp2_with fail
 refine (hT0 ws B12).mono ?_
 rintro e wx0 ⟨Ax0,rfl,ix0,hbx0⟩
 clear c150 c151 c152
 have B16 : Below w.heap.size w wx0 := B12.trans (hbx0.mono B12.size)
 have sB16 : ws.heap.size ≤ wx0.heap.size := hbx0.size
 have h17 := h13.below hbx0
 have h18 := iv.below hbx0
 clear B12 h13 iv
 have b20 := oneA16 wx0 (.cells #[.slice Ax0.ma g.mem.length Ax0.mc,.slice Ax0.ua g.up.length Ax0.uc,.slice Ax0.la g.mail.length Ax0.lc] 61)
 have h21 := Bx.new wx0 61 #[.slice Ax0.ma g.mem.length Ax0.mc,.slice Ax0.ua g.up.length Ax0.uc,.slice Ax0.la g.mail.length Ax0.lc]
 generalize hX19 : wx0.alloc (.cells #[.slice Ax0.ma g.mem.length Ax0.mc,.slice Ax0.ua g.up.length Ax0.uc,.slice Ax0.la g.mail.length Ax0.lc] 61) = X19 at *
 have B23 : Below w.heap.size w X19 := B16.trans (b20.mono B16.size)
 have sB23 : wx0.heap.size ≤ X19.heap.size := b20.size
 have h24 := h17.below b20
 have h25 := h18.below b20
 have h26 := ix0.below b20
 clear B16 h17 h18 ix0
 have k22 : wx0.heap.size < X19.heap.size := h21.lt
 clear b20
 obtain ⟨c270,c271,c272⟩ := Bx.g3 h21
 go_wp2_with fail
 refine (hI2 X19 _ h26).mono ?_
 rintro e wi ⟨ag,cg,rfl,ig,hbg⟩
 have B28 : Below w.heap.size w wi := B23.trans (hbg.mono B23.size)
 have sB28 : X19.heap.size ≤ wi.heap.size := hbg.size
 have h29 := h24.below hbg
 have h30 := h25.below hbg
 have h31 := h26.below hbg
 have h32 := h21.below hbg
 clear B23 h24 h25 h26 h21
 clear c270 c271 c272
 go_wp2_with fail
 refine (hEz wi _ _ _ _ ig h30).mono ?_
 rintro e we ⟨rfl,hbwe⟩
 have B33 : Below w.heap.size w we := B28.trans (hbwe.mono B28.size)
 have sB33 : wi.heap.size ≤ we.heap.size := hbwe.size
 have h34 := h29.below hbwe
 have h35 := h30.below hbwe
 have h36 := h31.below hbwe
 have h37 := h32.below hbwe
 have h38 := ig.below hbwe
 clear B28 h29 h30 h31 h32 ig
 have KS : ∀ X,Below we.heap.size we X → (X.cell? ⟨w.heap.size,0,none⟩ = some (.slice A0.ma g.mem.length A0.mc) ∧ X.cell? ⟨w.heap.size,1,none⟩ = some (.slice A0.ua g.up.length A0.uc) ∧ X.cell? ⟨w.heap.size,2,none⟩ = some (.slice A0.la g.mail.length A0.lc)) ∧ (X.cell? ⟨wx0.heap.size,0,none⟩ = some (.slice Ax0.ma g.mem.length Ax0.mc) ∧ X.cell? ⟨wx0.heap.size,1,none⟩ = some (.slice Ax0.ua g.up.length Ax0.uc) ∧ X.cell? ⟨wx0.heap.size,2,none⟩ = some (.slice Ax0.la g.mail.length Ax0.lc)) := fun X hX => ⟨Bx.g3 (h34.below hX),Bx.g3 (h37.below hX)⟩
 have bd : Below we.heap.size we (we.drewN 1) := belowN (Below.refl _ _)
 have hTo2 := fun X (h : Below we.heap.size we X) => hT0 X (B33.trans (h.mono B33.size))
 have hEq2 := fun X (A7 : Ga) (h : Below we.heap.size we X) (h7 : ∃ lo hi,It X (gr3 g) (grVals A7 g) lo hi) => hEE0 X Ax0 A7 (h36.below h) h7.choose_spec.choose_spec
 go_wp2_with fail
 go_region_held3 (fun X => (X.cell? ⟨w.heap.size,0,none⟩ = some (.slice A0.ma g.mem.length A0.mc) ∧ X.cell? ⟨w.heap.size,1,none⟩ = some (.slice A0.ua g.up.length A0.uc) ∧ X.cell? ⟨w.heap.size,2,none⟩ = some (.slice A0.la g.mail.length A0.lc)) ∧ (X.cell? ⟨wx0.heap.size,0,none⟩ = some (.slice Ax0.ma g.mem.length Ax0.mc) ∧ X.cell? ⟨wx0.heap.size,1,none⟩ = some (.slice Ax0.ua g.up.length Ax0.uc) ∧ X.cell? ⟨wx0.heap.size,2,none⟩ = some (.slice Ax0.la g.mail.length Ax0.lc)))
  (first | exact KS _ b8 | exact KS _ b7b | exact KS _ bd)
  (first
   | (go_at_call 45;refine (hTo2 _ bd).mono ?_;rintro e t0 ⟨A7,rfl,i7,hb7⟩;have b7b : Below we.heap.size we t0 := bd.trans (hb7.mono bd.size))
   | (go_at_call 47;refine (hEq2 t0 A7 b7b ⟨_,_,i7⟩).mono ?_;rintro e u0 ⟨rfl,hb8⟩;have b8 : Below we.heap.size we u0 := b7b.trans (hb8.mono b7b.size)))
 clear KS bd hTo2 hEq2 i7 hb7 b7b hb8
 have B39 : Below w.heap.size w u0 := B33.trans (b8.mono B33.size)
 have sB39 : we.heap.size ≤ u0.heap.size := b8.size
 have h40 := h34.below b8
 have h41 := h35.below b8
 have h42 := h36.below b8
 have h43 := h37.below b8
 have h44 := h38.below b8
 clear B33 h34 h35 h36 h37 h38
 obtain ⟨c450,c451,c452⟩ := Bx.g3 h43
 go_wp2_with fail
 refine (hMM0 u0 _ _ _ h42 (by omega) (by omega)).mono ?_
 rintro e wq0 ⟨rfl,_,hwq0⟩
 clear c450 c451 c452
 have sB46 : u0.heap.size ≤ wq0.heap.size := hwq0.size
 have B46 : Below w.heap.size w wq0 := below_iv hwq0 B39 B39.size (by omega)
 have h47 := h40.iv hwq0 (by omega)
 have h48 := h41.far hwq0 (by omega)
 have h49 := h43.iv hwq0 (by omega)
 have h50 := h44.far hwq0 (by omega)
 clear B39 h42 h40 h41 h43 h44
 go_wp2_with fail
 refine (hEz wq0 _ _ _ _ h50 h48).mono ?_
 rintro e wo ⟨rfl,hbwo⟩
 have B51 : Below w.heap.size w wo := B46.trans (hbwo.mono B46.size)
 have sB51 : wq0.heap.size ≤ wo.heap.size := hbwo.size
 have h52 := h47.below hbwo
 have h53 := h48.below hbwo
 have h54 := h49.below hbwo
 have h55 := h50.below hbwo
 clear B46 h47 h48 h49 h50
 go_wp2_with fail
 refine (hMz wo _ _ _ _ h55 (by omega) (by omega)).mono ?_
 rintro e wm ⟨rfl,im,hwm⟩
 have sB56 : wo.heap.size ≤ wm.heap.size := hwm.size
 have B56 : Below w.heap.size w wm := below_iv hwm B51 B51.size (by omega)
 have h57 := h52.iv hwm (by omega)
 have h58 := h53.far hwm (by omega)
 have h59 := h54.iv hwm (by omega)
 clear B51 h52 h53 h54 h55
 go_wp2_with fail
 refine (hHz wm _ _ _ _ im).mono ?_
 rintro e wh ⟨rfl,hbh⟩
 have B60 : Below w.heap.size w wh := B56.trans (hbh.mono B56.size)
 have sB60 : wm.heap.size ≤ wh.heap.size := hbh.size
 have h61 := h57.below hbh
 have h62 := h58.below hbh
 have h63 := h59.below hbh
 have h64 := im.below hbh
 clear B56 h57 h58 h59 im
 obtain ⟨c650,c651,c652⟩ := Bx.g3 h61
 go_wp2_with fail
 refine (hT0 wh B60).mono ?_
 rintro e h0 ⟨Ah0,rfl,ih0,hbh0⟩
 clear c650 c651 c652
 have B66 : Below w.heap.size w h0 := B60.trans (hbh0.mono B60.size)
 have sB66 : wh.heap.size ≤ h0.heap.size := hbh0.size
 have h67 := h61.below hbh0
 have h68 := h62.below hbh0
 have h69 := h63.below hbh0
 have h70 := h64.below hbh0
 clear B60 h61 h62 h63 h64
 go_wp2_with fail
 refine (hI2 h0 _ ih0).mono ?_
 rintro e wj ⟨ah,ch,rfl,ih,hbh⟩
 have B71 : Below w.heap.size w wj := B66.trans (hbh.mono B66.size)
 have sB71 : h0.heap.size ≤ wj.heap.size := hbh.size
 have h72 := h67.below hbh
 have h73 := h68.below hbh
 have h74 := h69.below hbh
 have h75 := h70.below hbh
 have h76 := ih0.below hbh
 clear B66 h67 h68 h69 h70 ih0
 clear h76
 go_wp2_with fail
 refine (hEz wj _ _ _ _ ih h73).mono ?_
 rintro e wk ⟨rfl,hbwk⟩
 have B77 : Below w.heap.size w wk := B71.trans (hbwk.mono B71.size)
 have sB77 : wj.heap.size ≤ wk.heap.size := hbwk.size
 have h78 := h72.below hbwk
 have h79 := h73.below hbwk
 have h80 := h74.below hbwk
 have h81 := h75.below hbwk
 have h82 := ih.below hbwk
 clear B71 h72 h73 h74 h75 ih
 go_wp2_with fail
 refine (hHz wk _ _ _ _ h81).mono ?_
 rintro e wl ⟨rfl,hbl⟩
 have B83 : Below w.heap.size w wl := B77.trans (hbl.mono B77.size)
 have sB83 : wk.heap.size ≤ wl.heap.size := hbl.size
 have h84 := h78.below hbl
 have h85 := h79.below hbl
 have h86 := h80.below hbl
 have h87 := h81.below hbl
 have h88 := h82.below hbl
 clear B77 h78 h79 h80 h81 h82
 go_wp2
 go_ret
 exact ⟨rfl,B83⟩
end Go.Proofs.Ytlnmdfgcpfbleaa
namespace Go.Proofs.Ytlnmdfgcpfbleaa
set_option linter.unusedVariables false
set_option linter.unusedSimpArgs false
open Go.ChangeShapes Go.WideShapes Go.ChangeAt Go.RowKit Go.Deep
section
variable {H : Type} {enc : TypeId × Value → H} {P : Program} {W : World} {base : Nat} {held : Bool}
theorem field_of {t : TypeId} {fs : Array Field} {fuel : Nat} {cs : List Value} {x : DataW H × List MemPlace} (ht : P.underlying t = some (.struct fs)) (hone : oneCellFields P fs = true) (h : DataW.trod enc P W base (fun _ => true) held fuel t cs = some x) :
  cs.length = P.cellsOf t ∧ ∃ n,∀ (i : Nat) (f : Field) (c : Value),fs[i]? = some f → cs[i]? = some c → ∃ y,DataW.trod enc P W base (fun _ => true) held n f.type [c] = some y := by
 obtain ⟨xs,n,_,rfl,hl,hlen,hf⟩ := DataW.trod_struct ht h
 refine ⟨hl,n,fun i f c hi hc => ?_⟩
 obtain ⟨o,k⟩ := hone_of hone i f hi
 have h1 := hf i f hi
 have hix : i < xs.length := by
  rw [hlen]
  exact (Array.getElem?_eq_some_iff.1 hi).1
 have e : (cs.drop i).take 1 = [c] := by
  have hic := (List.getElem?_eq_some_iff.1 hc).1
  have hcc := (List.getElem?_eq_some_iff.1 hc).2
  rw [List.drop_eq_getElem_cons hic,hcc]
  rfl
 rw [o,k,e,List.getElem?_eq_getElem hix] at h1
 exact ⟨_,h1⟩
theorem str_short16 {s : ByteArray} (h : s.size ≤ maxLen) : s.data.toList.length ≤ 9223372036854775807 := by
 have e : s.data.toList.length = s.size := by rw [Array.length_toList];rfl
 rw [e]
 unfold maxLen at h
 exact h
end
theorem list8 {α : Type} {l : List α} (h : l.length = 8) : ∃ c0 c1 c2 c3 c4 c5 c6 c7,l = [c0,c1,c2,c3,c4,c5,c6,c7] := by
 match l,h with
 | [c0,c1,c2,c3,c4,c5,c6,c7],_ => exact ⟨c0,c1,c2,c3,c4,c5,c6,c7,rfl⟩
end Go.Proofs.Ytlnmdfgcpfbleaa
namespace Go.Proofs.Ytlnmdfgcpfbleaa
set_option linter.unusedVariables false
set_option linter.unusedSimpArgs false
open Go.ChangeShapes Go.WideShapes Go.ChangeAt Go.RowKit Go.Deep
theorem vw_of_txs {w : World} {a : Option Addr} {c : Nat} {T : List (List UInt8)} (h : TxS w a T) (h1 : T.length ≤ c) (h2 : c ≤ maxLen) : Cel.vw w (scl T) (.slice a T.length c) := by
 refine ⟨a,c,_,rfl,h1,h2,by rw [svs_len];omega, ?_,vwL_pl.2 rfl⟩
 rcases h with h0 | ⟨b,off,ha,hc⟩
 ·exact .inl h0
 ·refine .inr ⟨b,off,ha,fun i hi => ?_⟩
  rw [svs_get (by omega)]
  exact hc i (by omega)
theorem vw_lcl_of {α : Type} {F : α → List Cel} {s : Nat} {w : World} {b off : Nat} (R : Nat → α) (V : Nat → List Value) : ∀ n,(∀ i,i < n → (V i).length = s ∧ (∀ j,j < s → w.cell? ⟨b,off + i * s + j,none⟩ = (V i)[j]?) ∧ vwL w (F (R i)) (V i)) →
  ∃ us : List Value,us.length = n * s ∧ (∀ j,j < n * s → w.cell? ⟨b,off + j,none⟩ = us[j]?) ∧ vwL w (((List.range n).map R).flatMap F) us
 | 0,_ => ⟨[],by simp,fun j hj => by omega,rfl⟩
 | n + 1,h => by
  obtain ⟨us,h1,h2,h3⟩ := vw_lcl_of R V n (fun i hi => h i (by omega))
  obtain ⟨k1,k2,k3⟩ := h n (by omega)
  have hm : (n + 1) * s = n * s + s := by rw [Nat.add_mul,Nat.one_mul]
  refine ⟨us ++ V n,by rw [List.length_append,h1,k1,hm],fun j hj => ?_, ?_⟩
  ·rcases Nat.lt_or_ge j (n * s) with hj2 | hj2
   ·rw [List.getElem?_append_left (by omega)];exact h2 j hj2
   ·rw [List.getElem?_append_right (by omega),h1]
    have := k2 (j - n * s) (by omega)
    rw [show off + n * s + (j - n * s) = off + j by omega] at this
    exact this
  ·rw [List.range_succ,List.map_append,List.flatMap_append]
   refine vwL_append h3 ?_
   simpa using k3
section
variable {H : Type} {enc : TypeId × Value → H} {P : Program} {W : World} {base : Nat} {held : Bool}
theorem ints_ofC {t e : TypeId} {fuel : Nat} {c : Value} {y : DataW H × List MemPlace} (ht : P.underlying t = some (.slice e)) (he : P.underlying e = some (.int .i64)) (hc : P.cellsOf e = 1) (h : DataW.trod enc P W base (fun _ => true) held fuel t [c] = some y) :
  ∃ a cap M,c = .slice a (List.length M) cap ∧ Cel.vw W (icl M) (.slice a (List.length M) cap) ∧ Fits M ∧ List.length M ≤ maxLen := by
 obtain ⟨a,len,cap,z,rfl,hw⟩ : ∃ a len cap zs,c = .slice a len cap ∧ IsRow .i64 W a len cap zs := by
  rcases open_ints ht he hc h with ⟨hcs,_⟩ | ⟨x,l,c,zs,hcs,_,hl,hm,hz,_,hcell,hwz⟩
  ·simp at hcs
   exact ⟨none,0,0,[],hcs,.inl ⟨rfl,rfl,rfl,rfl⟩⟩
  ·simp at hcs
   exact ⟨some x,l,c,zs,hcs,.inr ⟨_,rfl,hl,hm,by simpa using hz,hcell,hwz⟩⟩
 rcases hw with ⟨rfl,rfl,rfl,rfl⟩ | ⟨ad,rfl,hl,hm,hz,hcell,hwz⟩
 ·exact ⟨none,0,[],rfl,vw_of_vec ⟨rfl,fun x hx => absurd hx List.not_mem_nil,.inl rfl⟩ (Nat.le_refl _) (Nat.zero_le _),fun x hx => absurd hx List.not_mem_nil,Nat.zero_le _⟩
 ·have hz' : z.length = cap := by simpa using hz
  have hlen : (z.take len).length = len := by rw [List.length_take];omega
  have hfit : Fits (z.take len) := fun n hn => bounds_i64 (hwz n (List.mem_of_mem_take hn))
  refine ⟨some ad,cap,z.take len,by rw [hlen],vw_of_vec ⟨rfl,hfit, ?_⟩ (by rw [hlen];exact hl) hm,hfit,by rw [hlen];exact Nat.le_trans hl hm⟩
  rcases Nat.eq_zero_or_pos len with e | e
  ·exact .inl (by omega)
  ·obtain ⟨b,off,spot⟩ := ad
   have hs : spot = none := by
    have := hcell 0 (by omega)
    simpa [Addr.add] using World.cell?_spot this
   subst hs
   refine .inr ⟨b,off,rfl,fun i hi => ?_⟩
   have h1 := hcell i (by omega)
   rw [add_lit0] at h1
   rw [h1]
   simp [el,List.getD,List.getElem?_take_of_lt (show i < len by omega)]
theorem txts_ofC {t e : TypeId} {fuel : Nat} {c : Value} {y : DataW H × List MemPlace} (ht : P.underlying t = some (.slice e)) (he : P.underlying e = some .string) (hc : P.cellsOf e = 1) (h : DataW.trod enc P W base (fun _ => true) held fuel t [c] = some y) :
  ∃ a cap T,c = .slice a (List.length T) cap ∧ Cel.vw W (scl T) (.slice a (List.length T) cap) ∧ LongT T ∧ List.length T ≤ maxLen := by
 rcases open_strs ht he hc h with ⟨hcs,_⟩ | ⟨ad,len,cap,m,S,hcs,_,hl,hm,hmm,_,hx⟩
 ·simp at hcs
  subst hcs
  exact ⟨none,0,[],rfl,vw_of_txs (.inl rfl) (Nat.le_refl _) (Nat.zero_le _),fun i hi => absurd hi (Nat.not_lt_zero _),Nat.zero_le _⟩
 ·simp at hcs
  subst hcs
  have hlm : len ≤ m := by rw [hmm];split <;> omega
  have hlen : ((List.range len).map fun r => (S r).data.toList).length = len := by simp
  have hget : ∀ i,i < len → ((List.range len).map fun r => (S r).data.toList).getD i [] = (S i).data.toList := fun i hi => by simp [List.getD,hi]
  refine ⟨some ad,cap,(List.range len).map fun r => (S r).data.toList,by rw [hlen],vw_of_txs ?_ (by rw [hlen];exact hl) hm,fun i hi => ?_,by rw [hlen];exact Nat.le_trans hl hm⟩
  ·by_cases h0 : len = 0
   ·exact .inl (by rw [hlen];exact h0)
   ·obtain ⟨b,off,spot⟩ := ad
    have hs : spot = none := by
     have := (hx 0 (by omega)).1
     simpa [Addr.add] using World.cell?_spot this
    subst hs
    refine .inr ⟨b,off,rfl,fun i hi => ?_⟩
    rw [hlen] at hi
    rw [hget i hi]
    have hc := (hx i (by omega)).1
    rw [add_lit0] at hc
    rw [hc,← sv_of]
  ·rw [hlen] at hi
   rw [hget i hi]
   exact str_short16 (hx i (by omega)).2
end
set_option maxRecDepth 100000 in
theorem row_ofC {H : Type} {enc : TypeId × Value → H} {W : World} {base fuel : Nat} {held : Bool} {cs : List Value} {x : DataW H × List MemPlace} (h : DataW.trod enc Try.prog W base (fun _ => true) held fuel 47 cs = some x) :
  ∃ r,cs.length = 8 ∧ vwL W (rw8 r) cs ∧ FitR r ∧ LongT r.txt ∧ Rw64 r := by
 obtain ⟨hl,n,hf⟩ := field_of Try.underlying47 (by kernel_rfl) h
 rw [show Try.prog.cellsOf 47 = 8 by kernel_rfl] at hl
 obtain ⟨c0,c1,c2,c3,c4,c5,c6,c7,rfl⟩ := list8 hl
 obtain ⟨y0,g0⟩ := hf 0 _ c0 rfl rfl
 obtain ⟨y1,g1⟩ := hf 1 _ c1 rfl rfl
 obtain ⟨y2,g2⟩ := hf 2 _ c2 rfl rfl
 obtain ⟨y3,g3⟩ := hf 3 _ c3 rfl rfl
 obtain ⟨y4,g4⟩ := hf 4 _ c4 rfl rfl
 obtain ⟨y5,g5⟩ := hf 5 _ c5 rfl rfl
 obtain ⟨y6,g6⟩ := hf 6 _ c6 rfl rfl
 obtain ⟨y7,g7⟩ := hf 7 _ c7 rfl rfl
 obtain ⟨i0,e0,_,b0⟩ := DataW.trod_int Try.underlying2 g0
 obtain ⟨a1,d1,T,rfl,t1,t2,t3⟩ := txts_ofC Try.underlying33 Try.underlying9 (by kernel_rfl) g1
 obtain ⟨a2,d2,M2,rfl,u2,v2,_⟩ := ints_ofC Try.underlying24 Try.underlying2 (by kernel_rfl) g2
 obtain ⟨a3,d3,M3,rfl,u3,v3,_⟩ := ints_ofC Try.underlying24 Try.underlying2 (by kernel_rfl) g3
 obtain ⟨z4,e4,_⟩ := DataW.trod_bool Try.underlying4 g4
 obtain ⟨z5,e5,_⟩ := DataW.trod_bool Try.underlying4 g5
 obtain ⟨i6,e6,_,b6⟩ := DataW.trod_int Try.underlying2 g6
 obtain ⟨a7,d7,M7,rfl,u7,v7,_⟩ := ints_ofC Try.underlying24 Try.underlying2 (by kernel_rfl) g7
 simp at e0 e4 e5 e6
 subst e0 e4 e5 e6
 exact ⟨⟨i0,T,M2,M3,z4,z5,i6,M7⟩,rfl,⟨_,_,rfl,rfl,_,_,rfl,t1,_,_,rfl,u2,_,_,rfl,u3,_,_,rfl,rfl,_,_,rfl,rfl,_,_,rfl,rfl,_,_,rfl,u7,rfl⟩,⟨v2,v3,v7⟩,t2,⟨bounds_i64 b0,bounds_i64 b6⟩⟩
set_option maxRecDepth 100000 in
theorem rows_of {H : Type} {enc : TypeId × Value → H} {W : World} {base fuel : Nat} {held : Bool} {c : Value} {y : DataW H × List MemPlace} (h : DataW.trod enc Try.prog W base (fun _ => true) held fuel 132 [c] = some y) :
  ∃ a cap R,c = .slice a (List.length R) cap ∧ Cel.vw W (lcl 8 rw8 R) (.slice a (List.length R) cap) ∧ (∀ r ∈ R,FitR r ∧ LongT r.txt ∧ Rw64 r) ∧ List.length R ≤ maxLen := by
 rcases open_slice Try.underlying132 h with ⟨h0,_⟩ | ⟨ad,len,cap,m,n,D,Pl,hcs,_,hl,hm,hmm,_,hx⟩
 ·simp at h0
  subst h0
  exact ⟨none,0,[],rfl,⟨none,0,[],rfl,Nat.le_refl _,Nat.zero_le _,rfl,.inl rfl,rfl⟩,fun r hr => absurd hr List.not_mem_nil,Nat.zero_le _⟩
 ·simp at hcs
  subst hcs
  have hlm : len ≤ m := by rw [hmm];split <;> omega
  have ce : Try.prog.cellsOf 47 = 8 := by kernel_rfl
  by_cases h0 : len = 0
  ·subst h0
   exact ⟨some ad,cap,[],rfl,⟨some ad,cap,[],rfl,hl,hm,rfl,.inl rfl,rfl⟩,fun r hr => absurd hr List.not_mem_nil,Nat.zero_le _⟩
  obtain ⟨b,off,spot⟩ := ad
  have each : ∀ i,i < len → ∃ q : List Value × Rw,(q.1.length = 8 ∧ (∀ j,j < 8 → W.cell? ((⟨b,off,spot⟩ : Addr).add (i * 8 + j)) = q.1[j]?) ∧ vwL W (rw8 q.2) q.1) ∧ FitR q.2 ∧ LongT q.2.txt ∧ Rw64 q.2 := by
   intro i hi
   obtain ⟨cs',h1,h2⟩ := hx i (by omega)
   rw [ce] at h1
   obtain ⟨_,hlen,hcell⟩ := World.cells?_some h1
   obtain ⟨r,e8,hv,hf,hg,h6⟩ := row_ofC h2
   refine ⟨(cs',r),⟨e8,fun j hj => ?_,hv⟩,hf,hg,h6⟩
   have := hcell j hj
   rw [add_add] at this
   exact this
  have hs : spot = none := by
   obtain ⟨q,⟨h1,h2,_⟩,_⟩ := each 0 (by omega)
   have := h2 0 (by omega)
   rw [List.getElem?_eq_getElem (by omega)] at this
   simpa [Addr.add] using World.cell?_spot this
  subst hs
  haveI : Inhabited (List Value × Rw) := ⟨([],zeroRw)⟩
  obtain ⟨q,hq⟩ := choose_lt each
  obtain ⟨us,u1,u2,u3⟩ := vw_lcl_of (F := rw8) (s := 8) (w := W) (b := b) (off := off) (fun i => (q i).2) (fun i => (q i).1) len (fun i hi => ⟨(hq i hi).1.1,fun j hj => by have := (hq i hi).1.2.1 j hj;rw [add_lit0,← Nat.add_assoc] at this;exact this,(hq i hi).1.2.2⟩)
  have hlen : ((List.range len).map (fun i => (q i).2)).length = len := by simp
  refine ⟨some ⟨b,off,none⟩,cap,(List.range len).map (fun i => (q i).2),by rw [hlen], ?_,fun r hr => ?_,by rw [hlen];exact Nat.le_trans hl hm⟩
  ·unfold lcl
   rw [hlen]
   exact ⟨_,cap,us,rfl,hl,hm,u1,.inr ⟨b,off,rfl,u2⟩,u3⟩
  ·obtain ⟨i,hi,rfl⟩ := List.mem_map.1 hr
   exact (hq i (List.mem_range.1 hi)).2
theorem list5 {α : Type} {l : List α} (h : l.length = 5) : ∃ c0 c1 c2 c3 c4,l = [c0,c1,c2,c3,c4] := by
 match l,h with
 | [c0,c1,c2,c3,c4],_ => exact ⟨c0,c1,c2,c3,c4,rfl⟩
end Go.Proofs.Ytlnmdfgcpfbleaa