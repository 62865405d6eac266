/-
  Texts in one: Mcd Mcf Mcq Gng Gpa Gpb Gpc Gpd Gpe Gpf Gph Gpk Ozr Omb Ogr Nmb.
-/
import Derived.Test.YtlnmdfgcpfbleaaJad
import Derived.Test.YtlnmdfgcpfbleaaJae
import Derived.Test.YtlnmdfgcpfbleaaJac
import Derived.Test.YtlnmdfgcpfbleaaJab
import Derived.Test.YtlnmdfgcpfbleaaJaa
import Derived.BigQuiet
import Derived.Deep.RegionHeld3
import Derived.Lib.SmallJoins
import Derived.OpenShut
import Derived.ChangeOld
import Derived.ShutString
import Derived.Deep.Matrix
import Derived.Deep.Slices
import Derived.Deep.Strs
import Derived.Deep.Grids
import Derived.Defers
import Derived.Recover
namespace Go.Proofs.Ytlnmdfgcpfbleaa
set_option linter.unusedVariables false
set_option linter.unusedSimpArgs false
open Go.RowKit Go.Sort
def hadB (R : List Rw) (n : Nat) (q : Int) : Bool := decide (q.toNat / n < (rowN R (q.toNat % n)).txt.length)
def txtOf (R : List Rw) (n : Nat) (q : Int) : List UInt8 := (rowN R (q.toNat % n)).txt.getD (q.toNat / n) []
def voiL (m : Mb) : List (List UInt8) × Bool := if m.sung.all (hadB m.rows m.k) = true then (m.sung.map (txtOf m.rows m.k),true) else ([],false)
def voiM (m : Mb) : List (List UInt8) := if okMb m = true then (voiL m).1 else []
def AnsVf (w w' : World) (e : Ending) (T : List (List UInt8)) (b : Bool) : Prop := ∃ a c,e = .returned (.tuple #[.slice a T.length c,.bool b]) ∧ NewO w w' (scl T) (.slice a T.length c)
theorem map_next {α β : Type} {f : α → β} {l : List α} {k : Nat} {x : α} (h : l[k]? = some x) : (l.take (k + 1)).map f = (l.take k).map f ++ [f x] := by
 have hk : k < l.length := by
  rcases Nat.lt_or_ge k l.length with h' | h'
  ·exact h'
  ·rw [List.getElem?_eq_none h'] at h;cases h
 rw [List.getElem?_eq_getElem hk] at h
 cases h
 rw [List.take_succ_eq_append_getElem hk,List.map_append]
 rfl
attribute [local irreducible] sv
set_option maxRecDepth 100000 in
set_option maxHeartbeats 6400000 in
theorem voiSp_any (A : Ma) (m : Mb) (i n : Nat) (w : World) (hv : MbS w A m) (ok : OkM m i n) :
  Calls Try.prog 105 #[mbV A m] w fun e w' => AnsVf w w' e (voiL m).1 (voiL m).2 := by
 have hmix := mixed17
 have hB0 : Below w.heap.size w (w.alloc (.cells (mbC A m) 103)) := oneA16 w _
 have hx := Bx.new w 103 (mbC A m)
 have HV : Hid (MbS w A m) := hv
 have HK : Hid (m.k = n) := ok.k
 have HOk : Hid (OkM m i n) := ok
 obtain ⟨id,nn,rows,sung,done⟩ := m
 obtain ⟨ra,rc,sa,sc⟩ := A
 have hnn : nn = (n : Int) := ok.hn
 subst hnn
 have hlen : rows.length = n := ok.len
 have HLn : Hid (rows.length = n) := hlen
 have hsl : sung.length ≤ 60 := ok.sl
 have hn5 := ok.n5
 have HZ : Hid (voiL ⟨id,(n : Int),rows,sung,done⟩ = if sung.all (hadB rows n) = true then (sung.map (txtOf rows n),true) else ([],false)) := by rw [Hid,voiL,HK.out]
 unfold mbV
 unfold mbC at *
 simp only at *
 generalize hWW : w.alloc (.cells #[.int .i64 id,.int .i64 (n : Int),.slice ra rows.length rc,.slice sa sung.length sc,.bool done] 103) = W at *
 have hba := oneA16 W (.cells #[] 9)
 have HX : Hid (Bx (W.alloc (.cells #[] 9)) w.heap.size 103 #[.int .i64 id,.int .i64 (n : Int),.slice ra rows.length rc,.slice sa sung.length sc,.bool done]) := hx.below hba
 have HB : Hid (Below w.heap.size w (W.alloc (.cells #[] 9))) := hB0.trans (hba.mono hB0.size)
 have hWs : w.heap.size ≤ W.heap.size := hB0.size
 have HO0 : Hid (Cel.ow (W.alloc (.cells #[] 9)) (scl []) (.slice (some ⟨W.heap.size,0,none⟩) 0 0) (fun _ => False)) := ow_scl.2 ⟨_,0,none,rfl,OSo.nil _ _ (plainS _ _),fun b => by simp⟩
 clear hx hB0 hv hba ok hlen
 go_enter Try.func105,Try.ntmps105
 go_wp2_with fail
 generalize hW2 : W.alloc (.cells #[] 9) = W2 at *
 clear hW2
 go_loopw [4,5] (fun v kv wr => ∃ (k : Nat) (a : Option Addr) (cc : Nat) (Z : List (List UInt8)) (fz : Fp),k ≤ sung.length ∧ kv = .int .i64 (k : Int) ∧ v = .slice a Z.length cc ∧ Hid (Z = (sung.take k).map (txtOf rows n)) ∧ Hid (∀ x ∈ sung.take k,hadB rows n x = true) ∧ Cel.ow wr (scl Z) (.slice a Z.length cc) fz ∧ (∀ b,fz b → w.heap.size < b) ∧ Bx wr w.heap.size 103 #[.int .i64 id,.int .i64 (n : Int),.slice ra rows.length rc,.slice sa sung.length sc,.bool done] ∧ Below w.heap.size w wr) (fun _ kv _ => sung.length - (intOf kv).toNat)
 case atStart => exact ⟨0,some ⟨W.heap.size,0,none⟩,0,[],_,Nat.zero_le _,rfl,rfl,rfl,fun x hx => absurd hx List.not_mem_nil,HO0.out,fun b h => h.elim,HX.out,HB.out⟩
 case round =>
  obtain ⟨k,a,cc,Z,fz,hk,rfl,rfl,hZ,hAll,hO,hfz,hX,hb⟩ := hrel
  obtain ⟨c0,c1,c2,c3,c4⟩ := Bx.r5 hX
  by_cases hlt : k < sung.length
  ·have k1 : (k : Int) < (sung.length : Int) := by omega
   have k0 : (0 : Int) ≤ (k : Int) := by omega
   have hVw := HV.out.below hb
   rcases hVw.sung.2.2 with h0 | ⟨sb,so,hsa,hsc⟩
   ·simp only at h0;omega
   simp only at hsa
   subst hsa
   have hsk := hsc k hlt
   simp only at hsk
   have hsg := (HOk.out.sg k hlt).1
   simp only at hsg
   have hget : sung[k]? = some (el sung k) := by simp [el,hlt]
   have HMp := map_next (f := txtOf rows n) hget
   have HMem : Hid (∀ x ∈ sung.take (k + 1),x ∈ sung.take k ∨ x = el sung k) := fun x hx => by
    rw [List.take_succ_eq_append_getElem hlt] at hx
    rcases List.mem_append.1 hx with h | h
    ·exact .inl h
    ·exact .inr (by simp at h;rw [h];simp [el,hlt])
   have HIn : Hid (el sung k ∈ sung) := el_mem hlt
   obtain ⟨q,hq⟩ : ∃ q : Nat,el sung k = (q : Int) := ⟨(el sung k).toNat,by omega⟩
   rw [hq] at hsk HMp HMem HIn hsg
   have HMp2 : Hid ((sung.take (k + 1)).map (txtOf rows n) = Z ++ [txtOf rows n (q : Int)]) := by rw [Hid,HMp,hZ.out]
   clear HMp hq hget
   have tm : ((q : Int)).tmod (n : Int) = ((q % n : Nat) : Int) := by rw [Int.tmod_eq_emod_of_nonneg (by omega)];rfl
   have td : ((q : Int)).tdiv (n : Int) = ((q / n : Nat) : Int) := by rw [Int.tdiv_eq_ediv_of_nonneg (by omega)];rfl
   have hJn : q % n < n := Nat.mod_lt _ (by omega)
   have hyq := Nat.div_le_self q n
   have n0 : ((n : Int) == 0) = false := by simp;omega
   have n00 : ¬ n = 0 := by omega
   have HHad : Hid (hadB rows n (q : Int) = decide (q / n < (rowN rows (q % n)).txt.length)) := rfl
   have HTx : Hid (txtOf rows n (q : Int) = (rowN rows (q % n)).txt.getD (q / n) []) := rfl
   obtain ⟨J,hJ⟩ : ∃ J : Nat,Hid (q % n = J) := ⟨_,rfl⟩
   obtain ⟨y,hy⟩ : ∃ y : Nat,Hid (q / n = y) := ⟨_,rfl⟩
   rw [hJ.out] at tm hJn
   rw [hy.out] at td hyq
   rw [hJ.out,hy.out] at HHad HTx
   have hwy : wrap64 (y : Int) = (y : Int) := by unfold wrap64;omega
   have hJl : J < rows.length := by rw [HLn.out];exact hJn
   obtain ⟨g,off,AJ,hra,⟨⟨d0,d1,d2,d3⟩,d4,d5,d6,d7⟩,hrs⟩ := hVw.row (k := J) hJl
   simp only at hra hrs d0 d1 d2 d3 d4 d5 d6 d7
   subst hra
   have J0 : (0 : Int) ≤ (J : Int) := by omega
   have J1 : (J : Int) < (rows.length : Int) := by omega
   have hokJ : OkR (rowN rows J) n := HOk.out.ok J hJn
   have HXw : Hid (Bx wr w.heap.size 103 #[.int .i64 id,.int .i64 (n : Int),.slice (some ⟨g,off,none⟩) rows.length rc,.slice (some ⟨sb,so,none⟩) sung.length sc,.bool done]) := hX
   have HB3 : Hid (Below w.heap.size w wr) := hb
   have HO : Hid (Cel.ow wr (scl Z) (.slice a Z.length cc) fz) := hO
   have HRS : Hid (TxS wr AJ.ta (rowN rows J).txt) := hrs.txt
   have hZl : Z.length ≤ 1000000 := by rw [hZ.out,List.length_map,List.length_take];omega
   generalize hrr : rowN rows J = r at *
   have KS : ∀ X,Below wr.heap.size wr X → (X.cell? ⟨w.heap.size,2,none⟩ = some (.slice (some ⟨g,off,none⟩) rows.length rc) ∧ X.cell? ⟨w.heap.size,3,none⟩ = some (.slice (some ⟨sb,so,none⟩) sung.length sc) ∧ X.cell? ⟨sb,so + k,none⟩ = some (.int .i64 (q : Int)) ∧ X.cell? ⟨w.heap.size,1,none⟩ = some (.int .i64 (n : Int)) ∧ X.cell? ⟨g,off + J * 8,none⟩ = some (.int .i64 r.ver) ∧ X.cell? ⟨g,off + J * 8 + 1,none⟩ = some (.slice AJ.ta r.txt.length AJ.tc) ∧ X.cell? ⟨g,off + J * 8 + 2,none⟩ = some (.slice AJ.ga r.got.length AJ.gc) ∧ X.cell? ⟨g,off + J * 8 + 3,none⟩ = some (.slice AJ.sa r.sus.length AJ.sc) ∧ X.cell? ⟨g,off + J * 8 + 4,none⟩ = some (.bool r.wed) ∧ X.cell? ⟨g,off + J * 8 + 5,none⟩ = some (.bool r.rdy) ∧ X.cell? ⟨g,off + J * 8 + 6,none⟩ = some (.int .i64 r.by_) ∧ X.cell? ⟨g,off + J * 8 + 7,none⟩ = some (.slice AJ.ma r.trm.length AJ.mc)) := fun X hX => by
    have t : ∀ {x v},wr.cell? x = some v → X.cell? x = some v := fun h => (hX.cell (World.block_lt_of_cell? _ _ h)).trans h
    exact ⟨t c2,t c3,t hsk,t c1,t d0,t d1,t d2,t d3,t d4,t d5,t d6,t d7⟩
   have hbd : Below wr.heap.size wr wr.drew := (Same.drewN wr 1).below
   clear hrr c0 c1 c2 c4 d0 d1 d2 d3 d4 d5 d6 d7 hrs hO hX hb hVw hsc hsk
   go_wp2_with fail
   refine gt_begin (S := fun X : World => X.cell? ⟨w.heap.size,2,none⟩ = some (.slice (some ⟨g,off,none⟩) rows.length rc) ∧ X.cell? ⟨w.heap.size,3,none⟩ = some (.slice (some ⟨sb,so,none⟩) sung.length sc) ∧ X.cell? ⟨sb,so + k,none⟩ = some (.int .i64 (q : Int)) ∧ X.cell? ⟨w.heap.size,1,none⟩ = some (.int .i64 (n : Int)) ∧ X.cell? ⟨g,off + J * 8,none⟩ = some (.int .i64 r.ver) ∧ X.cell? ⟨g,off + J * 8 + 1,none⟩ = some (.slice AJ.ta r.txt.length AJ.tc) ∧ X.cell? ⟨g,off + J * 8 + 2,none⟩ = some (.slice AJ.ga r.got.length AJ.gc) ∧ X.cell? ⟨g,off + J * 8 + 3,none⟩ = some (.slice AJ.sa r.sus.length AJ.sc) ∧ X.cell? ⟨g,off + J * 8 + 4,none⟩ = some (.bool r.wed) ∧ X.cell? ⟨g,off + J * 8 + 5,none⟩ = some (.bool r.rdy) ∧ X.cell? ⟨g,off + J * 8 + 6,none⟩ = some (.int .i64 r.by_) ∧ X.cell? ⟨g,off + J * 8 + 7,none⟩ = some (.slice AJ.ma r.trm.length AJ.mc)) 13 hmix (by kernel_rfl) ?_
   have hHeld : (fun X : World => X.cell? ⟨w.heap.size,2,none⟩ = some (.slice (some ⟨g,off,none⟩) rows.length rc) ∧ X.cell? ⟨w.heap.size,3,none⟩ = some (.slice (some ⟨sb,so,none⟩) sung.length sc) ∧ X.cell? ⟨sb,so + k,none⟩ = some (.int .i64 (q : Int)) ∧ X.cell? ⟨w.heap.size,1,none⟩ = some (.int .i64 (n : Int)) ∧ X.cell? ⟨g,off + J * 8,none⟩ = some (.int .i64 r.ver) ∧ X.cell? ⟨g,off + J * 8 + 1,none⟩ = some (.slice AJ.ta r.txt.length AJ.tc) ∧ X.cell? ⟨g,off + J * 8 + 2,none⟩ = some (.slice AJ.ga r.got.length AJ.gc) ∧ X.cell? ⟨g,off + J * 8 + 3,none⟩ = some (.slice AJ.sa r.sus.length AJ.sc) ∧ X.cell? ⟨g,off + J * 8 + 4,none⟩ = some (.bool r.wed) ∧ X.cell? ⟨g,off + J * 8 + 5,none⟩ = some (.bool r.rdy) ∧ X.cell? ⟨g,off + J * 8 + 6,none⟩ = some (.int .i64 r.by_) ∧ X.cell? ⟨g,off + J * 8 + 7,none⟩ = some (.slice AJ.ma r.trm.length AJ.mc)) wr.drew := (KS _ hbd)
   refine gt_take (i := 0) (v := ?_) rfl (by kernel_rfl) (by kernel_rfl) (by kernel_rfl) (by kernel_rfl) (fun _ _ _ h => h) (Or.inl ⟨by rfl, ?_⟩) hHeld ?_
   rotate_left
   ·(intro X hSX;(try dsimp only at hSX);obtain ⟨g0,g1,g2,g3,g4,g5,g6,g7,g8,g9,g10,g11⟩ := hSX;go_simp;try with_reducible rfl)
   try simp only [Act.put,List.setIfInBounds_toArray,List.set_cons_zero,List.set_cons_succ]
   refine gt_take (i := 1) (v := ?_) rfl (by kernel_rfl) (by kernel_rfl) (by kernel_rfl) (by kernel_rfl) (fun _ _ _ h => h) (Or.inl ⟨by rfl, ?_⟩) hHeld ?_
   rotate_left
   ·(intro X hSX;(try dsimp only at hSX);obtain ⟨g0,g1,g2,g3,g4,g5,g6,g7,g8,g9,g10,g11⟩ := hSX;go_simp;try with_reducible rfl)
   try simp only [Act.put,List.setIfInBounds_toArray,List.set_cons_zero,List.set_cons_succ]
   refine gt_take (i := 2) (v := ?_) rfl (by kernel_rfl) (by kernel_rfl) (by kernel_rfl) (by kernel_rfl) (fun _ _ _ h => h) (Or.inl ⟨by rfl, ?_⟩) hHeld ?_
   rotate_left
   ·(intro X hSX;(try dsimp only at hSX);obtain ⟨g0,g1,g2,g3,g4,g5,g6,g7,g8,g9,g10,g11⟩ := hSX;go_simp;try with_reducible rfl)
   try simp only [Act.put,List.setIfInBounds_toArray,List.set_cons_zero,List.set_cons_succ]
   refine gt_take (i := 3) (v := ?_) rfl (by kernel_rfl) (by kernel_rfl) (by kernel_rfl) (by kernel_rfl) (fun _ _ _ h => h) (Or.inl ⟨by rfl, ?_⟩) hHeld ?_
   rotate_left
   ·(intro X hSX;(try dsimp only at hSX);obtain ⟨g0,g1,g2,g3,g4,g5,g6,g7,g8,g9,g10,g11⟩ := hSX;go_simp;try with_reducible rfl)
   try simp only [Act.put,List.setIfInBounds_toArray,List.set_cons_zero,List.set_cons_succ]
   refine gt_take (i := 4) (v := ?_) rfl (by kernel_rfl) (by kernel_rfl) (by kernel_rfl) (by kernel_rfl) (fun _ _ _ h => h) (Or.inl ⟨by rfl, ?_⟩) hHeld ?_
   rotate_left
   ·(intro X hSX;(try dsimp only at hSX);obtain ⟨g0,g1,g2,g3,g4,g5,g6,g7,g8,g9,g10,g11⟩ := hSX;go_simp;try with_reducible rfl)
   try simp only [Act.put,List.setIfInBounds_toArray,List.set_cons_zero,List.set_cons_succ]
   refine gt_take (i := 5) (v := ?_) rfl (by kernel_rfl) (by kernel_rfl) (by kernel_rfl) (by kernel_rfl) (fun _ _ _ h => h) (Or.inl ⟨by rfl, ?_⟩) hHeld ?_
   rotate_left
   ·(intro X hSX;(try dsimp only at hSX);obtain ⟨g0,g1,g2,g3,g4,g5,g6,g7,g8,g9,g10,g11⟩ := hSX;go_simp;try with_reducible rfl)
   try simp only [Act.put,List.setIfInBounds_toArray,List.set_cons_zero,List.set_cons_succ]
   refine gt_take (i := 6) (v := ?_) rfl (by kernel_rfl) (by kernel_rfl) (by kernel_rfl) (by kernel_rfl) (fun _ _ _ h => h) (Or.inl ⟨by rfl, ?_⟩) hHeld ?_
   rotate_left
   ·(intro X hSX;(try dsimp only at hSX);obtain ⟨g0,g1,g2,g3,g4,g5,g6,g7,g8,g9,g10,g11⟩ := hSX;go_simp;try with_reducible rfl)
   try simp only [Act.put,List.setIfInBounds_toArray,List.set_cons_zero,List.set_cons_succ]
   refine gt_take (i := 7) (v := ?_) rfl (by kernel_rfl) (by kernel_rfl) (by kernel_rfl) (by kernel_rfl) (fun _ _ _ h => h) (Or.inl ⟨by rfl, ?_⟩) hHeld ?_
   rotate_left
   ·(intro X hSX;(try dsimp only at hSX);obtain ⟨g0,g1,g2,g3,g4,g5,g6,g7,g8,g9,g10,g11⟩ := hSX;go_simp;try with_reducible rfl)
   try simp only [Act.put,List.setIfInBounds_toArray,List.set_cons_zero,List.set_cons_succ]
   refine gt_take (i := 8) (v := ?_) rfl (by kernel_rfl) (by kernel_rfl) (by kernel_rfl) (by kernel_rfl) (fun _ _ _ h => h) (Or.inl ⟨by rfl, ?_⟩) hHeld ?_
   rotate_left
   ·(intro X hSX;(try dsimp only at hSX);obtain ⟨g0,g1,g2,g3,g4,g5,g6,g7,g8,g9,g10,g11⟩ := hSX;go_simp;try with_reducible rfl)
   try simp only [Act.put,List.setIfInBounds_toArray,List.set_cons_zero,List.set_cons_succ]
   refine gt_take (i := 9) (v := ?_) rfl (by kernel_rfl) (by kernel_rfl) (by kernel_rfl) (by kernel_rfl) (fun _ _ _ h => h) (Or.inl ⟨by rfl, ?_⟩) hHeld ?_
   rotate_left
   ·(intro X hSX;(try dsimp only at hSX);obtain ⟨g0,g1,g2,g3,g4,g5,g6,g7,g8,g9,g10,g11⟩ := hSX;go_simp;try with_reducible rfl)
   try simp only [Act.put,List.setIfInBounds_toArray,List.set_cons_zero,List.set_cons_succ]
   refine gt_take (i := 10) (v := ?_) rfl (by kernel_rfl) (by kernel_rfl) (by kernel_rfl) (by kernel_rfl) (fun _ _ _ h => h) (Or.inl ⟨by rfl, ?_⟩) hHeld ?_
   rotate_left
   ·(intro X hSX;(try dsimp only at hSX);obtain ⟨g0,g1,g2,g3,g4,g5,g6,g7,g8,g9,g10,g11⟩ := hSX;go_simp;try with_reducible rfl)
   try simp only [Act.put,List.setIfInBounds_toArray,List.set_cons_zero,List.set_cons_succ]
   refine gt_take (i := 11) (v := ?_) rfl (by kernel_rfl) (by kernel_rfl) (by kernel_rfl) (by kernel_rfl) (fun _ _ _ h => h) (Or.inl ⟨by rfl, ?_⟩) hHeld ?_
   rotate_left
   ·(intro X hSX;(try dsimp only at hSX);obtain ⟨g0,g1,g2,g3,g4,g5,g6,g7,g8,g9,g10,g11⟩ := hSX;go_simp;try with_reducible rfl)
   try simp only [Act.put,List.setIfInBounds_toArray,List.set_cons_zero,List.set_cons_succ]
   refine gt_one (i := 12) rfl (by kernel_rfl) (by kernel_rfl) (fun K hK => ?_)
   go_simp
   have hb2 : Below wr.heap.size wr (wr.drew.alloc (.cells #[.int .i64 0,.slice none 0 0,.slice none 0 0,.slice none 0 0,.bool false,.bool false,.int .i64 0,.slice none 0 0] 35)) := hbd.trans ((oneA16 wr.drew _).mono hbd.size)
   refine hK.out _ _ (KS _ hb2) (fun hHeldN => ?_)
   clear hK hHeld
   have hHeld := hHeldN
   try simp only [Act.put,List.setIfInBounds_toArray,List.set_cons_zero,List.set_cons_succ]
   refine gt_last rfl (by kernel_rfl) (by kernel_rfl) (fun K hK => ?_)
   go_simp
   refine hK.out _ _ ?_
   have hb5 : Below wr.heap.size wr (wr.alloc (.cells #[.int .i64 r.ver,.slice AJ.ta r.txt.length AJ.tc,.slice AJ.ga r.got.length AJ.gc,.slice AJ.sa r.sus.length AJ.sc,.bool r.wed,.bool r.rdy,.int .i64 r.by_,.slice AJ.ma r.trm.length AJ.mc] 35)).drew := (oneA16 wr _).trans ((Same.drewN _ 1).below.mono (oneA16 wr _).size)
   have hx5 : Bx (wr.alloc (.cells #[.int .i64 r.ver,.slice AJ.ta r.txt.length AJ.tc,.slice AJ.ga r.got.length AJ.gc,.slice AJ.sa r.sus.length AJ.sc,.bool r.wed,.bool r.rdy,.int .i64 r.by_,.slice AJ.ma r.trm.length AJ.mc] 35)).drew wr.heap.size 35 #[.int .i64 r.ver,.slice AJ.ta r.txt.length AJ.tc,.slice AJ.ga r.got.length AJ.gc,.slice AJ.sa r.sus.length AJ.sc,.bool r.wed,.bool r.rdy,.int .i64 r.by_,.slice AJ.ma r.trm.length AJ.mc] := Bx.new wr _ _
   have p3 := KS _ hb5
   generalize (wr.alloc (.cells #[.int .i64 r.ver,.slice AJ.ta r.txt.length AJ.tc,.slice AJ.ga r.got.length AJ.gc,.slice AJ.sa r.sus.length AJ.sc,.bool r.wed,.bool r.rdy,.int .i64 r.by_,.slice AJ.ma r.trm.length AJ.mc] 35)).drew = W5 at *
   have HX5 : Hid (Bx W5 wr.heap.size 35 #[.int .i64 r.ver,.slice AJ.ta r.txt.length AJ.tc,.slice AJ.ga r.got.length AJ.gc,.slice AJ.sa r.sus.length AJ.sc,.bool r.wed,.bool r.rdy,.int .i64 r.by_,.slice AJ.ma r.trm.length AJ.mc]) := hx5
   have HB5 : Hid (Below wr.heap.size wr W5) := hb5
   have T5 : ∀ {x v},W5.cell? x = some v → ∀ q : Bk W5,q.w.cell? x = some v := fun h q => (q.h.cell (World.block_lt_of_cell? _ _ h)).trans h
   have ps := T5 p3.2.1
   have pe := T5 p3.2.2.1
   have pn := T5 p3.2.2.2.1
   clear hHeld KS hbd hb2 hK p3 hx5 hb5 T5 c3
   go_wp2_with fail
   refine wp_region_bk (by kernel_rfl) (by kernel_rfl) ?_
   repeat (go_big_quiet_step ((first | rfl)))
   refine wpQuiet_nil ?_
   intro wE hw'
   obtain ⟨⟨w11,hb11⟩,hw''⟩ := hw'
   have hwe : wE = w11 := hw''
   clear hw''
   subst hwe
   have hbE := HB5.out.trans (hb11.mono HB5.out.size)
   have HB6 : Hid (Below w.heap.size w wE) := HB3.out.trans (hbE.mono HB3.out.size)
   have HX6 : Hid (Bx wE w.heap.size 103 #[.int .i64 id,.int .i64 (n : Int),.slice (some ⟨g,off,none⟩) rows.length rc,.slice (some ⟨sb,so,none⟩) sung.length sc,.bool done]) := HXw.out.below hbE
   have hO6 := Cel.ow_below HO.out hbE
   have x1 := (HX5.out.below hb11).at 1 rfl
   simp only [List.getElem_toArray,List.getElem_cons_succ,List.getElem_cons_zero] at x1
   have hTx := HRS.out.below hbE
   have hsE := hbE.size
   have hsE2 := HB3.out.size
   clear ps pe pn hb11 hbE tm td
   by_cases hhad : y < r.txt.length
   ·have e1 : ¬ ((r.txt.length : Int) ≤ (y : Int)) := by omega
    have e2 : decide ((r.txt.length : Int) ≤ (y : Int)) = false := by simpa using hhad
    have y0 : (0 : Int) ≤ (y : Int) := by omega
    have y1 : (y : Int) < (r.txt.length : Int) := by omega
    have HAl2 : Hid (∀ x ∈ sung.take (k + 1),hadB rows n x = true) := fun x hx => by
     rcases HMem.out x hx with h | h
     ·exact hAll.out x h
     ·rw [h,HHad.out];simpa using hhad
    rcases hTx with h0 | ⟨tb,tof,hta,htc⟩
    ·omega
    have htx := htc y hhad
    rw [hta] at x1
    rw [← HTx.out] at htx
    generalize txtOf rows n (q : Int) = tt at *
    obtain ⟨a',c',ea,hA⟩ := ow_txt_app tt hO6 hZl
    cases ea
    clear htc hta
    go_wp2_with (at_builtin;refine wpList_append_of (by rfl) _ _ _ _ (by rfl) _ _ (by rfl) (by rfl) hA ⟨rfl,rfl,rfl,rfl⟩ ?_;rintro v1 w1 ⟨a1,e1,f1,rfl,q1,q2,q3⟩;have HQ1 : Hid (Cel.ow w1 (scl (Z ++ [tt])) (.slice a1 (Z.length + 1) e1) f1) := q1;have HQ2 : Hid (∀ b,f1 b → fz b ∨ wE.heap.size ≤ b) := q2;have HQ3 : Hid (Wrt fz wE w1) := q3;clear q1 q2 q3 hA)
    have HL : Hid ((Z ++ [tt]).length = Z.length + 1) := by rw [Hid,List.length_append];rfl
    have hbx := HX6.out.lt
    go_roundw
    case rel => exact ⟨k + 1,a1,e1,Z ++ [tt],f1,by omega,by go_num,by rw [HL.out],HMp2.out.symm,HAl2,by rw [HL.out];exact HQ1.out,fun b hb => (HQ2.out b hb).elim (hfz b) (fun h => by omega),HX6.out.wrt HQ3.out (fun k => by have := hfz _ k;omega),HQ3.out.below HB6.out (by omega) (fun b hb => by have := hfz b hb;omega)⟩
    case measure => simp [intOf];omega
   ·have e1 : (r.txt.length : Int) ≤ (y : Int) := by omega
    have e2 : decide ((r.txt.length : Int) ≤ (y : Int)) = true := by simpa using e1
    have HNo : Hid (voiL ⟨id,(n : Int),rows,sung,done⟩ = ([],false)) := by
     rw [Hid,HZ.out,if_neg]
     intro h
     have := (List.all_eq_true.1 h) _ HIn.out
     rw [HHad.out] at this
     simp at this
     omega
    have HN : Hid (NewO w (wE.alloc (.cells #[] 9)) (scl []) (.slice (some ⟨wE.heap.size,0,none⟩) 0 0)) := ⟨fun _ => False,ow_scl.2 ⟨_,0,none,rfl,OSo.nil _ _ (plainS _ _),fun b => by simp⟩,fun b h => h.elim,HB6.out.trans ((oneA16 wE _).mono HB6.out.size)⟩
    clear hO6 hTx
    go_wp2
    go_ret2
    rw [HNo.out]
    exact ⟨_,_,rfl,HN.out⟩
  ·have k1 : ¬ ((k : Int) < (sung.length : Int)) := by omega
   have HYes : Hid (voiL ⟨id,(n : Int),rows,sung,done⟩ = (Z,true)) := by
    rw [Hid,HZ.out,hZ.out,List.take_of_length_le (by omega),if_pos]
    rw [List.all_eq_true]
    intro x hx
    have := hAll.out x (by rw [List.take_of_length_le (by omega)];exact hx)
    exact this
   have HN : Hid (NewO w wr (scl Z) (.slice a Z.length cc)) := ⟨fz,hO,fun b hb => by have := hfz b hb;omega,hb⟩
   clear hO hX hb c0 c1 c2 c4
   go_wp2
   go_ret2
   rw [HYes.out]
   exact ⟨_,_,rfl,HN.out⟩
end Go.Proofs.Ytlnmdfgcpfbleaa
namespace Go.Proofs.Ytlnmdfgcpfbleaa
set_option linter.unusedVariables false
set_option linter.unusedSimpArgs false
open Go.RowKit Go.Sort
def AnsTx (w w' : World) (e : Ending) (T : List (List UInt8)) : Prop := ∃ a c,e = .returned (.slice a T.length c) ∧ NewO w w' (scl T) (.slice a T.length c)
end Go.Proofs.Ytlnmdfgcpfbleaa
namespace Go.Proofs.Ytlnmdfgcpfbleaa
set_option linter.unusedVariables false
set_option linter.unusedSimpArgs false
open Go.RowKit Go.Sort
def Mb64 (m : Mb) : Prop := I64v m.id ∧ I64v m.n ∧ ∀ r ∈ m.rows,Rw64 r
structure MbP (w : World) (A : Ma) (m : Mb) : Prop where
 own : ∃ f,owL w (mbCels m) (mbVals A m) f
 fit : FitM m
 i64 : Mb64 m
 sz : szMb m ≤ 1048576
def ImplVoice : Prop := ∀ (A : Ma) (m : Mb) (w : World),MbP w A m → Calls Try.prog 131 #[mbV A m] w fun e w' => AnsTx w w' e (voiM m)
attribute [local irreducible] sv
end Go.Proofs.Ytlnmdfgcpfbleaa
namespace Go.Proofs.Ytlnmdfgcpfbleaa
set_option linter.unusedVariables false
set_option linter.unusedSimpArgs false
open Go.RowKit Go.Sort
def Gr64 (g : Gr) : Prop := (∀ m ∈ g.mem,Mb64 m) ∧ ∀ x ∈ g.mail,I64v x.fr ∧ I64v x.to ∧ Rw64 x.row
structure GrP (w : World) (A : Ga) (g : Gr) : Prop where
 own : ∃ f,owL w (gr3 g) (grVals A g) f
 fit : FitG g
 i64 : Gr64 g
 sz : szGr g ≤ 1048576
theorem it_grs {w : World} {A : Ga} {g : Gr} {lo hi : Nat} (h : It w (gr3 g) (grVals A g) lo hi) (hf : FitG g) : GrS w A g := grs_of h.vw hf
theorem it_grp {w : World} {A : Ga} {g : Gr} {lo hi : Nat} (h : It w (gr3 g) (grVals A g) lo hi) (hf : FitG g) (h6 : Gr64 g) (hs : szGr g ≤ 1048576) : GrP w A g := ⟨h.imp (fun _ h => h.1),hf,h6,hs⟩
theorem AnsGr.it {w w' : World} {e : Ending} {g : Gr} (h : AnsGr w w' e g) : ∃ A,e = .returned (grV A g) ∧ It w' (gr3 g) (grVals A g) w.heap.size w'.heap.size ∧ Below w.heap.size w w' := by
 obtain ⟨A,h1,h2⟩ := h
 exact ⟨A,h1,It.of_new h2,h2.choose_spec.2.2⟩
end Go.Proofs.Ytlnmdfgcpfbleaa
namespace Go.Proofs.Ytlnmdfgcpfbleaa
set_option linter.unusedVariables false
set_option linter.unusedSimpArgs false
open Go.RowKit Go.Sort
end Go.Proofs.Ytlnmdfgcpfbleaa
namespace Go.Proofs.Ytlnmdfgcpfbleaa
set_option linter.unusedVariables false
set_option linter.unusedSimpArgs false
open Go.RowKit Go.Sort
end Go.Proofs.Ytlnmdfgcpfbleaa
namespace Go.Proofs.Ytlnmdfgcpfbleaa
set_option linter.unusedVariables false
set_option linter.unusedSimpArgs false
open Go.RowKit Go.Sort
end Go.Proofs.Ytlnmdfgcpfbleaa
namespace Go.Proofs.Ytlnmdfgcpfbleaa
set_option linter.unusedVariables false
set_option linter.unusedSimpArgs false
open Go.RowKit Go.Sort
end Go.Proofs.Ytlnmdfgcpfbleaa
namespace Go.Proofs.Ytlnmdfgcpfbleaa
set_option linter.unusedVariables false
set_option linter.unusedSimpArgs false
open Go.RowKit Go.Sort
def voN (g : Gr) (i : Nat) : List (List UInt8) := (voiL (memN g i)).1
def voK (g : Gr) (k : Nat) : List (List (List UInt8)) := (List.range k).map (voN g)
theorem voK_len (g : Gr) (k : Nat) : (voK g k).length = k := by simp [voK]
theorem voK_more (g : Gr) (k : Nat) : voK g (k + 1) = voK g k ++ [voN g k] := by simp [voK,List.range_succ]
theorem voK_at {g : Gr} {k i : Nat} (h : i < k) : (voK g k)[i]? = some (voN g i) := by simp [voK,h]
theorem voN_len {g : Gr} {i : Nat} (h : (voiL (memN g i)).2 = true) : (voN g i).length = (memN g i).sung.length := by
 unfold voN
 unfold voiL at h ⊢
 split
 ·simp
 ·rename_i hn;rw [if_neg hn] at h;cases h
def q4 (g : Gr) (i k j h : Nat) : Bool := !(decide (el (memN g i).sung k = el (memN g j).sung h) && !decide ((voN g i).getD k [] = (voN g j).getD h []))
def Snd (g : Gr) : Prop := ∀ i,i < g.mem.length → ∀ k,k < (voN g i).length → ∀ j,j < i → ∀ h,h < (voN g j).length → q4 g i k j h = true
def sndQ (g : Gr) : Bool := (List.range g.mem.length).all fun i => (List.range (voN g i).length).all fun k => (List.range i).all fun j => (List.range (voN g j).length).all fun h => q4 g i k j h
theorem sndQ_iff {g : Gr} : sndQ g = true ↔ Snd g := by simp [sndQ,Snd,List.all_eq_true,List.mem_range]
theorem sndQ_no {g : Gr} {i k j h : Nat} (hi : i < g.mem.length) (hk : k < (voN g i).length) (hj : j < i) (hh : h < (voN g j).length) (hq : q4 g i k j h = false) : sndQ g = false := by
 cases e : sndQ g with
 | false => rfl
 | true => rw [sndQ_iff.1 e i hi k hk j hj h hh] at hq;cases hq
def voAll (g : Gr) : Bool := (List.range g.mem.length).all fun i => (voiL (memN g i)).2
def sndB (g : Gr) : Bool := okGr g && (voAll g && sndQ g)
theorem voAll_yes {g : Gr} (h : ∀ i,i < g.mem.length → (voiL (memN g i)).2 = true) : voAll g = true := by simpa [voAll,List.all_eq_true,List.mem_range] using h
theorem voAll_no {g : Gr} {i : Nat} (hi : i < g.mem.length) (h : (voiL (memN g i)).2 = false) : voAll g = false := by
 unfold voAll
 rw [List.all_eq_false]
 exact ⟨i,List.mem_range.2 hi,by rw [h];simp⟩
def vo1 (T : List (List UInt8)) : List Cel := [scl T]
theorem vo1_len (T : List (List UInt8)) : (vo1 T).length = 1 := rfl
theorem vo1_one (T : List (List UInt8)) : ∀ c ∈ vo1 T,c.one := by
 intro c hc
 rw [List.mem_singleton.1 hc]
 exact trivial
theorem Try.infoTs : (Try.prog.info? 33).map (fun i => (i.zero,i.size,i.bytes)) = some (some (.slice none 0 0),1,24) := by kernel_rfl
theorem vo_push {X X1 : World} {a : Option Addr} {c : Nat} {L : List (List (List UInt8))} {fz : Fp} (hO : Cel.ow X (lcl 1 vo1 L) (.slice a L.length c) fz) (hb : Below X.heap.size X X1) {T : List (List UInt8)} {v : Value} {fd : Fp} (hT : Cel.ow X1 (scl T) v fd) (hfd : ∀ b,fd b → X.heap.size ≤ b) (hl : L.length ≤ 1000000) :
  ∀ Y,Same Y (X1.alloc (.cells #[v] 33)) → ∃ v' w4,(Builtin.append_ #[112,112] 112 #[.slice a L.length c,.slice (some ⟨X1.heap.size,0,none⟩) 1 1]).run Try.prog Y = .ok v' w4 ∧
   ∃ a' c' f',v' = .slice a' (L.length + 1) c' ∧ Cel.ow w4 (lcl 1 vo1 (L ++ [T])) (.slice a' (L.length + 1) c') f' ∧ (∀ b,f' b → fz b ∨ X.heap.size ≤ b) ∧ Wrt fz X w4 := by
 intro Y hY
 have hbY : Below X1.heap.size X1 Y := (oneA16 X1 _).trans (hY.below.mono (oneA16 X1 _).size)
 have hXY : Below X.heap.size X Y := hb.trans (hbY.mono hb.size)
 have hXs := hb.size
 have hrY : owL Y (vo1 T) [v] fd := owL_congr (owL_c (Cel.ow_below hT hbY) (⟨rfl,fun _ h => h⟩ : owL Y [] [] (fun _ => False)) (fun _ _ h => h)) (fun b => by simp)
 obtain ⟨a',c',w4,fp',k1,k2,k3,k4⟩ := ow_pushF (P := Try.prog) vo1_len (w := Y) 112 112 33 _ 24 Try.underlying112 Try.infoTs rfl (by omega) (x := T) (Cel.ow_below hO hXY) hrY (fun b h1 h2 => by have := Cel.ow_lt hO b h1;have := hfd b h2;omega) (owL_ones hrY (vo1_one T)) X1.heap.size 33 (by rw [hY.heap];exact heap_alloc_new X1 _) (by unfold maxLen;omega) (by omega)
 refine ⟨_,w4,k1,a',c',fp',rfl,k2,fun b hb1 => ?_,(Wrt.of_below (f := fz) hXY).trans k3 (fun _ _ h => h)⟩
 rcases k4 b hb1 with k | k | k
 ·exact .inl k
 ·exact .inr (hfd b k)
 ·right;have := hXY.size;omega
end Go.Proofs.Ytlnmdfgcpfbleaa
namespace Go.Proofs.Ytlnmdfgcpfbleaa
set_option linter.unusedVariables false
set_option linter.unusedSimpArgs false
open Go.RowKit Go.Sort
attribute [local irreducible] sv
set_option maxRecDepth 100000 in
set_option maxHeartbeats 6400000 in
theorem sunS_any (A : Ga) (g : Gr) (w : World) (hv : GrS w A g) :
  Calls Try.prog 48 #[grV A g] w fun e w' => e = .returned (.bool (sndB g)) ∧ Below w.heap.size w w' := by
 have hB0 := oneA16 w (.cells (grC A g) 61)
 have hx := Bx.new w 61 (grC A g)
 have h0 := hv.below hB0
 have lm := hv.lm
 unfold maxLen at lm
 have hG := grkS_any A g (w.alloc (.cells (grC A g) 61)) h0
 unfold grV at *
 unfold grC at *
 generalize hW : w.alloc (.cells #[.slice A.ma g.mem.length A.mc,.slice A.ua g.up.length A.uc,.slice A.la g.mail.length A.lc] 61) = W at *
 have HX : Hid (Bx W w.heap.size 61 #[.slice A.ma g.mem.length A.mc,.slice A.ua g.up.length A.uc,.slice A.la g.mail.length A.lc]) := hx
 have HV : Hid (GrS W A g) := h0
 have HB0 : Hid (∀ X,Below W.heap.size W X → Below w.heap.size w X) := fun X h => hB0.trans (h.mono hB0.size)
 obtain ⟨c0,c1,c2⟩ := Bx.g3 hx
 clear hv hx h0 hB0
 go_enter Try.func48,Try.ntmps48
 go_wp2_with fail
 refine hG.mono ?_
 rintro e w1 ⟨rfl,hb1⟩
 have HB1 : Hid (Below W.heap.size W w1) := hb1
 clear c0 c1 c2
 obtain ⟨c0,c1,c2⟩ := Bx.g3 (HX.out.below hb1)
 clear hb1 hG hW
 cases hok : okGr g with
 | false =>
  have HZ : Hid (sndB g = false) := by rw [Hid,sndB,hok];rfl
  clear hok
  go_wp2
  go_ret
  exact ⟨ret_bool HZ.out.symm,HB0.out _ HB1.out⟩
 | true =>
  have HZ : Hid (sndB g = (voAll g && sndQ g)) := by rw [Hid,sndB,hok];rfl
  obtain ⟨n,ok⟩ := okGr_iff.1 hok
  have HOK : Hid (OkG g n) := ok
  have HN : Hid (g.mem.length = n) := ok.ml
  have h5 : g.mem.length ≤ 5 := by rw [ok.ml];exact ok.n5.2
  have hb2 := oneA16 w1 (.cells #[] 33)
  have HB2 : Hid (Below W.heap.size W (w1.alloc (.cells #[] 33))) := HB1.out.trans (hb2.mono HB1.out.size)
  have HO0 : Hid (Cel.ow (w1.alloc (.cells #[] 33)) (lcl 1 vo1 []) (.slice (some ⟨w1.heap.size,0,none⟩) 0 0) (fun _ => False)) := ⟨some ⟨w1.heap.size,0,none⟩,0,[],none,fun _ => False,rfl,OSo.nil _ _ (plainS _ _),⟨rfl,fun _ h => h⟩,fun _ _ h => h,fun b => by simp⟩
  have hw1 := HB1.out.size
  clear hok ok hb2
  go_wp2
  generalize w1.alloc (.cells #[] 33) = W2 at *
  clear c0 c1 c2
  go_loopw [3,4] (fun v i wr => ∃ (k : Nat) (a : Option Addr) (c : Nat) (L : List (List (List UInt8))) (fz : Fp),k ≤ g.mem.length ∧ i = .int .i64 (k : Int) ∧ v = .slice a L.length c ∧ Hid (L = voK g k) ∧ (∀ j,j < k → (voiL (memN g j)).2 = true) ∧ Cel.ow wr (lcl 1 vo1 L) (.slice a L.length c) fz ∧ (∀ b,fz b → W.heap.size ≤ b) ∧ Below W.heap.size W wr) (fun _ i _ => g.mem.length - (intOf i).toNat)
  case atStart => exact ⟨0,some ⟨w1.heap.size,0,none⟩,0,[],_,Nat.zero_le _,rfl,rfl,rfl,fun j hj => by omega,HO0.out,fun b h => h.elim,HB2.out⟩
  case round =>
   obtain ⟨k,a,c,L,fz,hk,rfl,rfl,hL,hall,hO,hfz,hgr⟩ := hrel
   have HG : Hid (Below W.heap.size W wr) := hgr
   have HO : Hid (Cel.ow wr (lcl 1 vo1 L) (.slice a L.length c) fz) := hO
   have HA : Hid (∀ j,j < k → (voiL (memN g j)).2 = true) := hall
   have hll : L.length ≤ 1000000 := by rw [hL.out,voK_len];omega
   have hgs := hgr.size
   obtain ⟨c0,c1,c2⟩ := Bx.g3 (HX.out.below hgr)
   clear hO hall
   by_cases hlt : k < g.mem.length
   ·have k1 : (k : Int) < (g.mem.length : Int) := by omega
    have k0 : (0 : Int) ≤ (k : Int) := by omega
    have okm := HOK.out.mem k (by rw [← HN.out];exact hlt)
    obtain ⟨b,off,Ak,hma,⟨d0,d1,d2,d3,d4⟩,hms⟩ := (HV.out.below hgr).member (k := k) hlt
    rw [hma] at c0
    have hC := voiSp_any Ak (memN g k) k n wr hms okm
    unfold mbV mbC AnsVf at hC
    have HNx : Hid (voK g (k + 1) = L ++ [voN g k]) := by rw [Hid,voK_more,hL.out]
    have HVN : Hid ((voiL (memN g k)).1 = voN g k) := rfl
    rw [HVN.out] at hC
    clear hma hms okm hgr hL
    cases hf : (voiL (memN g k)).2 with
    | false =>
     have HE : Hid (voAll g = false) := voAll_no hlt hf
     rw [hf] at hC
     clear hf
     go_wp2_with (go_at_call 105;refine hC.mono ?_;rintro e w3 ⟨a3,c3,rfl,f3,o3,l3,b3⟩)
     go_ret
     exact ⟨ret_bool (by rw [HZ.out,HE.out];rfl),HB0.out _ (HG.out.trans (b3.mono HG.out.size))⟩
    | true =>
     have HA2 : Hid (∀ j,j < k + 1 → (voiL (memN g j)).2 = true) := fun j hj => by
      rcases Nat.lt_succ_iff_lt_or_eq.1 hj with h | h
      ·exact HA.out j h
      ·rw [h];exact hf
     rw [hf] at hC
     clear hf
     generalize voN g k = T at *
     go_upto_region 10 with (go_at_call 105;refine hC.mono ?_;rintro e w3 ⟨a3,c3,rfl,f3,o3,l3,b3⟩)
     have hP := vo_push HO.out b3 o3 l3 hll
     have HW3 := b3.size
     clear o3 hC c0 c1 c2 d0 d1 d2 d3 d4
     go_wp2_with (at_builtin;refine wpList_append_of (by rfl) _ _ _ _ (by rfl) _ _ (by rfl) (by rfl) hP ⟨rfl,rfl,rfl,rfl⟩ ?_;rintro v4 w4 ⟨a4,c4,f4,rfl,q1,q2,q3⟩;have HQ1 : Hid (Cel.ow w4 (lcl 1 vo1 (L ++ [T])) (.slice a4 (L.length + 1) c4) f4) := q1;have HQ2 : Hid (∀ b,f4 b → fz b ∨ wr.heap.size ≤ b) := q2;have HQ3 : Hid (Wrt fz wr w4) := q3;clear q1 q2 q3 hP)
     have HLn : Hid ((L ++ [T]).length = L.length + 1) := by rw [Hid,List.length_append];rfl
     go_roundw
     case rel => exact ⟨k + 1,a4,c4,L ++ [T],f4,by omega,by go_num,by rw [HLn.out],HNx.out.symm,HA2.out,by rw [HLn.out];exact HQ1.out,fun b hb => (HQ2.out b hb).elim (hfz b) (fun h => by omega),HQ3.out.below HG.out (by omega) (fun b hb => hfz b hb)⟩
     case measure => simp [intOf];omega
   ·have k1 : ¬ ((k : Int) < (g.mem.length : Int)) := by omega
    have ek : k = g.mem.length := by omega
    have HE : Hid (sndB g = sndQ g) := by rw [Hid,HZ.out,voAll_yes (fun i hi => HA.out i (by omega))];rfl
    have HLen : Hid (∀ i,i < g.mem.length → (voN g i).length = (memN g i).sung.length) := fun i hi => voN_len (HA.out i (by omega))
    have HS : Hid (∀ i,i < g.mem.length → (memN g i).sung.length ≤ 60) := fun i hi => (HOK.out.mem i (by rw [← HN.out];exact hi)).sl
    have hLL : L.length = g.mem.length := by rw [hL.out,voK_len,ek]
    have HVw : Hid (∀ X,Below wr.heap.size wr X → ∀ i,i < g.mem.length → ∃ b off av cv,a = some ⟨b,off,none⟩ ∧ X.cell? ⟨b,off + i,none⟩ = some (.slice av (voN g i).length cv) ∧ TxS X av (voN g i)) := fun X hX i hi => by
     have hvw := Cel.vw_below (Cel.ow_vw HO.out) hX
     obtain ⟨b,off,e1,h2⟩ := vw_elF vo1_len hvw (k := i) (x := voN g i) (by rw [hL.out];exact voK_at (by omega))
     obtain ⟨u,h3,h4⟩ := h2.at (j := 0) rfl
     obtain ⟨av,cv,rfl,h5,_⟩ := vw_scl h4
     exact ⟨b,off,av,cv,e1,by simpa using h3,h5⟩
    rw [hLL] at *
    clear ek hk k1 HO hfz
    generalize wr = V at *
    go_wp2
    clear c0 c1 c2
    go_loopw [7] (fun v wr => ∃ i : Nat,i ≤ g.mem.length ∧ v = .int .i64 (i : Int) ∧ (∀ i',i' < i → ∀ k,k < (voN g i').length → ∀ j,j < i' → ∀ h,h < (voN g j).length → q4 g i' k j h = true) ∧ Below V.heap.size V wr) (fun v _ => g.mem.length - (intOf v).toNat)
    case atStart => exact ⟨0,Nat.zero_le _,rfl,fun i' hi => by omega,Below.refl _ _⟩
    case round =>
     obtain ⟨i,hi,rfl,hq1,hv1⟩ := hrel
     have HQ1 : Hid (∀ i',i' < i → ∀ k,k < (voN g i').length → ∀ j,j < i' → ∀ h,h < (voN g j).length → q4 g i' k j h = true) := hq1
     have HV1 : Hid (Below V.heap.size V wr) := hv1
     clear hq1 hv1
     by_cases hil : i < g.mem.length
     rotate_left
     ·have i1 : ¬ ((i : Int) < (g.mem.length : Int)) := by omega
      have HF : Hid (sndQ g = true) := sndQ_iff.2 (fun i' hi' => HQ1.out i' (by omega))
      go_wp2
      go_ret
      exact ⟨ret_bool (by rw [HE.out,HF.out]),HB0.out _ (HG.out.trans (HV1.out.mono HG.out.size))⟩
     have i1 : (i : Int) < (g.mem.length : Int) := by omega
     have i0 : (0 : Int) ≤ (i : Int) := by omega
     have hsi := HS.out i hil
     have hli := HLen.out i hil
     generalize wr = V1 at *
     go_wp2
     go_loopw [8] (fun v wr => ∃ k : Nat,k ≤ (voN g i).length ∧ v = .int .i64 (k : Int) ∧ (∀ k',k' < k → ∀ j,j < i → ∀ h,h < (voN g j).length → q4 g i k' j h = true) ∧ Below V.heap.size V wr) (fun v _ => (voN g i).length - (intOf v).toNat)
     case atStart => exact ⟨0,Nat.zero_le _,rfl,fun k' hk => by omega,HV1.out⟩
     case round =>
      obtain ⟨k2,hk2,rfl,hq2,hv2⟩ := hrel
      have HQ2 : Hid (∀ k',k' < k2 → ∀ j,j < i → ∀ h,h < (voN g j).length → q4 g i k' j h = true) := hq2
      have HV2 : Hid (Below V.heap.size V wr) := hv2
      obtain ⟨vb,vo,vi,vc,eav,cvi,txi⟩ := HVw.out _ hv2 i hil
      clear hq2 hv2 txi
      subst eav
      by_cases hkl : k2 < (voN g i).length
      rotate_left
      ·have k1 : ¬ ((k2 : Int) < ((voN g i).length : Int)) := by omega
       have HF : Hid (∀ i',i' < i + 1 → ∀ k,k < (voN g i').length → ∀ j,j < i' → ∀ h,h < (voN g j).length → q4 g i' k j h = true) := fun i' hi' k hk => by
        rcases Nat.lt_succ_iff_lt_or_eq.1 hi' with h | h
        ·exact HQ1.out i' h k hk
        ·rw [h] at hk ⊢;exact HQ2.out k (by omega)
       go_wp2
       go_roundw
       case rel => exact ⟨i + 1,by omega,by go_num,HF.out,HV2.out⟩
       case measure => simp [intOf];omega
      have k1 : (k2 : Int) < ((voN g i).length : Int) := by omega
      have k0 : (0 : Int) ≤ (k2 : Int) := by omega
      generalize wr = V2 at *
      go_wp2
      clear cvi
      go_loopw [9] (fun v wr => ∃ j : Nat,j ≤ i ∧ v = .int .i64 (j : Int) ∧ (∀ j',j' < j → ∀ h,h < (voN g j').length → q4 g i k2 j' h = true) ∧ Below V.heap.size V wr) (fun v _ => i - (intOf v).toNat)
      case atStart => exact ⟨0,Nat.zero_le _,rfl,fun k' hk => by omega,HV2.out⟩
      case round =>
       obtain ⟨j,hj,rfl,hq3,hv3⟩ := hrel
       have HQ3 : Hid (∀ j',j' < j → ∀ h,h < (voN g j').length → q4 g i k2 j' h = true) := hq3
       have HV3 : Hid (Below V.heap.size V wr) := hv3
       clear hq3 hv3
       by_cases hjl : j < i
       rotate_left
       ·have j1 : ¬ ((j : Int) < (i : Int)) := by omega
        have HF : Hid (∀ k',k' < k2 + 1 → ∀ j,j < i → ∀ h,h < (voN g j).length → q4 g i k' j h = true) := fun k' hk' j' hj' => by
         rcases Nat.lt_succ_iff_lt_or_eq.1 hk' with h | h
         ·exact HQ2.out k' h j' hj'
         ·rw [h];exact HQ3.out j' (by omega)
        go_wp2
        go_roundw
        case rel => exact ⟨k2 + 1,by omega,by go_num,HF.out,HV3.out⟩
        case measure => simp [intOf];omega
       have j1 : (j : Int) < (i : Int) := by omega
       have j0 : (0 : Int) ≤ (j : Int) := by omega
       have j2 : (j : Int) < (g.mem.length : Int) := by omega
       have hjg : j < g.mem.length := by omega
       have hsj := HS.out j hjg
       have hlj := HLen.out j hjg
       generalize wr = V3 at *
       go_wp2
       go_loopw [10] (fun v wr => ∃ h : Nat,h ≤ (voN g j).length ∧ v = .int .i64 (h : Int) ∧ (∀ h',h' < h → q4 g i k2 j h' = true) ∧ Below V.heap.size V wr) (fun v _ => (voN g j).length - (intOf v).toNat)
       case atStart => exact ⟨0,Nat.zero_le _,rfl,fun k' hk => by omega,HV3.out⟩
       case round =>
        obtain ⟨h,hh,rfl,hq4,hv4⟩ := hrel
        have HQ4 : Hid (∀ h',h' < h → q4 g i k2 j h' = true) := hq4
        have HV4 : Hid (Below V.heap.size V wr) := hv4
        have HG4 : Hid (Below W.heap.size W wr) := HG.out.trans (hv4.mono HG.out.size)
        obtain ⟨vb',vo',vj,vd,eav,cvj,txj⟩ := HVw.out _ hv4 j hjg
        simp only [Option.some.injEq,Addr.mk.injEq,and_true] at eav
        obtain ⟨rfl,rfl⟩ := eav
        by_cases hhl : h < (voN g j).length
        rotate_left
        ·have h1 : ¬ ((h : Int) < ((voN g j).length : Int)) := by omega
         have HF : Hid (∀ j',j' < j + 1 → ∀ h,h < (voN g j').length → q4 g i k2 j' h = true) := fun j' hj' h' hh' => by
          rcases Nat.lt_succ_iff_lt_or_eq.1 hj' with e | e
          ·exact HQ3.out j' e h' hh'
          ·rw [e] at hh' ⊢;exact HQ4.out h' (by omega)
         clear hq4 hv4 txj
         go_wp2
         go_roundw
         case rel => exact ⟨j + 1,by omega,by go_num,HF.out,HV4.out⟩
         case measure => simp [intOf];omega
        have h1 : (h : Int) < ((voN g j).length : Int) := by omega
        have h0 : (0 : Int) ≤ (h : Int) := by omega
        have ks : (k2 : Int) < ((memN g i).sung.length : Int) := by omega
        have hs : (h : Int) < ((memN g j).sung.length : Int) := by omega
        obtain ⟨vb2,vo2,vi,vc,eav,cvi,txi⟩ := HVw.out _ hv4 i hil
        simp only [Option.some.injEq,Addr.mk.injEq,and_true] at eav
        obtain ⟨rfl,rfl⟩ := eav
        have hti : ∃ tb tf,vi = some ⟨tb,tf,none⟩ ∧ wr.cell? ⟨tb,tf + k2,none⟩ = some (.string (sv ((voN g i).getD k2 []))) := by
         rcases txi with e | ⟨tb,tf,e1,e2⟩
         ·omega
         ·exact ⟨tb,tf,e1,e2 k2 hkl⟩
        have htj : ∃ tb tf,vj = some ⟨tb,tf,none⟩ ∧ wr.cell? ⟨tb,tf + h,none⟩ = some (.string (sv ((voN g j).getD h []))) := by
         rcases txj with e | ⟨tb,tf,e1,e2⟩
         ·omega
         ·exact ⟨tb,tf,e1,e2 h hhl⟩
        obtain ⟨tb,tf,rfl,ct⟩ := hti
        obtain ⟨ub,uo,rfl,cu⟩ := htj
        obtain ⟨mb,mo,Ai,hma,⟨_,_,_,d3,_⟩,hmi⟩ := (HV.out.below HG4.out).member (k := i) hil
        obtain ⟨mb',mo',Aj,hma',⟨_,_,_,e3,_⟩,hmj⟩ := (HV.out.below HG4.out).member (k := j) hjg
        have hbo : mb' = mb ∧ mo' = mo := by
         rw [hma] at hma'
         simp only [Option.some.injEq,Addr.mk.injEq] at hma'
         exact ⟨hma'.1.symm,hma'.2.1.symm⟩
        obtain ⟨rfl,rfl⟩ := hbo
        have hsi2 : ∃ sb so,Ai.sa = some ⟨sb,so,none⟩ ∧ wr.cell? ⟨sb,so + k2,none⟩ = some (.int .i64 (el (memN g i).sung k2)) := by
         rcases hmi.sung.2.2 with e | ⟨sb,so,e1,e2⟩
         ·omega
         ·exact ⟨sb,so,e1,e2 k2 (by omega)⟩
        have hsj2 : ∃ sb so,Aj.sa = some ⟨sb,so,none⟩ ∧ wr.cell? ⟨sb,so + h,none⟩ = some (.int .i64 (el (memN g j).sung h)) := by
         rcases hmj.sung.2.2 with e | ⟨sb,so,e1,e2⟩
         ·omega
         ·exact ⟨sb,so,e1,e2 h (by omega)⟩
        obtain ⟨sb,so,es,cs⟩ := hsi2
        obtain ⟨rb,ro,er,cr⟩ := hsj2
        rw [es] at d3
        rw [er] at e3
        have c0 := (Bx.g3 (HX.out.below HG4.out)).1
        rw [hma] at c0
        have LT : ∀ {x v},wr.cell? x = some v → ∀ q : Bk wr,q.w.cell? x = some v := fun h q => (q.h.cell (World.block_lt_of_cell? _ _ h)).trans h
        have p0 := LT c0
        have p1 := LT d3
        have p2 := LT e3
        have p3 := LT cs
        have p4 := LT cr
        have p5 := LT cvi
        have p6 := LT cvj
        have p7 := LT ct
        have p8 := LT cu
        have HT : Hid (q4 g i k2 j h = !(decide (el (memN g i).sung k2 = el (memN g j).sung h) && !decide ((voN g i).getD k2 [] = (voN g j).getD h []))) := rfl
        have HNo : Hid (q4 g i k2 j h = false → sndQ g = false) := fun e => sndQ_no hil hkl hjl hhl e
        have HYs : Hid (q4 g i k2 j h = true → ∀ h',h' < h + 1 → q4 g i k2 j h' = true) := fun e h' hh' => by
         rcases Nat.lt_succ_iff_lt_or_eq.1 hh' with e2 | e2
         ·exact HQ4.out h' e2
         ·rw [e2];exact e
        clear LT d3 e3 cs cr cvi ct cu hmi hmj hma hma' es er txi txj hq4 hv4 c0
        generalize el (memN g i).sung k2 = x1 at *
        generalize el (memN g j).sung h = x2 at *
        generalize (voN g i).getD k2 [] = t1 at *
        generalize (voN g j).getD h [] = t2 at *
        by_cases hx : x1 = x2
        ·have g1 : (x1 == x2) = true := by simp [hx]
         by_cases ht : t1 = t2
         ·have g2 : ((sv t1).toList == (sv t2).toList) = true := by rw [ht];simp
          have HF := HYs.out (by rw [HT.out];simp [hx,ht])
          have HFh : Hid (∀ h',h' < h + 1 → q4 g i k2 j h' = true) := HF
          clear HF hx ht HT HNo HYs
          go_wp2_with fail
          clear cvj
          refine wp_region_bk (by kernel_rfl) (by kernel_rfl) ?_
          repeat (go_big_quiet_step ((first | rfl)))
          refine wpQuiet_nil ?_
          intro wE hw'
          obtain ⟨⟨w11,hb11⟩,hw''⟩ := hw'
          have hwe : wE = w11 := hw''
          clear hw''
          subst hwe
          go_wp2
          go_roundw
          case rel => exact ⟨h + 1,by omega,by go_num,HFh.out,HV4.out.trans (hb11.mono HV4.out.size)⟩
          case measure => simp [intOf];omega
         ·have g2 : ((sv t1).toList == (sv t2).toList) = false := by rw [sv_list,sv_list];simpa using ht
          have HF : Hid (sndQ g = false) := HNo.out (by rw [HT.out];simp [hx,ht])
          clear hx ht HT HNo HYs
          go_wp2_with fail
          clear cvj
          refine wp_region_bk (by kernel_rfl) (by kernel_rfl) ?_
          repeat (go_big_quiet_step ((first | rfl)))
          refine wpQuiet_nil ?_
          intro wE hw'
          obtain ⟨⟨w11,hb11⟩,hw''⟩ := hw'
          have hwe : wE = w11 := hw''
          clear hw''
          subst hwe
          go_wp2
          go_ret
          exact ⟨ret_bool (by rw [HE.out,HF.out]),HB0.out _ (HG4.out.trans (hb11.mono HG4.out.size))⟩
        ·have g1 : (x1 == x2) = false := by simp [hx]
         have HFh : Hid (∀ h',h' < h + 1 → q4 g i k2 j h' = true) := HYs.out (by rw [HT.out];simp [hx])
         clear hx HT HNo HYs
         go_wp2_with fail
         clear cvj
         refine wp_region_bk (by kernel_rfl) (by kernel_rfl) ?_
         repeat (go_big_quiet_step ((first | rfl)))
         refine wpQuiet_nil ?_
         intro wE hw'
         obtain ⟨⟨w11,hb11⟩,hw''⟩ := hw'
         have hwe : wE = w11 := hw''
         clear hw''
         subst hwe
         go_wp2
         go_roundw
         case rel => exact ⟨h + 1,by omega,by go_num,HFh.out,HV4.out.trans (hb11.mono HV4.out.size)⟩
         case measure => simp [intOf];omega
end Go.Proofs.Ytlnmdfgcpfbleaa
namespace Go.Proofs.Ytlnmdfgcpfbleaa
set_option linter.unusedVariables false
set_option linter.unusedSimpArgs false
open Go.RowKit Go.Sort
def ImplSound : Prop := ∀ (A : Ga) (g : Gr) (w : World),GrP w A g → Calls Try.prog 49 #[grV A g] w fun e w' => e = .returned (.bool (sndB g)) ∧ Below w.heap.size w w'
end Go.Proofs.Ytlnmdfgcpfbleaa
namespace Go.Proofs.Ytlnmdfgcpfbleaa
set_option linter.unusedVariables false
set_option linter.unusedSimpArgs false
open Go.RowKit Go.Sort
set_option maxRecDepth 100000 in
set_option maxHeartbeats 6400000 in
theorem lawSound (hI : ImplSound) (A0 : Ga) (g : Gr) (w : World) (hv0 : GrS w A0 g) (hg0 : LongG g) (h60 : Gr64 g) :
  Calls Try.prog 7 #[grV A0 g] w fun e w' => e = .returned (.bool true) ∧ Below w.heap.size w w' := by
 have hf0 : FitG g := hv0.fit
 have hZ0 : ∀ (X : World) (left : Int),Below w.heap.size w X → (0 ≤ left ∧ left ≤ 1048576) → Calls Try.prog 43 #[grV A0 g,.int .i64 left] X fun e w' => ∃ q : Int,e = .returned (.int .i64 q) ∧ (q = -1 ∨ 0 ≤ q ∧ q + (szGr g : Int) = left) ∧ Below X.heap.size X w' := fun X left hX hl => szGr_any A0 g left X (hv0.below hX) hg0 hl
 have hTo0 : szGr g ≤ 1048576 → ∀ X,Below w.heap.size w X → Calls Try.prog 45 #[grV A0 g] X fun e w' => ∃ A',e = .returned (grV A' g) ∧ It w' (gr3 g) (grVals A' g) X.heap.size w'.heap.size ∧ Below X.heap.size X w' := fun hs X hX => (toGr_any A0 g X (hv0.below hX) hs).mono (fun e w' h => h.it)
 have hE0 : szGr g ≤ 1048576 → ∀ (X : World) (A1 A2 : Ga) {l1 h1 l2 h2 : Nat},It X (gr3 g) (grVals A1 g) l1 h1 → It X (gr3 g) (grVals A2 g) l2 h2 → Calls Try.prog 47 #[grV A1 g,grV A2 g] X fun e w' => e = .returned (.bool true) ∧ Below X.heap.size X w' := fun hs X A1 A2 l1 h1 l2 h2 i1 i2 => eqGr_any A1 A2 g X (it_grs i1 hf0) (it_grs i2 hf0)
 have hSp : szGr g ≤ 1048576 → ∀ (X : World) (B0 : Ga) {l0 u0 : Nat},It X (gr3 g) (grVals B0 g) l0 u0 → Calls Try.prog 48 #[grV B0 g] X fun e w' => e = .returned (.bool (sndB g)) ∧ Below X.heap.size X w' := fun hs0 X B0 l0 u0 i0 => sunS_any B0 g X (it_grs i0 hf0)
 have hIm : szGr g ≤ 1048576 → ∀ (X : World) (B0 : Ga) {l0 u0 : Nat},It X (gr3 g) (grVals B0 g) l0 u0 → Calls Try.prog 49 #[grV B0 g] X fun e w' => e = .returned (.bool (sndB g)) ∧ Below X.heap.size X w' := fun hs0 X B0 l0 u0 i0 => hI B0 g X (it_grp i0 hf0 h60 hs0)
 generalize sndB g = Q at *
 have ne : (Q != Q) = false := by simp
 clear hI hv0
 unfold grV grC at *
 have hb00 : Below w.heap.size w w := Below.refl _ _
 have b2 := oneA16 w (.cells #[.slice A0.ma g.mem.length A0.mc,.slice A0.ua g.up.length A0.uc,.slice A0.la g.mail.length A0.lc] 55)
 have h3 := Bx.new w 55 #[.slice A0.ma g.mem.length A0.mc,.slice A0.ua g.up.length A0.uc,.slice A0.la g.mail.length A0.lc]
 generalize hX1 : w.alloc (.cells #[.slice A0.ma g.mem.length A0.mc,.slice A0.ua g.up.length A0.uc,.slice A0.la g.mail.length A0.lc] 55) = X1 at *
 have B5 : Below w.heap.size w X1 := hb00.trans (b2.mono hb00.size)
 have sB5 : w.heap.size ≤ X1.heap.size := b2.size
 clear hb00
 have k4 : w.heap.size < X1.heap.size := h3.lt
 clear b2
 go_enter Try.func7,Try.ntmps7
 obtain ⟨c60,c61,c62⟩ := Bx.g3 h3
 go_wp2_with fail
 refine (hZ0 X1 1048576 B5 ⟨by omega,by omega⟩).mono ?_
 rintro e z0 ⟨q0,rfl,hq0,hbz0⟩
 clear c60 c61 c62
 have B7 : Below w.heap.size w z0 := B5.trans (hbz0.mono B5.size)
 have sB7 : X1.heap.size ≤ z0.heap.size := hbz0.size
 have h8 := h3.below hbz0
 clear B5 h3
 rcases hq0 with rfl | ⟨hqa0,hqb0⟩
 ·go_wp2
  go_ret
  exact ⟨rfl,B7⟩
 have hqn0 : decide (q0 < 0) = false := by simp;omega
 have hs0 : szGr g ≤ 1048576 := by omega
 have hT0 := hTo0 hs0
 have hEE0 := hE0 hs0
 have hS2 := hSp hs0
 have hI2 := hIm hs0
 clear hSp hIm hTo0 hE0 hZ0
 obtain ⟨c90,c91,c92⟩ := Bx.g3 h8
 go_wp2_with fail
 refine (hT0 z0 B7).mono ?_
 rintro e s0 ⟨As0,rfl,is0,hbs0⟩
 clear c90 c91 c92
 have B10 : Below w.heap.size w s0 := B7.trans (hbs0.mono B7.size)
 have sB10 : z0.heap.size ≤ s0.heap.size := hbs0.size
 have h11 := h8.below hbs0
 clear B7 h8
 go_wp2_with fail
 refine (hS2 s0 _ is0).mono ?_
 rintro e ws ⟨rfl,hbws⟩
 have B12 : Below w.heap.size w ws := B10.trans (hbws.mono B10.size)
 have sB12 : s0.heap.size ≤ ws.heap.size := hbws.size
 have h13 := h11.below hbws
 have h14 := is0.below hbws
 clear B10 h11 is0
 clear h14
 obtain ⟨c150,c151,c152⟩ := Bx.g3 h13
 go_wp2_with fail
 refine (hT0 ws B12).mono ?_
 rintro e wx0 ⟨Ax0,rfl,ix0,hbx0⟩
 clear c150 c151 c152
 have B16 : Below w.heap.size w wx0 := B12.trans (hbx0.mono B12.size)
 have sB16 : ws.heap.size ≤ wx0.heap.size := hbx0.size
 have h17 := h13.below hbx0
 clear B12 h13
 have b19 := oneA16 wx0 (.cells #[.slice Ax0.ma g.mem.length Ax0.mc,.slice Ax0.ua g.up.length Ax0.uc,.slice Ax0.la g.mail.length Ax0.lc] 61)
 have h20 := Bx.new wx0 61 #[.slice Ax0.ma g.mem.length Ax0.mc,.slice Ax0.ua g.up.length Ax0.uc,.slice Ax0.la g.mail.length Ax0.lc]
 generalize hX18 : wx0.alloc (.cells #[.slice Ax0.ma g.mem.length Ax0.mc,.slice Ax0.ua g.up.length Ax0.uc,.slice Ax0.la g.mail.length Ax0.lc] 61) = X18 at *
 have B22 : Below w.heap.size w X18 := B16.trans (b19.mono B16.size)
 have sB22 : wx0.heap.size ≤ X18.heap.size := b19.size
 have h23 := h17.below b19
 have h24 := ix0.below b19
 clear B16 h17 ix0
 have k21 : wx0.heap.size < X18.heap.size := h20.lt
 clear b19
 obtain ⟨c250,c251,c252⟩ := Bx.g3 h20
 go_wp2_with fail
 refine (hI2 X18 _ h24).mono ?_
 rintro e wi ⟨rfl,hbi⟩
 have B26 : Below w.heap.size w wi := B22.trans (hbi.mono B22.size)
 have sB26 : X18.heap.size ≤ wi.heap.size := hbi.size
 have h27 := h23.below hbi
 have h28 := h24.below hbi
 have h29 := h20.below hbi
 clear B22 h23 h24 h20
 clear c250 c251 c252
 have KS : ∀ X,Below wi.heap.size wi X → (X.cell? ⟨w.heap.size,0,none⟩ = some (.slice A0.ma g.mem.length A0.mc) ∧ X.cell? ⟨w.heap.size,1,none⟩ = some (.slice A0.ua g.up.length A0.uc) ∧ X.cell? ⟨w.heap.size,2,none⟩ = some (.slice A0.la g.mail.length A0.lc)) ∧ (X.cell? ⟨wx0.heap.size,0,none⟩ = some (.slice Ax0.ma g.mem.length Ax0.mc) ∧ X.cell? ⟨wx0.heap.size,1,none⟩ = some (.slice Ax0.ua g.up.length Ax0.uc) ∧ X.cell? ⟨wx0.heap.size,2,none⟩ = some (.slice Ax0.la g.mail.length Ax0.lc)) := fun X hX => ⟨Bx.g3 (h27.below hX),Bx.g3 (h29.below hX)⟩
 have bd : Below wi.heap.size wi (wi.drewN 1) := belowN (Below.refl _ _)
 have hTo2 := fun X (h : Below wi.heap.size wi X) => hT0 X (B26.trans (h.mono B26.size))
 have hEq2 := fun X (A7 : Ga) (h : Below wi.heap.size wi X) (h7 : ∃ lo hi,It X (gr3 g) (grVals A7 g) lo hi) => hEE0 X Ax0 A7 (h28.below h) h7.choose_spec.choose_spec
 go_wp2_with fail
 go_region_held3 (fun X => (X.cell? ⟨w.heap.size,0,none⟩ = some (.slice A0.ma g.mem.length A0.mc) ∧ X.cell? ⟨w.heap.size,1,none⟩ = some (.slice A0.ua g.up.length A0.uc) ∧ X.cell? ⟨w.heap.size,2,none⟩ = some (.slice A0.la g.mail.length A0.lc)) ∧ (X.cell? ⟨wx0.heap.size,0,none⟩ = some (.slice Ax0.ma g.mem.length Ax0.mc) ∧ X.cell? ⟨wx0.heap.size,1,none⟩ = some (.slice Ax0.ua g.up.length Ax0.uc) ∧ X.cell? ⟨wx0.heap.size,2,none⟩ = some (.slice Ax0.la g.mail.length Ax0.lc)))
  (first | exact KS _ b8 | exact KS _ b7b | exact KS _ bd)
  (first
   | (go_at_call 45;refine (hTo2 _ bd).mono ?_;rintro e t0 ⟨A7,rfl,i7,hb7⟩;have b7b : Below wi.heap.size wi t0 := bd.trans (hb7.mono bd.size))
   | (go_at_call 47;refine (hEq2 t0 A7 b7b ⟨_,_,i7⟩).mono ?_;rintro e u0 ⟨rfl,hb8⟩;have b8 : Below wi.heap.size wi u0 := b7b.trans (hb8.mono b7b.size)))
 clear KS bd hTo2 hEq2 i7 hb7 b7b hb8
 have B30 : Below w.heap.size w u0 := B26.trans (b8.mono B26.size)
 have sB30 : wi.heap.size ≤ u0.heap.size := b8.size
 have h31 := h27.below b8
 have h32 := h28.below b8
 have h33 := h29.below b8
 clear B26 h27 h28 h29
 go_wp2
 go_ret
 exact ⟨rfl,B30⟩
end Go.Proofs.Ytlnmdfgcpfbleaa
namespace Go.Proofs.Ytlnmdfgcpfbleaa
set_option linter.unusedVariables false
set_option linter.unusedSimpArgs false
open Go.ChangeShapes Go.WideShapes Go.ChangeAt Go.RowKit Go.Deep
section
variable {H : Type} {enc : TypeId × Value → H} {P : Program} {W : World} {base : Nat} {held : Bool}
theorem field_of {t : TypeId} {fs : Array Field} {fuel : Nat} {cs : List Value} {x : DataW H × List MemPlace} (ht : P.underlying t = some (.struct fs)) (hone : oneCellFields P fs = true) (h : DataW.trod enc P W base (fun _ => true) held fuel t cs = some x) :
  cs.length = P.cellsOf t ∧ ∃ n,∀ (i : Nat) (f : Field) (c : Value),fs[i]? = some f → cs[i]? = some c → ∃ y,DataW.trod enc P W base (fun _ => true) held n f.type [c] = some y := by
 obtain ⟨xs,n,_,rfl,hl,hlen,hf⟩ := DataW.trod_struct ht h
 refine ⟨hl,n,fun i f c hi hc => ?_⟩
 obtain ⟨o,k⟩ := hone_of hone i f hi
 have h1 := hf i f hi
 have hix : i < xs.length := by
  rw [hlen]
  exact (Array.getElem?_eq_some_iff.1 hi).1
 have e : (cs.drop i).take 1 = [c] := by
  have hic := (List.getElem?_eq_some_iff.1 hc).1
  have hcc := (List.getElem?_eq_some_iff.1 hc).2
  rw [List.drop_eq_getElem_cons hic,hcc]
  rfl
 rw [o,k,e,List.getElem?_eq_getElem hix] at h1
 exact ⟨_,h1⟩
theorem str_short16 {s : ByteArray} (h : s.size ≤ maxLen) : s.data.toList.length ≤ 9223372036854775807 := by
 have e : s.data.toList.length = s.size := by rw [Array.length_toList];rfl
 rw [e]
 unfold maxLen at h
 exact h
end
theorem list8 {α : Type} {l : List α} (h : l.length = 8) : ∃ c0 c1 c2 c3 c4 c5 c6 c7,l = [c0,c1,c2,c3,c4,c5,c6,c7] := by
 match l,h with
 | [c0,c1,c2,c3,c4,c5,c6,c7],_ => exact ⟨c0,c1,c2,c3,c4,c5,c6,c7,rfl⟩
end Go.Proofs.Ytlnmdfgcpfbleaa
namespace Go.Proofs.Ytlnmdfgcpfbleaa
set_option linter.unusedVariables false
set_option linter.unusedSimpArgs false
open Go.ChangeShapes Go.WideShapes Go.ChangeAt Go.RowKit Go.Deep
theorem vw_of_txs {w : World} {a : Option Addr} {c : Nat} {T : List (List UInt8)} (h : TxS w a T) (h1 : T.length ≤ c) (h2 : c ≤ maxLen) : Cel.vw w (scl T) (.slice a T.length c) := by
 refine ⟨a,c,_,rfl,h1,h2,by rw [svs_len];omega, ?_,vwL_pl.2 rfl⟩
 rcases h with h0 | ⟨b,off,ha,hc⟩
 ·exact .inl h0
 ·refine .inr ⟨b,off,ha,fun i hi => ?_⟩
  rw [svs_get (by omega)]
  exact hc i (by omega)
theorem vw_lcl_of {α : Type} {F : α → List Cel} {s : Nat} {w : World} {b off : Nat} (R : Nat → α) (V : Nat → List Value) : ∀ n,(∀ i,i < n → (V i).length = s ∧ (∀ j,j < s → w.cell? ⟨b,off + i * s + j,none⟩ = (V i)[j]?) ∧ vwL w (F (R i)) (V i)) →
  ∃ us : List Value,us.length = n * s ∧ (∀ j,j < n * s → w.cell? ⟨b,off + j,none⟩ = us[j]?) ∧ vwL w (((List.range n).map R).flatMap F) us
 | 0,_ => ⟨[],by simp,fun j hj => by omega,rfl⟩
 | n + 1,h => by
  obtain ⟨us,h1,h2,h3⟩ := vw_lcl_of R V n (fun i hi => h i (by omega))
  obtain ⟨k1,k2,k3⟩ := h n (by omega)
  have hm : (n + 1) * s = n * s + s := by rw [Nat.add_mul,Nat.one_mul]
  refine ⟨us ++ V n,by rw [List.length_append,h1,k1,hm],fun j hj => ?_, ?_⟩
  ·rcases Nat.lt_or_ge j (n * s) with hj2 | hj2
   ·rw [List.getElem?_append_left (by omega)];exact h2 j hj2
   ·rw [List.getElem?_append_right (by omega),h1]
    have := k2 (j - n * s) (by omega)
    rw [show off + n * s + (j - n * s) = off + j by omega] at this
    exact this
  ·rw [List.range_succ,List.map_append,List.flatMap_append]
   refine vwL_append h3 ?_
   simpa using k3
section
variable {H : Type} {enc : TypeId × Value → H} {P : Program} {W : World} {base : Nat} {held : Bool}
theorem ints_ofC {t e : TypeId} {fuel : Nat} {c : Value} {y : DataW H × List MemPlace} (ht : P.underlying t = some (.slice e)) (he : P.underlying e = some (.int .i64)) (hc : P.cellsOf e = 1) (h : DataW.trod enc P W base (fun _ => true) held fuel t [c] = some y) :
  ∃ a cap M,c = .slice a (List.length M) cap ∧ Cel.vw W (icl M) (.slice a (List.length M) cap) ∧ Fits M ∧ List.length M ≤ maxLen := by
 obtain ⟨a,len,cap,z,rfl,hw⟩ : ∃ a len cap zs,c = .slice a len cap ∧ IsRow .i64 W a len cap zs := by
  rcases open_ints ht he hc h with ⟨hcs,_⟩ | ⟨x,l,c,zs,hcs,_,hl,hm,hz,_,hcell,hwz⟩
  ·simp at hcs
   exact ⟨none,0,0,[],hcs,.inl ⟨rfl,rfl,rfl,rfl⟩⟩
  ·simp at hcs
   exact ⟨some x,l,c,zs,hcs,.inr ⟨_,rfl,hl,hm,by simpa using hz,hcell,hwz⟩⟩
 rcases hw with ⟨rfl,rfl,rfl,rfl⟩ | ⟨ad,rfl,hl,hm,hz,hcell,hwz⟩
 ·exact ⟨none,0,[],rfl,vw_of_vec ⟨rfl,fun x hx => absurd hx List.not_mem_nil,.inl rfl⟩ (Nat.le_refl _) (Nat.zero_le _),fun x hx => absurd hx List.not_mem_nil,Nat.zero_le _⟩
 ·have hz' : z.length = cap := by simpa using hz
  have hlen : (z.take len).length = len := by rw [List.length_take];omega
  have hfit : Fits (z.take len) := fun n hn => bounds_i64 (hwz n (List.mem_of_mem_take hn))
  refine ⟨some ad,cap,z.take len,by rw [hlen],vw_of_vec ⟨rfl,hfit, ?_⟩ (by rw [hlen];exact hl) hm,hfit,by rw [hlen];exact Nat.le_trans hl hm⟩
  rcases Nat.eq_zero_or_pos len with e | e
  ·exact .inl (by omega)
  ·obtain ⟨b,off,spot⟩ := ad
   have hs : spot = none := by
    have := hcell 0 (by omega)
    simpa [Addr.add] using World.cell?_spot this
   subst hs
   refine .inr ⟨b,off,rfl,fun i hi => ?_⟩
   have h1 := hcell i (by omega)
   rw [add_lit0] at h1
   rw [h1]
   simp [el,List.getD,List.getElem?_take_of_lt (show i < len by omega)]
theorem txts_ofC {t e : TypeId} {fuel : Nat} {c : Value} {y : DataW H × List MemPlace} (ht : P.underlying t = some (.slice e)) (he : P.underlying e = some .string) (hc : P.cellsOf e = 1) (h : DataW.trod enc P W base (fun _ => true) held fuel t [c] = some y) :
  ∃ a cap T,c = .slice a (List.length T) cap ∧ Cel.vw W (scl T) (.slice a (List.length T) cap) ∧ LongT T ∧ List.length T ≤ maxLen := by
 rcases open_strs ht he hc h with ⟨hcs,_⟩ | ⟨ad,len,cap,m,S,hcs,_,hl,hm,hmm,_,hx⟩
 ·simp at hcs
  subst hcs
  exact ⟨none,0,[],rfl,vw_of_txs (.inl rfl) (Nat.le_refl _) (Nat.zero_le _),fun i hi => absurd hi (Nat.not_lt_zero _),Nat.zero_le _⟩
 ·simp at hcs
  subst hcs
  have hlm : len ≤ m := by rw [hmm];split <;> omega
  have hlen : ((List.range len).map fun r => (S r).data.toList).length = len := by simp
  have hget : ∀ i,i < len → ((List.range len).map fun r => (S r).data.toList).getD i [] = (S i).data.toList := fun i hi => by simp [List.getD,hi]
  refine ⟨some ad,cap,(List.range len).map fun r => (S r).data.toList,by rw [hlen],vw_of_txs ?_ (by rw [hlen];exact hl) hm,fun i hi => ?_,by rw [hlen];exact Nat.le_trans hl hm⟩
  ·by_cases h0 : len = 0
   ·exact .inl (by rw [hlen];exact h0)
   ·obtain ⟨b,off,spot⟩ := ad
    have hs : spot = none := by
     have := (hx 0 (by omega)).1
     simpa [Addr.add] using World.cell?_spot this
    subst hs
    refine .inr ⟨b,off,rfl,fun i hi => ?_⟩
    rw [hlen] at hi
    rw [hget i hi]
    have hc := (hx i (by omega)).1
    rw [add_lit0] at hc
    rw [hc,← sv_of]
  ·rw [hlen] at hi
   rw [hget i hi]
   exact str_short16 (hx i (by omega)).2
end
set_option maxRecDepth 100000 in
theorem row_ofC {H : Type} {enc : TypeId × Value → H} {W : World} {base fuel : Nat} {held : Bool} {cs : List Value} {x : DataW H × List MemPlace} (h : DataW.trod enc Try.prog W base (fun _ => true) held fuel 47 cs = some x) :
  ∃ r,cs.length = 8 ∧ vwL W (rw8 r) cs ∧ FitR r ∧ LongT r.txt ∧ Rw64 r := by
 obtain ⟨hl,n,hf⟩ := field_of Try.underlying47 (by kernel_rfl) h
 rw [show Try.prog.cellsOf 47 = 8 by kernel_rfl] at hl
 obtain ⟨c0,c1,c2,c3,c4,c5,c6,c7,rfl⟩ := list8 hl
 obtain ⟨y0,g0⟩ := hf 0 _ c0 rfl rfl
 obtain ⟨y1,g1⟩ := hf 1 _ c1 rfl rfl
 obtain ⟨y2,g2⟩ := hf 2 _ c2 rfl rfl
 obtain ⟨y3,g3⟩ := hf 3 _ c3 rfl rfl
 obtain ⟨y4,g4⟩ := hf 4 _ c4 rfl rfl
 obtain ⟨y5,g5⟩ := hf 5 _ c5 rfl rfl
 obtain ⟨y6,g6⟩ := hf 6 _ c6 rfl rfl
 obtain ⟨y7,g7⟩ := hf 7 _ c7 rfl rfl
 obtain ⟨i0,e0,_,b0⟩ := DataW.trod_int Try.underlying2 g0
 obtain ⟨a1,d1,T,rfl,t1,t2,t3⟩ := txts_ofC Try.underlying33 Try.underlying9 (by kernel_rfl) g1
 obtain ⟨a2,d2,M2,rfl,u2,v2,_⟩ := ints_ofC Try.underlying24 Try.underlying2 (by kernel_rfl) g2
 obtain ⟨a3,d3,M3,rfl,u3,v3,_⟩ := ints_ofC Try.underlying24 Try.underlying2 (by kernel_rfl) g3
 obtain ⟨z4,e4,_⟩ := DataW.trod_bool Try.underlying4 g4
 obtain ⟨z5,e5,_⟩ := DataW.trod_bool Try.underlying4 g5
 obtain ⟨i6,e6,_,b6⟩ := DataW.trod_int Try.underlying2 g6
 obtain ⟨a7,d7,M7,rfl,u7,v7,_⟩ := ints_ofC Try.underlying24 Try.underlying2 (by kernel_rfl) g7
 simp at e0 e4 e5 e6
 subst e0 e4 e5 e6
 exact ⟨⟨i0,T,M2,M3,z4,z5,i6,M7⟩,rfl,⟨_,_,rfl,rfl,_,_,rfl,t1,_,_,rfl,u2,_,_,rfl,u3,_,_,rfl,rfl,_,_,rfl,rfl,_,_,rfl,rfl,_,_,rfl,u7,rfl⟩,⟨v2,v3,v7⟩,t2,⟨bounds_i64 b0,bounds_i64 b6⟩⟩
set_option maxRecDepth 100000 in
theorem rows_of {H : Type} {enc : TypeId × Value → H} {W : World} {base fuel : Nat} {held : Bool} {c : Value} {y : DataW H × List MemPlace} (h : DataW.trod enc Try.prog W base (fun _ => true) held fuel 132 [c] = some y) :
  ∃ a cap R,c = .slice a (List.length R) cap ∧ Cel.vw W (lcl 8 rw8 R) (.slice a (List.length R) cap) ∧ (∀ r ∈ R,FitR r ∧ LongT r.txt ∧ Rw64 r) ∧ List.length R ≤ maxLen := by
 rcases open_slice Try.underlying132 h with ⟨h0,_⟩ | ⟨ad,len,cap,m,n,D,Pl,hcs,_,hl,hm,hmm,_,hx⟩
 ·simp at h0
  subst h0
  exact ⟨none,0,[],rfl,⟨none,0,[],rfl,Nat.le_refl _,Nat.zero_le _,rfl,.inl rfl,rfl⟩,fun r hr => absurd hr List.not_mem_nil,Nat.zero_le _⟩
 ·simp at hcs
  subst hcs
  have hlm : len ≤ m := by rw [hmm];split <;> omega
  have ce : Try.prog.cellsOf 47 = 8 := by kernel_rfl
  by_cases h0 : len = 0
  ·subst h0
   exact ⟨some ad,cap,[],rfl,⟨some ad,cap,[],rfl,hl,hm,rfl,.inl rfl,rfl⟩,fun r hr => absurd hr List.not_mem_nil,Nat.zero_le _⟩
  obtain ⟨b,off,spot⟩ := ad
  have each : ∀ i,i < len → ∃ q : List Value × Rw,(q.1.length = 8 ∧ (∀ j,j < 8 → W.cell? ((⟨b,off,spot⟩ : Addr).add (i * 8 + j)) = q.1[j]?) ∧ vwL W (rw8 q.2) q.1) ∧ FitR q.2 ∧ LongT q.2.txt ∧ Rw64 q.2 := by
   intro i hi
   obtain ⟨cs',h1,h2⟩ := hx i (by omega)
   rw [ce] at h1
   obtain ⟨_,hlen,hcell⟩ := World.cells?_some h1
   obtain ⟨r,e8,hv,hf,hg,h6⟩ := row_ofC h2
   refine ⟨(cs',r),⟨e8,fun j hj => ?_,hv⟩,hf,hg,h6⟩
   have := hcell j hj
   rw [add_add] at this
   exact this
  have hs : spot = none := by
   obtain ⟨q,⟨h1,h2,_⟩,_⟩ := each 0 (by omega)
   have := h2 0 (by omega)
   rw [List.getElem?_eq_getElem (by omega)] at this
   simpa [Addr.add] using World.cell?_spot this
  subst hs
  haveI : Inhabited (List Value × Rw) := ⟨([],zeroRw)⟩
  obtain ⟨q,hq⟩ := choose_lt each
  obtain ⟨us,u1,u2,u3⟩ := vw_lcl_of (F := rw8) (s := 8) (w := W) (b := b) (off := off) (fun i => (q i).2) (fun i => (q i).1) len (fun i hi => ⟨(hq i hi).1.1,fun j hj => by have := (hq i hi).1.2.1 j hj;rw [add_lit0,← Nat.add_assoc] at this;exact this,(hq i hi).1.2.2⟩)
  have hlen : ((List.range len).map (fun i => (q i).2)).length = len := by simp
  refine ⟨some ⟨b,off,none⟩,cap,(List.range len).map (fun i => (q i).2),by rw [hlen], ?_,fun r hr => ?_,by rw [hlen];exact Nat.le_trans hl hm⟩
  ·unfold lcl
   rw [hlen]
   exact ⟨_,cap,us,rfl,hl,hm,u1,.inr ⟨b,off,rfl,u2⟩,u3⟩
  ·obtain ⟨i,hi,rfl⟩ := List.mem_map.1 hr
   exact (hq i (List.mem_range.1 hi)).2
theorem list5 {α : Type} {l : List α} (h : l.length = 5) : ∃ c0 c1 c2 c3 c4,l = [c0,c1,c2,c3,c4] := by
 match l,h with
 | [c0,c1,c2,c3,c4],_ => exact ⟨c0,c1,c2,c3,c4,rfl⟩
end Go.Proofs.Ytlnmdfgcpfbleaa
namespace Go.Proofs.Ytlnmdfgcpfbleaa
set_option linter.unusedVariables false
set_option linter.unusedSimpArgs false
open Go.ChangeShapes Go.WideShapes Go.ChangeAt Go.RowKit Go.Deep
set_option maxRecDepth 100000 in
theorem list_of {α : Type} [Inhabited α] {F : α → List Cel} {s : Nat} (hs0 : 0 < s) {el sl : TypeId} (hu : Try.prog.underlying sl = some (.slice el)) (ce : Try.prog.cellsOf el = s) {Q : α → Prop} {H : Type} {enc : TypeId × Value → H} {W : World} {base fuel : Nat} {held : Bool}
  (one : ∀ {base fuel : Nat} {held : Bool} {cs : List Value} {x : DataW H × List MemPlace},DataW.trod enc Try.prog W base (fun _ => true) held fuel el cs = some x → ∃ r : α,cs.length = s ∧ vwL W (F r) cs ∧ Q r)
  {c : Value} {y : DataW H × List MemPlace} (h : DataW.trod enc Try.prog W base (fun _ => true) held fuel sl [c] = some y) :
  ∃ a cap R,c = .slice a (List.length R) cap ∧ Cel.vw W (lcl s F R) (.slice a (List.length R) cap) ∧ (∀ r ∈ R,Q r) ∧ List.length R ≤ maxLen := by
 rcases open_slice hu h with ⟨h0,_⟩ | ⟨ad,len,cap,m,n,D,Pl,hcs,_,hl,hm,hmm,_,hx⟩
 ·simp at h0
  subst h0
  exact ⟨none,0,[],rfl,⟨none,0,[],rfl,Nat.le_refl _,Nat.zero_le _,by simp,.inl rfl,rfl⟩,fun r hr => absurd hr List.not_mem_nil,Nat.zero_le _⟩
 ·simp at hcs
  subst hcs
  have hlm : len ≤ m := by rw [hmm];split <;> omega
  by_cases h0 : len = 0
  ·subst h0
   exact ⟨some ad,cap,[],rfl,⟨some ad,cap,[],rfl,hl,hm,by simp,.inl rfl,rfl⟩,fun r hr => absurd hr List.not_mem_nil,Nat.zero_le _⟩
  obtain ⟨b,off,spot⟩ := ad
  have each : ∀ i,i < len → ∃ q : List Value × α,(q.1.length = s ∧ (∀ j,j < s → W.cell? ((⟨b,off,spot⟩ : Addr).add (i * s + j)) = q.1[j]?) ∧ vwL W (F q.2) q.1) ∧ Q q.2 := by
   intro i hi
   obtain ⟨cs',h1,h2⟩ := hx i (by omega)
   rw [ce] at h1
   obtain ⟨_,hlen,hcell⟩ := World.cells?_some h1
   obtain ⟨r,e8,hv,hf⟩ := one h2
   refine ⟨(cs',r),⟨e8,fun j hj => ?_,hv⟩,hf⟩
   have := hcell j hj
   rw [add_add] at this
   exact this
  have hs : spot = none := by
   obtain ⟨q,⟨h1,h2,_⟩,_⟩ := each 0 (by omega)
   have := h2 0 (by omega)
   rw [List.getElem?_eq_getElem (by omega)] at this
   simpa [Addr.add] using World.cell?_spot this
  subst hs
  haveI : Inhabited (List Value × α) := ⟨([],default)⟩
  obtain ⟨q,hq⟩ := choose_lt each
  obtain ⟨us,u1,u2,u3⟩ := vw_lcl_of (F := F) (s := s) (w := W) (b := b) (off := off) (fun i => (q i).2) (fun i => (q i).1) len (fun i hi => ⟨(hq i hi).1.1,fun j hj => by have := (hq i hi).1.2.1 j hj;rw [add_lit0,← Nat.add_assoc] at this;exact this,(hq i hi).1.2.2⟩)
  have hlen : ((List.range len).map (fun i => (q i).2)).length = len := by simp
  refine ⟨some ⟨b,off,none⟩,cap,(List.range len).map (fun i => (q i).2),by rw [hlen], ?_,fun r hr => ?_,by rw [hlen];exact Nat.le_trans hl hm⟩
  ·unfold lcl
   rw [hlen]
   exact ⟨_,cap,us,rfl,hl,hm,u1,.inr ⟨b,off,rfl,u2⟩,u3⟩
  ·obtain ⟨i,hi,rfl⟩ := List.mem_map.1 hr
   exact (hq i (List.mem_range.1 hi)).2
set_option maxRecDepth 100000 in
theorem mb_ofC {H : Type} {enc : TypeId × Value → H} {W : World} {base fuel : Nat} {held : Bool} {cs : List Value} {x : DataW H × List MemPlace} (h : DataW.trod enc Try.prog W base (fun _ => true) held fuel 134 cs = some x) :
  ∃ m,cs.length = 5 ∧ vwL W (mb5 m) cs ∧ FitM m ∧ LongM m ∧ Mb64 m := by
 obtain ⟨hl,n,hf⟩ := field_of Try.underlying134 (by kernel_rfl) h
 rw [show Try.prog.cellsOf 134 = 5 by kernel_rfl] at hl
 obtain ⟨c0,c1,c2,c3,c4,rfl⟩ := list5 hl
 obtain ⟨y0,g0⟩ := hf 0 _ c0 rfl rfl
 obtain ⟨y1,g1⟩ := hf 1 _ c1 rfl rfl
 obtain ⟨y2,g2⟩ := hf 2 _ c2 rfl rfl
 obtain ⟨y3,g3⟩ := hf 3 _ c3 rfl rfl
 obtain ⟨y4,g4⟩ := hf 4 _ c4 rfl rfl
 obtain ⟨i0,e0,_,b0⟩ := DataW.trod_int Try.underlying2 g0
 obtain ⟨i1,e1,_,b1⟩ := DataW.trod_int Try.underlying2 g1
 obtain ⟨a2,d2,R,rfl,t1,t2,t3⟩ := rows_of g2
 obtain ⟨a3,d3,M3,rfl,u3,v3,_⟩ := ints_ofC Try.underlying24 Try.underlying2 (by kernel_rfl) g3
 obtain ⟨z4,e4,_⟩ := DataW.trod_bool Try.underlying4 g4
 simp at e0 e1 e4
 subst e0 e1 e4
 exact ⟨⟨i0,i1,R,M3,z4⟩,rfl,⟨_,_,rfl,rfl,_,_,rfl,rfl,_,_,rfl,t1,_,_,rfl,u3,_,_,rfl,rfl,rfl⟩,⟨fun r hr => (t2 r hr).1,v3⟩,fun r hr => (t2 r hr).2.1,bounds_i64 b0,bounds_i64 b1,fun r hr => (t2 r hr).2.2⟩
def MlQ (x : Ml) : Prop := FitR x.row ∧ LongT x.row.txt ∧ I64v x.fr ∧ I64v x.to ∧ Rw64 x.row
set_option maxRecDepth 100000 in
theorem ml_ofC {H : Type} {enc : TypeId × Value → H} {W : World} {base fuel : Nat} {held : Bool} {cs : List Value} {x : DataW H × List MemPlace} (h : DataW.trod enc Try.prog W base (fun _ => true) held fuel 137 cs = some x) :
  ∃ m,cs.length = 10 ∧ vwL W (ml10 m) cs ∧ MlQ m := by
 obtain ⟨xs,n,_,rfl,hl,hlen,hf⟩ := DataW.trod_struct Try.underlying137 h
 rw [show Try.prog.cellsOf 137 = 10 by kernel_rfl] at hl
 match xs,hlen with
 | [y0,y1,y2],_ =>
 have k1 : Try.prog.cellsOf 2 = 1 := by kernel_rfl
 have k8 : Try.prog.cellsOf 47 = 8 := by kernel_rfl
 match cs,hl,hf with
 | c0 :: c1 :: r,hl,hf =>
 have hr : r.length = 8 := by simpa using hl
 have g0 : DataW.trod enc Try.prog W base (fun _ => true) held n 2 (((c0 :: c1 :: r).drop 0).take (Try.prog.cellsOf 2)) = some y0 := hf 0 _ rfl
 have g1 : DataW.trod enc Try.prog W base (fun _ => true) held n 2 (((c0 :: c1 :: r).drop 1).take (Try.prog.cellsOf 2)) = some y1 := hf 1 _ rfl
 have g2 : DataW.trod enc Try.prog W base (fun _ => true) held n 47 (((c0 :: c1 :: r).drop 2).take (Try.prog.cellsOf 47)) = some y2 := hf 2 _ rfl
 rw [k1] at g0 g1
 rw [k8] at g2
 simp only [List.drop_zero,List.drop_succ_cons,List.take_succ_cons,List.take_zero,List.take_of_length_le (Nat.le_of_eq hr)] at g0 g1 g2
 obtain ⟨i0,e0,_,b0⟩ := DataW.trod_int Try.underlying2 g0
 obtain ⟨i1,e1,_,b1⟩ := DataW.trod_int Try.underlying2 g1
 obtain ⟨rw,_,v2,f2,l2,s2⟩ := row_ofC g2
 simp at e0 e1
 subst e0 e1
 exact ⟨⟨i0,i1,rw⟩,by simp [hr],⟨_,_,rfl,rfl,_,_,rfl,rfl,v2⟩,f2,l2,bounds_i64 b0,bounds_i64 b1,s2⟩
theorem bo_ofC {H : Type} {enc : TypeId × Value → H} {W : World} {base fuel : Nat} {held : Bool} {cs : List Value} {x : DataW H × List MemPlace} (h : DataW.trod enc Try.prog W base (fun _ => true) held fuel 4 cs = some x) :
  ∃ b,cs.length = 1 ∧ vwL W (bo1 b) cs ∧ True := by
 obtain ⟨z,e,_⟩ := DataW.trod_bool Try.underlying4 h
 subst e
 exact ⟨z,rfl,⟨_,_,rfl,rfl,rfl⟩,trivial⟩
theorem list3 {α : Type} {l : List α} (h : l.length = 3) : ∃ c0 c1 c2,l = [c0,c1,c2] := by
 match l,h with
 | [c0,c1,c2],_ => exact ⟨c0,c1,c2,rfl⟩
set_option maxRecDepth 100000 in
theorem gr_of {H : Type} {enc : TypeId × Value → H} {W : World} {base fuel : Nat} {held : Bool} {cs : List Value} {x : DataW H × List MemPlace} (h : DataW.trod enc Try.prog W base (fun _ => true) held fuel 55 cs = some x) :
  ∃ A g,cs = (grC A g).toList ∧ GrS W A g ∧ LongG g ∧ Gr64 g := by
 obtain ⟨hl,n,hf⟩ := field_of Try.underlying55 (by kernel_rfl) h
 rw [show Try.prog.cellsOf 55 = 3 by kernel_rfl] at hl
 obtain ⟨c0,c1,c2,rfl⟩ := list3 hl
 obtain ⟨y0,g0⟩ := hf 0 _ c0 rfl rfl
 obtain ⟨y1,g1⟩ := hf 1 _ c1 rfl rfl
 obtain ⟨y2,g2⟩ := hf 2 _ c2 rfl rfl
 haveI : Inhabited Mb := ⟨zeroMb⟩
 haveI : Inhabited Ml := ⟨zeroMl⟩
 obtain ⟨a0,d0,M,rfl,t1,t2,t3⟩ := list_of (F := mb5) (s := 5) (by omega) Try.underlying51 (by kernel_rfl) (Q := fun m => FitM m ∧ LongM m ∧ Mb64 m) (fun h => mb_ofC h) g0
 obtain ⟨a1,d1,U,rfl,u1,_,u3⟩ := list_of (F := bo1) (s := 1) (by omega) Try.underlying52 (by kernel_rfl) (Q := fun _ => True) (fun h => bo_ofC h) g1
 obtain ⟨a2,d2,L,rfl,l1,l2,l3⟩ := list_of (F := ml10) (s := 10) (by omega) Try.underlying53 (by kernel_rfl) (Q := MlQ) (fun h => ml_ofC h) g2
 rw [← ocl_lcl] at u1
 have hv : vwL W (gr3 ⟨M,U,L⟩) (grVals ⟨a0,d0,a1,d1,a2,d2⟩ ⟨M,U,L⟩) := ⟨_,_,rfl,t1,_,_,rfl,u1,_,_,rfl,l1,rfl⟩
 exact ⟨⟨a0,d0,a1,d1,a2,d2⟩,⟨M,U,L⟩,rfl,grs_of hv ⟨fun m hm => (t2 m hm).1,fun x hx => (l2 x hx).1⟩,⟨fun m hm => (t2 m hm).2.1,fun x hx => (l2 x hx).2.1⟩,⟨fun m hm => (t2 m hm).2.2,fun x hx => (l2 x hx).2.2⟩⟩
set_option maxRecDepth 100000 in
theorem open_grp {H : Type} {enc : TypeId × Value → H} {W : World} {base : Nat} {v : Value} {d : DataW H} {p : List MemPlace} (hv : Value.okWide Try.prog W .any base 55 v) (h : DataW.Trod enc Try.prog W 0 (fun _ => true) true 55 v d p) :
  ∃ A g,v = grV A g ∧ GrS W A g ∧ LongG g ∧ Gr64 g := by
 obtain ⟨cs,rfl,hsz⟩ := okWide_struct Try.underlying55 hv
 obtain ⟨fuel,hf⟩ := h
 obtain ⟨A,g,e,h1,h2,h3⟩ := gr_of hf
 have e' : cs.toList = (grC A g).toList := by simpa [Value.cells] using e
 exact ⟨A,g,by rw [grV,Array.toList_inj.1 e'],h1,h2,h3⟩
end Go.Proofs.Ytlnmdfgcpfbleaa
namespace Go.Proofs.Ytlnmdfgcpfbleaa
set_option linter.unusedVariables false
set_option linter.unusedSimpArgs false
open Go.RowKit Go.Sort
def Gu (e : Ending) : Prop := ∃ T v,e = .panicked [{ v := .iface T v,recovered := false }]
set_option maxHeartbeats 400000 in
theorem wantT (w : World) : Calls Try.prog 144 #[.bool true] w fun e w' => e = .returned (.tuple #[]) ∧ w' = w := by
 have hnot : ∀ (x : Bool) (w : World),(Op.unary .not (.bool x)).run Try.prog w = .ok (.bool (!x)) w := fun _ _ => rfl
 go_enter Try.func144,Try.ntmps144
 go_wp2
 first | go_end0 | go_ret
 exact ⟨rfl,rfl⟩
set_option maxHeartbeats 400000 in
theorem wantF (w : World) : Calls Try.prog 144 #[.bool false] w fun e w' => Gu e ∧ w' = w := by
 go_enter Try.func144,Try.ntmps144
 go_wp2
 exact ⟨rfl,⟨_,_,rfl⟩,rfl⟩
theorem tellP (p : Addr) (x : Value) (u : TypeId) (pv : Value) (older : List PanicEntry) (w : World) (hc : w.cell? p = some x) (hz : w.frozen? p = false) :
  CallsD Try.prog 143 #[.pointer (some p)] (.panicking ({ v := .iface u pv,recovered := false } :: older)) w fun e u' w' =>
   e = .returned (.tuple #[]) ∧ u' = .panicking ({ v := .iface u pv,recovered := true } :: older) ∧ w' = w.setCell p (.bool false) := by
 refine callsD_of_wpS Try.func143 rfl fun c₀ cs hu => ?_
 apply wpS_region
 simp [wpOpsS,go_sem,recoverD,hu,Try.ntmps143,hc,hz,bodyPostS,results,Try.results143]
theorem tellR (p : Addr) (x : Value) (w : World) (hc : w.cell? p = some x) (hz : w.frozen? p = false) :
  CallsD Try.prog 143 #[.pointer (some p)] .returning w fun e u' w' => e = .returned (.tuple #[]) ∧ u' = .returning ∧ w' = w.setCell p (.bool true) := by
 refine callsD_of_wpS Try.func143 rfl fun c₀ cs hu => ?_
 apply wpS_region
 simp [wpOpsS,go_sem,recoverD,hu,Try.ntmps143,hc,hz,bodyPostS,results,Try.results143]
 cases c₀
 simp_all
set_option maxRecDepth 100000 in
set_option maxHeartbeats 800000 in
theorem told_any (F : Nat) (C D : Array Value) (w : World) (Q : Bool → World → Prop) (hE : ∀ (args : Array Value) (w : World),(callFunc F args).run Try.prog w = .ok (.enter F args) w)
  (h : Calls Try.prog F (C ++ D) (w.alloc (.cells #[.bool false] 4)) fun e w' => (e = .returned (.tuple #[]) ∧ Q true w') ∨ (Gu e ∧ Q false w')) (hq : ∀ b w',Q b w' → Bx w' w.heap.size 4 #[.bool false]) :
  Calls Try.prog 136 #[.func (.func F) C D] w fun e w' => ∃ b X,e = .returned (.bool b) ∧ Q b X ∧ Wrt (fun x => x = w.heap.size) X w' := by
 have hmf : ∀ (fn : Fn) (first cap : Array Value) (w : World),(Instr.makeFunc fn first cap).run Try.prog w = .ok (.func fn first cap) w := fun _ _ _ _ => rfl
 have HQ : Hid (∀ b w',Q b w' → Bx w' w.heap.size 4 #[.bool false]) := hq
 clear hq
 go_enter_defers Try.func136,Try.ntmps136
 go_wp2_with fail
 refine h.mono ?_
 rintro e w1 (⟨rfl,hQ⟩ | ⟨⟨T,v,rfl⟩,hQ⟩)
 ·have hx := HQ.out _ _ hQ
  have c0 := hx.at 0 (v := .bool false) rfl
  have f0 := hx.f 0
  have HQ1 : Hid (Q true w1) := hQ
  clear hQ h hx
  go_wp2
  refine leaves_cons (f := 143) (args := #[.pointer (some ⟨w.heap.size,0,none⟩)]) (by simp) (by simp [go_sem]) ?_
  refine (tellR ⟨w.heap.size,0,none⟩ (.bool true) _ (World.cell?_setCell_same _ _ _ c0) (by rw [World.frozen?_setCell];exact f0)).mono ?_
  rintro e u' w'' ⟨rfl,rfl,rfl⟩
  have hc : ((w1.setCell ⟨w.heap.size,0,none⟩ (.bool true)).setCell ⟨w.heap.size,0,none⟩ (.bool true)).cell? ⟨w.heap.size,0,none⟩ = some (.bool true) := World.cell?_setCell_same _ _ _ (World.cell?_setCell_same _ _ _ c0)
  have hW := (Wrt.set w1 w.heap.size 0 (.bool true)).trans (Wrt.set (w1.setCell ⟨w.heap.size,0,none⟩ (.bool true)) w.heap.size 0 (.bool true)) (fun _ _ h => h)
  generalize (w1.setCell ⟨w.heap.size,0,none⟩ (.bool true)).setCell ⟨w.heap.size,0,none⟩ (.bool true) = W2 at *
  refine ⟨.bool true,by simp [results,Try.results136,go_sem,hc],true,w1,rfl,HQ1.out,hW⟩
 ·have hx := HQ.out _ _ hQ
  have c0 := hx.at 0 (v := .bool false) rfl
  have f0 := hx.f 0
  have HQ1 : Hid (Q false w1) := hQ
  clear hQ h hx
  simp only
  refine leaves_cons (f := 143) (args := #[.pointer (some ⟨w.heap.size,0,none⟩)]) (by simp) (by simp [go_sem]) ?_
  refine (tellP ⟨w.heap.size,0,none⟩ (.bool false) T v [] _ c0 f0).mono ?_
  rintro e u' w'' ⟨rfl,rfl,rfl⟩
  have hc : (w1.setCell ⟨w.heap.size,0,none⟩ (.bool false)).cell? ⟨w.heap.size,0,none⟩ = some (.bool false) := World.cell?_setCell_same _ _ _ c0
  have hW := Wrt.set w1 w.heap.size 0 (.bool false)
  generalize w1.setCell ⟨w.heap.size,0,none⟩ (.bool false) = W2 at *
  refine ⟨.bool false,by simp [results,Try.results136,go_sem,hc],false,w1,rfl,HQ1.out,hW⟩
end Go.Proofs.Ytlnmdfgcpfbleaa