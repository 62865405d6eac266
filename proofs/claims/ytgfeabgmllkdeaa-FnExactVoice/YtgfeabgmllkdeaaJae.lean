/-
  Texts in one: Mcd Mcf Mcq Mcv Ozr Omb Nmb Ivk Rzi.
-/
import Derived.Test.YtgfeabgmllkdeaaJad
import Derived.Test.YtgfeabgmllkdeaaJac
import Derived.Test.YtgfeabgmllkdeaaJaa
import Derived.Test.YtgfeabgmllkdeaaJab
import Derived.Deep.RegionHeld3
import Derived.Lib.SmallJoins
import Derived.OpenShut
import Derived.ChangeOld
import Derived.ShutString
import Derived.Deep.Matrix
import Derived.Deep.Slices
import Derived.Deep.Strs
import Derived.Deep.Grids
import Derived.Defers
import Derived.Recover
import Derived.BigQuiet
/-
  The specification's l17Voice and Voice.
-/
namespace Go.Proofs.Ytgfeabgmllkdeaa
set_option linter.unusedVariables false
set_option linter.unusedSimpArgs false
open Go.RowKit Go.Sort

def hadB (R : List Rw) (n : Nat) (q : Int) : Bool := decide (q.toNat / n < (rowN R (q.toNat % n)).txt.length)
def txtOf (R : List Rw) (n : Nat) (q : Int) : List UInt8 := (rowN R (q.toNat % n)).txt.getD (q.toNat / n) []
/-- The texts of what a member sang. -/
def voiL (m : Mb) : List (List UInt8) × Bool := if m.sung.all (hadB m.rows m.k) = true then (m.sung.map (txtOf m.rows m.k), true) else ([], false)
def voiM (m : Mb) : List (List UInt8) := if okMb m = true then (voiL m).1 else []
/-- An answer that is a list of texts and a flag, in new memory. -/
def AnsVf (w w' : World) (e : Ending) (T : List (List UInt8)) (b : Bool) : Prop := ∃ a c, e = .returned (.tuple #[.slice a T.length c, .bool b]) ∧ NewO w w' (scl T) (.slice a T.length c)
theorem map_next {α β : Type} {f : α → β} {l : List α} {k : Nat} {x : α} (h : l[k]? = some x) : (l.take (k + 1)).map f = (l.take k).map f ++ [f x] := by
  have hk : k < l.length := by
    rcases Nat.lt_or_ge k l.length with h' | h'
    · exact h'
    · rw [List.getElem?_eq_none h'] at h; cases h
  rw [List.getElem?_eq_getElem hk] at h
  cases h
  rw [List.take_succ_eq_append_getElem hk, List.map_append]
  rfl
attribute [local irreducible] sv
set_option maxRecDepth 100000 in
set_option maxHeartbeats 6400000 in
theorem voiSp_any (A : Ma) (m : Mb) (i n : Nat) (w : World) (hv : MbS w A m) (ok : OkM m i n) :
    Calls Try.prog 95 #[mbV A m] w fun e w' => AnsVf w w' e (voiL m).1 (voiL m).2 := by
  have hmix := mixed17
  have hB0 : Below w.heap.size w (w.alloc (.cells (mbC A m) 40)) := oneA16 w _
  have hx := Bx.new w 40 (mbC A m)
  have HV : Hid (MbS w A m) := hv
  have HK : Hid (m.k = n) := ok.k
  have HOk : Hid (OkM m i n) := ok
  obtain ⟨id, nn, rows, sung, done⟩ := m
  obtain ⟨ra, rc, sa, sc⟩ := A
  have hnn : nn = (n : Int) := ok.hn
  subst hnn
  have hlen : rows.length = n := ok.len
  have HLn : Hid (rows.length = n) := hlen
  have hsl : sung.length ≤ 60 := ok.sl
  have hn5 := ok.n5
  have HZ : Hid (voiL ⟨id, (n : Int), rows, sung, done⟩ = if sung.all (hadB rows n) = true then (sung.map (txtOf rows n), true) else ([], false)) := by rw [Hid, voiL, HK.out]
  unfold mbV
  unfold mbC at *
  simp only at *
  generalize hWW : w.alloc (.cells #[.int .i64 id, .int .i64 (n : Int), .slice ra rows.length rc, .slice sa sung.length sc, .bool done] 40) = W at *
  have hba := oneA16 W (.cells #[] 9)
  have HX : Hid (Bx (W.alloc (.cells #[] 9)) w.heap.size 40 #[.int .i64 id, .int .i64 (n : Int), .slice ra rows.length rc, .slice sa sung.length sc, .bool done]) := hx.below hba
  have HB : Hid (Below w.heap.size w (W.alloc (.cells #[] 9))) := hB0.trans (hba.mono hB0.size)
  have hWs : w.heap.size ≤ W.heap.size := hB0.size
  have HO0 : Hid (Cel.ow (W.alloc (.cells #[] 9)) (scl []) (.slice (some ⟨W.heap.size, 0, none⟩) 0 0) (fun _ => False)) := ow_scl.2 ⟨_, 0, none, rfl, OSo.nil _ _ (plainS _ _), fun b => by simp⟩
  clear hx hB0 hv hba ok hlen
  go_enter Try.func95, Try.ntmps95
  go_wp2_with fail
  generalize hW2 : W.alloc (.cells #[] 9) = W2 at *
  clear hW2
  go_loopw [4, 5] (fun v kv wr => ∃ (k : Nat) (a : Option Addr) (cc : Nat) (Z : List (List UInt8)) (fz : Fp), k ≤ sung.length ∧ kv = .int .i64 (k : Int) ∧ v = .slice a Z.length cc ∧ Hid (Z = (sung.take k).map (txtOf rows n)) ∧ Hid (∀ x ∈ sung.take k, hadB rows n x = true) ∧ Cel.ow wr (scl Z) (.slice a Z.length cc) fz ∧ (∀ b, fz b → w.heap.size < b) ∧ Bx wr w.heap.size 40 #[.int .i64 id, .int .i64 (n : Int), .slice ra rows.length rc, .slice sa sung.length sc, .bool done] ∧ Below w.heap.size w wr) (fun _ kv _ => sung.length - (intOf kv).toNat)
  case atStart => exact ⟨0, some ⟨W.heap.size, 0, none⟩, 0, [], _, Nat.zero_le _, rfl, rfl, rfl, fun x hx => absurd hx List.not_mem_nil, HO0.out, fun b h => h.elim, HX.out, HB.out⟩
  case round =>
    obtain ⟨k, a, cc, Z, fz, hk, rfl, rfl, hZ, hAll, hO, hfz, hX, hb⟩ := hrel
    obtain ⟨c0, c1, c2, c3, c4⟩ := Bx.r5 hX
    by_cases hlt : k < sung.length
    · have k1 : (k : Int) < (sung.length : Int) := by omega
      have k0 : (0 : Int) ≤ (k : Int) := by omega
      have hVw := HV.out.below hb
      rcases hVw.sung.2.2 with h0 | ⟨sb, so, hsa, hsc⟩
      · simp only at h0; omega
      simp only at hsa
      subst hsa
      have hsk := hsc k hlt
      simp only at hsk
      have hsg := (HOk.out.sg k hlt).1
      simp only at hsg
      have hget : sung[k]? = some (el sung k) := by simp [el, hlt]
      have HMp := map_next (f := txtOf rows n) hget
      have HMem : Hid (∀ x ∈ sung.take (k + 1), x ∈ sung.take k ∨ x = el sung k) := fun x hx => by
        rw [List.take_succ_eq_append_getElem hlt] at hx
        rcases List.mem_append.1 hx with h | h
        · exact .inl h
        · exact .inr (by simp at h; rw [h]; simp [el, hlt])
      have HIn : Hid (el sung k ∈ sung) := el_mem hlt
      obtain ⟨q, hq⟩ : ∃ q : Nat, el sung k = (q : Int) := ⟨(el sung k).toNat, by omega⟩
      rw [hq] at hsk HMp HMem HIn hsg
      have HMp2 : Hid ((sung.take (k + 1)).map (txtOf rows n) = Z ++ [txtOf rows n (q : Int)]) := by rw [Hid, HMp, hZ.out]
      clear HMp hq hget
      have tm : ((q : Int)).tmod (n : Int) = ((q % n : Nat) : Int) := by rw [Int.tmod_eq_emod_of_nonneg (by omega)]; rfl
      have td : ((q : Int)).tdiv (n : Int) = ((q / n : Nat) : Int) := by rw [Int.tdiv_eq_ediv_of_nonneg (by omega)]; rfl
      have hJn : q % n < n := Nat.mod_lt _ (by omega)
      have hyq := Nat.div_le_self q n
      have n0 : ((n : Int) == 0) = false := by simp; omega
      have n00 : ¬ n = 0 := by omega
      have HHad : Hid (hadB rows n (q : Int) = decide (q / n < (rowN rows (q % n)).txt.length)) := rfl
      have HTx : Hid (txtOf rows n (q : Int) = (rowN rows (q % n)).txt.getD (q / n) []) := rfl
      obtain ⟨J, hJ⟩ : ∃ J : Nat, Hid (q % n = J) := ⟨_, rfl⟩
      obtain ⟨y, hy⟩ : ∃ y : Nat, Hid (q / n = y) := ⟨_, rfl⟩
      rw [hJ.out] at tm hJn
      rw [hy.out] at td hyq
      rw [hJ.out, hy.out] at HHad HTx
      have hwy : wrap64 (y : Int) = (y : Int) := by unfold wrap64; omega
      have hJl : J < rows.length := by rw [HLn.out]; exact hJn
      obtain ⟨g, off, AJ, hra, ⟨⟨d0, d1, d2, d3⟩, d4, d5, d6, d7⟩, hrs⟩ := hVw.row (k := J) hJl
      simp only at hra hrs d0 d1 d2 d3 d4 d5 d6 d7
      subst hra
      have J0 : (0 : Int) ≤ (J : Int) := by omega
      have J1 : (J : Int) < (rows.length : Int) := by omega
      have hokJ : OkR (rowN rows J) n := HOk.out.ok J hJn
      have HXw : Hid (Bx wr w.heap.size 40 #[.int .i64 id, .int .i64 (n : Int), .slice (some ⟨g, off, none⟩) rows.length rc, .slice (some ⟨sb, so, none⟩) sung.length sc, .bool done]) := hX
      have HB3 : Hid (Below w.heap.size w wr) := hb
      have HO : Hid (Cel.ow wr (scl Z) (.slice a Z.length cc) fz) := hO
      have HRS : Hid (TxS wr AJ.ta (rowN rows J).txt) := hrs.txt
      have hZl : Z.length ≤ 1000000 := by rw [hZ.out, List.length_map, List.length_take]; omega
      generalize hrr : rowN rows J = r at *
      have KS : ∀ X, Below wr.heap.size wr X → (X.cell? ⟨w.heap.size, 2, none⟩ = some (.slice (some ⟨g, off, none⟩) rows.length rc) ∧ X.cell? ⟨w.heap.size, 3, none⟩ = some (.slice (some ⟨sb, so, none⟩) sung.length sc) ∧ X.cell? ⟨sb, so + k, none⟩ = some (.int .i64 (q : Int)) ∧ X.cell? ⟨w.heap.size, 1, none⟩ = some (.int .i64 (n : Int)) ∧ X.cell? ⟨g, off + J * 8, none⟩ = some (.int .i64 r.ver) ∧ X.cell? ⟨g, off + J * 8 + 1, none⟩ = some (.slice AJ.ta r.txt.length AJ.tc) ∧ X.cell? ⟨g, off + J * 8 + 2, none⟩ = some (.slice AJ.ga r.got.length AJ.gc) ∧ X.cell? ⟨g, off + J * 8 + 3, none⟩ = some (.slice AJ.sa r.sus.length AJ.sc) ∧ X.cell? ⟨g, off + J * 8 + 4, none⟩ = some (.bool r.wed) ∧ X.cell? ⟨g, off + J * 8 + 5, none⟩ = some (.bool r.rdy) ∧ X.cell? ⟨g, off + J * 8 + 6, none⟩ = some (.int .i64 r.by_) ∧ X.cell? ⟨g, off + J * 8 + 7, none⟩ = some (.slice AJ.ma r.trm.length AJ.mc)) := fun X hX => by
        have t : ∀ {x v}, wr.cell? x = some v → X.cell? x = some v := fun h => (hX.cell (World.block_lt_of_cell? _ _ h)).trans h
        exact ⟨t c2, t c3, t hsk, t c1, t d0, t d1, t d2, t d3, t d4, t d5, t d6, t d7⟩
      have hbd : Below wr.heap.size wr wr.drew := (Same.drewN wr 1).below
      clear hrr c0 c1 c2 c4 d0 d1 d2 d3 d4 d5 d6 d7 hrs hO hX hb hVw hsc hsk
      go_wp2_with fail
      refine gt_begin (S := fun X : World => X.cell? ⟨w.heap.size, 2, none⟩ = some (.slice (some ⟨g, off, none⟩) rows.length rc) ∧ X.cell? ⟨w.heap.size, 3, none⟩ = some (.slice (some ⟨sb, so, none⟩) sung.length sc) ∧ X.cell? ⟨sb, so + k, none⟩ = some (.int .i64 (q : Int)) ∧ X.cell? ⟨w.heap.size, 1, none⟩ = some (.int .i64 (n : Int)) ∧ X.cell? ⟨g, off + J * 8, none⟩ = some (.int .i64 r.ver) ∧ X.cell? ⟨g, off + J * 8 + 1, none⟩ = some (.slice AJ.ta r.txt.length AJ.tc) ∧ X.cell? ⟨g, off + J * 8 + 2, none⟩ = some (.slice AJ.ga r.got.length AJ.gc) ∧ X.cell? ⟨g, off + J * 8 + 3, none⟩ = some (.slice AJ.sa r.sus.length AJ.sc) ∧ X.cell? ⟨g, off + J * 8 + 4, none⟩ = some (.bool r.wed) ∧ X.cell? ⟨g, off + J * 8 + 5, none⟩ = some (.bool r.rdy) ∧ X.cell? ⟨g, off + J * 8 + 6, none⟩ = some (.int .i64 r.by_) ∧ X.cell? ⟨g, off + J * 8 + 7, none⟩ = some (.slice AJ.ma r.trm.length AJ.mc)) 13 hmix (by kernel_rfl) ?_
      have hHeld : (fun X : World => X.cell? ⟨w.heap.size, 2, none⟩ = some (.slice (some ⟨g, off, none⟩) rows.length rc) ∧ X.cell? ⟨w.heap.size, 3, none⟩ = some (.slice (some ⟨sb, so, none⟩) sung.length sc) ∧ X.cell? ⟨sb, so + k, none⟩ = some (.int .i64 (q : Int)) ∧ X.cell? ⟨w.heap.size, 1, none⟩ = some (.int .i64 (n : Int)) ∧ X.cell? ⟨g, off + J * 8, none⟩ = some (.int .i64 r.ver) ∧ X.cell? ⟨g, off + J * 8 + 1, none⟩ = some (.slice AJ.ta r.txt.length AJ.tc) ∧ X.cell? ⟨g, off + J * 8 + 2, none⟩ = some (.slice AJ.ga r.got.length AJ.gc) ∧ X.cell? ⟨g, off + J * 8 + 3, none⟩ = some (.slice AJ.sa r.sus.length AJ.sc) ∧ X.cell? ⟨g, off + J * 8 + 4, none⟩ = some (.bool r.wed) ∧ X.cell? ⟨g, off + J * 8 + 5, none⟩ = some (.bool r.rdy) ∧ X.cell? ⟨g, off + J * 8 + 6, none⟩ = some (.int .i64 r.by_) ∧ X.cell? ⟨g, off + J * 8 + 7, none⟩ = some (.slice AJ.ma r.trm.length AJ.mc)) wr.drew := (KS _ hbd)
      refine gt_take (i := 0) (v := ?_) rfl (by kernel_rfl) (by kernel_rfl) (by kernel_rfl) (by kernel_rfl) (fun _ _ _ h => h) (Or.inl ⟨by rfl, ?_⟩) hHeld ?_
      rotate_left
      · (intro X hSX; (try dsimp only at hSX); obtain ⟨g0, g1, g2, g3, g4, g5, g6, g7, g8, g9, g10, g11⟩ := hSX; go_simp; try with_reducible rfl)
      try simp only [Act.put, List.setIfInBounds_toArray, List.set_cons_zero, List.set_cons_succ]
      refine gt_take (i := 1) (v := ?_) rfl (by kernel_rfl) (by kernel_rfl) (by kernel_rfl) (by kernel_rfl) (fun _ _ _ h => h) (Or.inl ⟨by rfl, ?_⟩) hHeld ?_
      rotate_left
      · (intro X hSX; (try dsimp only at hSX); obtain ⟨g0, g1, g2, g3, g4, g5, g6, g7, g8, g9, g10, g11⟩ := hSX; go_simp; try with_reducible rfl)
      try simp only [Act.put, List.setIfInBounds_toArray, List.set_cons_zero, List.set_cons_succ]
      refine gt_take (i := 2) (v := ?_) rfl (by kernel_rfl) (by kernel_rfl) (by kernel_rfl) (by kernel_rfl) (fun _ _ _ h => h) (Or.inl ⟨by rfl, ?_⟩) hHeld ?_
      rotate_left
      · (intro X hSX; (try dsimp only at hSX); obtain ⟨g0, g1, g2, g3, g4, g5, g6, g7, g8, g9, g10, g11⟩ := hSX; go_simp; try with_reducible rfl)
      try simp only [Act.put, List.setIfInBounds_toArray, List.set_cons_zero, List.set_cons_succ]
      refine gt_take (i := 3) (v := ?_) rfl (by kernel_rfl) (by kernel_rfl) (by kernel_rfl) (by kernel_rfl) (fun _ _ _ h => h) (Or.inl ⟨by rfl, ?_⟩) hHeld ?_
      rotate_left
      · (intro X hSX; (try dsimp only at hSX); obtain ⟨g0, g1, g2, g3, g4, g5, g6, g7, g8, g9, g10, g11⟩ := hSX; go_simp; try with_reducible rfl)
      try simp only [Act.put, List.setIfInBounds_toArray, List.set_cons_zero, List.set_cons_succ]
      refine gt_take (i := 4) (v := ?_) rfl (by kernel_rfl) (by kernel_rfl) (by kernel_rfl) (by kernel_rfl) (fun _ _ _ h => h) (Or.inl ⟨by rfl, ?_⟩) hHeld ?_
      rotate_left
      · (intro X hSX; (try dsimp only at hSX); obtain ⟨g0, g1, g2, g3, g4, g5, g6, g7, g8, g9, g10, g11⟩ := hSX; go_simp; try with_reducible rfl)
      try simp only [Act.put, List.setIfInBounds_toArray, List.set_cons_zero, List.set_cons_succ]
      refine gt_take (i := 5) (v := ?_) rfl (by kernel_rfl) (by kernel_rfl) (by kernel_rfl) (by kernel_rfl) (fun _ _ _ h => h) (Or.inl ⟨by rfl, ?_⟩) hHeld ?_
      rotate_left
      · (intro X hSX; (try dsimp only at hSX); obtain ⟨g0, g1, g2, g3, g4, g5, g6, g7, g8, g9, g10, g11⟩ := hSX; go_simp; try with_reducible rfl)
      try simp only [Act.put, List.setIfInBounds_toArray, List.set_cons_zero, List.set_cons_succ]
      refine gt_take (i := 6) (v := ?_) rfl (by kernel_rfl) (by kernel_rfl) (by kernel_rfl) (by kernel_rfl) (fun _ _ _ h => h) (Or.inl ⟨by rfl, ?_⟩) hHeld ?_
      rotate_left
      · (intro X hSX; (try dsimp only at hSX); obtain ⟨g0, g1, g2, g3, g4, g5, g6, g7, g8, g9, g10, g11⟩ := hSX; go_simp; try with_reducible rfl)
      try simp only [Act.put, List.setIfInBounds_toArray, List.set_cons_zero, List.set_cons_succ]
      refine gt_take (i := 7) (v := ?_) rfl (by kernel_rfl) (by kernel_rfl) (by kernel_rfl) (by kernel_rfl) (fun _ _ _ h => h) (Or.inl ⟨by rfl, ?_⟩) hHeld ?_
      rotate_left
      · (intro X hSX; (try dsimp only at hSX); obtain ⟨g0, g1, g2, g3, g4, g5, g6, g7, g8, g9, g10, g11⟩ := hSX; go_simp; try with_reducible rfl)
      try simp only [Act.put, List.setIfInBounds_toArray, List.set_cons_zero, List.set_cons_succ]
      refine gt_take (i := 8) (v := ?_) rfl (by kernel_rfl) (by kernel_rfl) (by kernel_rfl) (by kernel_rfl) (fun _ _ _ h => h) (Or.inl ⟨by rfl, ?_⟩) hHeld ?_
      rotate_left
      · (intro X hSX; (try dsimp only at hSX); obtain ⟨g0, g1, g2, g3, g4, g5, g6, g7, g8, g9, g10, g11⟩ := hSX; go_simp; try with_reducible rfl)
      try simp only [Act.put, List.setIfInBounds_toArray, List.set_cons_zero, List.set_cons_succ]
      refine gt_take (i := 9) (v := ?_) rfl (by kernel_rfl) (by kernel_rfl) (by kernel_rfl) (by kernel_rfl) (fun _ _ _ h => h) (Or.inl ⟨by rfl, ?_⟩) hHeld ?_
      rotate_left
      · (intro X hSX; (try dsimp only at hSX); obtain ⟨g0, g1, g2, g3, g4, g5, g6, g7, g8, g9, g10, g11⟩ := hSX; go_simp; try with_reducible rfl)
      try simp only [Act.put, List.setIfInBounds_toArray, List.set_cons_zero, List.set_cons_succ]
      refine gt_take (i := 10) (v := ?_) rfl (by kernel_rfl) (by kernel_rfl) (by kernel_rfl) (by kernel_rfl) (fun _ _ _ h => h) (Or.inl ⟨by rfl, ?_⟩) hHeld ?_
      rotate_left
      · (intro X hSX; (try dsimp only at hSX); obtain ⟨g0, g1, g2, g3, g4, g5, g6, g7, g8, g9, g10, g11⟩ := hSX; go_simp; try with_reducible rfl)
      try simp only [Act.put, List.setIfInBounds_toArray, List.set_cons_zero, List.set_cons_succ]
      refine gt_take (i := 11) (v := ?_) rfl (by kernel_rfl) (by kernel_rfl) (by kernel_rfl) (by kernel_rfl) (fun _ _ _ h => h) (Or.inl ⟨by rfl, ?_⟩) hHeld ?_
      rotate_left
      · (intro X hSX; (try dsimp only at hSX); obtain ⟨g0, g1, g2, g3, g4, g5, g6, g7, g8, g9, g10, g11⟩ := hSX; go_simp; try with_reducible rfl)
      try simp only [Act.put, List.setIfInBounds_toArray, List.set_cons_zero, List.set_cons_succ]
      refine gt_one (i := 12) rfl (by kernel_rfl) (by kernel_rfl) (fun K hK => ?_)
      go_simp
      have hb2 : Below wr.heap.size wr (wr.drew.alloc (.cells #[.int .i64 0, .slice none 0 0, .slice none 0 0, .slice none 0 0, .bool false, .bool false, .int .i64 0, .slice none 0 0] 55)) := hbd.trans ((oneA16 wr.drew _).mono hbd.size)
      refine hK.out _ _ (KS _ hb2) (fun hHeldN => ?_)
      clear hK hHeld
      have hHeld := hHeldN
      try simp only [Act.put, List.setIfInBounds_toArray, List.set_cons_zero, List.set_cons_succ]
      refine gt_last rfl (by kernel_rfl) (by kernel_rfl) (fun K hK => ?_)
      go_simp
      refine hK.out _ _ ?_
      have hb5 : Below wr.heap.size wr (wr.alloc (.cells #[.int .i64 r.ver, .slice AJ.ta r.txt.length AJ.tc, .slice AJ.ga r.got.length AJ.gc, .slice AJ.sa r.sus.length AJ.sc, .bool r.wed, .bool r.rdy, .int .i64 r.by_, .slice AJ.ma r.trm.length AJ.mc] 55)).drew := (oneA16 wr _).trans ((Same.drewN _ 1).below.mono (oneA16 wr _).size)
      have hx5 : Bx (wr.alloc (.cells #[.int .i64 r.ver, .slice AJ.ta r.txt.length AJ.tc, .slice AJ.ga r.got.length AJ.gc, .slice AJ.sa r.sus.length AJ.sc, .bool r.wed, .bool r.rdy, .int .i64 r.by_, .slice AJ.ma r.trm.length AJ.mc] 55)).drew wr.heap.size 55 #[.int .i64 r.ver, .slice AJ.ta r.txt.length AJ.tc, .slice AJ.ga r.got.length AJ.gc, .slice AJ.sa r.sus.length AJ.sc, .bool r.wed, .bool r.rdy, .int .i64 r.by_, .slice AJ.ma r.trm.length AJ.mc] := Bx.new wr _ _
      have p3 := KS _ hb5
      generalize (wr.alloc (.cells #[.int .i64 r.ver, .slice AJ.ta r.txt.length AJ.tc, .slice AJ.ga r.got.length AJ.gc, .slice AJ.sa r.sus.length AJ.sc, .bool r.wed, .bool r.rdy, .int .i64 r.by_, .slice AJ.ma r.trm.length AJ.mc] 55)).drew = W5 at *
      have HX5 : Hid (Bx W5 wr.heap.size 55 #[.int .i64 r.ver, .slice AJ.ta r.txt.length AJ.tc, .slice AJ.ga r.got.length AJ.gc, .slice AJ.sa r.sus.length AJ.sc, .bool r.wed, .bool r.rdy, .int .i64 r.by_, .slice AJ.ma r.trm.length AJ.mc]) := hx5
      have HB5 : Hid (Below wr.heap.size wr W5) := hb5
      have T5 : ∀ {x v}, W5.cell? x = some v → ∀ q : Bk W5, q.w.cell? x = some v := fun h q => (q.h.cell (World.block_lt_of_cell? _ _ h)).trans h
      have ps := T5 p3.2.1
      have pe := T5 p3.2.2.1
      have pn := T5 p3.2.2.2.1
      clear hHeld KS hbd hb2 hK p3 hx5 hb5 T5 c3
      go_wp2_with fail
      refine wp_region_bk (by kernel_rfl) (by kernel_rfl) ?_
      repeat (go_big_quiet_step ((first | rfl)))
      refine wpQuiet_nil ?_
      intro wE hw'
      obtain ⟨⟨w11, hb11⟩, hw''⟩ := hw'
      have hwe : wE = w11 := hw''
      clear hw''
      subst hwe
      have hbE := HB5.out.trans (hb11.mono HB5.out.size)
      have HB6 : Hid (Below w.heap.size w wE) := HB3.out.trans (hbE.mono HB3.out.size)
      have HX6 : Hid (Bx wE w.heap.size 40 #[.int .i64 id, .int .i64 (n : Int), .slice (some ⟨g, off, none⟩) rows.length rc, .slice (some ⟨sb, so, none⟩) sung.length sc, .bool done]) := HXw.out.below hbE
      have hO6 := Cel.ow_below HO.out hbE
      have x1 := (HX5.out.below hb11).at 1 rfl
      simp only [List.getElem_toArray, List.getElem_cons_succ, List.getElem_cons_zero] at x1
      have hTx := HRS.out.below hbE
      have hsE := hbE.size
      have hsE2 := HB3.out.size
      clear ps pe pn hb11 hbE tm td
      by_cases hhad : y < r.txt.length
      · have e1 : ¬ ((r.txt.length : Int) ≤ (y : Int)) := by omega
        have e2 : decide ((r.txt.length : Int) ≤ (y : Int)) = false := by simpa using hhad
        have y0 : (0 : Int) ≤ (y : Int) := by omega
        have y1 : (y : Int) < (r.txt.length : Int) := by omega
        have HAl2 : Hid (∀ x ∈ sung.take (k + 1), hadB rows n x = true) := fun x hx => by
          rcases HMem.out x hx with h | h
          · exact hAll.out x h
          · rw [h, HHad.out]; simpa using hhad
        rcases hTx with h0 | ⟨tb, tof, hta, htc⟩
        · omega
        have htx := htc y hhad
        rw [hta] at x1
        rw [← HTx.out] at htx
        generalize txtOf rows n (q : Int) = tt at *
        obtain ⟨a', c', ea, hA⟩ := ow_txt_app tt hO6 hZl
        cases ea
        clear htc hta
        go_wp2_with (at_builtin; refine wpList_append_of (by rfl) _ _ _ _ (by rfl) _ _ (by rfl) (by rfl) hA ⟨rfl, rfl, rfl, rfl⟩ ?_; rintro v1 w1 ⟨a1, e1, f1, rfl, q1, q2, q3⟩; have HQ1 : Hid (Cel.ow w1 (scl (Z ++ [tt])) (.slice a1 (Z.length + 1) e1) f1) := q1; have HQ2 : Hid (∀ b, f1 b → fz b ∨ wE.heap.size ≤ b) := q2; have HQ3 : Hid (Wrt fz wE w1) := q3; clear q1 q2 q3 hA)
        have HL : Hid ((Z ++ [tt]).length = Z.length + 1) := by rw [Hid, List.length_append]; rfl
        have hbx := HX6.out.lt
        go_roundw
        case rel => exact ⟨k + 1, a1, e1, Z ++ [tt], f1, by omega, by go_num, by rw [HL.out], HMp2.out.symm, HAl2, by rw [HL.out]; exact HQ1.out, fun b hb => (HQ2.out b hb).elim (hfz b) (fun h => by omega), HX6.out.wrt HQ3.out (fun k => by have := hfz _ k; omega), HQ3.out.below HB6.out (by omega) (fun b hb => by have := hfz b hb; omega)⟩
        case measure => simp [intOf]; omega
      · have e1 : (r.txt.length : Int) ≤ (y : Int) := by omega
        have e2 : decide ((r.txt.length : Int) ≤ (y : Int)) = true := by simpa using e1
        have HNo : Hid (voiL ⟨id, (n : Int), rows, sung, done⟩ = ([], false)) := by
          rw [Hid, HZ.out, if_neg]
          intro h
          have := (List.all_eq_true.1 h) _ HIn.out
          rw [HHad.out] at this
          simp at this
          omega
        have HN : Hid (NewO w (wE.alloc (.cells #[] 9)) (scl []) (.slice (some ⟨wE.heap.size, 0, none⟩) 0 0)) := ⟨fun _ => False, ow_scl.2 ⟨_, 0, none, rfl, OSo.nil _ _ (plainS _ _), fun b => by simp⟩, fun b h => h.elim, HB6.out.trans ((oneA16 wE _).mono HB6.out.size)⟩
        clear hO6 hTx
        go_wp2
        go_ret2
        rw [HNo.out]
        exact ⟨_, _, rfl, HN.out⟩
    · have k1 : ¬ ((k : Int) < (sung.length : Int)) := by omega
      have HYes : Hid (voiL ⟨id, (n : Int), rows, sung, done⟩ = (Z, true)) := by
        rw [Hid, HZ.out, hZ.out, List.take_of_length_le (by omega), if_pos]
        rw [List.all_eq_true]
        intro x hx
        have := hAll.out x (by rw [List.take_of_length_le (by omega)]; exact hx)
        exact this
      have HN : Hid (NewO w wr (scl Z) (.slice a Z.length cc)) := ⟨fz, hO, fun b hb => by have := hfz b hb; omega, hb⟩
      clear hO hX hb c0 c1 c2 c4
      go_wp2
      go_ret2
      rw [HYes.out]
      exact ⟨_, _, rfl, HN.out⟩
end Go.Proofs.Ytgfeabgmllkdeaa

/-
  The specification's Voice.
-/
namespace Go.Proofs.Ytgfeabgmllkdeaa
set_option linter.unusedVariables false
set_option linter.unusedSimpArgs false
open Go.RowKit Go.Sort

/-- An answer that is a list of texts, in new memory. -/
def AnsTx (w w' : World) (e : Ending) (T : List (List UInt8)) : Prop := ∃ a c, e = .returned (.slice a T.length c) ∧ NewO w w' (scl T) (.slice a T.length c)
theorem NewO.before {w w1 w2 : World} {c : Cel} {v : Value} (h : NewO w1 w2 c v) (hb : Below w.heap.size w w1) : NewO w w2 c v := by
  obtain ⟨f, h1, h2, h3⟩ := h
  exact ⟨f, h1, fun b hb' => Nat.le_trans hb.size (h2 b hb'), hb.trans (h3.mono hb.size)⟩
set_option maxRecDepth 100000 in
set_option maxHeartbeats 3200000 in
theorem voiS_any (A : Ma) (m : Mb) (w : World) (hv : MbS w A m) :
    Calls Try.prog 44 #[mbV A m] w fun e w' => AnsTx w w' e (voiM m) := by
  have hB0 := oneA16 w (.cells (mbC A m) 40)
  have hx := Bx.new w 40 (mbC A m)
  have hv0 := hv.below hB0
  have hK := mbkS_any A m _ hv0
  unfold mbV at *
  unfold mbC at *
  generalize hWW : w.alloc (.cells #[.int .i64 m.id, .int .i64 m.n, .slice A.ra m.rows.length A.rc, .slice A.sa m.sung.length A.sc, .bool m.done] 40) = W at *
  have HX : Hid (Bx W w.heap.size 40 #[.int .i64 m.id, .int .i64 m.n, .slice A.ra m.rows.length A.rc, .slice A.sa m.sung.length A.sc, .bool m.done]) := hx
  have HB : Hid (Below w.heap.size w W) := hB0
  have HV : Hid (MbS W A m) := hv0
  obtain ⟨c0, c1, c2, c3, c4⟩ := Bx.r5 hx
  clear hv hx hB0 hv0
  cases hok : okMb m with
  | false =>
    have HZ : Hid (voiM m = []) := by rw [Hid, voiM, hok]; rfl
    rw [hok] at hK
    clear hok
    go_enter Try.func44, Try.ntmps44
    go_wp2_with fail
    refine hK.mono ?_
    rintro e w1 ⟨rfl, hb1⟩
    have HB1 : Hid (Below w.heap.size w w1) := HB.out.trans (hb1.mono HB.out.size)
    have HN : Hid (NewO w (w1.alloc (.cells #[] 9)) (scl []) (.slice (some ⟨w1.heap.size, 0, none⟩) 0 0)) := ⟨fun _ => False, ow_scl.2 ⟨_, 0, none, rfl, OSo.nil _ _ (plainS _ _), fun b => by simp⟩, fun b h => h.elim, HB1.out.trans ((oneA16 w1 _).mono HB1.out.size)⟩
    clear hb1 hK c0 c1 c2 c3 c4
    go_wp2
    go_ret
    rw [HZ.out]
    exact ⟨_, _, rfl, HN.out⟩
  | true =>
    have HZ : Hid (voiM m = (voiL m).1) := by rw [Hid, voiM, hok]; rfl
    obtain ⟨i, n, ok⟩ := okMb_iff.1 hok
    rw [hok] at hK
    clear hok
    go_enter Try.func44, Try.ntmps44
    go_wp2_with fail
    refine hK.mono ?_
    rintro e w1 ⟨rfl, hb1⟩
    have HB1 : Hid (Below w.heap.size w w1) := HB.out.trans (hb1.mono HB.out.size)
    have hC := voiSp_any A m i n w1 (HV.out.below hb1) ok
    unfold mbV mbC at hC
    clear c0 c1 c2 c3 c4 hK
    obtain ⟨c0, c1, c2, c3, c4⟩ := Bx.r5 (HX.out.below hb1)
    clear hb1
    go_wp2_with fail
    refine hC.mono ?_
    rintro e w2 ⟨a2, e2, rfl, hN⟩
    have HN : Hid (NewO w w2 (scl (voiL m).1) (.slice a2 (voiL m).1.length e2)) := hN.before HB1.out
    clear hN c0 c1 c2 c3 c4 hC
    generalize voiL m = vv at *
    go_wp2
    go_ret
    rw [HZ.out]
    exact ⟨_, _, rfl, HN.out⟩
end Go.Proofs.Ytgfeabgmllkdeaa

/-
  What the program's functions on members must be shown to answer; facts for their exact laws.
-/
namespace Go.Proofs.Ytgfeabgmllkdeaa
set_option linter.unusedVariables false
set_option linter.unusedSimpArgs false
open Go.RowKit Go.Sort

def Mb64 (m : Mb) : Prop := I64v m.id ∧ I64v m.n ∧ ∀ r ∈ m.rows, Rw64 r
/-- A member that a program is handed. -/
structure MbP (w : World) (A : Ma) (m : Mb) : Prop where
  own : ∃ f, owL w (mbCels m) (mbVals A m) f
  fit : FitM m
  i64 : Mb64 m
  sz : szMb m ≤ 1048576
theorem MbS.fitM {w : World} {A : Ma} {m : Mb} (h : MbS w A m) : FitM m := ⟨h.fit, h.sung.2.1⟩
theorem it_mbs {w : World} {A : Ma} {m : Mb} {lo hi : Nat} (h : It w (mbCels m) (mbVals A m) lo hi) (hf : FitM m) : MbS w A m := mbs_of h.vw hf
theorem it_mbp {w : World} {A : Ma} {m : Mb} {lo hi : Nat} (h : It w (mbCels m) (mbVals A m) lo hi) (hf : FitM m) (h6 : Mb64 m) (hs : szMb m ≤ 1048576) : MbP w A m := ⟨h.imp (fun _ h => h.1), hf, h6, hs⟩
theorem AnsMb.it {w w' : World} {e : Ending} {m : Mb} (h : AnsMb w w' e m) : ∃ A, e = .returned (mbV A m) ∧ It w' (mbCels m) (mbVals A m) w.heap.size w'.heap.size ∧ Below w.heap.size w w' := by
  obtain ⟨A, h1, h2⟩ := h
  exact ⟨A, h1, It.of_new h2, h2.choose_spec.2.2⟩
theorem AnsTx.it {w w' : World} {e : Ending} {T : List (List UInt8)} (h : AnsTx w w' e T) : ∃ a c, e = .returned (.slice a T.length c) ∧ It w' [scl T] [.slice a T.length c] w.heap.size w'.heap.size ∧ Below w.heap.size w w' := by
  obtain ⟨a, c, h1, h2⟩ := h
  exact ⟨a, c, h1, It.of_newO h2, h2.choose_spec.2.2⟩
def ImplVoice : Prop := ∀ (A : Ma) (m : Mb) (w : World), MbP w A m → Calls Try.prog 45 #[mbV A m] w fun e w' => AnsTx w w' e (voiM m)
theorem It.wide {w X : World} {cs : List Cel} {vs : List Value} {lo hi : Nat} (h : It w cs vs lo hi) (hs : X.heap.size ≤ w.heap.size) (hh : hi ≤ X.heap.size) : It w cs vs lo w.heap.size := by
  obtain ⟨f, h1, h2⟩ := h
  exact ⟨f, h1, fun b hb => ⟨(h2 b hb).1, by have := (h2 b hb).2; omega⟩⟩
theorem cnt8_le (r : Rw) : cnt8 r ≤ 4 + szRw r := by unfold cnt8 szRw; omega
theorem cP_le (R : List Rw) : ∀ k, k ≤ R.length → cP R k ≤ 4 * k + szP R k
  | 0, _ => by simp [cP]
  | k + 1, h => by
    have ih := cP_le R k (by omega)
    have := cnt8_le (rowN R k)
    rw [cP_next (by omega), szP_next (by omega)]
    omega
theorem cntMb_le4 (m : Mb) : cntMb m ≤ 4 * szMb m := by
  have := cP_le m.rows m.rows.length (Nat.le_refl _)
  unfold cntMb szMb szRs
  omega
theorem cntMb_le {m : Mb} {k : Nat} (hs : szMb m ≤ 1048576) (hk : k ≤ 1) : k + cntMb m ≤ 10000000 := by
  have := cntMb_le4 m
  omega
theorem rows_le {m : Mb} (hs : szMb m ≤ 1048576) : m.rows.length ≤ maxLen := by unfold szMb szRs at hs; unfold maxLen; omega
theorem voiM_small (m : Mb) : (voiM m).length ≤ 60 := by
  unfold voiM
  split
  · rename_i h
    obtain ⟨i, n, ok⟩ := okMb_iff.1 h
    have := ok.sl
    unfold voiL
    split
    · simpa using this
    · simp
  · simp
theorem eqTx_it {X : World} {a1 a2 : Option Addr} {c1 c2 l1 h1 l2 h2 : Nat} {Z : List (List UInt8)} (i1 : It X [scl Z] [.slice a1 Z.length c1] l1 h1) (i2 : It X [scl Z] [.slice a2 Z.length c2] l2 h2) (hl : Z.length ≤ 60) :
    Calls Try.prog 46 #[.slice a1 Z.length c1, .slice a2 Z.length c2] X fun e w' => e = .returned (.bool true) ∧ Below X.heap.size X w' := by
  obtain ⟨f1, o1, _⟩ := i1.ow1
  obtain ⟨f2, o2, _⟩ := i2.ow1
  exact (eqSV_any a1 a2 c1 c2 Z X (ow_txp o1).txs (ow_txp o2).txs (by unfold maxLen; omega)).mono (fun e w' h => ⟨h.1, h.2.1⟩)
theorem heldTx_it {X : World} {a1 : Option Addr} {c1 lo hi : Nat} {Z : List (List UInt8)} (i : It X [scl (marksS Z.length 1)] [.slice a1 Z.length c1] lo hi) (hl : Z.length ≤ 60) :
    Calls Try.prog 48 #[.slice a1 Z.length c1, .int .i64 1] X fun e w' => e = .returned (.int .i64 ((1 + Z.length : Nat) : Int)) ∧ Below X.heap.size X w' := by
  obtain ⟨f, o, _⟩ := i.ow1
  refine (heldS_ow _ 1 Z.length f X o (by omega) (by omega) (by omega)).mono ?_
  rintro e w' ⟨rfl, h⟩
  exact ⟨by congr 2, h⟩
attribute [local irreducible] sv
end Go.Proofs.Ytgfeabgmllkdeaa

/-
  The walk of the exact law of Voice FROM what the program answers.
-/
namespace Go.Proofs.Ytgfeabgmllkdeaa
set_option linter.unusedVariables false
set_option linter.unusedSimpArgs false
open Go.RowKit Go.Sort

set_option maxRecDepth 100000 in
set_option maxHeartbeats 6400000 in
theorem lawVoice (hI : ImplVoice) (A0 : Ma) (m : Mb) (w : World) (hv0 : MbS w A0 m) (hg0 : ∀ r ∈ m.rows, LongT r.txt) (h60 : Mb64 m) :
    Calls Try.prog 8 #[mbV A0 m] w fun e w' => e = .returned (.bool true) ∧ Below w.heap.size w w' := by
  have hf0 : FitM m := hv0.fitM
  have hZ0 : ∀ (X : World) (left : Int), Below w.heap.size w X → (0 ≤ left ∧ left ≤ 1048576) → Calls Try.prog 27 #[mbV A0 m, .int .i64 left] X fun e w' => ∃ q : Int, e = .returned (.int .i64 q) ∧ (q = -1 ∨ 0 ≤ q ∧ q + (szMb m : Int) = left) ∧ Below X.heap.size X w' := fun X left hX hl => szMb_any A0 m left X (hv0.below hX) hg0 hl
  have hTo0 : szMb m ≤ 1048576 → ∀ X, Below w.heap.size w X → Calls Try.prog 29 #[mbV A0 m] X fun e w' => ∃ A', e = .returned (mbV A' m) ∧ It w' (mbCels m) (mbVals A' m) X.heap.size w'.heap.size ∧ Below X.heap.size X w' := fun hs X hX => (toMb_any A0 m X (hv0.below hX) hs).mono (fun e w' h => h.it)
  have hE0 : szMb m ≤ 1048576 → ∀ (X : World) (A1 A2 : Ma) {l1 h1 l2 h2 : Nat}, It X (mbCels m) (mbVals A1 m) l1 h1 → It X (mbCels m) (mbVals A2 m) l2 h2 → Calls Try.prog 31 #[mbV A1 m, mbV A2 m] X fun e w' => e = .returned (.bool true) ∧ Below X.heap.size X w' := fun hs X A1 A2 l1 h1 l2 h2 i1 i2 => eqMb_any A1 A2 m X (it_mbs i1 hf0) (it_mbs i2 hf0)
  have hSp : szMb m ≤ 1048576 → ∀ (X : World) (B0 : Ma) {l0 u0 : Nat}, It X (mbCels m) (mbVals B0 m) l0 u0 → Calls Try.prog 44 #[mbV B0 m] X fun e w' => ∃ a' c', e = .returned (.slice a' ((voiM m)).length c') ∧ It w' [scl ((voiM m))] [.slice a' ((voiM m)).length c'] X.heap.size w'.heap.size ∧ Below X.heap.size X w' := fun hs0 X B0 l0 u0 i0 => (voiS_any B0 m X (it_mbs i0 hf0)).mono (fun e w' h => h.it)
  have hIm : szMb m ≤ 1048576 → ∀ (X : World) (B0 : Ma) {l0 u0 : Nat}, It X (mbCels m) (mbVals B0 m) l0 u0 → Calls Try.prog 45 #[mbV B0 m] X fun e w' => ∃ a' c', e = .returned (.slice a' ((voiM m)).length c') ∧ It w' [scl ((voiM m))] [.slice a' ((voiM m)).length c'] X.heap.size w'.heap.size ∧ Below X.heap.size X w' := fun hs0 X B0 l0 u0 i0 => (hI B0 m X (it_mbp i0 hf0 h60 hs0)).mono (fun e w' h => h.it)
  have hlZ := voiM_small m
  generalize (voiM m) = Z at *
  obtain ⟨N, hN⟩ : ∃ N : Int, Hid (N = ((1 + List.length Z : Nat) : Int)) := ⟨_, rfl⟩
  have hN0 : decide (N < 0) = false := by rw [hN.out]; simp; omega
  have hNN : (N != N) = false := by simp
  have hEz : ∀ (X : World) (a1 : Option Addr) (c1 : Nat) (a2 : Option Addr) (c2 : Nat) {l1 h1 l2 h2 : Nat}, It X [scl Z] [.slice a1 Z.length c1] l1 h1 → It X [scl Z] [.slice a2 Z.length c2] l2 h2 → Calls Try.prog 46 #[.slice a1 Z.length c1, .slice a2 Z.length c2] X fun e w' => e = .returned (.bool true) ∧ Below X.heap.size X w' := fun X a1 c1 a2 c2 l1 h1 l2 h2 i1 i2 => eqTx_it i1 i2 hlZ
  have hMz : ∀ (X : World) (a1 : Option Addr) (c1 lo hi : Nat), It X [scl Z] [.slice a1 Z.length c1] lo hi → lo ≤ X.heap.size → hi ≤ X.heap.size → Calls Try.prog 47 #[.slice a1 Z.length c1, .int .i64 1] X fun e w' => e = .returned (.int .i64 N) ∧ It w' [scl (marksS Z.length 1)] [.slice a1 Z.length c1] lo w'.heap.size ∧ Wrt (Iv lo hi) X w' := fun X a1 c1 lo hi i hlo hh => by rw [hN.out]; exact (markS_it a1 c1 1 lo hi Z X i (by omega) (by omega) (by omega)).mono (fun e w' ⟨h1, h2, h3⟩ => ⟨by rw [h1]; congr 2, h2.wide h3.size hh, h3⟩)
  have hHz : ∀ (X : World) (a1 : Option Addr) (c1 lo hi : Nat), It X [scl (marksS Z.length 1)] [.slice a1 Z.length c1] lo hi → Calls Try.prog 48 #[.slice a1 Z.length c1, .int .i64 1] X fun e w' => e = .returned (.int .i64 N) ∧ Below X.heap.size X w' := fun X a1 c1 lo hi i => by rw [hN.out]; exact heldTx_it i hlZ
  obtain ⟨K0, hK0⟩ : ∃ K : Nat, Hid (K = 1 + cntMb m) := ⟨_, rfl⟩
  have hMx0 : szMb m ≤ 1048576 → ∀ (X : World) (A1 : Ma) (lo hi : Nat), It X (mbCels m) (mbVals A1 m) lo hi → lo ≤ X.heap.size → hi ≤ X.heap.size → Calls Try.prog 34 #[mbV A1 m, .int .i64 1] X fun e w' => e = .returned (.int .i64 (K0 : Int)) ∧ It w' (mbCels (mkMb m 1)) (mbVals A1 m) lo w'.heap.size ∧ Wrt (Iv lo hi) X w' := fun hs0 X A1 lo hi i hlo hh => by rw [hK0.out]; exact markMb_it A1 m 1 lo hi X i hlo hh (by omega) (cntMb_le hs0 (by omega)) (rows_le hs0)
  have hKn0 : decide ((K0 : Int) < 0) = false := by simp
  clear hI hv0
  unfold mbV mbC at *
  have hb00 : Below w.heap.size w w := Below.refl _ _
  have b2 := oneA16 w (.cells #[.int .i64 m.id, .int .i64 m.n, .slice A0.ra m.rows.length A0.rc, .slice A0.sa m.sung.length A0.sc, .bool m.done] 35)
  have h3 := Bx.new w 35 #[.int .i64 m.id, .int .i64 m.n, .slice A0.ra m.rows.length A0.rc, .slice A0.sa m.sung.length A0.sc, .bool m.done]
  generalize hX1 : w.alloc (.cells #[.int .i64 m.id, .int .i64 m.n, .slice A0.ra m.rows.length A0.rc, .slice A0.sa m.sung.length A0.sc, .bool m.done] 35) = X1 at *
  have B5 : Below w.heap.size w X1 := hb00.trans (b2.mono hb00.size)
  have sB5 : w.heap.size ≤ X1.heap.size := b2.size
  clear hb00
  have k4 : w.heap.size < X1.heap.size := h3.lt
  clear b2
  go_enter Try.func8, Try.ntmps8
  obtain ⟨c60, c61, c62, c63, c64⟩ := Bx.r5 h3
  go_wp2_with fail
  refine (hZ0 X1 1048576 B5 ⟨by omega, by omega⟩).mono ?_
  rintro e z0 ⟨q0, rfl, hq0, hbz0⟩
  clear c60 c61 c62 c63 c64
  have B7 : Below w.heap.size w z0 := B5.trans (hbz0.mono B5.size)
  have sB7 : X1.heap.size ≤ z0.heap.size := hbz0.size
  have h8 := h3.below hbz0
  clear B5 h3
  rcases hq0 with rfl | ⟨hqa0, hqb0⟩
  · go_wp2
    go_ret
    exact ⟨rfl, B7⟩
  have hqn0 : decide (q0 < 0) = false := by simp; omega
  have hs0 : szMb m ≤ 1048576 := by omega
  have hT0 := hTo0 hs0
  have hEE0 := hE0 hs0
  have hMM0 := hMx0 hs0
  have hS2 := hSp hs0
  have hI2 := hIm hs0
  clear hSp hIm hTo0 hE0 hZ0 hMx0
  obtain ⟨c90, c91, c92, c93, c94⟩ := Bx.r5 h8
  go_wp2_with fail
  refine (hT0 z0 B7).mono ?_
  rintro e s0 ⟨As0, rfl, is0, hbs0⟩
  clear c90 c91 c92 c93 c94
  have B10 : Below w.heap.size w s0 := B7.trans (hbs0.mono B7.size)
  have sB10 : z0.heap.size ≤ s0.heap.size := hbs0.size
  have h11 := h8.below hbs0
  clear B7 h8
  go_wp2_with fail
  refine (hS2 s0 _ is0).mono ?_
  rintro e ws ⟨av, cv, rfl, iv, hbv⟩
  have B12 : Below w.heap.size w ws := B10.trans (hbv.mono B10.size)
  have sB12 : s0.heap.size ≤ ws.heap.size := hbv.size
  have h13 := h11.below hbv
  have h14 := is0.below hbv
  clear B10 h11 is0
  clear h14
  obtain ⟨c150, c151, c152, c153, c154⟩ := Bx.r5 h13
  go_wp2_with fail
  refine (hT0 ws B12).mono ?_
  rintro e wx0 ⟨Ax0, rfl, ix0, hbx0⟩
  clear c150 c151 c152 c153 c154
  have B16 : Below w.heap.size w wx0 := B12.trans (hbx0.mono B12.size)
  have sB16 : ws.heap.size ≤ wx0.heap.size := hbx0.size
  have h17 := h13.below hbx0
  have h18 := iv.below hbx0
  clear B12 h13 iv
  have b20 := oneA16 wx0 (.cells #[.int .i64 m.id, .int .i64 m.n, .slice Ax0.ra m.rows.length Ax0.rc, .slice Ax0.sa m.sung.length Ax0.sc, .bool m.done] 40)
  have h21 := Bx.new wx0 40 #[.int .i64 m.id, .int .i64 m.n, .slice Ax0.ra m.rows.length Ax0.rc, .slice Ax0.sa m.sung.length Ax0.sc, .bool m.done]
  generalize hX19 : wx0.alloc (.cells #[.int .i64 m.id, .int .i64 m.n, .slice Ax0.ra m.rows.length Ax0.rc, .slice Ax0.sa m.sung.length Ax0.sc, .bool m.done] 40) = X19 at *
  have B23 : Below w.heap.size w X19 := B16.trans (b20.mono B16.size)
  have sB23 : wx0.heap.size ≤ X19.heap.size := b20.size
  have h24 := h17.below b20
  have h25 := h18.below b20
  have h26 := ix0.below b20
  clear B16 h17 h18 ix0
  have k22 : wx0.heap.size < X19.heap.size := h21.lt
  clear b20
  obtain ⟨c270, c271, c272, c273, c274⟩ := Bx.r5 h21
  go_wp2_with fail
  refine (hI2 X19 _ h26).mono ?_
  rintro e wi ⟨ag, cg, rfl, ig, hbg⟩
  have B28 : Below w.heap.size w wi := B23.trans (hbg.mono B23.size)
  have sB28 : X19.heap.size ≤ wi.heap.size := hbg.size
  have h29 := h24.below hbg
  have h30 := h25.below hbg
  have h31 := h26.below hbg
  have h32 := h21.below hbg
  clear B23 h24 h25 h26 h21
  clear c270 c271 c272 c273 c274
  go_wp2_with fail
  refine (hEz wi _ _ _ _ ig h30).mono ?_
  rintro e we ⟨rfl, hbwe⟩
  have B33 : Below w.heap.size w we := B28.trans (hbwe.mono B28.size)
  have sB33 : wi.heap.size ≤ we.heap.size := hbwe.size
  have h34 := h29.below hbwe
  have h35 := h30.below hbwe
  have h36 := h31.below hbwe
  have h37 := h32.below hbwe
  have h38 := ig.below hbwe
  clear B28 h29 h30 h31 h32 ig
  have KS : ∀ X, Below we.heap.size we X → (X.cell? ⟨w.heap.size, 0, none⟩ = some (.int .i64 m.id) ∧ X.cell? ⟨w.heap.size, 1, none⟩ = some (.int .i64 m.n) ∧ X.cell? ⟨w.heap.size, 2, none⟩ = some (.slice A0.ra m.rows.length A0.rc) ∧ X.cell? ⟨w.heap.size, 3, none⟩ = some (.slice A0.sa m.sung.length A0.sc) ∧ X.cell? ⟨w.heap.size, 4, none⟩ = some (.bool m.done)) ∧ (X.cell? ⟨wx0.heap.size, 0, none⟩ = some (.int .i64 m.id) ∧ X.cell? ⟨wx0.heap.size, 1, none⟩ = some (.int .i64 m.n) ∧ X.cell? ⟨wx0.heap.size, 2, none⟩ = some (.slice Ax0.ra m.rows.length Ax0.rc) ∧ X.cell? ⟨wx0.heap.size, 3, none⟩ = some (.slice Ax0.sa m.sung.length Ax0.sc) ∧ X.cell? ⟨wx0.heap.size, 4, none⟩ = some (.bool m.done)) := fun X hX => ⟨Bx.r5 (h34.below hX), Bx.r5 (h37.below hX)⟩
  have bd : Below we.heap.size we (we.drewN 1) := belowN (Below.refl _ _)
  have hTo2 := fun X (h : Below we.heap.size we X) => hT0 X (B33.trans (h.mono B33.size))
  have hEq2 := fun X (A7 : Ma) (h : Below we.heap.size we X) (h7 : ∃ lo hi, It X (mbCels m) (mbVals A7 m) lo hi) => hEE0 X Ax0 A7 (h36.below h) h7.choose_spec.choose_spec
  go_wp2_with fail
  go_region_held3 (fun X => (X.cell? ⟨w.heap.size, 0, none⟩ = some (.int .i64 m.id) ∧ X.cell? ⟨w.heap.size, 1, none⟩ = some (.int .i64 m.n) ∧ X.cell? ⟨w.heap.size, 2, none⟩ = some (.slice A0.ra m.rows.length A0.rc) ∧ X.cell? ⟨w.heap.size, 3, none⟩ = some (.slice A0.sa m.sung.length A0.sc) ∧ X.cell? ⟨w.heap.size, 4, none⟩ = some (.bool m.done)) ∧ (X.cell? ⟨wx0.heap.size, 0, none⟩ = some (.int .i64 m.id) ∧ X.cell? ⟨wx0.heap.size, 1, none⟩ = some (.int .i64 m.n) ∧ X.cell? ⟨wx0.heap.size, 2, none⟩ = some (.slice Ax0.ra m.rows.length Ax0.rc) ∧ X.cell? ⟨wx0.heap.size, 3, none⟩ = some (.slice Ax0.sa m.sung.length Ax0.sc) ∧ X.cell? ⟨wx0.heap.size, 4, none⟩ = some (.bool m.done)))
    (first | exact KS _ b8 | exact KS _ b7b | exact KS _ bd)
    (first
      | (go_at_call 29; refine (hTo2 _ bd).mono ?_; rintro e t0 ⟨A7, rfl, i7, hb7⟩; have b7b : Below we.heap.size we t0 := bd.trans (hb7.mono bd.size))
      | (go_at_call 31; refine (hEq2 t0 A7 b7b ⟨_, _, i7⟩).mono ?_; rintro e u0 ⟨rfl, hb8⟩; have b8 : Below we.heap.size we u0 := b7b.trans (hb8.mono b7b.size)))
  clear KS bd hTo2 hEq2 i7 hb7 b7b hb8
  have B39 : Below w.heap.size w u0 := B33.trans (b8.mono B33.size)
  have sB39 : we.heap.size ≤ u0.heap.size := b8.size
  have h40 := h34.below b8
  have h41 := h35.below b8
  have h42 := h36.below b8
  have h43 := h37.below b8
  have h44 := h38.below b8
  clear B33 h34 h35 h36 h37 h38
  obtain ⟨c450, c451, c452, c453, c454⟩ := Bx.r5 h43
  go_wp2_with fail
  refine (hMM0 u0 _ _ _ h42 (by omega) (by omega)).mono ?_
  rintro e wq0 ⟨rfl, _, hwq0⟩
  clear c450 c451 c452 c453 c454
  have sB46 : u0.heap.size ≤ wq0.heap.size := hwq0.size
  have B46 : Below w.heap.size w wq0 := below_iv hwq0 B39 B39.size (by omega)
  have h47 := h40.iv hwq0 (by omega)
  have h48 := h41.far hwq0 (by omega)
  have h49 := h43.iv hwq0 (by omega)
  have h50 := h44.far hwq0 (by omega)
  clear B39 h42 h40 h41 h43 h44
  go_wp2_with fail
  refine (hEz wq0 _ _ _ _ h50 h48).mono ?_
  rintro e wo ⟨rfl, hbwo⟩
  have B51 : Below w.heap.size w wo := B46.trans (hbwo.mono B46.size)
  have sB51 : wq0.heap.size ≤ wo.heap.size := hbwo.size
  have h52 := h47.below hbwo
  have h53 := h48.below hbwo
  have h54 := h49.below hbwo
  have h55 := h50.below hbwo
  clear B46 h47 h48 h49 h50
  go_wp2_with fail
  refine (hMz wo _ _ _ _ h55 (by omega) (by omega)).mono ?_
  rintro e wm ⟨rfl, im, hwm⟩
  have sB56 : wo.heap.size ≤ wm.heap.size := hwm.size
  have B56 : Below w.heap.size w wm := below_iv hwm B51 B51.size (by omega)
  have h57 := h52.iv hwm (by omega)
  have h58 := h53.far hwm (by omega)
  have h59 := h54.iv hwm (by omega)
  clear B51 h52 h53 h54 h55
  go_wp2_with fail
  refine (hHz wm _ _ _ _ im).mono ?_
  rintro e wh ⟨rfl, hbh⟩
  have B60 : Below w.heap.size w wh := B56.trans (hbh.mono B56.size)
  have sB60 : wm.heap.size ≤ wh.heap.size := hbh.size
  have h61 := h57.below hbh
  have h62 := h58.below hbh
  have h63 := h59.below hbh
  have h64 := im.below hbh
  clear B56 h57 h58 h59 im
  obtain ⟨c650, c651, c652, c653, c654⟩ := Bx.r5 h61
  go_wp2_with fail
  refine (hT0 wh B60).mono ?_
  rintro e h0 ⟨Ah0, rfl, ih0, hbh0⟩
  clear c650 c651 c652 c653 c654
  have B66 : Below w.heap.size w h0 := B60.trans (hbh0.mono B60.size)
  have sB66 : wh.heap.size ≤ h0.heap.size := hbh0.size
  have h67 := h61.below hbh0
  have h68 := h62.below hbh0
  have h69 := h63.below hbh0
  have h70 := h64.below hbh0
  clear B60 h61 h62 h63 h64
  go_wp2_with fail
  refine (hI2 h0 _ ih0).mono ?_
  rintro e wj ⟨ah, ch, rfl, ih, hbh⟩
  have B71 : Below w.heap.size w wj := B66.trans (hbh.mono B66.size)
  have sB71 : h0.heap.size ≤ wj.heap.size := hbh.size
  have h72 := h67.below hbh
  have h73 := h68.below hbh
  have h74 := h69.below hbh
  have h75 := h70.below hbh
  have h76 := ih0.below hbh
  clear B66 h67 h68 h69 h70 ih0
  clear h76
  go_wp2_with fail
  refine (hEz wj _ _ _ _ ih h73).mono ?_
  rintro e wk ⟨rfl, hbwk⟩
  have B77 : Below w.heap.size w wk := B71.trans (hbwk.mono B71.size)
  have sB77 : wj.heap.size ≤ wk.heap.size := hbwk.size
  have h78 := h72.below hbwk
  have h79 := h73.below hbwk
  have h80 := h74.below hbwk
  have h81 := h75.below hbwk
  have h82 := ih.below hbwk
  clear B71 h72 h73 h74 h75 ih
  go_wp2_with fail
  refine (hHz wk _ _ _ _ h81).mono ?_
  rintro e wl ⟨rfl, hbl⟩
  have B83 : Below w.heap.size w wl := B77.trans (hbl.mono B77.size)
  have sB83 : wk.heap.size ≤ wl.heap.size := hbl.size
  have h84 := h78.below hbl
  have h85 := h79.below hbl
  have h86 := h80.below hbl
  have h87 := h81.below hbl
  have h88 := h82.below hbl
  clear B77 h78 h79 h80 h81 h82
  go_wp2
  go_ret
  exact ⟨rfl, B83⟩
end Go.Proofs.Ytgfeabgmllkdeaa

/-
  How a row that comes in is read: out of its eight cells.
-/
namespace Go.Proofs.Ytgfeabgmllkdeaa
set_option linter.unusedVariables false
set_option linter.unusedSimpArgs false
open Go.ChangeShapes Go.WideShapes Go.ChangeAt Go.RowKit Go.Deep

section
variable {H : Type} {enc : TypeId × Value → H} {P : Program} {W : World} {base : Nat} {held : Bool}
/-- A field of one cell of a struct that reads. -/
theorem field_of {t : TypeId} {fs : Array Field} {fuel : Nat} {cs : List Value} {x : DataW H × List MemPlace} (ht : P.underlying t = some (.struct fs)) (hone : oneCellFields P fs = true) (h : DataW.trod enc P W base (fun _ => true) held fuel t cs = some x) :
    cs.length = P.cellsOf t ∧ ∃ n, ∀ (i : Nat) (f : Field) (c : Value), fs[i]? = some f → cs[i]? = some c → ∃ y, DataW.trod enc P W base (fun _ => true) held n f.type [c] = some y := by
  obtain ⟨xs, n, _, rfl, hl, hlen, hf⟩ := DataW.trod_struct ht h
  refine ⟨hl, n, fun i f c hi hc => ?_⟩
  obtain ⟨o, k⟩ := hone_of hone i f hi
  have h1 := hf i f hi
  have hix : i < xs.length := by
    rw [hlen]
    exact (Array.getElem?_eq_some_iff.1 hi).1
  have e : (cs.drop i).take 1 = [c] := by
    have hic := (List.getElem?_eq_some_iff.1 hc).1
    have hcc := (List.getElem?_eq_some_iff.1 hc).2
    rw [List.drop_eq_getElem_cons hic, hcc]
    rfl
  rw [o, k, e, List.getElem?_eq_getElem hix] at h1
  exact ⟨_, h1⟩
/-- A cell that reads as a list of numbers. -/
theorem ints_of {t e : TypeId} {fuel : Nat} {c : Value} {y : DataW H × List MemPlace} (ht : P.underlying t = some (.slice e)) (he : P.underlying e = some (.int .i64)) (hc : P.cellsOf e = 1) (h : DataW.trod enc P W base (fun _ => true) held fuel t [c] = some y) :
    ∃ a cap M, c = .slice a (List.length M) cap ∧ Vec W a (List.length M) M ∧ List.length M ≤ maxLen := by
  obtain ⟨a, len, cap, z, rfl, hw⟩ : ∃ a len cap zs, c = .slice a len cap ∧ IsRow .i64 W a len cap zs := by
    rcases open_ints ht he hc h with ⟨hcs, _⟩ | ⟨x, l, c, zs, hcs, _, hl, hm, hz, _, hcell, hwz⟩
    · simp at hcs
      exact ⟨none, 0, 0, [], hcs, .inl ⟨rfl, rfl, rfl, rfl⟩⟩
    · simp at hcs
      exact ⟨some x, l, c, zs, hcs, .inr ⟨_, rfl, hl, hm, by simpa using hz, hcell, hwz⟩⟩
  rcases hw with ⟨rfl, rfl, rfl, rfl⟩ | ⟨ad, rfl, hl, hm, hz, hcell, hwz⟩
  · exact ⟨none, 0, [], rfl, ⟨rfl, fun x hx => absurd hx List.not_mem_nil, .inl rfl⟩, Nat.zero_le _⟩
  · have hz' : z.length = cap := by simpa using hz
    have hlen : (z.take len).length = len := by rw [List.length_take]; omega
    have hfit : Fits (z.take len) := fun n hn => bounds_i64 (hwz n (List.mem_of_mem_take hn))
    refine ⟨some ad, cap, z.take len, by rw [hlen], ⟨rfl, hfit, ?_⟩, by rw [hlen]; exact Nat.le_trans hl hm⟩
    rcases Nat.eq_zero_or_pos len with e | e
    · exact .inl (by omega)
    · obtain ⟨b, off, spot⟩ := ad
      have hs : spot = none := by
        have := hcell 0 (by omega)
        simpa [Addr.add] using World.cell?_spot this
      subst hs
      refine .inr ⟨b, off, rfl, fun i hi => ?_⟩
      have h1 := hcell i (by omega)
      rw [add_lit0] at h1
      rw [h1]
      simp [el, List.getD, List.getElem?_take_of_lt (show i < len by omega)]
theorem str_short16 {s : ByteArray} (h : s.size ≤ maxLen) : s.data.toList.length ≤ 9223372036854775807 := by
  have e : s.data.toList.length = s.size := by rw [Array.length_toList]; rfl
  rw [e]
  unfold maxLen at h
  exact h
end
theorem list8 {α : Type} {l : List α} (h : l.length = 8) : ∃ c0 c1 c2 c3 c4 c5 c6 c7, l = [c0, c1, c2, c3, c4, c5, c6, c7] := by
  match l, h with
  | [c0, c1, c2, c3, c4, c5, c6, c7], _ => exact ⟨c0, c1, c2, c3, c4, c5, c6, c7, rfl⟩
end Go.Proofs.Ytgfeabgmllkdeaa

/-
  How a member that comes in is read.
-/
namespace Go.Proofs.Ytgfeabgmllkdeaa
set_option linter.unusedVariables false
set_option linter.unusedSimpArgs false
open Go.ChangeShapes Go.WideShapes Go.ChangeAt Go.RowKit Go.Deep

theorem vw_of_txs {w : World} {a : Option Addr} {c : Nat} {T : List (List UInt8)} (h : TxS w a T) (h1 : T.length ≤ c) (h2 : c ≤ maxLen) : Cel.vw w (scl T) (.slice a T.length c) := by
  refine ⟨a, c, _, rfl, h1, h2, by rw [svs_len]; omega, ?_, vwL_pl.2 rfl⟩
  rcases h with h0 | ⟨b, off, ha, hc⟩
  · exact .inl h0
  · refine .inr ⟨b, off, ha, fun i hi => ?_⟩
    rw [svs_get (by omega)]
    exact hc i (by omega)
/-- A list of structs, to be read, out of its elements. -/
theorem vw_lcl_of {α : Type} {F : α → List Cel} {s : Nat} {w : World} {b off : Nat} (R : Nat → α) (V : Nat → List Value) : ∀ n, (∀ i, i < n → (V i).length = s ∧ (∀ j, j < s → w.cell? ⟨b, off + i * s + j, none⟩ = (V i)[j]?) ∧ vwL w (F (R i)) (V i)) →
    ∃ us : List Value, us.length = n * s ∧ (∀ j, j < n * s → w.cell? ⟨b, off + j, none⟩ = us[j]?) ∧ vwL w (((List.range n).map R).flatMap F) us
  | 0, _ => ⟨[], by simp, fun j hj => by omega, rfl⟩
  | n + 1, h => by
    obtain ⟨us, h1, h2, h3⟩ := vw_lcl_of R V n (fun i hi => h i (by omega))
    obtain ⟨k1, k2, k3⟩ := h n (by omega)
    have hm : (n + 1) * s = n * s + s := by rw [Nat.add_mul, Nat.one_mul]
    refine ⟨us ++ V n, by rw [List.length_append, h1, k1, hm], fun j hj => ?_, ?_⟩
    · rcases Nat.lt_or_ge j (n * s) with hj2 | hj2
      · rw [List.getElem?_append_left (by omega)]; exact h2 j hj2
      · rw [List.getElem?_append_right (by omega), h1]
        have := k2 (j - n * s) (by omega)
        rw [show off + n * s + (j - n * s) = off + j by omega] at this
        exact this
    · rw [List.range_succ, List.map_append, List.flatMap_append]
      refine vwL_append h3 ?_
      simpa using k3
section
variable {H : Type} {enc : TypeId × Value → H} {P : Program} {W : World} {base : Nat} {held : Bool}
/-- A cell that reads as a list of numbers. -/
theorem ints_ofC {t e : TypeId} {fuel : Nat} {c : Value} {y : DataW H × List MemPlace} (ht : P.underlying t = some (.slice e)) (he : P.underlying e = some (.int .i64)) (hc : P.cellsOf e = 1) (h : DataW.trod enc P W base (fun _ => true) held fuel t [c] = some y) :
    ∃ a cap M, c = .slice a (List.length M) cap ∧ Cel.vw W (icl M) (.slice a (List.length M) cap) ∧ Fits M ∧ List.length M ≤ maxLen := by
  obtain ⟨a, len, cap, z, rfl, hw⟩ : ∃ a len cap zs, c = .slice a len cap ∧ IsRow .i64 W a len cap zs := by
    rcases open_ints ht he hc h with ⟨hcs, _⟩ | ⟨x, l, c, zs, hcs, _, hl, hm, hz, _, hcell, hwz⟩
    · simp at hcs
      exact ⟨none, 0, 0, [], hcs, .inl ⟨rfl, rfl, rfl, rfl⟩⟩
    · simp at hcs
      exact ⟨some x, l, c, zs, hcs, .inr ⟨_, rfl, hl, hm, by simpa using hz, hcell, hwz⟩⟩
  rcases hw with ⟨rfl, rfl, rfl, rfl⟩ | ⟨ad, rfl, hl, hm, hz, hcell, hwz⟩
  · exact ⟨none, 0, [], rfl, vw_of_vec ⟨rfl, fun x hx => absurd hx List.not_mem_nil, .inl rfl⟩ (Nat.le_refl _) (Nat.zero_le _), fun x hx => absurd hx List.not_mem_nil, Nat.zero_le _⟩
  · have hz' : z.length = cap := by simpa using hz
    have hlen : (z.take len).length = len := by rw [List.length_take]; omega
    have hfit : Fits (z.take len) := fun n hn => bounds_i64 (hwz n (List.mem_of_mem_take hn))
    refine ⟨some ad, cap, z.take len, by rw [hlen], vw_of_vec ⟨rfl, hfit, ?_⟩ (by rw [hlen]; exact hl) hm, hfit, by rw [hlen]; exact Nat.le_trans hl hm⟩
    rcases Nat.eq_zero_or_pos len with e | e
    · exact .inl (by omega)
    · obtain ⟨b, off, spot⟩ := ad
      have hs : spot = none := by
        have := hcell 0 (by omega)
        simpa [Addr.add] using World.cell?_spot this
      subst hs
      refine .inr ⟨b, off, rfl, fun i hi => ?_⟩
      have h1 := hcell i (by omega)
      rw [add_lit0] at h1
      rw [h1]
      simp [el, List.getD, List.getElem?_take_of_lt (show i < len by omega)]
/-- A cell that reads as a list of texts. -/
theorem txts_ofC {t e : TypeId} {fuel : Nat} {c : Value} {y : DataW H × List MemPlace} (ht : P.underlying t = some (.slice e)) (he : P.underlying e = some .string) (hc : P.cellsOf e = 1) (h : DataW.trod enc P W base (fun _ => true) held fuel t [c] = some y) :
    ∃ a cap T, c = .slice a (List.length T) cap ∧ Cel.vw W (scl T) (.slice a (List.length T) cap) ∧ LongT T ∧ List.length T ≤ maxLen := by
  rcases open_strs ht he hc h with ⟨hcs, _⟩ | ⟨ad, len, cap, m, S, hcs, _, hl, hm, hmm, _, hx⟩
  · simp at hcs
    subst hcs
    exact ⟨none, 0, [], rfl, vw_of_txs (.inl rfl) (Nat.le_refl _) (Nat.zero_le _), fun i hi => absurd hi (Nat.not_lt_zero _), Nat.zero_le _⟩
  · simp at hcs
    subst hcs
    have hlm : len ≤ m := by rw [hmm]; split <;> omega
    have hlen : ((List.range len).map fun r => (S r).data.toList).length = len := by simp
    have hget : ∀ i, i < len → ((List.range len).map fun r => (S r).data.toList).getD i [] = (S i).data.toList := fun i hi => by simp [List.getD, hi]
    refine ⟨some ad, cap, (List.range len).map fun r => (S r).data.toList, by rw [hlen], vw_of_txs ?_ (by rw [hlen]; exact hl) hm, fun i hi => ?_, by rw [hlen]; exact Nat.le_trans hl hm⟩
    · by_cases h0 : len = 0
      · exact .inl (by rw [hlen]; exact h0)
      · obtain ⟨b, off, spot⟩ := ad
        have hs : spot = none := by
          have := (hx 0 (by omega)).1
          simpa [Addr.add] using World.cell?_spot this
        subst hs
        refine .inr ⟨b, off, rfl, fun i hi => ?_⟩
        rw [hlen] at hi
        rw [hget i hi]
        have hc := (hx i (by omega)).1
        rw [add_lit0] at hc
        rw [hc, ← sv_of]
    · rw [hlen] at hi
      rw [hget i hi]
      exact str_short16 (hx i (by omega)).2
end
set_option maxRecDepth 100000 in
/-- Eight cells that read as a row. -/
theorem row_ofC {H : Type} {enc : TypeId × Value → H} {W : World} {base fuel : Nat} {held : Bool} {cs : List Value} {x : DataW H × List MemPlace} (h : DataW.trod enc Try.prog W base (fun _ => true) held fuel 52 cs = some x) :
    ∃ r, cs.length = 8 ∧ vwL W (rw8 r) cs ∧ FitR r ∧ LongT r.txt ∧ Rw64 r := by
  obtain ⟨hl, n, hf⟩ := field_of Try.underlying52 (by kernel_rfl) h
  rw [show Try.prog.cellsOf 52 = 8 by kernel_rfl] at hl
  obtain ⟨c0, c1, c2, c3, c4, c5, c6, c7, rfl⟩ := list8 hl
  obtain ⟨y0, g0⟩ := hf 0 _ c0 rfl rfl
  obtain ⟨y1, g1⟩ := hf 1 _ c1 rfl rfl
  obtain ⟨y2, g2⟩ := hf 2 _ c2 rfl rfl
  obtain ⟨y3, g3⟩ := hf 3 _ c3 rfl rfl
  obtain ⟨y4, g4⟩ := hf 4 _ c4 rfl rfl
  obtain ⟨y5, g5⟩ := hf 5 _ c5 rfl rfl
  obtain ⟨y6, g6⟩ := hf 6 _ c6 rfl rfl
  obtain ⟨y7, g7⟩ := hf 7 _ c7 rfl rfl
  obtain ⟨i0, e0, _, b0⟩ := DataW.trod_int Try.underlying2 g0
  obtain ⟨a1, d1, T, rfl, t1, t2, t3⟩ := txts_ofC Try.underlying50 Try.underlying9 (by kernel_rfl) g1
  obtain ⟨a2, d2, M2, rfl, u2, v2, _⟩ := ints_ofC Try.underlying24 Try.underlying2 (by kernel_rfl) g2
  obtain ⟨a3, d3, M3, rfl, u3, v3, _⟩ := ints_ofC Try.underlying24 Try.underlying2 (by kernel_rfl) g3
  obtain ⟨z4, e4, _⟩ := DataW.trod_bool Try.underlying4 g4
  obtain ⟨z5, e5, _⟩ := DataW.trod_bool Try.underlying4 g5
  obtain ⟨i6, e6, _, b6⟩ := DataW.trod_int Try.underlying2 g6
  obtain ⟨a7, d7, M7, rfl, u7, v7, _⟩ := ints_ofC Try.underlying24 Try.underlying2 (by kernel_rfl) g7
  simp at e0 e4 e5 e6
  subst e0 e4 e5 e6
  exact ⟨⟨i0, T, M2, M3, z4, z5, i6, M7⟩, rfl, ⟨_, _, rfl, rfl, _, _, rfl, t1, _, _, rfl, u2, _, _, rfl, u3, _, _, rfl, rfl, _, _, rfl, rfl, _, _, rfl, rfl, _, _, rfl, u7, rfl⟩, ⟨v2, v3, v7⟩, t2, ⟨bounds_i64 b0, bounds_i64 b6⟩⟩
set_option maxRecDepth 100000 in
/-- A cell that reads as a list of rows. -/
theorem rows_of {H : Type} {enc : TypeId × Value → H} {W : World} {base fuel : Nat} {held : Bool} {c : Value} {y : DataW H × List MemPlace} (h : DataW.trod enc Try.prog W base (fun _ => true) held fuel 33 [c] = some y) :
    ∃ a cap R, c = .slice a (List.length R) cap ∧ Cel.vw W (lcl 8 rw8 R) (.slice a (List.length R) cap) ∧ (∀ r ∈ R, FitR r ∧ LongT r.txt ∧ Rw64 r) ∧ List.length R ≤ maxLen := by
  rcases open_slice Try.underlying33 h with ⟨h0, _⟩ | ⟨ad, len, cap, m, n, D, Pl, hcs, _, hl, hm, hmm, _, hx⟩
  · simp at h0
    subst h0
    exact ⟨none, 0, [], rfl, ⟨none, 0, [], rfl, Nat.le_refl _, Nat.zero_le _, rfl, .inl rfl, rfl⟩, fun r hr => absurd hr List.not_mem_nil, Nat.zero_le _⟩
  · simp at hcs
    subst hcs
    have hlm : len ≤ m := by rw [hmm]; split <;> omega
    have ce : Try.prog.cellsOf 52 = 8 := by kernel_rfl
    by_cases h0 : len = 0
    · subst h0
      exact ⟨some ad, cap, [], rfl, ⟨some ad, cap, [], rfl, hl, hm, rfl, .inl rfl, rfl⟩, fun r hr => absurd hr List.not_mem_nil, Nat.zero_le _⟩
    obtain ⟨b, off, spot⟩ := ad
    have each : ∀ i, i < len → ∃ q : List Value × Rw, (q.1.length = 8 ∧ (∀ j, j < 8 → W.cell? ((⟨b, off, spot⟩ : Addr).add (i * 8 + j)) = q.1[j]?) ∧ vwL W (rw8 q.2) q.1) ∧ FitR q.2 ∧ LongT q.2.txt ∧ Rw64 q.2 := by
      intro i hi
      obtain ⟨cs', h1, h2⟩ := hx i (by omega)
      rw [ce] at h1
      obtain ⟨_, hlen, hcell⟩ := World.cells?_some h1
      obtain ⟨r, e8, hv, hf, hg, h6⟩ := row_ofC h2
      refine ⟨(cs', r), ⟨e8, fun j hj => ?_, hv⟩, hf, hg, h6⟩
      have := hcell j hj
      rw [add_add] at this
      exact this
    have hs : spot = none := by
      obtain ⟨q, ⟨h1, h2, _⟩, _⟩ := each 0 (by omega)
      have := h2 0 (by omega)
      rw [List.getElem?_eq_getElem (by omega)] at this
      simpa [Addr.add] using World.cell?_spot this
    subst hs
    haveI : Inhabited (List Value × Rw) := ⟨([], zeroRw)⟩
    obtain ⟨q, hq⟩ := choose_lt each
    obtain ⟨us, u1, u2, u3⟩ := vw_lcl_of (F := rw8) (s := 8) (w := W) (b := b) (off := off) (fun i => (q i).2) (fun i => (q i).1) len (fun i hi => ⟨(hq i hi).1.1, fun j hj => by have := (hq i hi).1.2.1 j hj; rw [add_lit0, ← Nat.add_assoc] at this; exact this, (hq i hi).1.2.2⟩)
    have hlen : ((List.range len).map (fun i => (q i).2)).length = len := by simp
    refine ⟨some ⟨b, off, none⟩, cap, (List.range len).map (fun i => (q i).2), by rw [hlen], ?_, fun r hr => ?_, by rw [hlen]; exact Nat.le_trans hl hm⟩
    · unfold lcl
      rw [hlen]
      exact ⟨_, cap, us, rfl, hl, hm, u1, .inr ⟨b, off, rfl, u2⟩, u3⟩
    · obtain ⟨i, hi, rfl⟩ := List.mem_map.1 hr
      exact (hq i (List.mem_range.1 hi)).2
theorem list5 {α : Type} {l : List α} (h : l.length = 5) : ∃ c0 c1 c2 c3 c4, l = [c0, c1, c2, c3, c4] := by
  match l, h with
  | [c0, c1, c2, c3, c4], _ => exact ⟨c0, c1, c2, c3, c4, rfl⟩
set_option maxRecDepth 100000 in
/-- Five cells that read as a member. -/
theorem mb_of {H : Type} {enc : TypeId × Value → H} {W : World} {base fuel : Nat} {held : Bool} {cs : List Value} {x : DataW H × List MemPlace} (h : DataW.trod enc Try.prog W base (fun _ => true) held fuel 35 cs = some x) :
    ∃ A m, cs = (mbC A m).toList ∧ MbS W A m ∧ (∀ r ∈ m.rows, LongT r.txt) ∧ Mb64 m := by
  obtain ⟨hl, n, hf⟩ := field_of Try.underlying35 (by kernel_rfl) h
  rw [show Try.prog.cellsOf 35 = 5 by kernel_rfl] at hl
  obtain ⟨c0, c1, c2, c3, c4, rfl⟩ := list5 hl
  obtain ⟨y0, g0⟩ := hf 0 _ c0 rfl rfl
  obtain ⟨y1, g1⟩ := hf 1 _ c1 rfl rfl
  obtain ⟨y2, g2⟩ := hf 2 _ c2 rfl rfl
  obtain ⟨y3, g3⟩ := hf 3 _ c3 rfl rfl
  obtain ⟨y4, g4⟩ := hf 4 _ c4 rfl rfl
  obtain ⟨i0, e0, _, b0⟩ := DataW.trod_int Try.underlying2 g0
  obtain ⟨i1, e1, _, b1⟩ := DataW.trod_int Try.underlying2 g1
  obtain ⟨a2, d2, R, rfl, t1, t2, t3⟩ := rows_of g2
  obtain ⟨a3, d3, M3, rfl, u3, v3⟩ := ints_of Try.underlying24 Try.underlying2 (by kernel_rfl) g3
  obtain ⟨z4, e4, _⟩ := DataW.trod_bool Try.underlying4 g4
  simp at e0 e1 e4
  subst e0 e1 e4
  exact ⟨⟨a2, d2, a3, d3⟩, ⟨i0, i1, R, M3, z4⟩, rfl, ⟨t1, u3, t3, v3, fun r hr => (t2 r hr).1⟩, fun r hr => (t2 r hr).2.1, bounds_i64 b0, bounds_i64 b1, fun r hr => (t2 r hr).2.2⟩
set_option maxRecDepth 100000 in
theorem open_mem {H : Type} {enc : TypeId × Value → H} {W : World} {base : Nat} {v : Value} {d : DataW H} {p : List MemPlace} (hv : Value.okWide Try.prog W .any base 35 v) (h : DataW.Trod enc Try.prog W 0 (fun _ => true) true 35 v d p) :
    ∃ A m, v = mbV A m ∧ MbS W A m ∧ (∀ r ∈ m.rows, LongT r.txt) ∧ Mb64 m := by
  obtain ⟨cs, rfl, hsz⟩ := okWide_struct Try.underlying35 hv
  obtain ⟨fuel, hf⟩ := h
  obtain ⟨A, m, e, h1, h2, h3⟩ := mb_of hf
  have e' : cs.toList = (mbC A m).toList := by simpa [Value.cells] using e
  exact ⟨A, m, by rw [mbV, Array.toList_inj.1 e'], h1, h2, h3⟩
end Go.Proofs.Ytgfeabgmllkdeaa

/-
  Giving up: the program's want and isAsTold.
-/
namespace Go.Proofs.Ytgfeabgmllkdeaa
set_option linter.unusedVariables false
set_option linter.unusedSimpArgs false
open Go.RowKit Go.Sort

/-- A function gave up. -/
def Gu (e : Ending) : Prop := ∃ T v, e = .panicked [{ v := .iface T v, recovered := false }]
set_option maxHeartbeats 400000 in
theorem wantT (w : World) : Calls Try.prog 104 #[.bool true] w fun e w' => e = .returned (.tuple #[]) ∧ w' = w := by
  have hnot : ∀ (x : Bool) (w : World), (Op.unary .not (.bool x)).run Try.prog w = .ok (.bool (!x)) w := fun _ _ => rfl
  go_enter Try.func104, Try.ntmps104
  go_wp2
  first | go_end0 | go_ret
  exact ⟨rfl, rfl⟩
set_option maxHeartbeats 400000 in
theorem wantF (w : World) : Calls Try.prog 104 #[.bool false] w fun e w' => Gu e ∧ w' = w := by
  go_enter Try.func104, Try.ntmps104
  go_wp2
  exact ⟨rfl, ⟨_, _, rfl⟩, rfl⟩
theorem tellP (p : Addr) (x : Value) (u : TypeId) (pv : Value) (older : List PanicEntry) (w : World) (hc : w.cell? p = some x) (hz : w.frozen? p = false) :
    CallsD Try.prog 103 #[.pointer (some p)] (.panicking ({ v := .iface u pv, recovered := false } :: older)) w fun e u' w' =>
      e = .returned (.tuple #[]) ∧ u' = .panicking ({ v := .iface u pv, recovered := true } :: older) ∧ w' = w.setCell p (.bool false) := by
  refine callsD_of_wpS Try.func103 rfl fun c₀ cs hu => ?_
  apply wpS_region
  simp [wpOpsS, go_sem, recoverD, hu, Try.ntmps103, hc, hz, bodyPostS, results, Try.results103]
theorem tellR (p : Addr) (x : Value) (w : World) (hc : w.cell? p = some x) (hz : w.frozen? p = false) :
    CallsD Try.prog 103 #[.pointer (some p)] .returning w fun e u' w' => e = .returned (.tuple #[]) ∧ u' = .returning ∧ w' = w.setCell p (.bool true) := by
  refine callsD_of_wpS Try.func103 rfl fun c₀ cs hu => ?_
  apply wpS_region
  simp [wpOpsS, go_sem, recoverD, hu, Try.ntmps103, hc, hz, bodyPostS, results, Try.results103]
  cases c₀
  simp_all
set_option maxRecDepth 100000 in
set_option maxHeartbeats 800000 in
/-- isAsTold, whatever work is handed over: whether it gave up. -/
theorem told_any (F : Nat) (C D : Array Value) (w : World) (Q : Bool → World → Prop) (hE : ∀ (args : Array Value) (w : World), (callFunc F args).run Try.prog w = .ok (.enter F args) w)
    (h : Calls Try.prog F (C ++ D) (w.alloc (.cells #[.bool false] 4)) fun e w' => (e = .returned (.tuple #[]) ∧ Q true w') ∨ (Gu e ∧ Q false w')) (hq : ∀ b w', Q b w' → Bx w' w.heap.size 4 #[.bool false]) :
    Calls Try.prog 75 #[.func (.func F) C D] w fun e w' => ∃ b X, e = .returned (.bool b) ∧ Q b X ∧ Wrt (fun x => x = w.heap.size) X w' := by
  have hmf : ∀ (fn : Fn) (first cap : Array Value) (w : World), (Instr.makeFunc fn first cap).run Try.prog w = .ok (.func fn first cap) w := fun _ _ _ _ => rfl
  have HQ : Hid (∀ b w', Q b w' → Bx w' w.heap.size 4 #[.bool false]) := hq
  clear hq
  go_enter_defers Try.func75, Try.ntmps75
  go_wp2_with fail
  refine h.mono ?_
  rintro e w1 (⟨rfl, hQ⟩ | ⟨⟨T, v, rfl⟩, hQ⟩)
  · have hx := HQ.out _ _ hQ
    have c0 := hx.at 0 (v := .bool false) rfl
    have f0 := hx.f 0
    have HQ1 : Hid (Q true w1) := hQ
    clear hQ h hx
    go_wp2
    refine leaves_cons (f := 103) (args := #[.pointer (some ⟨w.heap.size, 0, none⟩)]) (by simp) (by simp [go_sem]) ?_
    refine (tellR ⟨w.heap.size, 0, none⟩ (.bool true) _ (World.cell?_setCell_same _ _ _ c0) (by rw [World.frozen?_setCell]; exact f0)).mono ?_
    rintro e u' w'' ⟨rfl, rfl, rfl⟩
    have hc : ((w1.setCell ⟨w.heap.size, 0, none⟩ (.bool true)).setCell ⟨w.heap.size, 0, none⟩ (.bool true)).cell? ⟨w.heap.size, 0, none⟩ = some (.bool true) := World.cell?_setCell_same _ _ _ (World.cell?_setCell_same _ _ _ c0)
    have hW := (Wrt.set w1 w.heap.size 0 (.bool true)).trans (Wrt.set (w1.setCell ⟨w.heap.size, 0, none⟩ (.bool true)) w.heap.size 0 (.bool true)) (fun _ _ h => h)
    generalize (w1.setCell ⟨w.heap.size, 0, none⟩ (.bool true)).setCell ⟨w.heap.size, 0, none⟩ (.bool true) = W2 at *
    refine ⟨.bool true, by simp [results, Try.results75, go_sem, hc], true, w1, rfl, HQ1.out, hW⟩
  · have hx := HQ.out _ _ hQ
    have c0 := hx.at 0 (v := .bool false) rfl
    have f0 := hx.f 0
    have HQ1 : Hid (Q false w1) := hQ
    clear hQ h hx
    simp only
    refine leaves_cons (f := 103) (args := #[.pointer (some ⟨w.heap.size, 0, none⟩)]) (by simp) (by simp [go_sem]) ?_
    refine (tellP ⟨w.heap.size, 0, none⟩ (.bool false) T v [] _ c0 f0).mono ?_
    rintro e u' w'' ⟨rfl, rfl, rfl⟩
    have hc : (w1.setCell ⟨w.heap.size, 0, none⟩ (.bool false)).cell? ⟨w.heap.size, 0, none⟩ = some (.bool false) := World.cell?_setCell_same _ _ _ c0
    have hW := Wrt.set w1 w.heap.size 0 (.bool false)
    generalize w1.setCell ⟨w.heap.size, 0, none⟩ (.bool false) = W2 at *
    refine ⟨.bool false, by simp [results, Try.results75, go_sem, hc], false, w1, rfl, HQ1.out, hW⟩
end Go.Proofs.Ytgfeabgmllkdeaa

/-
  The program's isWithin, risesWithin, slices.Index and slices.Contains; ViewOk, Leader, Rank and Majority of views.
-/
namespace Go.Proofs.Ytgfeabgmllkdeaa
set_option linter.unusedVariables false
set_option linter.unusedSimpArgs false
open Go.RowKit Go.Sort

set_option maxHeartbeats 400000 in
theorem isW14_any (n last : Int) (w : World) : Calls Try.prog 106 #[.int .i64 n, .int .i64 last] w fun e w' => e = .returned (.bool (inB n 0 last)) ∧ w' = w := by
  by_cases h0 : (0 : Int) ≤ n
  · have H : Hid (inB n 0 last = decide (n ≤ last)) := by rw [Hid, inB]; simp [h0]
    go_enter Try.func106, Try.ntmps106
    go_wp2
    go_ret
    exact ⟨ret_bool (by rw [H.out]), rfl⟩
  · have H : Hid (inB n 0 last = false) := by rw [Hid, inB]; simp [h0]
    go_enter Try.func106, Try.ntmps106
    go_wp2
    go_ret
    exact ⟨ret_bool (by rw [H.out]), rfl⟩
set_option maxHeartbeats 800000 in
theorem rw14_any (a : Option Addr) (len cap : Nat) (B : Int) (xs : List Int) (w : World) (hv : Vec w a len xs) (hm : len ≤ maxLen) :
    Calls Try.prog 109 #[.slice a len cap, .int .i64 (B - 1)] w fun e w' => e = .returned (.bool (decide (okRow B xs))) ∧ w' = w := by
  unfold maxLen at hm
  have HL : Hid (xs.length = len) := hv.1
  have hc := hv.2.2
  clear hv
  go_enter Try.func109, Try.ntmps109
  go_wp2
  go_loop [9] (fun i => ∃ k : Nat, k ≤ len ∧ i = .int .i64 k ∧ (∀ j, j < k → 0 ≤ el xs j ∧ el xs j ≤ B - 1) ∧ ∀ j, j + 1 < k → el xs j < el xs (j + 1)) (fun i => len - (intOf i).toNat)
  case atStart => exact ⟨0, Nat.zero_le _, rfl, fun j hj => by omega, fun j hj => by omega⟩
  case round =>
    obtain ⟨k, hk, rfl, hin, hri⟩ := hrel
    have HI : Hid (∀ j, j < k → 0 ≤ el xs j ∧ el xs j ≤ B - 1) := hin
    have HR : Hid (∀ j, j + 1 < k → el xs j < el xs (j + 1)) := hri
    clear hin hri
    by_cases hlt : k < len
    · rcases hc with h0 | ⟨b, off, rfl, hc⟩
      · omega
      have hck := hc k hlt
      have k0 : (0 : Int) ≤ (k : Int) := by omega
      have k1 : (k : Int) < (len : Int) := by omega
      cases e4 : inB (el xs k) 0 (B - 1) with
      | false =>
        have HF : Hid (decide (okRow B xs) = false) := decide_eq_false (fun h => by
          have := h.1 k (by rw [HL.out]; exact hlt)
          rw [inB7.2 this] at e4
          cases e4)
        go_wp2_with (go_at_call 106; refine (isW14_any _ _ _).mono ?_; rintro e w' ⟨rfl, hw'⟩; rw [hw']; clear hw')
        go_ret
        exact ⟨ret_bool (by rw [HF.out]), rfl⟩
      | true =>
        have HX : Hid (0 ≤ el xs k ∧ el xs k ≤ B - 1) := inB7.1 e4
        by_cases hk0 : 0 < k
        · obtain ⟨q, rfl⟩ : ∃ q, k = q + 1 := ⟨k - 1, by omega⟩
          have hcq := hc q (by omega)
          have hg : decide (((q + 1 : Nat) : Int) > 0) = true := decide_eq_true (by omega)
          have g0 : (0 : Int) < ((q + 1 : Nat) : Int) := by omega
          have hq : wrap64 (((q + 1 : Nat) : Int) - 1) = (q : Int) := by unfold wrap64; omega
          have q0 : (0 : Int) ≤ (q : Int) := by omega
          have q1 : (q : Int) < (len : Int) := by omega
          by_cases hx : el xs q < el xs (q + 1)
          · have hd : decide (el xs (q + 1) ≤ el xs q) = false := by simp; omega
            have HY : Hid (el xs q < el xs (q + 1)) := hx
            clear hx
            go_wp2_with (go_at_call 106; refine (isW14_any _ _ _).mono ?_; rintro e w' ⟨rfl, hw'⟩; rw [hw']; clear hw')
            go_round
            case rel => exact ⟨q + 1 + 1, by omega, by go_num, fun j hj => by
              rcases Nat.lt_succ_iff_lt_or_eq.1 hj with h | h
              · exact HI.out j h
              · rw [h]; exact HX.out, fun j hj => by
              rcases Nat.lt_succ_iff_lt_or_eq.1 hj with h | h
              · exact HR.out j h
              · have : j = q := by omega
                rw [this]; exact HY.out⟩
            case measure => simp [intOf]; omega
          · have hd : decide (el xs (q + 1) ≤ el xs q) = true := by simp; omega
            have HF : Hid (decide (okRow B xs) = false) := decide_eq_false (fun h => hx (h.2 q (by rw [HL.out]; omega)))
            clear hx
            go_wp2_with (go_at_call 106; refine (isW14_any _ _ _).mono ?_; rintro e w' ⟨rfl, hw'⟩; rw [hw']; clear hw')
            go_ret
            exact ⟨ret_bool (by rw [HF.out]), rfl⟩
        · obtain rfl : k = 0 := by omega
          rw [Nat.add_zero] at hck
          go_wp2_with (go_at_call 106; refine (isW14_any _ _ _).mono ?_; rintro e w' ⟨rfl, hw'⟩; rw [hw']; clear hw')
          go_round
          case rel => exact ⟨1, by omega, by go_num, fun j hj => by
            obtain rfl : j = 0 := by omega
            exact HX.out, fun j hj => by omega⟩
          case measure => simp [intOf]; omega
    · have hkl : k = len := by omega
      have HF : Hid (decide (okRow B xs) = true) := decide_eq_true ⟨fun j hj => HI.out j (by rw [HL.out] at hj; omega), fun j hj => HR.out j (by rw [HL.out] at hj; omega)⟩
      subst hkl
      clear hc
      go_wp2
      go_ret
      exact ⟨ret_bool (by rw [HF.out]), rfl⟩


/-- The first place of x among these, or -1. -/
def IsIdx (xs : List Int) (x z : Int) : Prop := (∃ k : Nat, k < xs.length ∧ z = (k : Int) ∧ el xs k = x ∧ ∀ j, j < k → el xs j ≠ x) ∨ (z = -1 ∧ ∀ j, j < xs.length → el xs j ≠ x)
theorem IsIdx.mem {xs : List Int} {x z : Int} (h : IsIdx xs x z) : decide (0 ≤ z) = decide (x ∈ xs) := by
  rcases h with ⟨k, hk, rfl, rfl, _⟩ | ⟨rfl, h⟩
  · rw [decide_eq_true (el_in hk), decide_eq_true (by omega)]
  · rw [decide_eq_false (by omega), decide_eq_false (fun hx => by obtain ⟨i, hi, e⟩ := el_of hx; exact h i hi e)]
set_option maxHeartbeats 800000 in
theorem idx14_any (a : Option Addr) (cap : Nat) (xs : List Int) (x : Int) (w : World) (hv : Vec w a xs.length xs) (hm : xs.length ≤ maxLen) :
    Calls Try.prog 125 #[.slice a xs.length cap, .int .i64 x] w fun e w' => (∃ z : Int, e = .returned (.int .i64 z) ∧ IsIdx xs x z) ∧ w' = w := by
  unfold maxLen at hm
  have hc := hv.2.2
  clear hv
  go_enter Try.func125, Try.ntmps125
  go_wp2
  go_loop [8] (fun i => ∃ k : Nat, k ≤ xs.length ∧ i = .int .i64 k ∧ ∀ j, j < k → el xs j ≠ x) (fun i => xs.length - (intOf i).toNat)
  case atStart => exact ⟨0, Nat.zero_le _, rfl, fun j hj => by omega⟩
  case round =>
    obtain ⟨k, hk, rfl, hall⟩ := hrel
    have HA : Hid (∀ j, j < k → el xs j ≠ x) := hall
    clear hall
    by_cases hlt : k < xs.length
    · rcases hc with h0 | ⟨b, off, rfl, hc⟩
      · omega
      have hck := hc k hlt
      clear hc
      have k0 : (0 : Int) ≤ (k : Int) := by omega
      have k1 : (k : Int) < (xs.length : Int) := by omega
      by_cases hx : el xs k = x
      · have HX : Hid (IsIdx xs x (k : Int)) := .inl ⟨k, hlt, rfl, hx, HA.out⟩
        have hq : (x == el xs k) = true := by simp [hx]
        clear hx
        generalize el xs k = E at *
        go_wp2
        go_ret
        exact ⟨⟨_, rfl, HX.out⟩, rfl⟩
      · have HX : Hid (∀ j, j < k + 1 → el xs j ≠ x) := fun j hj => by
          by_cases e : j = k
          · rw [e]; exact hx
          · exact HA.out j (by omega)
        have hq : (x == el xs k) = false := by simp [Ne.symm hx]
        clear hx
        generalize el xs k = E at *
        go_wp2
        go_round
        case rel => exact ⟨k + 1, by omega, by go_num, HX.out⟩
        case measure => simp [intOf]; omega
    · have k1 : ¬ ((k : Int) < (xs.length : Int)) := by omega
      obtain rfl : k = xs.length := by omega
      clear hc
      go_wp2
      go_ret
      exact ⟨⟨_, rfl, .inr ⟨rfl, HA.out⟩⟩, rfl⟩
set_option maxHeartbeats 400000 in
theorem con14_any (a : Option Addr) (cap : Nat) (xs : List Int) (x : Int) (w : World) (hv : Vec w a xs.length xs) (hm : xs.length ≤ maxLen) :
    Calls Try.prog 108 #[.slice a xs.length cap, .int .i64 x] w fun e w' => e = .returned (.bool (decide (x ∈ xs))) ∧ w' = w := by
  have hI := idx14_any a cap xs x w hv hm
  clear hv
  go_enter Try.func108, Try.ntmps108
  go_wp2_with (go_at_call 125; refine hI.mono ?_; rintro e w' ⟨⟨z, rfl, hz⟩, hw'⟩; rw [hw']; clear hw'; have HZ : Hid (IsIdx xs x z) := hz; clear hz)
  go_ret
  exact ⟨ret_bool (by rw [← HZ.out.mem]), rfl⟩
end Go.Proofs.Ytgfeabgmllkdeaa

/-
  The program's parts of a right row: isRowLength, areRowTexts, areRowCounts, risesWithin; slices.Equal of texts, beginWith, areAmong.
-/
namespace Go.Proofs.Ytgfeabgmllkdeaa
set_option linter.unusedVariables false
set_option linter.unusedSimpArgs false
open Go.RowKit Go.Sort

set_option maxHeartbeats 400000 in
theorem isRl_any (n : Int) (w : World) : Calls Try.prog 105 #[.int .i64 n] w fun e w' => e = .returned (.bool (inB n 1 5)) ∧ w' = w := by
  by_cases h0 : (1 : Int) ≤ n
  · have H : Hid (inB n 1 5 = decide (n ≤ 5)) := by rw [Hid, inB]; simp [h0]
    go_enter Try.func105, Try.ntmps105
    go_wp2
    go_ret
    exact ⟨ret_bool (by rw [H.out]), rfl⟩
  · have H : Hid (inB n 1 5 = false) := by rw [Hid, inB]; simp [h0]
    go_enter Try.func105, Try.ntmps105
    go_wp2
    go_ret
    exact ⟨ret_bool (by rw [H.out]), rfl⟩
/-- Texts of a row: not too many, none too long. -/
def txB (T : List (List UInt8)) : Bool := decide (T.length ≤ 12) && T.all (fun t => decide (t.length ≤ 20))
theorem txB_long {T : List (List UInt8)} {k : Nat} (hk : k < T.length) (h : ¬ (T.getD k []).length ≤ 20) : txB T = false := by
  have : T.all (fun t => decide (t.length ≤ 20)) = false := by
    rw [List.all_eq_false]
    refine ⟨T[k], List.getElem_mem hk, ?_⟩
    rw [List.getD_eq_getElem?_getD, List.getElem?_eq_getElem hk] at h
    simpa using h
  rw [txB, this]
  simp
theorem txB_all {T : List (List UInt8)} (h0 : T.length ≤ 12) (h : ∀ k, k < T.length → (T.getD k []).length ≤ 20) : txB T = true := by
  have : T.all (fun t => decide (t.length ≤ 20)) = true := by
    rw [List.all_eq_true]
    intro t ht
    obtain ⟨j, hj, rfl⟩ := List.mem_iff_getElem.1 ht
    have := h j hj
    rw [List.getD_eq_getElem?_getD, List.getElem?_eq_getElem hj] at this
    simpa using this
  rw [txB, decide_eq_true h0, this]
  rfl
attribute [local irreducible] sv
set_option maxHeartbeats 800000 in
theorem areTx_any (a : Option Addr) (cap : Nat) (T : List (List UInt8)) (w : World) (hv : TxS w a T) (hm : T.length ≤ maxLen) :
    Calls Try.prog 129 #[.slice a T.length cap] w fun e w' => e = .returned (.bool (txB T)) ∧ w' = w := by
  unfold maxLen at hm
  by_cases h12 : T.length ≤ 12
  · have g12 : ¬ ((12 : Int) < (T.length : Int)) := by omega
    have H12 : Hid (T.length ≤ 12) := h12
    have HV : Hid (TxS w a T) := hv
    clear hv h12
    go_enter Try.func129, Try.ntmps129
    go_wp2
    go_loop [10] (fun i => ∃ k : Nat, k ≤ T.length ∧ i = .int .i64 k ∧ ∀ j, j < k → (T.getD j []).length ≤ 20) (fun i => T.length - (intOf i).toNat)
    case atStart => exact ⟨0, Nat.zero_le _, rfl, fun j hj => by omega⟩
    case round =>
      obtain ⟨k, hk, rfl, hall⟩ := hrel
      have HA : Hid (∀ j, j < k → (T.getD j []).length ≤ 20) := hall
      clear hall
      by_cases hlt : k < T.length
      · rcases HV.out with h0 | ⟨b, off, rfl, hc⟩
        · omega
        have hck := hc k hlt
        have k1 : (k : Int) < (T.length : Int) := by omega
        have k0 : (0 : Int) ≤ (k : Int) := by omega
        clear hc
        by_cases h20 : (T.getD k []).length ≤ 20
        · have g20 : ¬ ((20 : Int) < ((T.getD k []).length : Int)) := by omega
          have HN : Hid (∀ j, j < k + 1 → (T.getD j []).length ≤ 20) := fun j hj => by
            rcases Nat.lt_succ_iff_lt_or_eq.1 hj with h1 | h1
            · exact HA.out j h1
            · rw [h1]; exact h20
          generalize T.getD k [] = t at *
          have hz : (sv t).size = t.length := sv_size t
          clear h20
          go_wp2
          go_round
          case rel => exact ⟨k + 1, by omega, by go_num, HN.out⟩
          case measure => simp [intOf]; omega
        · have g20 : (20 : Int) < ((T.getD k []).length : Int) := by omega
          have HZ : Hid (txB T = false) := txB_long (k := k) hlt h20
          generalize T.getD k [] = t at *
          have hz : (sv t).size = t.length := sv_size t
          clear h20
          go_wp2
          go_ret
          exact ⟨ret_bool (by rw [HZ.out]), rfl⟩
      · have k1 : ¬ ((k : Int) < (T.length : Int)) := by omega
        have HZ : Hid (txB T = true) := txB_all H12.out (fun j hj => HA.out j (by omega))
        go_wp2
        go_ret
        exact ⟨ret_bool (by rw [HZ.out]), rfl⟩
  · have g12 : (12 : Int) < (T.length : Int) := by omega
    have HZ : Hid (txB T = false) := by rw [Hid, txB, decide_eq_false h12]; rfl
    clear hv h12
    go_enter Try.func129, Try.ntmps129
    go_wp2
    go_ret
    exact ⟨ret_bool (by rw [HZ.out]), rfl⟩
theorem hi16 {x m : Int} : ∀ {xs : List Int}, hiL x xs ≤ m ↔ x ≤ m ∧ ∀ y ∈ xs, y ≤ m := by
  intro xs
  induction xs generalizing x with
  | nil => simp [hiL]
  | cons y ys ih =>
    show hiL (max x y) ys ≤ m ↔ _
    rw [ih]
    simp only [List.mem_cons]
    constructor
    · rintro ⟨h1, h2⟩
      exact ⟨by omega, fun z hz => by rcases hz with rfl | hz; omega; exact h2 z hz⟩
    · rintro ⟨h1, h2⟩
      exact ⟨by have := h2 y (.inl rfl); omega, fun z hz => h2 z (.inr hz)⟩
theorem sm_gr {v : List Int} {n : Int} (h1 : (v.length : Int) = n) (h2 : okB v = true) : smB v n = decide (hiL (el v 0) v.tail ≤ 12) := by
  have hl := (okB_len h2).1
  rw [smB, h2, decide_eq_true h1, Bool.true_and, Bool.true_and, Bool.eq_iff_iff, decide_eq_true_eq, hi16, List.all_eq_true]
  cases v with
  | nil => simp at hl
  | cons x xs =>
    simp only [decide_eq_true_eq, List.mem_cons, List.tail_cons]
    constructor
    · intro h
      exact ⟨h _ (.inl rfl), fun y hy => h y (.inr hy)⟩
    · rintro ⟨h, h'⟩ y hy
      rcases hy with rfl | hy
      · exact h
      · exact h' y hy
set_option maxRecDepth 100000 in
set_option maxHeartbeats 800000 in
theorem areCt_any (a : Option Addr) (cap : Nat) (v : List Int) (n : Int) (w : World) (hv : Vec w a v.length v) (hcap : v.length ≤ cap) (hm : cap ≤ maxLen) :
    Calls Try.prog 130 #[.slice a v.length cap, .int .i64 n] w fun e w' => e = .returned (.bool (smB v n)) ∧ ∃ m, w' = w.drewN m := by
  have hV := vok_any a v.length cap v w hv hcap hm
  have hml : v.length ≤ maxLen := Nat.le_trans hcap hm
  unfold maxLen at hml
  by_cases hl : (v.length : Int) = n
  · have e1 : ((v.length : Int) == n) = true := by simpa using hl
    cases hb : okB v with
    | false =>
      rw [hb] at hV
      have HZ : Hid (smB v n = false) := by rw [Hid, smB, hb]; rfl
      clear hb hl hv
      go_enter Try.func130, Try.ntmps130
      go_wp2_with (go_at_call 65; refine hV.mono ?_; rintro e w' ⟨rfl, n1, rfl⟩)
      go_ret
      exact ⟨ret_bool (by rw [HZ.out]), _, rfl⟩
    | true =>
      rw [hb] at hV
      have HZ : Hid (smB v n = decide (hiL (el v 0) v.tail ≤ 12)) := sm_gr hl hb
      have h18 := okB_len hb
      clear hb hl
      obtain ⟨_, hf, hcs⟩ := hv
      have hG : Hid (∀ n, Calls Try.prog 100 #[.slice a v.length cap] (w.drewN n) fun e w' => e = .returned (.int .i64 (hiL (el v 0) v.tail)) ∧ ∃ m, w' = (w.drewN n).drewN m) := by
        intro n
        rcases hcs with h0 | ⟨b, off, rfl, hc⟩
        · omega
        · exact vgreatest_any b off v.length cap v _ rfl hf (fun k hk => by rw [World.cell?_drewN]; exact hc k hk) (by omega) hcap hm
      clear hcs hf h18
      generalize hiL (el v 0) v.tail = G at *
      go_enter Try.func130, Try.ntmps130
      go_wp2_with (first | (go_at_call 65; refine hV.mono ?_; rintro e w' ⟨rfl, n1, rfl⟩) | (go_at_call 100; refine (hG.out _).mono ?_; rintro e w' ⟨rfl, n2, rfl⟩))
      go_ret
      exact ⟨ret_bool (by rw [HZ.out]), _, rfl⟩
  · have e1 : ((v.length : Int) == n) = false := by simpa using hl
    have HZ : Hid (smB v n = false) := by rw [Hid, smB, decide_eq_false hl]; simp
    clear hl hv hV
    go_enter Try.func130, Try.ntmps130
    go_wp2
    go_ret
    exact ⟨ret_bool (by rw [HZ.out]), 0, rfl⟩
theorem sus_row (n : Int) (l : List Int) : decide (okRow n l) = susB l n := by
  rw [Bool.eq_iff_iff, decide_eq_true_eq, susB, Bool.and_eq_true, List.all_eq_true, okRow, risB, decide_eq_true_eq]
  constructor
  · rintro ⟨h1, h2⟩
    refine ⟨fun x hx => ?_, h2⟩
    obtain ⟨j, hj, rfl⟩ := List.mem_iff_getElem.1 hx
    have := h1 j hj
    rw [el_eq hj] at this
    exact inB7.2 this
  · rintro ⟨h1, h2⟩
    exact ⟨fun i hi => inB7.1 (h1 _ (el_mem hi)), h2⟩
end Go.Proofs.Ytgfeabgmllkdeaa
