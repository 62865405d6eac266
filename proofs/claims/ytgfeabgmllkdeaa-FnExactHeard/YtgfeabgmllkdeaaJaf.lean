/-
  Texts in one: Mcn Mco Mcp Mch Mbn Mcc Mbl Plo Mbi Mbj Mbz Mba Ear Mbr Mbb Mbe Rns Rwo Mca Sdk Dvo Rdk Drt Rdw Rdr Rds Mci Mcj Mck Mcd Mcf Mcq.
-/
import Derived.Test.YtgfeabgmllkdeaaJae
import Derived.Test.YtgfeabgmllkdeaaJac
import Derived.Test.YtgfeabgmllkdeaaJad
import Derived.Test.YtgfeabgmllkdeaaJaa
import Derived.Test.YtgfeabgmllkdeaaJab
import Derived.BigQuiet
import Derived.Deep.LoopGhost
import Derived.Deep.CutRange
import Derived.Deep.Cut
import Derived.Deep.RegionHeld3
/-
  The laws' own markRowS: each row of a list is marked, in its place.
-/
namespace Go.Proofs.Ytgfeabgmllkdeaa
set_option linter.unusedVariables false
set_option linter.unusedSimpArgs false
open Go.RowKit Go.Sort

/-- One cell of a place that was written before. -/
theorem Bcm.at {w X : World} {B o : Nat} {cs : List Cel} {fp : Fp} (h : Bcm w X B o cs fp) {j : Nat} {c : Cel} (hj : cs[j]? = some c) : ∃ u f, X.cell? ⟨B, o + j, none⟩ = some u ∧ X.frozen? ⟨B, o + j, none⟩ = false ∧ Cel.ow X c u f ∧
    ∀ (X1 : World) (c' : Cel) (u' : Value) (f' : Fp), Wrt f X X1 → Cel.ow X1 c' u' f' → (∀ b, f' b → f b ∨ X.heap.size ≤ b) → X1.cell? ⟨B, o + j, none⟩ = some u ∧ X1.frozen? ⟨B, o + j, none⟩ = false ∧ Bcm w (X1.setCell ⟨B, o + j, none⟩ u') B o (cs.set j c') fp ∧ (u' = u → Bcm w X1 B o (cs.set j c') fp) := by
  obtain ⟨fp1, hp, _, hgo⟩ := h.next
  obtain ⟨u, f, h1, h2, h3, h4, h5, h6⟩ := hp.at hj
  refine ⟨u, f, h1, h2, h3, fun X1 c' u' f' hw hc hf => ?_⟩
  obtain ⟨k1, k2, k3, k4⟩ := h6 X1 c' u' f' hw hc hf
  exact ⟨k1, k2, hgo _ _ (by simp) k3, fun e => hgo _ _ (by simp) (k4 e)⟩
/-- A plain cell of it is stored. -/
theorem Bcm.put {w X : World} {B o : Nat} {cs : List Cel} {fp : Fp} (h : Bcm w X B o cs fp) {j : Nat} {x : Value} (hj : cs[j]? = some (.v x)) (y : Value) : X.cell? ⟨B, o + j, none⟩ = some x ∧ X.frozen? ⟨B, o + j, none⟩ = false ∧ Bcm w (X.setCell ⟨B, o + j, none⟩ y) B o (cs.set j (.v y)) fp := by
  obtain ⟨u, f, h1, h2, ⟨rfl, _⟩, h4⟩ := h.at hj
  exact ⟨h1, h2, (h4 X (.v y) y (fun _ => False) (Wrt.refl _ _) ⟨rfl, fun _ h => h⟩ (fun b hb => hb.elim)).2.2.1⟩
def m3 (k : Int) : Bool := k % 3 == 0
/-- A row with marks from k on. -/
def mk8 (r : Rw) (k : Nat) : Rw :=
  { ver := (k : Int), txt := marksS r.txt.length (k + 1), got := marks r.got.length (k + 1 + r.txt.length), sus := marks r.sus.length (k + 1 + r.txt.length + r.got.length), wed := m3 ((k + 1 + r.txt.length + r.got.length + r.sus.length : Nat) : Int), rdy := m3 (((k + 1 + r.txt.length + r.got.length + r.sus.length : Nat) : Int) + 1), by_ := ((k + 1 + r.txt.length + r.got.length + r.sus.length : Nat) : Int) + 1 + 1, trm := marks r.trm.length (k + 1 + r.txt.length + r.got.length + r.sus.length + 1 + 1 + 1) }
def cnt8 (r : Rw) : Nat := 1 + r.txt.length + r.got.length + r.sus.length + 1 + 1 + 1 + r.trm.length
/-- How many marks the first k rows bear. -/
def cP (R : List Rw) (k : Nat) : Nat := ((R.take k).map cnt8).sum
theorem cP_next {R : List Rw} {k : Nat} (hk : k < R.length) : cP R (k + 1) = cP R k + cnt8 (rowN R k) := by
  have e : rowN R k = R[k] := by simp [rowN, List.getD, hk]
  unfold cP
  rw [List.take_succ_eq_append_getElem hk, List.map_append, List.sum_append, e]
  simp
theorem cP_mono (R : List Rw) {a b : Nat} (h : a ≤ b) : cP R a ≤ cP R b := by
  unfold cP
  obtain ⟨c, rfl⟩ := Nat.exists_eq_add_of_le h
  rw [List.take_add, List.map_append, List.sum_append]
  omega
/-- The rows, the first j of them with marks. -/
def mkP (R : List Rw) (k : Nat) : Nat → List Rw
  | 0 => R
  | j + 1 => (mkP R k j).set j (mk8 (rowN R j) (k + cP R j))
theorem mkP_len (R : List Rw) (k : Nat) : ∀ j, (mkP R k j).length = R.length
  | 0 => rfl
  | j + 1 => by rw [mkP, List.length_set, mkP_len R k j]
theorem mkP_row {R : List Rw} {k : Nat} : ∀ {j i : Nat}, j ≤ R.length → rowN (mkP R k j) i = if i < j then mk8 (rowN R i) (k + cP R i) else rowN R i
  | 0, i, _ => by simp [mkP]
  | j + 1, i, h => by
    rw [mkP, rowN_set (by rw [mkP_len]; omega), mkP_row (by omega)]
    by_cases e : i = j
    · subst e; rw [if_pos rfl, if_pos (by omega)]
    · rw [if_neg e]
      by_cases h2 : i < j
      · rw [if_pos h2, if_pos (by omega)]
      · rw [if_neg h2, if_neg (by omega)]
set_option maxRecDepth 100000 in
set_option maxHeartbeats 6400000 in
theorem markRs_ow (a : Option Addr) (cap k0 : Nat) (R : List Rw) (fp : Fp) (w : World) (h : Cel.ow w (lcl 8 rw8 R) (.slice a R.length cap) fp) (hk1 : 1 ≤ k0) (hk : k0 + cP R R.length ≤ 10000000) (hm : R.length ≤ maxLen) :
    Calls Try.prog 81 #[.slice a R.length cap, .int .i64 (k0 : Int)] w fun e w' => e = .returned (.int .i64 ((k0 + cP R R.length : Nat) : Int)) ∧ ∃ fp', Cel.ow w' (lcl 8 rw8 (mkP R k0 R.length)) (.slice a R.length cap) fp' ∧ (∀ b, fp' b → fp b ∨ w.heap.size ≤ b) ∧ Wrt fp w w' := by
  unfold maxLen at hm
  have HH : Hid (Cel.ow w (lcl 8 rw8 R) (.slice a R.length cap) fp) := h
  clear h
  go_enter Try.func81, Try.ntmps81
  go_wp2_with fail
  go_loopw [1, 5] (fun kv v wr => ∃ (j K : Nat) (fpj : Fp), j ≤ R.length ∧ v = .int .i64 (j : Int) ∧ kv = .int .i64 (K : Int) ∧ Hid (K = k0 + cP R j) ∧ Cel.ow wr (lcl 8 rw8 (mkP R k0 j)) (.slice a R.length cap) fpj ∧ (∀ b, fpj b → fp b ∨ w.heap.size ≤ b) ∧ Wrt fp w wr) (fun _ v _ => R.length - (intOf v).toNat)
  case atStart => exact ⟨0, k0, fp, Nat.zero_le _, rfl, rfl, by simp [Hid, cP], HH.out, fun b hb => .inl hb, Wrt.refl _ _⟩
  case round =>
    obtain ⟨j, K0, fpj, hj, rfl, rfl, hK, ho, hfj, hwj⟩ := hrel
    have HWj : Hid (Wrt fp w wr) := hwj
    have HFj : Hid (∀ b, fpj b → fp b ∨ w.heap.size ≤ b) := hfj
    by_cases hlt : j < R.length
    · have j1 : (j : Int) < (R.length : Int) := by omega
      have j0 : (0 : Int) ≤ (j : Int) := by omega
      have hlen := mkP_len R k0 j
      have hat : (mkP R k0 j)[j]? = some (rowN R j) := by
        have := mkP_row (k := k0) (i := j) hj
        rw [if_neg (Nat.lt_irrefl _)] at this
        rw [← this]
        simp [rowN, List.getD, hlen, hlt]
      rw [← hlen] at ho
      obtain ⟨g, off, f, rfl, hfg, hfs, hP, hglt, hput⟩ := ow_elF rw8_len (by omega) ho hat
      have hput := fun X => hput X (mk8 (rowN R j) (k0 + cP R j))
      rw [show (mkP R k0 j).set j (mk8 (rowN R j) (k0 + cP R j)) = mkP R k0 (j + 1) from rfl, hlen] at hput
      rw [← hK.out] at hput
      have hKb : K0 + cnt8 (rowN R j) ≤ 10000000 := by
        have h1 := cP_mono R (show j + 1 ≤ R.length from hlt)
        rw [cP_next hlt] at h1
        have := hK.out
        omega
      have HKn : Hid (K0 + cnt8 (rowN R j) = k0 + cP R (j + 1)) := by rw [Hid, cP_next hlt, hK.out]; omega
      have hK1 : 1 ≤ K0 := by have := hK.out; omega
      have HPut : Hid (∀ X, Bcm wr X g (off + j * 8) (rw8 (mk8 (rowN R j) K0)) f → ∃ fp', Cel.ow X (lcl 8 rw8 (mkP R k0 (j + 1))) (.slice (some ⟨g, off, none⟩) R.length cap) fp' ∧ (∀ b, fp' b → fpj b ∨ wr.heap.size ≤ b) ∧ Wrt fpj wr X) := hput
      have B0 : Bcm wr wr g (off + j * 8) (rw8 (rowN R j)) f := Bcm.refl hP
      clear ho hput hP hat hlen hfj hwj hK hfs
      generalize rowN R j = r at *
      obtain ⟨v0, z0, B1⟩ := B0.put (j := 0) (x := .int .i64 r.ver) rfl (.int .i64 (K0 : Int))
      simp only [Nat.add_zero] at v0 z0 B1
      have HB1 : Hid (Bcm wr (wr.setCell ⟨g, off + j * 8, none⟩ (.int .i64 (K0 : Int))) g (off + j * 8) ((rw8 r).set 0 (.v (.int .i64 (K0 : Int)))) f) := B1
      unfold cnt8 at hKb
      obtain ⟨Ka, hKa⟩ : ∃ Ka : Nat, Hid (Ka = K0 + 1) := ⟨_, rfl⟩
      have eKa : (Ka : Int) = (K0 : Int) + 1 := by have := hKa.out; omega
      obtain ⟨u1, f1, t1, _, ho1, hp1⟩ := B1.at (j := 1) (c := scl r.txt) rfl
      have hM1 := markS_ow u1 Ka r.txt f1 _ ho1 (by have := hKa.out; omega) (by have := hKa.out; omega) (by omega)
      clear B0 B1 ho1
      obtain ⟨K2, hK2⟩ : ∃ K2 : Nat, Hid (K2 = Ka + r.txt.length) := ⟨_, rfl⟩
      have eK2 : (Ka : Int) + (r.txt.length : Int) = (K2 : Int) := by have := hK2.out; omega
      rw [eK2, eKa] at hM1
      go_wp2_with fail
      refine hM1.mono ?_
      rintro e X1 ⟨rfl, hm1, hw1⟩
      have B2 := (hp1 X1 _ u1 f1 hw1 hm1 (fun b hb => .inl hb)).2.2.2 rfl
      clear hM1 hp1 hm1 hw1 t1 v0 z0 eKa eK2
      obtain ⟨u2, f2, t2, _, ho2, hp2⟩ := B2.at (j := 2) (c := icl r.got) rfl
      have hM2 := markI_ow u2 K2 r.got f2 _ ho2 (by have := hKa.out; have := hK2.out; omega) (by omega)
      obtain ⟨K3, hK3⟩ : ∃ K3 : Nat, Hid (K3 = K2 + r.got.length) := ⟨_, rfl⟩
      have eK3 : (K2 : Int) + (r.got.length : Int) = (K3 : Int) := by have := hK3.out; omega
      rw [eK3] at hM2
      clear B2 ho2
      go_wp2_with fail
      refine hM2.mono ?_
      rintro e X2 ⟨rfl, hm2, hw2⟩
      have B3 := (hp2 X2 _ u2 f2 hw2 hm2 (fun b hb => .inl hb)).2.2.2 rfl
      clear hM2 hp2 hm2 hw2 t2 eK3
      obtain ⟨u3, f3, t3, _, ho3, hp3⟩ := B3.at (j := 3) (c := icl r.sus) rfl
      have hM3 := markI_ow u3 K3 r.sus f3 _ ho3 (by have := hKa.out; have := hK2.out; have := hK3.out; omega) (by omega)
      obtain ⟨K4, hK4⟩ : ∃ K4 : Nat, Hid (K4 = K3 + r.sus.length) := ⟨_, rfl⟩
      have eK4 : (K3 : Int) + (r.sus.length : Int) = (K4 : Int) := by have := hK4.out; omega
      rw [eK4] at hM3
      clear B3 ho3
      go_wp2_with fail
      refine hM3.mono ?_
      rintro e X3 ⟨rfl, hm3, hw3⟩
      have B4 := (hp3 X3 _ u3 f3 hw3 hm3 (fun b hb => .inl hb)).2.2.2 rfl
      clear hM3 hp3 hm3 hw3 t3 eK4
      have hK4b : K4 + 3 ≤ K0 + (1 + r.txt.length + r.got.length + r.sus.length + 1 + 1 + 1 + r.trm.length) := by have := hKa.out; have := hK2.out; have := hK3.out; have := hK4.out; omega
      obtain ⟨v4, z4, B5⟩ := B4.put (j := 4) (x := .bool r.wed) rfl (.bool ((K4 : Int) % 3 == 0))
      obtain ⟨v5, z5, B6⟩ := B5.put (j := 5) (x := .bool r.rdy) rfl (.bool (((K4 : Int) + 1) % 3 == 0))
      obtain ⟨v6, z6, B7⟩ := B6.put (j := 6) (x := .int .i64 r.by_) rfl (.int .i64 ((K4 : Int) + 1 + 1))
      obtain ⟨u7, f7, t7, _, ho7, hp7⟩ := B7.at (j := 7) (c := icl r.trm) rfl
      obtain ⟨K7, hK7⟩ : ∃ K7 : Nat, Hid (K7 = K4 + 1 + 1 + 1) := ⟨_, rfl⟩
      have eK7 : (K7 : Int) = (K4 : Int) + 1 + 1 + 1 := by have := hK7.out; omega
      have hM7 := markI_ow u7 K7 r.trm f7 _ ho7 (by have := hK7.out; omega) (by omega)
      obtain ⟨K8, hK8⟩ : ∃ K8 : Nat, Hid (K8 = K7 + r.trm.length) := ⟨_, rfl⟩
      have eK8 : (K7 : Int) + (r.trm.length : Int) = (K8 : Int) := by have := hK8.out; omega
      rw [eK8, eK7] at hM7
      have HK8 : Hid (K8 = k0 + cP R (j + 1)) := by
        have h1 := HKn.out
        unfold cnt8 at h1
        have := hKa.out; have := hK2.out; have := hK3.out; have := hK4.out; have := hK7.out; have := hK8.out
        rw [Hid]
        omega
      have wj : wrap64 ((j : Int) + 1) = (j : Int) + 1 := by unfold wrap64; omega
      clear B4 B5 B6 B7 ho7 HB1 eK8 eK7
      go_wp2_with fail
      refine hM7.mono ?_
      rintro e X7 ⟨rfl, hm7, hw7⟩
      have B8 := (hp7 X7 _ u7 f7 hw7 hm7 (fun b hb => .inl hb)).2.2.2 rfl
      have hE : rw8 (mk8 r K0) = (((((((((rw8 r).set 0 (.v (.int .i64 (K0 : Int)))).set 1 (scl (marksS r.txt.length Ka))).set 2 (icl (marks r.got.length K2))).set 3 (icl (marks r.sus.length K3))).set 4 (.v (.bool ((K4 : Int) % 3 == 0)))).set 5 (.v (.bool (((K4 : Int) + 1) % 3 == 0)))).set 6 (.v (.int .i64 ((K4 : Int) + 1 + 1)))).set 7 (icl (marks r.trm.length K7))) := by
        rw [hK7.out, hK4.out, hK3.out, hK2.out, hKa.out]
        rfl
      rw [← hE] at B8
      obtain ⟨fp', n1, n2, n3⟩ := HPut.out X7 B8
      have HN1 : Hid (Cel.ow X7 (lcl 8 rw8 (mkP R k0 (j + 1))) (.slice (some ⟨g, off, none⟩) R.length cap) fp') := n1
      have HN2 : Hid (∀ b, fp' b → fpj b ∨ wr.heap.size ≤ b) := n2
      have HN3 : Hid (Wrt fpj wr X7) := n3
      clear hM7 hp7 hm7 hw7 t7 v4 z4 v5 z5 v6 z6 B8 hE n1 n2 n3 HPut
      have hws := HWj.out.size
      clear hKb hK4b hk hK1 hk1
      go_wp2
      go_roundw
      case rel => exact ⟨j + 1, K8, fp', by omega, by go_num, rfl, HK8, HN1.out, fun b hb => by
        rcases HN2.out b hb with h | h
        · exact HFj.out b h
        · exact .inr (by omega), HWj.out.trans HN3.out (fun b hb h => by
          rcases HFj.out b h with h | h
          · exact h
          · omega)⟩
      case measure => simp [intOf]; omega
    · obtain rfl : j = R.length := by omega
      have k1 : ¬ ((R.length : Int) < (R.length : Int)) := by omega
      have HE : Hid (Cel.ow wr (lcl 8 rw8 (mkP R k0 R.length)) (.slice a R.length cap) fpj) := ho
      clear ho hfj hwj hk hk1
      go_wp2
      go_ret
      exact ⟨ret_int (by rw [hK.out]; omega), fpj, HE.out, HFj.out, HWj.out⟩
end Go.Proofs.Ytgfeabgmllkdeaa

/-
  The laws' own heldRowS, markMember and heldMember.
-/
namespace Go.Proofs.Ytgfeabgmllkdeaa
set_option linter.unusedVariables false
set_option linter.unusedSimpArgs false
open Go.RowKit Go.Sort

/-- The cells of a row with marks. -/
theorem mk8_at {w : World} {g o : Nat} {r : Rw} {K : Nat} {f : Fp} (h : Plc w g o (rw8 (mk8 r K)) f) : ∃ u1 u2 u3 u7 f1 f2 f3 f7, (w.cell? ⟨g, o, none⟩ = some (.int .i64 (K : Int)) ∧ w.cell? ⟨g, o + 1, none⟩ = some u1 ∧ w.cell? ⟨g, o + 2, none⟩ = some u2 ∧ w.cell? ⟨g, o + 3, none⟩ = some u3) ∧ w.cell? ⟨g, o + 4, none⟩ = some (.bool (m3 ((K + 1 + r.txt.length + r.got.length + r.sus.length : Nat) : Int))) ∧ w.cell? ⟨g, o + 5, none⟩ = some (.bool (m3 (((K + 1 + r.txt.length + r.got.length + r.sus.length : Nat) : Int) + 1))) ∧ w.cell? ⟨g, o + 6, none⟩ = some (.int .i64 (((K + 1 + r.txt.length + r.got.length + r.sus.length : Nat) : Int) + 1 + 1)) ∧ w.cell? ⟨g, o + 7, none⟩ = some u7 ∧
    Cel.ow w (scl (marksS r.txt.length (K + 1))) u1 f1 ∧ Cel.ow w (icl (marks r.got.length (K + 1 + r.txt.length))) u2 f2 ∧ Cel.ow w (icl (marks r.sus.length (K + 1 + r.txt.length + r.got.length))) u3 f3 ∧ Cel.ow w (icl (marks r.trm.length (K + 1 + r.txt.length + r.got.length + r.sus.length + 1 + 1 + 1))) u7 f7 := by
  obtain ⟨u0, g0, c0, _, ⟨rfl, _⟩, _⟩ := h.at (j := 0) (c := .v (.int .i64 (K : Int))) rfl
  obtain ⟨u1, f1, c1, _, o1, _⟩ := h.at (j := 1) (c := scl (marksS r.txt.length (K + 1))) rfl
  obtain ⟨u2, f2, c2, _, o2, _⟩ := h.at (j := 2) (c := icl (marks r.got.length (K + 1 + r.txt.length))) rfl
  obtain ⟨u3, f3, c3, _, o3, _⟩ := h.at (j := 3) (c := icl (marks r.sus.length (K + 1 + r.txt.length + r.got.length))) rfl
  obtain ⟨u4, g4, c4, _, ⟨rfl, _⟩, _⟩ := h.at (j := 4) (c := .v (.bool (m3 ((K + 1 + r.txt.length + r.got.length + r.sus.length : Nat) : Int)))) rfl
  obtain ⟨u5, g5, c5, _, ⟨rfl, _⟩, _⟩ := h.at (j := 5) (c := .v (.bool (m3 (((K + 1 + r.txt.length + r.got.length + r.sus.length : Nat) : Int) + 1)))) rfl
  obtain ⟨u6, g6, c6, _, ⟨rfl, _⟩, _⟩ := h.at (j := 6) (c := .v (.int .i64 (((K + 1 + r.txt.length + r.got.length + r.sus.length : Nat) : Int) + 1 + 1))) rfl
  obtain ⟨u7, f7, c7, _, o7, _⟩ := h.at (j := 7) (c := icl (marks r.trm.length (K + 1 + r.txt.length + r.got.length + r.sus.length + 1 + 1 + 1))) rfl
  exact ⟨u1, u2, u3, u7, f1, f2, f3, f7, ⟨c0, c1, c2, c3⟩, c4, c5, c6, c7, o1, o2, o3, o7⟩
set_option maxRecDepth 100000 in
set_option maxHeartbeats 6400000 in
theorem heldRs_ow (a : Option Addr) (cap k0 : Nat) (R : List Rw) (fp : Fp) (w : World) (h : Cel.ow w (lcl 8 rw8 (mkP R k0 R.length)) (.slice a R.length cap) fp) (hk1 : 1 ≤ k0) (hk : k0 + cP R R.length ≤ 10000000) (hm : R.length ≤ maxLen) :
    Calls Try.prog 83 #[.slice a R.length cap, .int .i64 (k0 : Int)] w fun e w' => e = .returned (.int .i64 ((k0 + cP R R.length : Nat) : Int)) ∧ Below w.heap.size w w' := by
  unfold maxLen at hm
  have HH : Hid (Cel.ow w (lcl 8 rw8 (mkP R k0 R.length)) (.slice a R.length cap) fp) := h
  clear h
  go_enter Try.func83, Try.ntmps83
  go_wp2_with fail
  go_loopw [1, 5] (fun kv v wr => ∃ (j K : Nat), j ≤ R.length ∧ v = .int .i64 (j : Int) ∧ kv = .int .i64 (K : Int) ∧ Hid (K = k0 + cP R j) ∧ Below w.heap.size w wr) (fun _ v _ => R.length - (intOf v).toNat)
  case atStart => exact ⟨0, k0, Nat.zero_le _, rfl, rfl, by simp [Hid, cP], Below.refl _ _⟩
  case round =>
    obtain ⟨j, K0, hj, rfl, rfl, hK, hb⟩ := hrel
    have HB : Hid (Below w.heap.size w wr) := hb
    by_cases hlt : j < R.length
    · have j1 : (j : Int) < (R.length : Int) := by omega
      have j0 : (0 : Int) ≤ (j : Int) := by omega
      have hlen := mkP_len R k0 R.length
      have hat : (mkP R k0 R.length)[j]? = some (mk8 (rowN R j) (k0 + cP R j)) := by
        have := mkP_row (k := k0) (i := j) (Nat.le_refl R.length)
        rw [if_pos hlt] at this
        rw [← this]
        simp [rowN, List.getD, hlen, hlt]
      have ho := Cel.ow_below HH.out hb
      generalize mkP R k0 R.length = MM at ho hlen hat
      rw [← hlen] at ho
      obtain ⟨g, off, f, rfl, hfg, hfs, hP, hglt, hput⟩ := ow_elF rw8_len (by omega) ho hat
      rw [← hK.out] at hP
      have hKb : K0 + cnt8 (rowN R j) ≤ 10000000 := by
        have h1 := cP_mono R (show j + 1 ≤ R.length from hlt)
        rw [cP_next hlt] at h1
        have := hK.out
        omega
      have HKn : Hid (K0 + cnt8 (rowN R j) = k0 + cP R (j + 1)) := by rw [Hid, cP_next hlt, hK.out]; omega
      have hK1 : 1 ≤ K0 := by have := hK.out; omega
      have HP : Hid (∀ X, Below wr.heap.size wr X → Plc X g (off + j * 8) (rw8 (mk8 (rowN R j) K0)) f) := fun X hX => hP.below hX
      clear ho hput hP hat hlen hK hfs hb
      generalize rowN R j = r at *
      unfold cnt8 at hKb
      obtain ⟨u1, u2, u3, u7, f1, f2, f3, f7, ⟨c0, c1, c2, c3⟩, c4, c5, c6, c7, o1, o2, o3, o7⟩ := mk8_at (HP.out wr (Below.refl _ _))
      obtain ⟨Ka, hKa⟩ : ∃ Ka : Nat, Hid (Ka = K0 + 1) := ⟨_, rfl⟩
      rw [← hKa.out] at o1
      have eKa : (Ka : Int) = (K0 : Int) + 1 := by have := hKa.out; omega
      have hM1 := heldS_ow u1 Ka r.txt.length f1 wr o1 (by have := hKa.out; omega) (by have := hKa.out; omega) (by omega)
      obtain ⟨K2, hK2⟩ : ∃ K2 : Nat, Hid (K2 = Ka + r.txt.length) := ⟨_, rfl⟩
      have eK2 : (Ka : Int) + (r.txt.length : Int) = (K2 : Int) := by have := hK2.out; omega
      rw [eK2, eKa] at hM1
      have ne0 : ((K0 : Int) != (K0 : Int)) = false := by simp
      clear o1 o2 o3 o7 c2 c3 c4 c5 c6 c7 eKa eK2
      go_wp2_with fail
      refine hM1.mono ?_
      rintro e X1 ⟨rfl, hb1⟩
      have HB1 : Hid (Below w.heap.size w X1) := HB.out.trans (hb1.mono HB.out.size)
      have hPP := HP.out X1 hb1
      clear hM1 c0 c1 ne0 hb1
      obtain ⟨u1, u2, u3, u7, f1, f2, f3, f7, ⟨c0, c1, c2, c3⟩, c4, c5, c6, c7, o1, o2, o3, o7⟩ := mk8_at hPP
      have eA : K0 + 1 + r.txt.length = K2 := by have := hKa.out; have := hK2.out; omega
      rw [eA] at o2 o3 o7 c4 c5 c6
      obtain ⟨K3, hK3⟩ : ∃ K3 : Nat, Hid (K3 = K2 + r.got.length) := ⟨_, rfl⟩
      rw [← hK3.out] at o3 o7 c4 c5 c6
      obtain ⟨K4, hK4⟩ : ∃ K4 : Nat, Hid (K4 = K3 + r.sus.length) := ⟨_, rfl⟩
      rw [← hK4.out] at o7 c4 c5 c6
      obtain ⟨K7, hK7⟩ : ∃ K7 : Nat, Hid (K7 = K4 + 1 + 1 + 1) := ⟨_, rfl⟩
      rw [← hK7.out] at o7
      obtain ⟨K8, hK8⟩ : ∃ K8 : Nat, Hid (K8 = K7 + r.trm.length) := ⟨_, rfl⟩
      have HK8 : Hid (K8 = k0 + cP R (j + 1)) := by
        have h1 := HKn.out
        unfold cnt8 at h1
        have := hKa.out; have := hK2.out; have := hK3.out; have := hK4.out; have := hK7.out; have := hK8.out
        rw [Hid]
        omega
      have hK8b : K8 ≤ 10000000 := by
        have h1 := HKn.out
        have := hKa.out; have := hK2.out; have := hK3.out; have := hK4.out; have := hK7.out; have := hK8.out
        omega
      have hM2 := heldI_ow u2 K2 r.got.length f2 X1 o2 (by have := hK3.out; have := hK4.out; have := hK7.out; have := hK8.out; omega) (by omega)
      have hM3 := heldI_ow u3 K3 r.sus.length f3 X1 o3 (by have := hK4.out; have := hK7.out; have := hK8.out; omega) (by omega)
      have hM7 := heldI_ow u7 K7 r.trm.length f7 X1 o7 (by have := hK8.out; omega) (by omega)
      rw [show (K2 : Int) + (r.got.length : Int) = (K3 : Int) by have := hK3.out; omega] at hM2
      rw [show (K3 : Int) + (r.sus.length : Int) = (K4 : Int) by have := hK4.out; omega] at hM3
      rw [show (K7 : Int) + (r.trm.length : Int) = (K8 : Int) by have := hK8.out; omega, show (K7 : Int) = (K4 : Int) + 1 + 1 + 1 by have := hK7.out; omega] at hM7
      unfold m3 at c4 c5
      have n4 : (((K4 : Int) % 3 == 0) != ((K4 : Int) % 3 == 0)) = false := by simp
      have n5 : ((((K4 : Int) + 1) % 3 == 0) != (((K4 : Int) + 1) % 3 == 0)) = false := by simp
      have n6 : (((K4 : Int) + 1 + 1) != ((K4 : Int) + 1 + 1)) = false := by simp
      have p2 : ¬ ((K2 : Int) < 0) := by omega
      have p3 : ¬ ((K3 : Int) < 0) := by omega
      have p4 : ¬ ((K4 : Int) < 0) := by omega
      have p8 : ¬ ((K8 : Int) < 0) := by omega
      have hK4b : K4 ≤ 10000000 := by have := hK7.out; have := hK8.out; omega
      clear o1 o2 o3 o7 hPP eA hKb hK8b hk hK1 hk1 c0 c1
      go_wp2_with fail
      refine hM2.mono ?_
      rintro e X2 ⟨rfl, hx2⟩
      obtain rfl := hx2.symm
      clear hM2 hx2
      go_wp2_with fail
      refine hM3.mono ?_
      rintro e X3 ⟨rfl, hx3⟩
      obtain rfl := hx3.symm
      clear hM3 hx3
      go_wp2_with fail
      refine hM7.mono ?_
      rintro e X7 ⟨rfl, hx7⟩
      obtain rfl := hx7.symm
      clear hM7 hx7 c2 c3 c4 c5 c6 c7 n4 n5 n6 hK4b
      go_wp2
      go_roundw
      case rel => exact ⟨j + 1, K8, by omega, by go_num, rfl, HK8, HB1.out⟩
      case measure => simp [intOf]; omega
    · obtain rfl : j = R.length := by omega
      have k1 : ¬ ((R.length : Int) < (R.length : Int)) := by omega
      clear hb hk hk1
      go_wp2
      go_ret
      exact ⟨ret_int (by rw [hK.out]; omega), HB.out⟩
end Go.Proofs.Ytgfeabgmllkdeaa

/-
  The laws' own markMember and heldMember.
-/
namespace Go.Proofs.Ytgfeabgmllkdeaa
set_option linter.unusedVariables false
set_option linter.unusedSimpArgs false
open Go.RowKit Go.Sort

/-- Two things of one's own. -/
theorem owL_two {w : World} {c1 c2 : Cel} {v1 v2 : Value} {f : Fp} (h : owL w [c1, c2] [v1, v2] f) : ∃ f1 f2, Cel.ow w c1 v1 f1 ∧ Cel.ow w c2 v2 f2 ∧ (∀ b, f1 b → ¬ f2 b) ∧ ∀ b, f b ↔ f1 b ∨ f2 b := by
  obtain ⟨u1, us1, f1, g1, e1, o1, h2, d1, i1⟩ := h
  cases e1
  obtain ⟨u2, us2, f2, g2, e2, o2, h3, d2, i2⟩ := h2
  cases e2
  have hg : ∀ b, ¬ g2 b := h3.2
  refine ⟨f1, f2, o1, o2, fun b h1 h2 => d1 b h1 ((i2 b).2 (.inl h2)), fun b => ?_⟩
  rw [i1, i2]
  exact ⟨fun h => h.imp id (fun h => h.elim id (fun h => absurd h (hg b))), fun h => h.imp id .inl⟩
theorem owL_both {w : World} {c1 c2 : Cel} {v1 v2 : Value} {f1 f2 : Fp} (h1 : Cel.ow w c1 v1 f1) (h2 : Cel.ow w c2 v2 f2) (hd : ∀ b, f1 b → ¬ f2 b) : owL w [c1, c2] [v1, v2] (fun b => f1 b ∨ f2 b) :=
  ⟨v1, [v2], f1, f2, rfl, h1, ⟨v2, [], f2, fun _ => False, rfl, h2, ⟨rfl, fun _ h => h⟩, fun _ _ h => h, fun b => by simp⟩, hd, fun b => Iff.rfl⟩
def mkMb (m : Mb) (k : Nat) : Mb := { m with rows := mkP m.rows k m.rows.length, sung := marks m.sung.length (k + cP m.rows m.rows.length) }
def cntMb (m : Mb) : Nat := cP m.rows m.rows.length + m.sung.length
set_option maxRecDepth 100000 in
set_option maxHeartbeats 1600000 in
theorem markMb_it (A : Ma) (m : Mb) (k0 lo hi : Nat) (w : World) (h : It w (mbCels m) (mbVals A m) lo hi) (hlo : lo ≤ w.heap.size) (hh : hi ≤ w.heap.size) (hk1 : 1 ≤ k0) (hk : k0 + cntMb m ≤ 10000000) (hm : m.rows.length ≤ maxLen) :
    Calls Try.prog 34 #[mbV A m, .int .i64 (k0 : Int)] w fun e w' => e = .returned (.int .i64 ((k0 + cntMb m : Nat) : Int)) ∧ It w' (mbCels (mkMb m k0)) (mbVals A m) lo w'.heap.size ∧ Wrt (Iv lo hi) w w' := by
  have hb := oneA16 w (.cells (mbC A m) 40)
  have hx := Bx.new w 40 (mbC A m)
  obtain ⟨fp, hl, hfp⟩ := h.below hb
  obtain ⟨f1, f2, o1, o2, hd, hi2⟩ := owL_two hl
  have HF1 : Hid (∀ b, f1 b → lo ≤ b ∧ b < hi) := fun b hb => hfp b ((hi2 b).2 (.inl hb))
  have HF2 : Hid (∀ b, f2 b → lo ≤ b ∧ b < hi) := fun b hb => hfp b ((hi2 b).2 (.inr hb))
  have HD : Hid (∀ b, f1 b → ¬ f2 b) := hd
  obtain ⟨id, n, rows, sung, done⟩ := m
  obtain ⟨ra, rc, sa, sc⟩ := A
  unfold cntMb at hk ⊢
  simp only at hk hm o1 o2 ⊢
  unfold mbV
  unfold mbC at *
  simp only at *
  have HW0 : Hid (Wrt (Iv lo hi) w (w.alloc (.cells #[.int .i64 id, .int .i64 n, .slice ra rows.length rc, .slice sa sung.length sc, .bool done] 40))) := Wrt.of_below hb
  have hws := hb.size
  generalize hWW : w.alloc (.cells #[.int .i64 id, .int .i64 n, .slice ra rows.length rc, .slice sa sung.length sc, .bool done] 40) = W at *
  have HX : Hid (∀ X, Wrt f1 W X → Bx X w.heap.size 40 #[.int .i64 id, .int .i64 n, .slice ra rows.length rc, .slice sa sung.length sc, .bool done]) := fun X hX => hx.wrt hX (fun k => by have := (HF1.out _ k).2; omega)
  obtain ⟨c0, c1, c2, c3, c4⟩ := Bx.r5 (HX.out W (Wrt.refl _ _))
  obtain ⟨KR, hKR⟩ : ∃ KR : Nat, Hid (KR = k0 + cP rows rows.length) := ⟨_, rfl⟩
  have hM1 := markRs_ow ra rc k0 rows f1 W o1 hk1 (by omega) hm
  rw [← hKR.out] at hM1
  have HO2 : Hid (Cel.ow W (icl sung) (.slice sa sung.length sc) f2) := o2
  have hsb : sung.length ≤ 10000000 := by omega
  have HKb : Hid (KR + sung.length ≤ 10000000) := by have := hKR.out; rw [Hid]; omega
  clear h hl hfp hi2 o1 o2 hx hb hd hk
  go_enter Try.func34, Try.ntmps34
  go_wp2_with fail
  refine hM1.mono ?_
  rintro e X1 ⟨rfl, g1, q1, hg1, hw1⟩
  have HQ1 : Hid (Cel.ow X1 (lcl 8 rw8 (mkP rows k0 rows.length)) (.slice ra rows.length rc) g1) := q1
  have HG1 : Hid (∀ b, g1 b → f1 b ∨ W.heap.size ≤ b) := hg1
  have HW1 : Hid (Wrt f1 W X1) := hw1
  have p2 := Cel.ow_wrt HO2.out hw1 (fun b hb k => HD.out b k hb)
  have hM2 := markI_ow _ KR sung f2 X1 p2 (by have := HKb.out; omega) hsb
  have hK2 : (KR : Int) + (sung.length : Int) = ((KR + sung.length : Nat) : Int) := by omega
  rw [hK2] at hM2
  clear c0 c1 c2 c3 c4
  obtain ⟨c0, c1, c2, c3, c4⟩ := Bx.r5 (HX.out X1 hw1)
  clear hM1 q1 hg1 hw1 p2 hk1 hsb hK2
  go_wp2_with fail
  refine hM2.mono ?_
  rintro e X2 ⟨rfl, q2, hw2⟩
  have hs1 := HW1.out.size
  have hs2 := hw2.size
  have HE : Hid (It X2 (mbCels (mkMb ⟨id, n, rows, sung, done⟩ k0)) [.slice ra rows.length rc, .slice sa sung.length sc] lo X2.heap.size) := by
    have hd2 : ∀ b, g1 b → ¬ f2 b := fun b h1 h2 => by
      rcases HG1.out b h1 with h | h
      · exact HD.out b h h2
      · have := (HF2.out b h2).2; omega
    have o1' := Cel.ow_wrt HQ1.out hw2 (fun b hb k => hd2 b hb k)
    rw [hKR.out] at q2
    refine ⟨_, owL_both o1' q2 hd2, fun b hb => ?_⟩
    have hlt : b < X2.heap.size := owL_lt (owL_both o1' q2 hd2) b hb
    rcases hb with hb | hb
    · rcases HG1.out b hb with h | h
      · exact ⟨(HF1.out b h).1, hlt⟩
      · exact ⟨by omega, hlt⟩
    · exact ⟨(HF2.out b hb).1, hlt⟩
  have HWf : Hid (Wrt (Iv lo hi) w X2) := (HW0.out.trans (HW1.out.mono (fun b _ h => HF1.out b h)) (fun _ _ h => h)).trans (hw2.mono (fun b _ h => HF2.out b h)) (fun _ _ h => h)
  clear hM2 q2 hw2 c0 c1 c2 c3 c4
  go_wp2
  go_ret
  exact ⟨ret_int (by rw [hKR.out]; omega), HE.out, HWf.out⟩
set_option maxRecDepth 100000 in
set_option maxHeartbeats 1600000 in
theorem heldMb_it (A : Ma) (m : Mb) (k0 lo hi : Nat) (w : World) (h : It w (mbCels (mkMb m k0)) (mbVals A m) lo hi) (hk1 : 1 ≤ k0) (hk : k0 + cntMb m ≤ 10000000) (hm : m.rows.length ≤ maxLen) :
    Calls Try.prog 35 #[mbV A m, .int .i64 (k0 : Int)] w fun e w' => e = .returned (.int .i64 ((k0 + cntMb m : Nat) : Int)) ∧ Below w.heap.size w w' := by
  have hb := oneA16 w (.cells (mbC A m) 40)
  have hx := Bx.new w 40 (mbC A m)
  obtain ⟨fp, hl, hfp⟩ := h.below hb
  obtain ⟨f1, f2, o1, o2, hd, hi2⟩ := owL_two hl
  obtain ⟨id, n, rows, sung, done⟩ := m
  obtain ⟨ra, rc, sa, sc⟩ := A
  unfold cntMb at hk ⊢
  unfold mkMb at o1 o2
  simp only at hk hm o1 o2 ⊢
  unfold mbV
  unfold mbC at *
  simp only at *
  generalize hWW : w.alloc (.cells #[.int .i64 id, .int .i64 n, .slice ra rows.length rc, .slice sa sung.length sc, .bool done] 40) = W at *
  have HB0 : Hid (Below w.heap.size w W) := hb
  obtain ⟨c0, c1, c2, c3, c4⟩ := Bx.r5 hx
  have HX : Hid (Bx W w.heap.size 40 #[.int .i64 id, .int .i64 n, .slice ra rows.length rc, .slice sa sung.length sc, .bool done]) := hx
  obtain ⟨KR, hKR⟩ : ∃ KR : Nat, Hid (KR = k0 + cP rows rows.length) := ⟨_, rfl⟩
  have hM1 := heldRs_ow ra rc k0 rows f1 W o1 hk1 (by omega) hm
  rw [← hKR.out] at hM1
  rw [← hKR.out] at o2
  have HO2 : Hid (Cel.ow W (icl (marks sung.length KR)) (.slice sa sung.length sc) f2) := o2
  have hsb : sung.length ≤ 10000000 := by omega
  have HKb : Hid (KR + sung.length ≤ 10000000) := by have := hKR.out; rw [Hid]; omega
  clear h hl hfp hi2 o1 o2 hx hb hd hk
  go_enter Try.func35, Try.ntmps35
  go_wp2_with fail
  refine hM1.mono ?_
  rintro e X1 ⟨rfl, hb1⟩
  have HB1 : Hid (Below w.heap.size w X1) := HB0.out.trans (hb1.mono HB0.out.size)
  have hM2 := heldI_ow _ KR sung.length f2 X1 (Cel.ow_below HO2.out hb1) (by have := HKb.out; omega) hsb
  have hK2 : (KR : Int) + (sung.length : Int) = ((KR + sung.length : Nat) : Int) := by omega
  rw [hK2] at hM2
  clear c0 c1 c2 c3 c4
  obtain ⟨c0, c1, c2, c3, c4⟩ := Bx.r5 (HX.out.below hb1)
  have p1 : ¬ ((KR : Int) < 0) := by omega
  have p2 : ¬ (((KR + sung.length : Nat) : Int) < 0) := by omega
  clear hM1 hb1 hk1 hsb hK2
  go_wp2_with fail
  refine hM2.mono ?_
  rintro e X2 ⟨rfl, hx2⟩
  obtain rfl := hx2.symm
  clear hM2 hx2 c0 c1 c2 c3 c4
  go_wp2
  go_ret
  exact ⟨ret_int (by rw [hKR.out]; omega), HB1.out⟩
end Go.Proofs.Ytgfeabgmllkdeaa

/-
  The laws' own eqRowS and eqMember.
-/
namespace Go.Proofs.Ytgfeabgmllkdeaa
set_option linter.unusedVariables false
set_option linter.unusedSimpArgs false
open Go.RowKit Go.Sort

set_option maxRecDepth 100000 in
set_option maxHeartbeats 3200000 in
theorem eqRs_any (a a' : Option Addr) (cap cap' : Nat) (R : List Rw) (w : World) (hv : Cel.vw w (lcl 8 rw8 R) (.slice a R.length cap)) (hu : Cel.vw w (lcl 8 rw8 R) (.slice a' R.length cap')) (hf : ∀ r ∈ R, FitR r) (hm : R.length ≤ maxLen) :
    Calls Try.prog 77 #[.slice a R.length cap, .slice a' R.length cap'] w fun e w' => e = .returned (.bool true) ∧ Below w.heap.size w w' := by
  have HV : Hid (Cel.vw w (lcl 8 rw8 R) (.slice a R.length cap)) := hv
  have HU : Hid (Cel.vw w (lcl 8 rw8 R) (.slice a' R.length cap')) := hu
  have hbb : ((R.length : Int) != (R.length : Int)) = false := by simp
  unfold maxLen at hm
  clear hv hu
  go_enter Try.func77, Try.ntmps77
  go_wp2_with fail
  go_loopw [5] (fun v wr => ∃ k : Nat, k ≤ R.length ∧ v = .int .i64 (k : Int) ∧ Below w.heap.size w wr) (fun v _ => R.length - (intOf v).toNat)
  case atStart => exact ⟨0, Nat.zero_le _, rfl, Below.refl _ _⟩
  case round =>
    obtain ⟨k, hk, rfl, hb⟩ := hrel
    by_cases hlt : k < R.length
    · have k1 : (k : Int) < (R.length : Int) := by omega
      have k0 : (0 : Int) ≤ (k : Int) := by omega
      have hmem : rowN R k ∈ R := rowN_mem hlt
      have hkx : R[k]? = some (rowN R k) := by simp [rowN, List.getD, hlt]
      obtain ⟨g, off, hra, hpv⟩ := vw_elF rw8_len (Cel.vw_below HV.out hb) hkx
      obtain ⟨g', off', hra', hpv'⟩ := vw_elF rw8_len (Cel.vw_below HU.out hb) hkx
      obtain ⟨A, ⟨⟨d0, d1, d2, d3⟩, d4, d5, d6, d7⟩, hrs⟩ := hpv.row (hf _ hmem)
      obtain ⟨A', ⟨⟨e0, e1, e2, e3⟩, e4, e5, e6, e7⟩, hrs'⟩ := hpv'.row (hf _ hmem)
      subst hra hra'
      have C : ∀ q : Bk wr, Calls Try.prog 42 #[rwV A (rowN R k), rwV A' (rowN R k)] q.w fun e w' => e = .returned (.bool true) ∧ Below q.w.heap.size q.w w' := fun q => eqRw_any A A' _ q.w (hrs.below q.h) (hrs'.below q.h)
      unfold rwV rwC at C
      have T : ∀ {x v}, wr.cell? x = some v → ∀ q : Bk wr, q.w.cell? x = some v := fun h q => (q.h.cell (World.block_lt_of_cell? _ _ h)).trans h
      have dp0 := T d0
      have dp1 := T d1
      have dp2 := T d2
      have dp3 := T d3
      have dp4 := T d4
      have dp5 := T d5
      have dp6 := T d6
      have dp7 := T d7
      have ep0 := T e0
      have ep1 := T e1
      have ep2 := T e2
      have ep3 := T e3
      have ep4 := T e4
      have ep5 := T e5
      have ep6 := T e6
      have ep7 := T e7
      have HB : Hid (Below w.heap.size w wr) := hb
      generalize rowN R k = r at *
      clear hrs hrs' hpv hpv' hb T d0 d1 d2 d3 d4 d5 d6 d7 e0 e1 e2 e3 e4 e5 e6 e7 hkx
      go_wp2_with fail
      refine wp_region_bk (by kernel_rfl) (by kernel_rfl) ?_
      repeat (go_big_quiet_step ((first | (go_at_call 42; exact bk_call _ (C _)) | rfl)))
      refine wpQuiet_nil ?_
      intro wE hw'
      obtain ⟨⟨w11, hb11⟩, hw''⟩ := hw'
      have hwe : wE = w11 := hw''
      clear hw''
      subst hwe
      have HB1 : Hid (Below w.heap.size w wE) := HB.out.trans (hb11.mono HB.out.size)
      clear C hb11 dp0 dp1 dp2 dp3 dp4 dp5 dp6 dp7 ep0 ep1 ep2 ep3 ep4 ep5 ep6 ep7
      go_wp2
      go_roundw
      case rel => exact ⟨k + 1, by omega, by go_num, HB1.out⟩
      case measure => simp [intOf]; omega
    · have k1 : ¬ ((k : Int) < (R.length : Int)) := by omega
      have HB : Hid (Below w.heap.size w wr) := hb
      clear hb
      go_wp2
      go_ret
      exact ⟨rfl, HB.out⟩
set_option maxRecDepth 100000 in
set_option maxHeartbeats 3200000 in
theorem eqMb_any (A D : Ma) (m : Mb) (w : World) (hv : MbS w A m) (hu : MbS w D m) :
    Calls Try.prog 31 #[mbV A m, mbV D m] w fun e w' => e = .returned (.bool true) ∧ Below w.heap.size w w' := by
  have hB0 : Below w.heap.size w ((w.alloc (.cells #[.int .i64 m.id, .int .i64 m.n, .slice A.ra m.rows.length A.rc, .slice A.sa m.sung.length A.sc, .bool m.done] 40)).alloc (.cells #[.int .i64 m.id, .int .i64 m.n, .slice D.ra m.rows.length D.rc, .slice D.sa m.sung.length D.sc, .bool m.done] 40)) := (oneA16 w _).trans ((oneA16 _ _).mono (oneA16 w _).size)
  have hx : Bx ((w.alloc (.cells #[.int .i64 m.id, .int .i64 m.n, .slice A.ra m.rows.length A.rc, .slice A.sa m.sung.length A.sc, .bool m.done] 40)).alloc (.cells #[.int .i64 m.id, .int .i64 m.n, .slice D.ra m.rows.length D.rc, .slice D.sa m.sung.length D.sc, .bool m.done] 40)) w.heap.size 40 #[.int .i64 m.id, .int .i64 m.n, .slice A.ra m.rows.length A.rc, .slice A.sa m.sung.length A.sc, .bool m.done] := (Bx.new w _ _).alloc _
  have hy : Bx ((w.alloc (.cells #[.int .i64 m.id, .int .i64 m.n, .slice A.ra m.rows.length A.rc, .slice A.sa m.sung.length A.sc, .bool m.done] 40)).alloc (.cells #[.int .i64 m.id, .int .i64 m.n, .slice D.ra m.rows.length D.rc, .slice D.sa m.sung.length D.sc, .bool m.done] 40)) (w.heap.size + 1) 40 #[.int .i64 m.id, .int .i64 m.n, .slice D.ra m.rows.length D.rc, .slice D.sa m.sung.length D.sc, .bool m.done] := by
    have := Bx.new (w.alloc (.cells #[.int .i64 m.id, .int .i64 m.n, .slice A.ra m.rows.length A.rc, .slice A.sa m.sung.length A.sc, .bool m.done] 40)) 40 #[.int .i64 m.id, .int .i64 m.n, .slice D.ra m.rows.length D.rc, .slice D.sa m.sung.length D.sc, .bool m.done]
    simpa using this
  have h0 := hv.below hB0
  have g0 := hu.below hB0
  have hR := eqRs_any A.ra D.ra A.rc D.rc m.rows _ h0.rows g0.rows h0.fit h0.mr
  have hE : ∀ X, Below w.heap.size w X → Calls Try.prog 78 #[.slice A.sa m.sung.length A.sc, .slice D.sa m.sung.length D.sc] X fun e w' => e = .returned (.bool true) ∧ Below X.heap.size X w' := fun X h => (eq_any A.sa D.sa m.sung.length A.sc m.sung.length D.sc m.sung m.sung X (hv.sung.below h (Nat.le_refl _)) (hu.sung.below h (Nat.le_refl _)) hv.ms).mono (fun e w' ⟨h4, n, h5⟩ => ⟨by rw [h4]; simp, by rw [h5]; exact belowN (Below.refl _ _)⟩)
  unfold mbV mbC
  generalize hWW : (w.alloc (.cells #[.int .i64 m.id, .int .i64 m.n, .slice A.ra m.rows.length A.rc, .slice A.sa m.sung.length A.sc, .bool m.done] 40)).alloc (.cells #[.int .i64 m.id, .int .i64 m.n, .slice D.ra m.rows.length D.rc, .slice D.sa m.sung.length D.sc, .bool m.done] 40) = W at *
  have n1 : (m.id != m.id) = false := by simp
  have n2 : (m.n != m.n) = false := by simp
  have n3 : (m.done != m.done) = false := by simp
  have HX : Hid (Bx W w.heap.size 40 #[.int .i64 m.id, .int .i64 m.n, .slice A.ra m.rows.length A.rc, .slice A.sa m.sung.length A.sc, .bool m.done]) := hx
  have HY : Hid (Bx W (w.heap.size + 1) 40 #[.int .i64 m.id, .int .i64 m.n, .slice D.ra m.rows.length D.rc, .slice D.sa m.sung.length D.sc, .bool m.done]) := hy
  have HB : Hid (Below w.heap.size w W) := hB0
  obtain ⟨c0, c1, c2, c3, c4⟩ := Bx.r5 hx
  obtain ⟨d0, d1, d2, d3, d4⟩ := Bx.r5 hy
  clear hv hu h0 g0 hB0 hx hy
  go_enter Try.func31, Try.ntmps31
  go_wp2_with fail
  refine hR.mono ?_
  rintro e w1 ⟨rfl, hb1⟩
  have HB1 : Hid (Below w.heap.size w w1) := HB.out.trans (hb1.mono HB.out.size)
  have HX1 : Hid (Bx w1 w.heap.size 40 #[.int .i64 m.id, .int .i64 m.n, .slice A.ra m.rows.length A.rc, .slice A.sa m.sung.length A.sc, .bool m.done]) := HX.out.below hb1
  have HY1 : Hid (Bx w1 (w.heap.size + 1) 40 #[.int .i64 m.id, .int .i64 m.n, .slice D.ra m.rows.length D.rc, .slice D.sa m.sung.length D.sc, .bool m.done]) := HY.out.below hb1
  clear c0 c1 c2 c3 c4 d0 d1 d2 d3 d4 hR hb1
  obtain ⟨c0, c1, c2, c3, c4⟩ := Bx.r5 HX1.out
  obtain ⟨d0, d1, d2, d3, d4⟩ := Bx.r5 HY1.out
  go_wp2_with fail
  refine (hE _ HB1.out).mono ?_
  rintro e w2 ⟨rfl, hb2⟩
  have HB2 : Hid (Below w.heap.size w w2) := HB1.out.trans (hb2.mono HB1.out.size)
  clear c0 c1 c2 c3 c4 d0 d1 d2 d3 d4 hE
  obtain ⟨c0, c1, c2, c3, c4⟩ := Bx.r5 (HX1.out.below hb2)
  obtain ⟨d0, d1, d2, d3, d4⟩ := Bx.r5 (HY1.out.below hb2)
  clear hb2
  go_wp2
  go_ret
  exact ⟨rfl, HB2.out⟩
end Go.Proofs.Ytgfeabgmllkdeaa

/-
  The specification's NewMember.
-/
namespace Go.Proofs.Ytgfeabgmllkdeaa
set_option linter.unusedVariables false
set_option linter.unusedSimpArgs false
open Go.RowKit Go.Sort

end Go.Proofs.Ytgfeabgmllkdeaa

/-
  The specification's Say, Doubt and Heard.
-/
namespace Go.Proofs.Ytgfeabgmllkdeaa
set_option linter.unusedVariables false
set_option linter.unusedSimpArgs false
open Go.RowKit Go.Sort

def hrdM (m : Mb) (fr : Int) (r : Rw) : Mb × Bool := if okMb m = true then heardMb m fr r else (zeroMb, false)
theorem Bx.pc {w : World} {B : Nat} {T : TypeId} {cs : Array Value} (h : Bx w B T cs) : Pc w B 0 cs.toList :=
  ⟨fun j hj => by
    have hj' : j < cs.size := by simpa using hj
    rw [Nat.zero_add, h.at j (Array.getElem?_eq_getElem hj')]
    simp [hj'], fun j _ => by rw [Nat.zero_add]; exact h.f j, h.lt⟩
/-- A member in a box of its own, as a place. -/
theorem box_plc {w : World} {B : Nat} {T : TypeId} {A : Ma} {m : Mb} {fp : Fp} (h : Bx w B T (mbC A m)) (hl : owL w (mbCels m) (mbVals A m) fp) (hB : ¬ fp B) : Plc w B 0 (mb5 m) fp := ⟨_, h.pc, ow_mb5 hl, hB⟩
/-- What a pointer's function leaves in the box. -/
theorem box_done {w X Y : World} {B r : Nat} {m : Mb} {fp : Fp} (h : Bcm X Y B 0 (mb5 m) fp) (hf : ∀ b, fp b → w.heap.size ≤ b ∧ b ≠ r) (hB : w.heap.size ≤ B) (hrB : r ≠ B) (hr : w.heap.size ≤ r) (hrX : r < X.heap.size) (hw : Below w.heap.size w X) {T : TypeId} {Z : Array Value} (hz : Bx X r T Z) : ∃ A : Ma, C5 Y B 0 (.int .i64 m.id) (.int .i64 m.n) (.slice A.ra m.rows.length A.rc) (.slice A.sa m.sung.length A.sc) (.bool m.done) ∧ Bx Y r T Z ∧
    ∀ {a b c d e : Value}, NewL w (((((Y.setCell ⟨r, 0, none⟩ a).setCell ⟨r, 1, none⟩ b).setCell ⟨r, 2, none⟩ c).setCell ⟨r, 3, none⟩ d).setCell ⟨r, 4, none⟩ e) (mbCels m) (mbVals A m) := by
  obtain ⟨fp1, hp, hs, _⟩ := h.next
  obtain ⟨vs, hpc, hov, hnB⟩ := hp
  obtain ⟨A, rfl, hl⟩ := mb5_ow hov
  have hl5 : (mbC A m).toList.length = 5 := rfl
  have c := hpc.cell
  have hXs := hw.size
  have hfp : ∀ b, fp1 b → w.heap.size ≤ b ∧ b ≠ r := fun b hb => by
    rcases hs b hb with k | k
    · exact hf b k
    · exact ⟨by omega, by omega⟩
  have hbY : Below w.heap.size w Y := h.wrt.below hw hXs (fun b hb => by
    rcases hb with hb | hb
    · exact (hf b hb).1
    · omega)
  refine ⟨A, ⟨c 0 (by rw [hl5]; omega), c 1 (by rw [hl5]; omega), c 2 (by rw [hl5]; omega), c 3 (by rw [hl5]; omega), c 4 (by rw [hl5]; omega)⟩, hz.wrt h.wrt (fun k => by
    rcases k with k | k
    · exact (hf r k).2 rfl
    · exact hrB k), fun {a b c d e} => ⟨fp1, owL_wrt hl (wrt5 Y r) (fun b hb e => (hfp b hb).2 e), fun b hb => (hfp b hb).1, (wrt5 Y r).below hbY hbY.size (fun b e => by omega)⟩⟩
attribute [local irreducible] sv
set_option maxRecDepth 100000 in
set_option maxHeartbeats 3200000 in
theorem hrdS_any (A : Ma) (m : Mb) (fr : Int) (Ar : Ra) (r : Rw) (w : World) (hv : MbS w A m) (hrw : RwS w Ar r) (h6 : I64v fr) :
    Calls Try.prog 39 #[mbV A m, .int .i64 fr, rwV Ar r] w fun e w' => AnsMf w w' e (hrdM m fr r).1 (hrdM m fr r).2 := by
  have hb0 : Below w.heap.size w (((w.alloc (.cells #[.int .i64 m.id, .int .i64 m.n, .slice A.ra m.rows.length A.rc, .slice A.sa m.sung.length A.sc, .bool m.done] 40)).alloc (.cells #[.int .i64 r.ver, .slice Ar.ta r.txt.length Ar.tc, .slice Ar.ga r.got.length Ar.gc, .slice Ar.sa r.sus.length Ar.sc, .bool r.wed, .bool r.rdy, .int .i64 r.by_, .slice Ar.ma r.trm.length Ar.mc] 55)).alloc (.cells #[.int .i64 0, .int .i64 0, .slice none 0 0, .slice none 0 0, .bool false] 40)) := ((oneA16 w _).trans ((oneA16 _ _).mono (oneA16 w _).size)).trans ((oneA16 _ _).mono ((oneA16 w _).trans ((oneA16 _ _).mono (oneA16 w _).size)).size)
  have hx0 : Bx (((w.alloc (.cells #[.int .i64 m.id, .int .i64 m.n, .slice A.ra m.rows.length A.rc, .slice A.sa m.sung.length A.sc, .bool m.done] 40)).alloc (.cells #[.int .i64 r.ver, .slice Ar.ta r.txt.length Ar.tc, .slice Ar.ga r.got.length Ar.gc, .slice Ar.sa r.sus.length Ar.sc, .bool r.wed, .bool r.rdy, .int .i64 r.by_, .slice Ar.ma r.trm.length Ar.mc] 55)).alloc (.cells #[.int .i64 0, .int .i64 0, .slice none 0 0, .slice none 0 0, .bool false] 40)) w.heap.size 40 #[.int .i64 m.id, .int .i64 m.n, .slice A.ra m.rows.length A.rc, .slice A.sa m.sung.length A.sc, .bool m.done] := ((Bx.new w _ _).alloc _).alloc _
  have hxr : Bx (((w.alloc (.cells #[.int .i64 m.id, .int .i64 m.n, .slice A.ra m.rows.length A.rc, .slice A.sa m.sung.length A.sc, .bool m.done] 40)).alloc (.cells #[.int .i64 r.ver, .slice Ar.ta r.txt.length Ar.tc, .slice Ar.ga r.got.length Ar.gc, .slice Ar.sa r.sus.length Ar.sc, .bool r.wed, .bool r.rdy, .int .i64 r.by_, .slice Ar.ma r.trm.length Ar.mc] 55)).alloc (.cells #[.int .i64 0, .int .i64 0, .slice none 0 0, .slice none 0 0, .bool false] 40)) (w.heap.size + 1) 55 #[.int .i64 r.ver, .slice Ar.ta r.txt.length Ar.tc, .slice Ar.ga r.got.length Ar.gc, .slice Ar.sa r.sus.length Ar.sc, .bool r.wed, .bool r.rdy, .int .i64 r.by_, .slice Ar.ma r.trm.length Ar.mc] := by
    have := (Bx.new (w.alloc (.cells #[.int .i64 m.id, .int .i64 m.n, .slice A.ra m.rows.length A.rc, .slice A.sa m.sung.length A.sc, .bool m.done] 40)) 55 #[.int .i64 r.ver, .slice Ar.ta r.txt.length Ar.tc, .slice Ar.ga r.got.length Ar.gc, .slice Ar.sa r.sus.length Ar.sc, .bool r.wed, .bool r.rdy, .int .i64 r.by_, .slice Ar.ma r.trm.length Ar.mc]).alloc (.cells #[.int .i64 0, .int .i64 0, .slice none 0 0, .slice none 0 0, .bool false] 40)
    rw [World.size_alloc] at this
    exact this
  have hz0 : Bx (((w.alloc (.cells #[.int .i64 m.id, .int .i64 m.n, .slice A.ra m.rows.length A.rc, .slice A.sa m.sung.length A.sc, .bool m.done] 40)).alloc (.cells #[.int .i64 r.ver, .slice Ar.ta r.txt.length Ar.tc, .slice Ar.ga r.got.length Ar.gc, .slice Ar.sa r.sus.length Ar.sc, .bool r.wed, .bool r.rdy, .int .i64 r.by_, .slice Ar.ma r.trm.length Ar.mc] 55)).alloc (.cells #[.int .i64 0, .int .i64 0, .slice none 0 0, .slice none 0 0, .bool false] 40)) (w.heap.size + 1 + 1) 40 #[.int .i64 0, .int .i64 0, .slice none 0 0, .slice none 0 0, .bool false] := by
    have := Bx.new ((w.alloc (.cells #[.int .i64 m.id, .int .i64 m.n, .slice A.ra m.rows.length A.rc, .slice A.sa m.sung.length A.sc, .bool m.done] 40)).alloc (.cells #[.int .i64 r.ver, .slice Ar.ta r.txt.length Ar.tc, .slice Ar.ga r.got.length Ar.gc, .slice Ar.sa r.sus.length Ar.sc, .bool r.wed, .bool r.rdy, .int .i64 r.by_, .slice Ar.ma r.trm.length Ar.mc] 55)) 40 #[.int .i64 0, .int .i64 0, .slice none 0 0, .slice none 0 0, .bool false]
    simp only [World.size_alloc] at this
    exact this
  have hv0 := hv.below hb0
  have hrw0 := hrw.below hb0
  unfold mbV mbC rwV rwC
  generalize hWW : ((w.alloc (.cells #[.int .i64 m.id, .int .i64 m.n, .slice A.ra m.rows.length A.rc, .slice A.sa m.sung.length A.sc, .bool m.done] 40)).alloc (.cells #[.int .i64 r.ver, .slice Ar.ta r.txt.length Ar.tc, .slice Ar.ga r.got.length Ar.gc, .slice Ar.sa r.sus.length Ar.sc, .bool r.wed, .bool r.rdy, .int .i64 r.by_, .slice Ar.ma r.trm.length Ar.mc] 55)).alloc (.cells #[.int .i64 0, .int .i64 0, .slice none 0 0, .slice none 0 0, .bool false] 40) = W0 at *
  have hK := mbkS_any A m W0 hv0
  unfold mbV mbC at hK
  have HX0 : Hid (Bx W0 w.heap.size 40 #[.int .i64 m.id, .int .i64 m.n, .slice A.ra m.rows.length A.rc, .slice A.sa m.sung.length A.sc, .bool m.done]) := hx0
  have HZ0 : Hid (Bx W0 (w.heap.size + 1 + 1) 40 #[.int .i64 0, .int .i64 0, .slice none 0 0, .slice none 0 0, .bool false]) := hz0
  have HXr : Hid (Bx W0 (w.heap.size + 1) 55 #[.int .i64 r.ver, .slice Ar.ta r.txt.length Ar.tc, .slice Ar.ga r.got.length Ar.gc, .slice Ar.sa r.sus.length Ar.sc, .bool r.wed, .bool r.rdy, .int .i64 r.by_, .slice Ar.ma r.trm.length Ar.mc]) := hxr
  have HRw : Hid (RwS W0 Ar r) := hrw0
  have HV0 : Hid (MbS W0 A m) := hv0
  have HB0 : Hid (Below w.heap.size w W0) := hb0
  obtain ⟨c0, c1, c2, c3, c4⟩ := Bx.r5 hx0
  clear hv hb0 hx0 hz0 hv0 hrw hrw0 hxr
  cases hok : okMb m with
  | false =>
    have HZ : Hid (hrdM m fr r = (zeroMb, false)) := by rw [Hid, hrdM, hok]; rfl
    rw [hok] at hK
    clear hok
    go_enter Try.func39, Try.ntmps39
    go_wp2_with fail
    refine hK.mono ?_
    rintro e w1 ⟨rfl, hb1⟩
    have hz1 := HZ0.out.below hb1
    have HB1 : Hid (Below w.heap.size w w1) := HB0.out.trans (hb1.mono HB0.out.size)
    obtain ⟨z0, z1, z2, z3, z4⟩ := Bx.r5 hz1
    obtain ⟨f0, f1, f2, f3, f4⟩ := hz1.f5
    clear hz1 hb1 c0 c1 c2 c3 c4 hK
    go_wp2
    refine bodyPost_ret (v := .tuple #[mbV ⟨none, 0, none, 0⟩ zeroMb, .bool false]) (by simp [results, Try.results39, go_sem, mbV, mbC, zeroMb, *]) rfl ?_
    rw [HZ.out]
    exact ⟨_, rfl, ansM_zero ((wrt5 w1 (w.heap.size + 1 + 1)).below HB1.out HB1.out.size (fun b h => by omega))⟩
  | true =>
    have HZ : Hid (hrdM m fr r = heardMb m fr r) := by rw [Hid, hrdM, hok]; rfl
    obtain ⟨i, n, ok⟩ := okMb_iff.1 hok
    rw [hok] at hK
    clear hok
    go_enter Try.func39, Try.ntmps39
    go_wp2_with fail
    refine hK.mono ?_
    rintro e w1 ⟨rfl, hb1⟩
    have HB1 : Hid (Below w.heap.size w w1) := HB0.out.trans (hb1.mono HB0.out.size)
    have HZ1 : Hid (Bx w1 (w.heap.size + 1 + 1) 40 #[.int .i64 0, .int .i64 0, .slice none 0 0, .slice none 0 0, .bool false]) := HZ0.out.below hb1
    have HXr1 : Hid (Bx w1 (w.heap.size + 1) 55 #[.int .i64 r.ver, .slice Ar.ta r.txt.length Ar.tc, .slice Ar.ga r.got.length Ar.gc, .slice Ar.sa r.sus.length Ar.sc, .bool r.wed, .bool r.rdy, .int .i64 r.by_, .slice Ar.ma r.trm.length Ar.mc]) := HXr.out.below hb1
    have HRw1 : Hid (RwS w1 Ar r) := HRw.out.below hb1
    have hC := cpyMb_any A m w1 (HV0.out.below hb1) ok.ln
    unfold mbV mbC at hC
    clear c0 c1 c2 c3 c4 hK
    obtain ⟨c0, c1, c2, c3, c4⟩ := Bx.r5 (HX0.out.below hb1)
    clear hb1
    go_wp2_with fail
    refine hC.mono ?_
    rintro e w2 ⟨A2, rfl, fp, hl2, hf2, hb2⟩
    have hlt2 := owL_lt hl2
    have HB2 : Hid (Below w.heap.size w w2) := HB1.out.trans (hb2.mono HB1.out.size)
    have hba := oneA16 w2 (.cells #[.int .i64 m.id, .int .i64 m.n, .slice A2.ra m.rows.length A2.rc, .slice A2.sa m.sung.length A2.sc, .bool m.done] 40)
    have hxb := Bx.new w2 40 #[.int .i64 m.id, .int .i64 m.n, .slice A2.ra m.rows.length A2.rc, .slice A2.sa m.sung.length A2.sc, .bool m.done]
    have hP : Plc (w2.alloc (.cells #[.int .i64 m.id, .int .i64 m.n, .slice A2.ra m.rows.length A2.rc, .slice A2.sa m.sung.length A2.sc, .bool m.done] 40)) w2.heap.size 0 (mb5 m) fp := box_plc hxb (owL_below hl2 hba) (fun k => by have := hlt2 _ k; omega)
    have HZ3 : Hid (Bx (w2.alloc (.cells #[.int .i64 m.id, .int .i64 m.n, .slice A2.ra m.rows.length A2.rc, .slice A2.sa m.sung.length A2.sc, .bool m.done] 40)) (w.heap.size + 1 + 1) 40 #[.int .i64 0, .int .i64 0, .slice none 0 0, .slice none 0 0, .bool false]) := (HZ1.out.below hb2).below hba
    have HB3 : Hid (Below w.heap.size w (w2.alloc (.cells #[.int .i64 m.id, .int .i64 m.n, .slice A2.ra m.rows.length A2.rc, .slice A2.sa m.sung.length A2.sc, .bool m.done] 40))) := HB2.out.trans (hba.mono HB2.out.size)
    have hr1 : (w.heap.size + 1 + 1) < w1.heap.size := HZ1.out.lt
    have hs2 := hb2.size
    have hxr3 := (HXr1.out.below hb2).below hba
    have hrw3 := (HRw1.out.below hb2).below hba
    obtain ⟨⟨x0, x1, x2, x3⟩, x4, x5, x6, x7⟩ := Bx.r8 hxr3
    have hS := hrdSp_any w2.heap.size 0 m i n fr Ar r fp _ hP ok hrw3 h6
    unfold rwV rwC at hS
    unfold mbV mbC
    generalize hV3 : w2.alloc (.cells #[.int .i64 m.id, .int .i64 m.n, .slice A2.ra m.rows.length A2.rc, .slice A2.sa m.sung.length A2.sc, .bool m.done] 40) = V3 at *
    have HF2 : Hid (∀ b, fp b → w1.heap.size ≤ b) := hf2
    have hB3 : w2.heap.size < V3.heap.size := hxb.lt
    clear hxb hP hl2 hf2 hlt2 hb2 hba c0 c1 c2 c3 c4 hC hxr3 hrw3
    go_wp2_with fail
    refine hS.mono ?_
    rintro e Y ⟨rfl, hBc⟩
    have hsw := HB1.out.size
    obtain ⟨A3, ⟨y0, y1, y2, y3, y4⟩, hz3, HN⟩ := box_done (w := w) (r := (w.heap.size + 1 + 1)) hBc (fun b hb => by have := HF2.out b hb; exact ⟨by omega, by omega⟩) (by omega) (by omega) (by omega) (by have := HZ3.out.lt; omega) HB3.out HZ3.out
    simp only [Nat.zero_add] at y0 y1 y2 y3 y4
    obtain ⟨z0, z1, z2, z3, z4⟩ := Bx.r5 hz3
    obtain ⟨f0, f1, f2, f3, f4⟩ := hz3.f5
    have HNN : Hid (∀ {a b c d e : Value}, NewL w (((((Y.setCell ⟨(w.heap.size + 1 + 1), 0, none⟩ a).setCell ⟨(w.heap.size + 1 + 1), 1, none⟩ b).setCell ⟨(w.heap.size + 1 + 1), 2, none⟩ c).setCell ⟨(w.heap.size + 1 + 1), 3, none⟩ d).setCell ⟨(w.heap.size + 1 + 1), 4, none⟩ e) (mbCels (heardMb m fr r).1) (mbVals A3 (heardMb m fr r).1)) := HN
    generalize hpm : heardMb m fr r = pm at *
    clear hS hBc HN hz3 hpm
    go_wp2
    refine bodyPost_ret (v := .tuple #[mbV A3 pm.1, .bool pm.2]) (by simp [results, Try.results39, go_sem, mbV, mbC, *]) rfl ?_
    rw [HZ.out]
    exact ⟨_, rfl, HNN.out⟩
end Go.Proofs.Ytgfeabgmllkdeaa

/-
  The specification's l17Left.
-/
namespace Go.Proofs.Ytgfeabgmllkdeaa
set_option linter.unusedVariables false
set_option linter.unusedSimpArgs false
open Go.RowKit Go.Sort

/-- An answer that is a list of numbers, in new memory. -/
def AnsL (w w' : World) (e : Ending) (Z : List Int) : Prop := ∃ a c, e = .returned (.slice a Z.length c) ∧ NewO w w' (icl Z) (.slice a Z.length c)
end Go.Proofs.Ytgfeabgmllkdeaa

/-
  Places: two elements of one list; what becomes of one leaves the other as it is (general).
-/
namespace Go.Proofs.Ytgfeabgmllkdeaa
set_option linter.unusedVariables false
set_option linter.unusedSimpArgs false
open Go.RowKit Go.Sort

end Go.Proofs.Ytgfeabgmllkdeaa

/-
  The specification's l17Learn: what is plain of it, and what a part of the work on a member holds.
-/
namespace Go.Proofs.Ytgfeabgmllkdeaa
set_option linter.unusedVariables false
set_option linter.unusedSimpArgs false
open Go.RowKit Go.Sort

/-- A place, and all that is done since. -/
theorem Mw.of {w : World} {B o : Nat} {m : Mb} {fp : Fp} (h : Plc w B o (mb5 m) fp) (hn : 0 < m.rows.length) {w1 : World} (hb : Below w.heap.size w w1) : ∃ g off c, Mw w1 w1 B o m fp g off c ∧ Mw w w1 B o m fp g off c ∧ ∀ (Y : World) (m' : Mb), Mw w1 Y B o m' fp g off c → Mw w Y B o m' fp g off c := by
  obtain ⟨g, off, c, M⟩ := Mw.start h hn
  exact ⟨g, off, c, ⟨Bcm.refl (h.below hb), (M.step hb).rws⟩, M.step hb, fun Y m' hY => ⟨hY.bcm.first hb h.lt h.flt, hY.rws⟩⟩
/-- Since w the member at ⟨B, o⟩ alone is written, and its rows lie where they lay. -/
structure Mk (w X : World) (B o : Nat) (m : Mb) (fp : Fp) : Prop where
  bcm : Bcm w X B o (mb5 m) fp
  rws : X.cell? ⟨B, o + 2, none⟩ = w.cell? ⟨B, o + 2, none⟩
end Go.Proofs.Ytgfeabgmllkdeaa

/-
  The specification's l17Learn.
-/
namespace Go.Proofs.Ytgfeabgmllkdeaa
set_option linter.unusedVariables false
set_option linter.unusedSimpArgs false
open Go.RowKit Go.Sort

end Go.Proofs.Ytgfeabgmllkdeaa

/-
  The specification's l17Sing.
-/
namespace Go.Proofs.Ytgfeabgmllkdeaa
set_option linter.unusedVariables false
set_option linter.unusedSimpArgs false
open Go.RowKit Go.Sort

end Go.Proofs.Ytgfeabgmllkdeaa

/-
  The specification's l17Adopt.
-/
namespace Go.Proofs.Ytgfeabgmllkdeaa
set_option linter.unusedVariables false
set_option linter.unusedSimpArgs false
open Go.RowKit Go.Sort

/-- append([]int64{}, xs...). -/
theorem vec_copied {X : World} {x : Option Addr} {c : Nat} {xs : List Int} (hv : Vec X x xs.length xs) (hl : xs.length ≤ 1000000) :
    ∀ Z, Same Z (X.alloc (.cells #[] 2)) → ∃ v' w4, (Builtin.append_ #[24, 24] 24 #[.slice (some ⟨X.heap.size, 0, none⟩) 0 0, .slice x xs.length c]).run Try.prog Z = .ok v' w4 ∧ ∃ a' c' f', v' = .slice a' xs.length c' ∧ Cel.ow w4 (icl xs) v' f' ∧ (∀ b, f' b → X.heap.size ≤ b) ∧ Below X.heap.size X w4 := by
  intro Z hZ
  obtain ⟨i0, hi0, hz0, hz1, hz2⟩ := info_parts2n Try.info2n
  have hbZ : Below X.heap.size X Z := (oneA16 X _).trans (hZ.below.mono (oneA16 X _).size)
  obtain ⟨a6, c6, w6, fp6, hr6, ho6, hw6, hf6⟩ := ints_copied (P := Try.prog) (w := Z) 24 24 2 i0 Try.underlying24 hi0 hz0 hz1 hz2 (plainS X.heap.size 0) (x := x) (c := c) (hv.below hbZ (Nat.le_refl _)) hl
  exact ⟨_, w6, hr6, a6, c6, fp6, rfl, ho6, fun b hb => by have := hf6 b hb; have := hbZ.size; omega, hw6.below hbZ hbZ.size (fun b h => h.elim)⟩
end Go.Proofs.Ytgfeabgmllkdeaa

/-
  The contracts of Earlier and Apart, the specification's and the program's, and the walks of the laws FnExactEarlier and FnExactApart.
-/
namespace Go.Proofs.Ytgfeabgmllkdeaa
set_option linter.unusedSimpArgs false
set_option linter.unusedVariables false
open Go.RowKit

end Go.Proofs.Ytgfeabgmllkdeaa

/-
  The specification's l17SameRow.
-/
namespace Go.Proofs.Ytgfeabgmllkdeaa
set_option linter.unusedVariables false
set_option linter.unusedSimpArgs false
open Go.RowKit Go.Sort

end Go.Proofs.Ytgfeabgmllkdeaa

/-
  Lists of rows that lie in no block of the rows themselves; the plain words of l17Lead.
-/
namespace Go.Proofs.Ytgfeabgmllkdeaa
set_option linter.unusedVariables false
set_option linter.unusedSimpArgs false
open Go.RowKit Go.Sort

end Go.Proofs.Ytgfeabgmllkdeaa

/-
  The specification's l17Lead.
-/
namespace Go.Proofs.Ytgfeabgmllkdeaa
set_option linter.unusedVariables false
set_option linter.unusedSimpArgs false
open Go.RowKit Go.Sort

end Go.Proofs.Ytgfeabgmllkdeaa

/-
  The contracts of the specification's SeqOf, SenderOf, IndexOf, l7Counts and Ready.
-/
namespace Go.Proofs.Ytgfeabgmllkdeaa
set_option linter.unusedVariables false
set_option linter.unusedSimpArgs false
open Go.RowKit Go.Sort

end Go.Proofs.Ytgfeabgmllkdeaa

/-
  The contract of the specification's Woven.
-/
namespace Go.Proofs.Ytgfeabgmllkdeaa
set_option linter.unusedVariables false
set_option linter.unusedSimpArgs false
open Go.RowKit Go.Sort

end Go.Proofs.Ytgfeabgmllkdeaa

/-
  The specification's l17End.
-/
namespace Go.Proofs.Ytgfeabgmllkdeaa
set_option linter.unusedVariables false
set_option linter.unusedSimpArgs false
open Go.RowKit Go.Sort

end Go.Proofs.Ytgfeabgmllkdeaa

/-
  A draw that holds a struct of any size (general): the cursor, the answer's room, the struct's own block, its lists.
-/
namespace Go.Proofs.Ytgfeabgmllkdeaa
set_option linter.unusedVariables false
set_option linter.unusedSimpArgs false
open Go.RowKit Go.Sort

section
variable {w X Y Y' : World} {p : Nat} {a : Option Addr} {len cap : Nat} {bs : Nat → Int} {T : TypeId} {o : Nat} {Z C : Array Value} {cs : List Cel} {vs : List Value} {fp : Fp}
end
end Go.Proofs.Ytgfeabgmllkdeaa

/-
  The specification's l1DrawVector once more: its answer lies in memory of its own.
-/
namespace Go.Proofs.Ytgfeabgmllkdeaa
set_option linter.unusedVariables false
set_option linter.unusedSimpArgs false
open Go.RowKit Go.Sort

end Go.Proofs.Ytgfeabgmllkdeaa

/-
  What l16Draw holds: a row under way.
-/
namespace Go.Proofs.Ytgfeabgmllkdeaa
set_option linter.unusedVariables false
set_option linter.unusedSimpArgs false
open Go.RowKit Go.Sort

section
variable {w X Y Y' : World} {p : Nat} {a : Option Addr} {len cap : Nat} {bs : Nat → Int} {o : Nat} {Zr : Array Value} {A : Ra} {r : Rw} {fp : Fp}
end
end Go.Proofs.Ytgfeabgmllkdeaa

/-
  Slices of bytes in memory of one's own; the contract of the specification's l1DrawText.
-/
namespace Go.Proofs.Ytgfeabgmllkdeaa
set_option linter.unusedSimpArgs false
set_option linter.unusedVariables false
open Go.RowKit Go.Sort

attribute [local irreducible] sv
end Go.Proofs.Ytgfeabgmllkdeaa

/-
  The draw l16Draw.
-/
namespace Go.Proofs.Ytgfeabgmllkdeaa
set_option linter.unusedVariables false
set_option linter.unusedSimpArgs false
open Go.RowKit Go.Sort

attribute [local irreducible] sv
end Go.Proofs.Ytgfeabgmllkdeaa

/-
  The draws of stage 16: l16DrawCount, DrawNewRow, DrawRowOk, DrawLater.
-/
namespace Go.Proofs.Ytgfeabgmllkdeaa
set_option linter.unusedVariables false
set_option linter.unusedSimpArgs false
open Go.RowKit Go.Sort

theorem totS_le {T : List (List UInt8)} {m : Nat} (h : ∀ i, i < T.length → (T.getD i []).length ≤ m) : ∀ k, k ≤ T.length → totS T k ≤ k * m
  | 0, _ => by simp [totS]
  | k + 1, hk => by
    have := totS_le h k (by omega)
    have := h k (by omega)
    rw [totS, Nat.add_mul]
    omega
theorem owL_it {w : World} {cs : List Cel} {vs : List Value} {fp : Fp} (h : owL w cs vs fp) {lo : Nat} (hl : ∀ b, fp b → lo ≤ b) : It w cs vs lo w.heap.size := ⟨fp, h, fun b hb => ⟨hl b hb, owL_lt h b hb⟩⟩
end Go.Proofs.Ytgfeabgmllkdeaa

/-
  The draw DrawLater.
-/
namespace Go.Proofs.Ytgfeabgmllkdeaa
set_option linter.unusedVariables false
set_option linter.unusedSimpArgs false
open Go.RowKit Go.Sort

end Go.Proofs.Ytgfeabgmllkdeaa

/-
  The stages of a step, plain: at each of them the member is right.
-/
namespace Go.Proofs.Ytgfeabgmllkdeaa
set_option linter.unusedVariables false
set_option linter.unusedSimpArgs false
open Go.RowKit Go.Sort

end Go.Proofs.Ytgfeabgmllkdeaa

/-
  The specification's l17Step.
-/
namespace Go.Proofs.Ytgfeabgmllkdeaa
set_option linter.unusedVariables false
set_option linter.unusedSimpArgs false
open Go.RowKit Go.Sort

/-- A function on the member is called: what it needs, and what its answer makes of all that was done. -/
theorem Mw.call {w X : World} {B o : Nat} {m : Mb} {fp : Fp} {g off c : Nat} (h : Mw w X B o m fp g off c) : ∃ fp1, Plc X B o (mb5 m) fp1 ∧ (∀ b, fp1 b → fp b ∨ w.heap.size ≤ b) ∧ ∀ (Y : World) (m' : Mb), m'.rows.length = m.rows.length → Mk X Y B o m' fp1 → Mw w Y B o m' fp g off c := by
  obtain ⟨fp1, hp, hf1, hgo⟩ := h.bcm.next
  exact ⟨fp1, hp, hf1, fun Y m' hl hk => ⟨hgo Y _ rfl hk.bcm, by rw [hk.rws, h.rws, hl]⟩⟩
theorem OkR.sz {r : Rw} {n : Nat} (h : OkR r n) : szRw r ≤ 1048576 := by
  have h5 := h.n5
  have h1 := h.gl
  have h2 := h.sl
  have h3 := h.ml
  have h4 := h.tl
  have h6 : totS r.txt r.txt.length ≤ r.txt.length * 20 := totS_le (fun i hi => h.ts _ (by rw [List.getD_eq_getElem?_getD, List.getElem?_eq_getElem hi]; exact List.getElem_mem hi)) _ (Nat.le_refl _)
  unfold szRw
  omega
end Go.Proofs.Ytgfeabgmllkdeaa

/-
  The specification's Step.
-/
namespace Go.Proofs.Ytgfeabgmllkdeaa
set_option linter.unusedVariables false
set_option linter.unusedSimpArgs false
open Go.RowKit Go.Sort

end Go.Proofs.Ytgfeabgmllkdeaa

/-
  The specification's l17Voice and Voice.
-/
namespace Go.Proofs.Ytgfeabgmllkdeaa
set_option linter.unusedVariables false
set_option linter.unusedSimpArgs false
open Go.RowKit Go.Sort

attribute [local irreducible] sv
end Go.Proofs.Ytgfeabgmllkdeaa

/-
  The specification's Voice.
-/
namespace Go.Proofs.Ytgfeabgmllkdeaa
set_option linter.unusedVariables false
set_option linter.unusedSimpArgs false
open Go.RowKit Go.Sort

theorem NewO.before {w w1 w2 : World} {c : Cel} {v : Value} (h : NewO w1 w2 c v) (hb : Below w.heap.size w w1) : NewO w w2 c v := by
  obtain ⟨f, h1, h2, h3⟩ := h
  exact ⟨f, h1, fun b hb' => Nat.le_trans hb.size (h2 b hb'), hb.trans (h3.mono hb.size)⟩
end Go.Proofs.Ytgfeabgmllkdeaa

/-
  What the program's functions on members must be shown to answer; facts for their exact laws.
-/
namespace Go.Proofs.Ytgfeabgmllkdeaa
set_option linter.unusedVariables false
set_option linter.unusedSimpArgs false
open Go.RowKit Go.Sort

def Mb64 (m : Mb) : Prop := I64v m.id ∧ I64v m.n ∧ ∀ r ∈ m.rows, Rw64 r
/-- A member that a program is handed. -/
structure MbP (w : World) (A : Ma) (m : Mb) : Prop where
  own : ∃ f, owL w (mbCels m) (mbVals A m) f
  fit : FitM m
  i64 : Mb64 m
  sz : szMb m ≤ 1048576
theorem MbS.fitM {w : World} {A : Ma} {m : Mb} (h : MbS w A m) : FitM m := ⟨h.fit, h.sung.2.1⟩
theorem it_mbs {w : World} {A : Ma} {m : Mb} {lo hi : Nat} (h : It w (mbCels m) (mbVals A m) lo hi) (hf : FitM m) : MbS w A m := mbs_of h.vw hf
theorem it_mbp {w : World} {A : Ma} {m : Mb} {lo hi : Nat} (h : It w (mbCels m) (mbVals A m) lo hi) (hf : FitM m) (h6 : Mb64 m) (hs : szMb m ≤ 1048576) : MbP w A m := ⟨h.imp (fun _ h => h.1), hf, h6, hs⟩
theorem AnsMb.it {w w' : World} {e : Ending} {m : Mb} (h : AnsMb w w' e m) : ∃ A, e = .returned (mbV A m) ∧ It w' (mbCels m) (mbVals A m) w.heap.size w'.heap.size ∧ Below w.heap.size w w' := by
  obtain ⟨A, h1, h2⟩ := h
  exact ⟨A, h1, It.of_new h2, h2.choose_spec.2.2⟩
theorem AnsMf.it {w w' : World} {e : Ending} {m : Mb} {b : Bool} (h : AnsMf w w' e m b) : ∃ A, e = .returned (.tuple #[mbV A m, .bool b]) ∧ It w' (mbCels m) (mbVals A m) w.heap.size w'.heap.size ∧ Below w.heap.size w w' := by
  obtain ⟨A, h1, h2⟩ := h
  exact ⟨A, h1, It.of_new h2, h2.choose_spec.2.2⟩
def ImplHeard : Prop := ∀ (A : Ma) (m : Mb) (fr : Int) (Ar : Ra) (r : Rw) (w : World), MbP w A m → I64v fr → RwP w Ar r → Calls Try.prog 41 #[mbV A m, .int .i64 fr, rwV Ar r] w fun e w' => AnsMf w w' e (hrdM m fr r).1 (hrdM m fr r).2
theorem It.wide {w X : World} {cs : List Cel} {vs : List Value} {lo hi : Nat} (h : It w cs vs lo hi) (hs : X.heap.size ≤ w.heap.size) (hh : hi ≤ X.heap.size) : It w cs vs lo w.heap.size := by
  obtain ⟨f, h1, h2⟩ := h
  exact ⟨f, h1, fun b hb => ⟨(h2 b hb).1, by have := (h2 b hb).2; omega⟩⟩
theorem cnt8_le (r : Rw) : cnt8 r ≤ 4 + szRw r := by unfold cnt8 szRw; omega
theorem cP_le (R : List Rw) : ∀ k, k ≤ R.length → cP R k ≤ 4 * k + szP R k
  | 0, _ => by simp [cP]
  | k + 1, h => by
    have ih := cP_le R k (by omega)
    have := cnt8_le (rowN R k)
    rw [cP_next (by omega), szP_next (by omega)]
    omega
theorem cntMb_le4 (m : Mb) : cntMb m ≤ 4 * szMb m := by
  have := cP_le m.rows m.rows.length (Nat.le_refl _)
  unfold cntMb szMb szRs
  omega
theorem cntMb_le {m : Mb} {k : Nat} (hs : szMb m ≤ 1048576) (hk : k ≤ 1) : k + cntMb m ≤ 10000000 := by
  have := cntMb_le4 m
  omega
theorem rows_le {m : Mb} (hs : szMb m ≤ 1048576) : m.rows.length ≤ maxLen := by unfold szMb szRs at hs; unfold maxLen; omega
theorem cntRw_le {r : Rw} (hs : szRw r ≤ 1048576) : cntRw r ≤ 2000000 := by unfold szRw at hs; unfold cntRw; omega
/-- An answer is small. -/
def SmM (m : Mb) : Prop := FitM m ∧ cntMb m ≤ 1000 ∧ m.rows.length ≤ 5 ∧ szMb m ≤ 100000
theorem sum_le (F : Rw → Nat) (c : Nat) : ∀ (R : List Rw), (∀ r ∈ R, F r ≤ c) → (R.map F).sum ≤ c * R.length
  | [], _ => by simp
  | r :: R, h => by
    have ih := sum_le F c R (fun x hx => h x (List.mem_cons_of_mem _ hx))
    have h1 := h r List.mem_cons_self
    rw [List.map_cons, List.sum_cons, List.length_cons, Nat.mul_succ]
    omega
theorem OkR.c8 {r : Rw} {n : Nat} (h : OkR r n) : cnt8 r ≤ 31 ∧ szRw r ≤ 300 := by
  have h5 := h.n5
  have h1 := h.gl
  have h2 := h.sl
  have h3 := h.ml
  have h4 := h.tl
  have h6 : totS r.txt r.txt.length ≤ r.txt.length * 20 := totS_le (fun i hi => h.ts _ (by rw [List.getD_eq_getElem?_getD, List.getElem?_eq_getElem hi]; exact List.getElem_mem hi)) _ (Nat.le_refl _)
  unfold cnt8 szRw
  omega
theorem OkM.small {m : Mb} {i n : Nat} (h : OkM m i n) : SmM m := by
  have h5 := h.n5
  have hl := h.len
  have hs := h.sl
  have e1 : cP m.rows m.rows.length ≤ 31 * m.rows.length := by
    unfold cP
    rw [List.take_length]
    exact sum_le cnt8 31 m.rows (fun r hr => (h.rowOk r hr).c8.1)
  have e2 : szP m.rows m.rows.length ≤ 300 * m.rows.length := by
    unfold szP
    rw [List.take_length]
    exact sum_le szRw 300 m.rows (fun r hr => (h.rowOk r hr).c8.2)
  refine ⟨h.fit, ?_, by omega, ?_⟩
  · unfold cntMb; omega
  · unfold szMb szRs; omega
theorem zeroMb_small : SmM zeroMb := ⟨⟨fun r hr => absurd hr List.not_mem_nil, fun x hx => absurd hx List.not_mem_nil⟩, by simp [cntMb, cP, zeroMb], by simp [zeroMb], by simp [szMb, szRs, szP, zeroMb]⟩
theorem hrdM_small (m : Mb) (fr : Int) (r : Rw) : SmM (hrdM m fr r).1 := by
  unfold hrdM
  split
  · rename_i h; obtain ⟨i, n, ok⟩ := okMb_iff.1 h; exact (heard_loc ok fr r).1.small
  · exact zeroMb_small
attribute [local irreducible] sv
set_option maxRecDepth 100000 in
set_option maxHeartbeats 1600000 in
theorem markRw_it2 (A : Ra) (r : Rw) (k0 lo hi : Nat) (w : World) (h : It w (rwCels r) (rwVals A r) lo hi) (hh : hi ≤ w.heap.size) (hk1 : 1 ≤ k0) (hk : k0 ≤ 5000000) (hn : cntRw r ≤ 2000000) :
    Calls Try.prog 43 #[rwV A r, .int .i64 (k0 : Int)] w fun e w' => e = .returned (.int .i64 ((k0 + cntRw r : Nat) : Int)) ∧ It w' (rwCels (mkRw r k0)) (rwVals A r) lo hi ∧ Wrt (Iv lo hi) w w' := by
  have hb := oneA16 w (.cells (rwC A r) 55)
  have hx := Bx.new w 55 (rwC A r)
  obtain ⟨ver, txt, got, sus, wed, rdy, by_, trm⟩ := r
  obtain ⟨ta, tc, ga, gc, sa, sc, ma, mc⟩ := A
  unfold cntRw at hn ⊢
  simp only [] at hn ⊢
  have hW0 : Wrt (Iv lo hi) w (w.alloc (.cells (rwC ⟨ta, tc, ga, gc, sa, sc, ma, mc⟩ ⟨ver, txt, got, sus, wed, rdy, by_, trm⟩) 55)) := Wrt.of_below hb
  have h0 := h.below hb
  have HX : Hid (∀ X, Wrt (Iv lo hi) (w.alloc (.cells (rwC ⟨ta, tc, ga, gc, sa, sc, ma, mc⟩ ⟨ver, txt, got, sus, wed, rdy, by_, trm⟩) 55)) X → Bx X w.heap.size 55 #[.int .i64 ver, .slice ta txt.length tc, .slice ga got.length gc, .slice sa sus.length sc, .bool wed, .bool rdy, .int .i64 by_, .slice ma trm.length mc]) := fun X hX => hx.iv hX (.inr hh)
  unfold rwV
  unfold rwC at *
  simp only at *
  generalize hWW : w.alloc (.cells #[.int .i64 ver, .slice ta txt.length tc, .slice ga got.length gc, .slice sa sus.length sc, .bool wed, .bool rdy, .int .i64 by_, .slice ma trm.length mc] 55) = W at *
  have HW0 : Hid (Wrt (Iv lo hi) w W) := hW0
  clear h hb hx hW0
  obtain ⟨u1, f1, hu1, ho1, hf1, hp1⟩ := It.at h0 (j := 0) rfl
  cases hu1
  have hM1 := markS_ow _ k0 txt f1 W ho1 hk1 (by omega) (by omega)
  obtain ⟨⟨c0, c1, c2, c3⟩, c4, c5, c6, c7⟩ := Bx.r8 (HX.out W (Wrt.refl _ _))
  clear h0 ho1
  go_enter Try.func43, Try.ntmps43
  go_wp2_with fail
  refine hM1.mono ?_
  rintro e w1 ⟨rfl, hm1, hw1⟩
  have h1 := hp1 w1 _ hm1 hw1
  have HW1 : Hid (Wrt (Iv lo hi) W w1) := hw1.iv hf1
  clear hM1 hm1 hw1 hp1 hf1 c0 c1 c2 c3 c4 c5 c6 c7
  obtain ⟨u2, f2, hu2, ho2, hf2, hp2⟩ := It.at h1 (j := 1) rfl
  cases hu2
  have hM2 := markI_ow _ (k0 + txt.length) got f2 w1 ho2 (by omega) (by omega)
  rw [show (((k0 + txt.length : Nat) : Int)) = (k0 : Int) + (txt.length : Int) by omega] at hM2
  obtain ⟨⟨c0, c1, c2, c3⟩, c4, c5, c6, c7⟩ := Bx.r8 (HX.out w1 HW1.out)
  clear h1 ho2
  go_wp2_with fail
  refine hM2.mono ?_
  rintro e w2 ⟨rfl, hm2, hw2⟩
  have h2 := hp2 w2 _ hm2 hw2
  have HW2 : Hid (Wrt (Iv lo hi) W w2) := HW1.out.trans (hw2.iv hf2) (fun _ _ h => h)
  clear hM2 hm2 hw2 hp2 hf2 c0 c1 c2 c3 c4 c5 c6 c7
  obtain ⟨u3, f3, hu3, ho3, hf3, hp3⟩ := It.at h2 (j := 2) rfl
  cases hu3
  have hM3 := markI_ow _ (k0 + txt.length + got.length) sus f3 w2 ho3 (by omega) (by omega)
  rw [show (((k0 + txt.length + got.length : Nat) : Int)) = (k0 : Int) + (txt.length : Int) + (got.length : Int) by omega] at hM3
  obtain ⟨⟨c0, c1, c2, c3⟩, c4, c5, c6, c7⟩ := Bx.r8 (HX.out w2 HW2.out)
  clear h2 ho3
  go_wp2_with fail
  refine hM3.mono ?_
  rintro e w3 ⟨rfl, hm3, hw3⟩
  have h3 := hp3 w3 _ hm3 hw3
  have HW3 : Hid (Wrt (Iv lo hi) W w3) := HW2.out.trans (hw3.iv hf3) (fun _ _ h => h)
  clear hM3 hm3 hw3 hp3 hf3 c0 c1 c2 c3 c4 c5 c6 c7
  obtain ⟨u4, f4, hu4, ho4, hf4, hp4⟩ := It.at h3 (j := 3) rfl
  cases hu4
  have hM4 := markI_ow _ (k0 + txt.length + got.length + sus.length) trm f4 w3 ho4 (by omega) (by omega)
  rw [show (((k0 + txt.length + got.length + sus.length : Nat) : Int)) = (k0 : Int) + (txt.length : Int) + (got.length : Int) + (sus.length : Int) by omega] at hM4
  obtain ⟨⟨c0, c1, c2, c3⟩, c4, c5, c6, c7⟩ := Bx.r8 (HX.out w3 HW3.out)
  clear h3 ho4
  go_wp2_with fail
  refine hM4.mono ?_
  rintro e w4 ⟨rfl, hm4, hw4⟩
  have H4 : Hid (It w4 _ _ lo hi) := hp4 w4 _ hm4 hw4
  have HW4 : Hid (Wrt (Iv lo hi) W w4) := HW3.out.trans (hw4.iv hf4) (fun _ _ h => h)
  clear hM4 hm4 hw4 hp4 hf4 c0 c1 c2 c3 c4 c5 c6 c7
  go_wp2
  go_ret
  exact ⟨ret_int (by omega), H4.out, HW0.out.trans HW4.out (fun _ _ h => h)⟩
end Go.Proofs.Ytgfeabgmllkdeaa
