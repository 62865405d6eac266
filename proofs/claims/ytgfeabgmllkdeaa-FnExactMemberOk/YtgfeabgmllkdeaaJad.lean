/-
  Texts in one: Mcl Mcm Mcn Mco Mcp Mch Mbn Mcc Mbl Plo Mbi Mbj Mbz Mba Ear Mbr Mbb Mbe Rns Rwo Mca Sdk Dvo Rdk Drt Rdw Rdr Rds Mci Mcj Mck Mcd Mcf Mcq Mcr Ozr Omb Nmb Ivk Rzi.
-/
import Derived.Test.YtgfeabgmllkdeaaJac
import Derived.Test.YtgfeabgmllkdeaaJaa
import Derived.Test.YtgfeabgmllkdeaaJab
import Derived.BigQuiet
import Derived.Deep.LoopGhost
import Derived.Deep.CutRange
import Derived.Deep.Cut
import Derived.Deep.RegionHeld3
import Derived.Lib.SmallJoins
import Derived.OpenShut
import Derived.ChangeOld
import Derived.ShutString
import Derived.Deep.Matrix
import Derived.Deep.Slices
import Derived.Deep.Strs
import Derived.Deep.Grids
import Derived.Defers
import Derived.Recover
/-
  The laws' own toRowS and toMember.
-/
namespace Go.Proofs.Ytgfeabgmllkdeaa
set_option linter.unusedVariables false
set_option linter.unusedSimpArgs false
open Go.RowKit Go.Sort

theorem infoRow17 : (Try.prog.info? 55).map (fun i => (i.zero, i.size, i.bytes)) = some (some (.agg zero8), 8, 120) := by kernel_rfl
theorem make_rs (n : Nat) (hn : n ≤ 1048576) (w : World) :
    (Instr.makeSlice 38 (.int .i64 (n : Int)) (.int .i64 (n : Int))).run Try.prog w = .ok (.slice (some ⟨w.heap.size, 0, none⟩) n n) (w.alloc (.cells (madeCells zero8 (n * 8)) 55)) := by
  obtain ⟨i, hi, hz, hs, hb⟩ := info_parts2n infoRow17
  have hr := run_make (P := Try.prog) w 38 55 i _ Try.underlying38 hi hz .i64 .i64 n n (by omega) (Int.le_refl _) (by rw [hb]; omega) (by omega)
  simp only [Int.toNat_natCast, hs] at hr
  exact hr
theorem flat_rep {α : Type} (F : α → List Cel) (x : α) : ∀ n, (List.replicate n x).flatMap F = (List.replicate n (F x)).flatten
  | 0 => rfl
  | n + 1 => by rw [List.replicate_succ, List.replicate_succ, List.flatMap_cons, List.flatten_cons, flat_rep F x n]
theorem ow_zero8 (w : World) : owL w (rw8 zeroRw) zero8.toList (fun _ => False) := by
  have h : owL w (rwCels zeroRw) (rwVals ⟨none, 0, none, 0, none, 0, none, 0⟩ zeroRw) (fun _ => False) := owL_congr (owL4 (ow_none_s w) (ow_none_i w) (ow_none_i w) (ow_none_i w) (fun _ h => h.elim) (fun _ h => h.elim) (fun _ h => h.elim)) (fun b => by simp)
  exact ow_rw8 h
/-- A list of rows as it is made. -/
theorem rows_made (w : World) (n : Nat) (hn : n ≤ 1048576) : Cel.ow (w.alloc (.cells (madeCells zero8 (n * 8)) 55)) (lcl 8 rw8 (List.replicate n zeroRw)) (.slice (some ⟨w.heap.size, 0, none⟩) n n) (fun b => b = w.heap.size) := by
  have h := osl_made w zero8 8 n 55 rfl (by omega) (by unfold maxLen; omega)
  unfold lcl
  rw [flat_rep, List.length_replicate]
  exact ⟨_, n, _, some w.heap.size, fun _ => False, rfl, OSo.of h, owL_zeros (ow_zero8 _) (fun b h => h) n, fun _ _ h => h, fun b => by simp [eq_comm]⟩
/-- The first k rows, zeros behind. -/
def prR (R : List Rw) (k : Nat) : List Rw := R.take k ++ List.replicate (R.length - k) zeroRw
theorem prR_len {R : List Rw} {k : Nat} (hk : k ≤ R.length) : (prR R k).length = R.length := by simp [prR]; omega
theorem prR_at {R : List Rw} {k : Nat} (hk : k < R.length) : (prR R k)[k]? = some zeroRw := by
  have e2 : R.length - k = (R.length - (k + 1)) + 1 := by omega
  have e3 : (R.take k).length = k := by simp; omega
  rw [prR, List.getElem?_append_right (by omega), e2, List.replicate_succ, e3, Nat.sub_self]
  rfl
theorem prR_set {R : List Rw} {k : Nat} (hk : k < R.length) : (prR R k).set k (rowN R k) = prR R (k + 1) := by
  have e : rowN R k = R[k] := by simp [rowN, List.getD, hk]
  have e2 : R.length - k = (R.length - (k + 1)) + 1 := by omega
  have e3 : (R.take k).length = k := by simp; omega
  rw [prR, prR, e, e2, List.replicate_succ, List.set_append_right _ _ (by omega), List.take_succ_eq_append_getElem hk, e3, Nat.sub_self, List.set_cons_zero, List.append_assoc]
  rfl
theorem szP_mono (R : List Rw) {a b : Nat} (h : a ≤ b) : szP R a ≤ szP R b := by
  unfold szP
  obtain ⟨c, rfl⟩ := Nat.exists_eq_add_of_le h
  rw [List.take_add, List.map_append, List.sum_append]
  omega
theorem prR_all (R : List Rw) : prR R R.length = R := by simp [prR]
set_option maxRecDepth 100000 in
set_option maxHeartbeats 3200000 in
theorem toRs_any (a : Option Addr) (cap : Nat) (R : List Rw) (w : World) (hv : Cel.vw w (lcl 8 rw8 R) (.slice a R.length cap)) (hf : ∀ r ∈ R, FitR r) (hs : szRs R ≤ 1048576) :
    Calls Try.prog 73 #[.slice a R.length cap] w fun e w' => ∃ a' c', e = .returned (.slice a' R.length c') ∧ NewO w w' (lcl 8 rw8 R) (.slice a' R.length c') := by
  have HV : Hid (Cel.vw w (lcl 8 rw8 R) (.slice a R.length cap)) := hv
  have hl : R.length ≤ 1048576 := by unfold szRs at hs; omega
  have HSZ : Hid (∀ k, k < R.length → szRw (rowN R k) ≤ 1048576) := fun k hk => by
    have h1 : szP R (k + 1) ≤ szP R R.length := szP_mono R (by omega)
    rw [szP_next hk] at h1
    unfold szRs at hs
    omega
  have hmk := make_rs R.length hl
  have HS : Hid (Cel.ow (w.alloc (.cells (madeCells zero8 (R.length * 8)) 55)) (lcl 8 rw8 (prR R 0)) (.slice (some ⟨w.heap.size, 0, none⟩) R.length R.length) (fun b => b = w.heap.size) ∧ Below w.heap.size w (w.alloc (.cells (madeCells zero8 (R.length * 8)) 55))) := by
    refine ⟨?_, oneA16 w _⟩
    have := rows_made w R.length hl
    have e : prR R 0 = List.replicate R.length zeroRw := by simp [prR]
    rw [e]
    exact this
  clear hv
  go_enter Try.func73, Try.ntmps73
  go_wp2_with fail
  clear hmk
  generalize w.alloc (.cells (madeCells zero8 (R.length * 8)) 55) = W0 at *
  go_loopw [4] (fun i wr => ∃ (k : Nat) (fp : Fp), k ≤ R.length ∧ i = .int .i64 k ∧ Cel.ow wr (lcl 8 rw8 (prR R k)) (.slice (some ⟨w.heap.size, 0, none⟩) R.length R.length) fp ∧ (∀ b, fp b → w.heap.size ≤ b) ∧ Below w.heap.size w wr) (fun i _ => R.length - (intOf i).toNat)
  case atStart => exact ⟨0, _, Nat.zero_le _, rfl, HS.out.1, fun b h => by rw [h]; exact Nat.le_refl _, HS.out.2⟩
  case round =>
    obtain ⟨k, fp, hk, rfl, ho, hfp, hb⟩ := hrel
    by_cases hlt : k < R.length
    · have k1 : (k : Int) < (R.length : Int) := by omega
      have k0 : (0 : Int) ≤ (k : Int) := by omega
      have hmem : rowN R k ∈ R := rowN_mem hlt
      obtain ⟨g, off, hra, hpv⟩ := vw_elF rw8_len (Cel.vw_below HV.out hb) (k := k) (x := rowN R k) (by simp [rowN, List.getD, hlt])
      obtain ⟨Ak, ⟨⟨d0, d1, d2, d3⟩, d4, d5, d6, d7⟩, hrs⟩ := hpv.row (hf _ hmem)
      subst hra
      have hz := HSZ.out k hlt
      unfold szRw at hz
      have hC := toRw_any Ak (rowN R k) wr hrs (by omega) (by omega) (by omega) (by omega)
      unfold rwV rwC at hC
      have hpl := prR_len hk
      rw [← hpl] at ho
      obtain ⟨g1, off1, f1, e1, hfg, hfs, hP, hglt, hput⟩ := ow_elF rw8_len (by omega) ho (prR_at hlt)
      cases e1
      have hput := fun w1 => hput w1 (rowN R k)
      rw [prR_set hlt, hpl] at hput
      simp only [Nat.zero_add] at hP hput
      have HPut : Hid (∀ w1 : World, Bcm wr w1 w.heap.size (k * 8) (rw8 (rowN R k)) f1 → ∃ fp', Cel.ow w1 (lcl 8 rw8 (prR R (k + 1))) (.slice (some ⟨w.heap.size, 0, none⟩) R.length R.length) fp' ∧ (∀ b, fp' b → fp b ∨ wr.heap.size ≤ b) ∧ Wrt fp wr w1) := hput
      have HP : Hid (Plc wr w.heap.size (k * 8) (rw8 zeroRw) f1) := hP
      have HB : Hid (Below w.heap.size w wr) := hb
      have HFP : Hid (∀ b, fp b → w.heap.size ≤ b) := hfp
      generalize rowN R k = r at *
      clear hrs hpv hb ho hput hP hz hpl hfs hmem
      go_wp2_with fail
      refine hC.mono ?_
      rintro e w1 ⟨A1, rfl, fr, hl1, hfr, hb1⟩
      have HA := HP.out.all hb1 (ow_rw8 hl1) rfl hfr
      obtain ⟨vs0, hpc, hov, _⟩ := HP.out
      have hl8 : vs0.length = 8 := owL_len hov
      have hpc1 := hpc.of_block (hb1.block _ hpc.lt) hb1.size
      have cc : ∀ j, j < 8 → ∃ u, w1.cell? ⟨w.heap.size, k * 8 + j, none⟩ = some u ∧ w1.frozen? ⟨w.heap.size, k * 8 + j, none⟩ = false := fun j hj => ⟨_, (hpc1.cell j (by omega)).trans (List.getElem?_eq_getElem (by omega)), hpc1.free j (by omega)⟩
      obtain ⟨u0, e0, f0⟩ := cc 0 (by omega)
      obtain ⟨u1, e1, f1'⟩ := cc 1 (by omega)
      obtain ⟨u2, e2, f2⟩ := cc 2 (by omega)
      obtain ⟨u3, e3, f3⟩ := cc 3 (by omega)
      obtain ⟨u4, e4, f4⟩ := cc 4 (by omega)
      obtain ⟨u5, e5, f5⟩ := cc 5 (by omega)
      obtain ⟨u6, e6, f6⟩ := cc 6 (by omega)
      obtain ⟨u7, e7, f7⟩ := cc 7 (by omega)
      simp only [Nat.add_zero] at e0 f0
      obtain ⟨fp', hN1, hN2, hN3⟩ := HPut.out _ HA
      have HN1 : Hid (Cel.ow _ (lcl 8 rw8 (prR R (k + 1))) (.slice (some ⟨w.heap.size, 0, none⟩) R.length R.length) fp') := hN1
      have HN3 : Hid (Wrt fp wr _) := hN3
      have HN2 : Hid (∀ b, fp' b → fp b ∨ wr.heap.size ≤ b) := hN2
      have hsz := HB.out.size
      clear d0 d1 d2 d3 d4 d5 d6 d7 hC hb1 hl1 hN1 hN2 hN3 HA cc hpc1 hov hpc
      unfold rwV rwC
      go_wp2
      go_roundw
      case rel => exact ⟨k + 1, fp', by omega, by go_num, HN1.out, fun b hb => by have := HFP.out b; rcases HN2.out b hb with h | h; exact this h; omega, HN3.out.below HB.out hsz HFP.out⟩
      case measure => simp [intOf]; omega
    · obtain rfl : k = R.length := by omega
      have k1 : ¬ ((R.length : Int) < (R.length : Int)) := by omega
      have HE : Hid (NewO w wr (lcl 8 rw8 R) (.slice (some ⟨w.heap.size, 0, none⟩) R.length R.length)) := by rw [prR_all] at ho; exact ⟨fp, ho, hfp, hb⟩
      clear ho hb
      go_wp2
      go_ret
      exact ⟨_, _, rfl, HE.out⟩
end Go.Proofs.Ytgfeabgmllkdeaa

/-
  The laws' own toMember.
-/
namespace Go.Proofs.Ytgfeabgmllkdeaa
set_option linter.unusedVariables false
set_option linter.unusedSimpArgs false
open Go.RowKit Go.Sort

/-- What toMember holds: what came, the answer's room, the member under way, its lists. -/
structure TM (w X : World) (S O : Array Value) (cs : List Cel) (vs : List Value) (fp : Fp) : Prop where
  src : Bx X w.heap.size 35 S
  res : Bx X (w.heap.size + 1) 40 #[.int .i64 0, .int .i64 0, .slice none 0 0, .slice none 0 0, .bool false]
  out : Bx X (w.heap.size + 1 + 1) 40 O
  own : owL X cs vs fp
  fpl : ∀ b, fp b → w.heap.size + 1 + 1 < b
  below : Below w.heap.size w X
theorem TM.set {w X : World} {S O : Array Value} {cs : List Cel} {vs : List Value} {fp : Fp} (h : TM w X S O cs vs fp) (i : Nat) (v : Value) : TM w (X.setCell ⟨w.heap.size + 1 + 1, i, none⟩ v) S (O.setIfInBounds i v) cs vs fp :=
  ⟨h.src.far (by omega) v, h.res.far (by omega) v, h.out.setC i v, owL_wrt h.own (Wrt.set X (w.heap.size + 1 + 1) i v) (fun b hb e => by have := h.fpl b hb; omega), h.fpl, h.below.setCell (p := ⟨w.heap.size + 1 + 1, i, none⟩) (show w.heap.size ≤ w.heap.size + 1 + 1 by omega) v⟩
theorem TM.add {w X X' : World} {S O : Array Value} {cs : List Cel} {vs : List Value} {fp : Fp} (h : TM w X S O cs vs fp) {c : Cel} {v : Value} (hN : NewO X X' c v) : ∃ fp', TM w X' S O (cs ++ [c]) (vs ++ [v]) fp' := by
  obtain ⟨f, ho, hf, hb⟩ := hN
  have hol := h.out.lt
  refine ⟨fun b => fp b ∨ f b, h.src.below hb, h.res.below hb, h.out.below hb, owL_append (owL_below h.own hb) (owL_one.2 ho) (fun b h1 h2 => ?_), fun b hb => ?_, h.below.trans (hb.mono h.below.size)⟩
  · have := owL_lt h.own b h1
    have := hf b h2
    omega
  · rcases hb with hb | hb
    · exact h.fpl b hb
    · have := hf b hb; omega
set_option maxRecDepth 100000 in
set_option maxHeartbeats 3200000 in
theorem toMb_any (A : Ma) (m : Mb) (w : World) (hv : MbS w A m) (hs : szMb m ≤ 1048576) :
    Calls Try.prog 29 #[mbV A m] w fun e w' => AnsMb w w' e m := by
  have HR : Hid (∀ X, Below w.heap.size w X → Calls Try.prog 73 #[.slice A.ra m.rows.length A.rc] X fun e w' => ∃ a' c', e = .returned (.slice a' m.rows.length c') ∧ NewO X w' (lcl 8 rw8 m.rows) (.slice a' m.rows.length c')) := fun X h => toRs_any A.ra A.rc m.rows X (hv.below h).rows hv.fit (by unfold szMb at hs; omega)
  have HG : Hid (∀ X, Below w.heap.size w X → Calls Try.prog 74 #[.slice A.sa m.sung.length A.sc] X fun e w' => ∃ a' c', e = .returned (.slice a' m.sung.length c') ∧ NewO X w' (icl m.sung) (.slice a' m.sung.length c')) := fun X h => toI16 A.sa A.sc m.sung X (hv.below h).sung (by unfold szMb at hs; omega)
  obtain ⟨id, n, rows, sung, done⟩ := m
  obtain ⟨ra, rc, sa, sc⟩ := A
  simp only at HR HG
  have T0 : TM w (((w.alloc (.cells #[.int .i64 id, .int .i64 n, .slice ra rows.length rc, .slice sa sung.length sc, .bool done] 35)).alloc (.cells #[.int .i64 0, .int .i64 0, .slice none 0 0, .slice none 0 0, .bool false] 40)).alloc (.cells #[.int .i64 id, .int .i64 n, .slice none 0 0, .slice none 0 0, .bool false] 40)) #[.int .i64 id, .int .i64 n, .slice ra rows.length rc, .slice sa sung.length sc, .bool done] #[.int .i64 id, .int .i64 n, .slice none 0 0, .slice none 0 0, .bool false] [] [] (fun _ => False) := by
    have x0 := ((Bx.new w 35 #[.int .i64 id, .int .i64 n, .slice ra rows.length rc, .slice sa sung.length sc, .bool done]).alloc (.cells #[.int .i64 0, .int .i64 0, .slice none 0 0, .slice none 0 0, .bool false] 40)).alloc (.cells #[.int .i64 id, .int .i64 n, .slice none 0 0, .slice none 0 0, .bool false] 40)
    have x1 := (Bx.new (w.alloc (.cells #[.int .i64 id, .int .i64 n, .slice ra rows.length rc, .slice sa sung.length sc, .bool done] 35)) 40 #[.int .i64 0, .int .i64 0, .slice none 0 0, .slice none 0 0, .bool false]).alloc (.cells #[.int .i64 id, .int .i64 n, .slice none 0 0, .slice none 0 0, .bool false] 40)
    have x2 := Bx.new ((w.alloc (.cells #[.int .i64 id, .int .i64 n, .slice ra rows.length rc, .slice sa sung.length sc, .bool done] 35)).alloc (.cells #[.int .i64 0, .int .i64 0, .slice none 0 0, .slice none 0 0, .bool false] 40)) 40 #[.int .i64 id, .int .i64 n, .slice none 0 0, .slice none 0 0, .bool false]
    simp only [World.size_alloc] at x1 x2
    exact ⟨x0, x1, x2, ⟨rfl, fun _ h => h⟩, fun b h => h.elim, ((Below.refl _ _).alloc (Nat.le_refl _) _).alloc (by simp) _ |>.alloc (by simp only [World.size_alloc]; omega) _⟩
  have hC1 := HR.out _ T0.below
  have HT0 : Hid (TM w (((w.alloc (.cells #[.int .i64 id, .int .i64 n, .slice ra rows.length rc, .slice sa sung.length sc, .bool done] 35)).alloc (.cells #[.int .i64 0, .int .i64 0, .slice none 0 0, .slice none 0 0, .bool false] 40)).alloc (.cells #[.int .i64 id, .int .i64 n, .slice none 0 0, .slice none 0 0, .bool false] 40)) #[.int .i64 id, .int .i64 n, .slice ra rows.length rc, .slice sa sung.length sc, .bool done] #[.int .i64 id, .int .i64 n, .slice none 0 0, .slice none 0 0, .bool false] [] [] (fun _ => False)) := T0
  unfold mbV mbC
  simp only
  clear hv T0
  go_enter Try.func29, Try.ntmps29
  go_wp2_with fail
  refine hC1.mono ?_
  rintro e w1 ⟨a1, c1, rfl, hN1⟩
  obtain ⟨fp1, T1⟩ := HT0.out.add hN1
  obtain ⟨s0, s1, s2, s3, s4⟩ := Bx.r5 T1.src
  obtain ⟨o0, o1, o2, o3, o4⟩ := Bx.r5 (show Bx _ _ _ #[.int .i64 id, .int .i64 n, .slice none 0 0, .slice none 0 0, .bool false] from T1.out)
  obtain ⟨f0, f1, f2, f3, f4⟩ := T1.out.f5
  have T1s := T1.set 2 (.slice a1 rows.length c1)
  have T1' : TM w (w1.setCell ⟨w.heap.size + 1 + 1, 2, none⟩ (.slice a1 rows.length c1)) #[.int .i64 id, .int .i64 n, .slice ra rows.length rc, .slice sa sung.length sc, .bool done] #[.int .i64 id, .int .i64 n, .slice a1 rows.length c1, .slice none 0 0, .bool false] ([] ++ [lcl 8 rw8 rows]) ([] ++ [.slice a1 rows.length c1]) fp1 := by simpa using T1s
  have hC2 := HG.out _ T1'.below
  have HT1 : Hid (TM w (w1.setCell ⟨w.heap.size + 1 + 1, 2, none⟩ (.slice a1 rows.length c1)) #[.int .i64 id, .int .i64 n, .slice ra rows.length rc, .slice sa sung.length sc, .bool done] #[.int .i64 id, .int .i64 n, .slice a1 rows.length c1, .slice none 0 0, .bool false] ([] ++ [lcl 8 rw8 rows]) ([] ++ [.slice a1 rows.length c1]) fp1) := T1'
  have x0 : (w1.setCell ⟨w.heap.size + 1 + 1, 2, none⟩ (.slice a1 rows.length c1)).cell? ⟨w.heap.size, 3, none⟩ = some (.slice sa sung.length sc) := T1'.src.at 3 rfl
  clear hN1 T1 T1s T1' hC1 HT0
  go_wp2_with fail
  refine hC2.mono ?_
  rintro e w2 ⟨a2, c2, rfl, hN2⟩
  clear s0 s1 s2 s3 s4 o0 o1 o2 o3 o4 f0 f1 f2 f3 f4 x0
  obtain ⟨fp2, T2⟩ := HT1.out.add hN2
  have p0 := (show Bx _ _ _ #[.int .i64 id, .int .i64 n, .slice a1 rows.length c1, .slice none 0 0, .bool false] from T2.out).at 3 rfl
  have q0 := T2.out.f 3
  have T2as := T2.set 3 (.slice a2 sung.length c2)
  have T2a : TM w (w2.setCell ⟨w.heap.size + 1 + 1, 3, none⟩ (.slice a2 sung.length c2)) #[.int .i64 id, .int .i64 n, .slice ra rows.length rc, .slice sa sung.length sc, .bool done] #[.int .i64 id, .int .i64 n, .slice a1 rows.length c1, .slice a2 sung.length c2, .bool false] (([] ++ [lcl 8 rw8 rows]) ++ [icl sung]) (([] ++ [.slice a1 rows.length c1]) ++ [.slice a2 sung.length c2]) fp2 := by simpa using T2as
  have s4 : (w2.setCell ⟨w.heap.size + 1 + 1, 3, none⟩ (.slice a2 sung.length c2)).cell? ⟨w.heap.size, 4, none⟩ = _ := T2a.src.at 4 rfl
  have p4 := T2a.out.at 4 rfl
  have q4 := T2a.out.f 4
  have T2bs := T2a.set 4 (.bool done)
  have T2b : TM w ((w2.setCell ⟨w.heap.size + 1 + 1, 3, none⟩ (.slice a2 sung.length c2)).setCell ⟨w.heap.size + 1 + 1, 4, none⟩ (.bool done)) #[.int .i64 id, .int .i64 n, .slice ra rows.length rc, .slice sa sung.length sc, .bool done] #[.int .i64 id, .int .i64 n, .slice a1 rows.length c1, .slice a2 sung.length c2, .bool done] (([] ++ [lcl 8 rw8 rows]) ++ [icl sung]) (([] ++ [.slice a1 rows.length c1]) ++ [.slice a2 sung.length c2]) fp2 := by simpa using T2bs
  obtain ⟨o0, o1, o2, o3, o4⟩ := Bx.r5 (show Bx _ _ _ #[.int .i64 id, .int .i64 n, .slice a1 rows.length c1, .slice a2 sung.length c2, .bool done] from T2b.out)
  obtain ⟨r0, r1, r2, r3, r4⟩ := Bx.r5 T2b.res
  obtain ⟨f0, f1, f2, f3, f4⟩ := T2b.res.f5
  have HT3 : Hid (TM w ((w2.setCell ⟨w.heap.size + 1 + 1, 3, none⟩ (.slice a2 sung.length c2)).setCell ⟨w.heap.size + 1 + 1, 4, none⟩ (.bool done)) #[.int .i64 id, .int .i64 n, .slice ra rows.length rc, .slice sa sung.length sc, .bool done] #[.int .i64 id, .int .i64 n, .slice a1 rows.length c1, .slice a2 sung.length c2, .bool done] (([] ++ [lcl 8 rw8 rows]) ++ [icl sung]) (([] ++ [.slice a1 rows.length c1]) ++ [.slice a2 sung.length c2]) fp2) := T2b
  clear hN2 T2 T2as T2a T2bs T2b hC2 HT1
  go_wp2
  refine bodyPost_ret (v := .agg #[.int .i64 id, .int .i64 n, .slice a1 rows.length c1, .slice a2 sung.length c2, .bool done]) (by simp [results, Try.results29, go_sem, *]) rfl ?_
  refine ⟨⟨a1, c1, a2, c2⟩, rfl, fp2, owL_wrt HT3.out.own (wrt5 _ (w.heap.size + 1)) (fun b hb e => by have := HT3.out.fpl b hb; omega), fun b hb => by have := HT3.out.fpl b hb; omega, (wrt5 _ (w.heap.size + 1)).below HT3.out.below HT3.out.below.size (fun b e => by rw [e]; omega)⟩
end Go.Proofs.Ytgfeabgmllkdeaa

/-
  The laws' own markRowS: each row of a list is marked, in its place.
-/
namespace Go.Proofs.Ytgfeabgmllkdeaa
set_option linter.unusedVariables false
set_option linter.unusedSimpArgs false
open Go.RowKit Go.Sort

/-- One cell of a place that was written before. -/
theorem Bcm.at {w X : World} {B o : Nat} {cs : List Cel} {fp : Fp} (h : Bcm w X B o cs fp) {j : Nat} {c : Cel} (hj : cs[j]? = some c) : ∃ u f, X.cell? ⟨B, o + j, none⟩ = some u ∧ X.frozen? ⟨B, o + j, none⟩ = false ∧ Cel.ow X c u f ∧
    ∀ (X1 : World) (c' : Cel) (u' : Value) (f' : Fp), Wrt f X X1 → Cel.ow X1 c' u' f' → (∀ b, f' b → f b ∨ X.heap.size ≤ b) → X1.cell? ⟨B, o + j, none⟩ = some u ∧ X1.frozen? ⟨B, o + j, none⟩ = false ∧ Bcm w (X1.setCell ⟨B, o + j, none⟩ u') B o (cs.set j c') fp ∧ (u' = u → Bcm w X1 B o (cs.set j c') fp) := by
  obtain ⟨fp1, hp, _, hgo⟩ := h.next
  obtain ⟨u, f, h1, h2, h3, h4, h5, h6⟩ := hp.at hj
  refine ⟨u, f, h1, h2, h3, fun X1 c' u' f' hw hc hf => ?_⟩
  obtain ⟨k1, k2, k3, k4⟩ := h6 X1 c' u' f' hw hc hf
  exact ⟨k1, k2, hgo _ _ (by simp) k3, fun e => hgo _ _ (by simp) (k4 e)⟩
/-- A plain cell of it is stored. -/
theorem Bcm.put {w X : World} {B o : Nat} {cs : List Cel} {fp : Fp} (h : Bcm w X B o cs fp) {j : Nat} {x : Value} (hj : cs[j]? = some (.v x)) (y : Value) : X.cell? ⟨B, o + j, none⟩ = some x ∧ X.frozen? ⟨B, o + j, none⟩ = false ∧ Bcm w (X.setCell ⟨B, o + j, none⟩ y) B o (cs.set j (.v y)) fp := by
  obtain ⟨u, f, h1, h2, ⟨rfl, _⟩, h4⟩ := h.at hj
  exact ⟨h1, h2, (h4 X (.v y) y (fun _ => False) (Wrt.refl _ _) ⟨rfl, fun _ h => h⟩ (fun b hb => hb.elim)).2.2.1⟩
def m3 (k : Int) : Bool := k % 3 == 0
end Go.Proofs.Ytgfeabgmllkdeaa

/-
  The laws' own heldRowS, markMember and heldMember.
-/
namespace Go.Proofs.Ytgfeabgmllkdeaa
set_option linter.unusedVariables false
set_option linter.unusedSimpArgs false
open Go.RowKit Go.Sort

end Go.Proofs.Ytgfeabgmllkdeaa

/-
  The laws' own markMember and heldMember.
-/
namespace Go.Proofs.Ytgfeabgmllkdeaa
set_option linter.unusedVariables false
set_option linter.unusedSimpArgs false
open Go.RowKit Go.Sort

/-- Two things of one's own. -/
theorem owL_two {w : World} {c1 c2 : Cel} {v1 v2 : Value} {f : Fp} (h : owL w [c1, c2] [v1, v2] f) : ∃ f1 f2, Cel.ow w c1 v1 f1 ∧ Cel.ow w c2 v2 f2 ∧ (∀ b, f1 b → ¬ f2 b) ∧ ∀ b, f b ↔ f1 b ∨ f2 b := by
  obtain ⟨u1, us1, f1, g1, e1, o1, h2, d1, i1⟩ := h
  cases e1
  obtain ⟨u2, us2, f2, g2, e2, o2, h3, d2, i2⟩ := h2
  cases e2
  have hg : ∀ b, ¬ g2 b := h3.2
  refine ⟨f1, f2, o1, o2, fun b h1 h2 => d1 b h1 ((i2 b).2 (.inl h2)), fun b => ?_⟩
  rw [i1, i2]
  exact ⟨fun h => h.imp id (fun h => h.elim id (fun h => absurd h (hg b))), fun h => h.imp id .inl⟩
end Go.Proofs.Ytgfeabgmllkdeaa

/-
  The laws' own eqRowS and eqMember.
-/
namespace Go.Proofs.Ytgfeabgmllkdeaa
set_option linter.unusedVariables false
set_option linter.unusedSimpArgs false
open Go.RowKit Go.Sort

set_option maxRecDepth 100000 in
set_option maxHeartbeats 3200000 in
theorem eqRs_any (a a' : Option Addr) (cap cap' : Nat) (R : List Rw) (w : World) (hv : Cel.vw w (lcl 8 rw8 R) (.slice a R.length cap)) (hu : Cel.vw w (lcl 8 rw8 R) (.slice a' R.length cap')) (hf : ∀ r ∈ R, FitR r) (hm : R.length ≤ maxLen) :
    Calls Try.prog 77 #[.slice a R.length cap, .slice a' R.length cap'] w fun e w' => e = .returned (.bool true) ∧ Below w.heap.size w w' := by
  have HV : Hid (Cel.vw w (lcl 8 rw8 R) (.slice a R.length cap)) := hv
  have HU : Hid (Cel.vw w (lcl 8 rw8 R) (.slice a' R.length cap')) := hu
  have hbb : ((R.length : Int) != (R.length : Int)) = false := by simp
  unfold maxLen at hm
  clear hv hu
  go_enter Try.func77, Try.ntmps77
  go_wp2_with fail
  go_loopw [5] (fun v wr => ∃ k : Nat, k ≤ R.length ∧ v = .int .i64 (k : Int) ∧ Below w.heap.size w wr) (fun v _ => R.length - (intOf v).toNat)
  case atStart => exact ⟨0, Nat.zero_le _, rfl, Below.refl _ _⟩
  case round =>
    obtain ⟨k, hk, rfl, hb⟩ := hrel
    by_cases hlt : k < R.length
    · have k1 : (k : Int) < (R.length : Int) := by omega
      have k0 : (0 : Int) ≤ (k : Int) := by omega
      have hmem : rowN R k ∈ R := rowN_mem hlt
      have hkx : R[k]? = some (rowN R k) := by simp [rowN, List.getD, hlt]
      obtain ⟨g, off, hra, hpv⟩ := vw_elF rw8_len (Cel.vw_below HV.out hb) hkx
      obtain ⟨g', off', hra', hpv'⟩ := vw_elF rw8_len (Cel.vw_below HU.out hb) hkx
      obtain ⟨A, ⟨⟨d0, d1, d2, d3⟩, d4, d5, d6, d7⟩, hrs⟩ := hpv.row (hf _ hmem)
      obtain ⟨A', ⟨⟨e0, e1, e2, e3⟩, e4, e5, e6, e7⟩, hrs'⟩ := hpv'.row (hf _ hmem)
      subst hra hra'
      have C : ∀ q : Bk wr, Calls Try.prog 42 #[rwV A (rowN R k), rwV A' (rowN R k)] q.w fun e w' => e = .returned (.bool true) ∧ Below q.w.heap.size q.w w' := fun q => eqRw_any A A' _ q.w (hrs.below q.h) (hrs'.below q.h)
      unfold rwV rwC at C
      have T : ∀ {x v}, wr.cell? x = some v → ∀ q : Bk wr, q.w.cell? x = some v := fun h q => (q.h.cell (World.block_lt_of_cell? _ _ h)).trans h
      have dp0 := T d0
      have dp1 := T d1
      have dp2 := T d2
      have dp3 := T d3
      have dp4 := T d4
      have dp5 := T d5
      have dp6 := T d6
      have dp7 := T d7
      have ep0 := T e0
      have ep1 := T e1
      have ep2 := T e2
      have ep3 := T e3
      have ep4 := T e4
      have ep5 := T e5
      have ep6 := T e6
      have ep7 := T e7
      have HB : Hid (Below w.heap.size w wr) := hb
      generalize rowN R k = r at *
      clear hrs hrs' hpv hpv' hb T d0 d1 d2 d3 d4 d5 d6 d7 e0 e1 e2 e3 e4 e5 e6 e7 hkx
      go_wp2_with fail
      refine wp_region_bk (by kernel_rfl) (by kernel_rfl) ?_
      repeat (go_big_quiet_step ((first | (go_at_call 42; exact bk_call _ (C _)) | rfl)))
      refine wpQuiet_nil ?_
      intro wE hw'
      obtain ⟨⟨w11, hb11⟩, hw''⟩ := hw'
      have hwe : wE = w11 := hw''
      clear hw''
      subst hwe
      have HB1 : Hid (Below w.heap.size w wE) := HB.out.trans (hb11.mono HB.out.size)
      clear C hb11 dp0 dp1 dp2 dp3 dp4 dp5 dp6 dp7 ep0 ep1 ep2 ep3 ep4 ep5 ep6 ep7
      go_wp2
      go_roundw
      case rel => exact ⟨k + 1, by omega, by go_num, HB1.out⟩
      case measure => simp [intOf]; omega
    · have k1 : ¬ ((k : Int) < (R.length : Int)) := by omega
      have HB : Hid (Below w.heap.size w wr) := hb
      clear hb
      go_wp2
      go_ret
      exact ⟨rfl, HB.out⟩
set_option maxRecDepth 100000 in
set_option maxHeartbeats 3200000 in
theorem eqMb_any (A D : Ma) (m : Mb) (w : World) (hv : MbS w A m) (hu : MbS w D m) :
    Calls Try.prog 31 #[mbV A m, mbV D m] w fun e w' => e = .returned (.bool true) ∧ Below w.heap.size w w' := by
  have hB0 : Below w.heap.size w ((w.alloc (.cells #[.int .i64 m.id, .int .i64 m.n, .slice A.ra m.rows.length A.rc, .slice A.sa m.sung.length A.sc, .bool m.done] 40)).alloc (.cells #[.int .i64 m.id, .int .i64 m.n, .slice D.ra m.rows.length D.rc, .slice D.sa m.sung.length D.sc, .bool m.done] 40)) := (oneA16 w _).trans ((oneA16 _ _).mono (oneA16 w _).size)
  have hx : Bx ((w.alloc (.cells #[.int .i64 m.id, .int .i64 m.n, .slice A.ra m.rows.length A.rc, .slice A.sa m.sung.length A.sc, .bool m.done] 40)).alloc (.cells #[.int .i64 m.id, .int .i64 m.n, .slice D.ra m.rows.length D.rc, .slice D.sa m.sung.length D.sc, .bool m.done] 40)) w.heap.size 40 #[.int .i64 m.id, .int .i64 m.n, .slice A.ra m.rows.length A.rc, .slice A.sa m.sung.length A.sc, .bool m.done] := (Bx.new w _ _).alloc _
  have hy : Bx ((w.alloc (.cells #[.int .i64 m.id, .int .i64 m.n, .slice A.ra m.rows.length A.rc, .slice A.sa m.sung.length A.sc, .bool m.done] 40)).alloc (.cells #[.int .i64 m.id, .int .i64 m.n, .slice D.ra m.rows.length D.rc, .slice D.sa m.sung.length D.sc, .bool m.done] 40)) (w.heap.size + 1) 40 #[.int .i64 m.id, .int .i64 m.n, .slice D.ra m.rows.length D.rc, .slice D.sa m.sung.length D.sc, .bool m.done] := by
    have := Bx.new (w.alloc (.cells #[.int .i64 m.id, .int .i64 m.n, .slice A.ra m.rows.length A.rc, .slice A.sa m.sung.length A.sc, .bool m.done] 40)) 40 #[.int .i64 m.id, .int .i64 m.n, .slice D.ra m.rows.length D.rc, .slice D.sa m.sung.length D.sc, .bool m.done]
    simpa using this
  have h0 := hv.below hB0
  have g0 := hu.below hB0
  have hR := eqRs_any A.ra D.ra A.rc D.rc m.rows _ h0.rows g0.rows h0.fit h0.mr
  have hE : ∀ X, Below w.heap.size w X → Calls Try.prog 78 #[.slice A.sa m.sung.length A.sc, .slice D.sa m.sung.length D.sc] X fun e w' => e = .returned (.bool true) ∧ Below X.heap.size X w' := fun X h => (eq_any A.sa D.sa m.sung.length A.sc m.sung.length D.sc m.sung m.sung X (hv.sung.below h (Nat.le_refl _)) (hu.sung.below h (Nat.le_refl _)) hv.ms).mono (fun e w' ⟨h4, n, h5⟩ => ⟨by rw [h4]; simp, by rw [h5]; exact belowN (Below.refl _ _)⟩)
  unfold mbV mbC
  generalize hWW : (w.alloc (.cells #[.int .i64 m.id, .int .i64 m.n, .slice A.ra m.rows.length A.rc, .slice A.sa m.sung.length A.sc, .bool m.done] 40)).alloc (.cells #[.int .i64 m.id, .int .i64 m.n, .slice D.ra m.rows.length D.rc, .slice D.sa m.sung.length D.sc, .bool m.done] 40) = W at *
  have n1 : (m.id != m.id) = false := by simp
  have n2 : (m.n != m.n) = false := by simp
  have n3 : (m.done != m.done) = false := by simp
  have HX : Hid (Bx W w.heap.size 40 #[.int .i64 m.id, .int .i64 m.n, .slice A.ra m.rows.length A.rc, .slice A.sa m.sung.length A.sc, .bool m.done]) := hx
  have HY : Hid (Bx W (w.heap.size + 1) 40 #[.int .i64 m.id, .int .i64 m.n, .slice D.ra m.rows.length D.rc, .slice D.sa m.sung.length D.sc, .bool m.done]) := hy
  have HB : Hid (Below w.heap.size w W) := hB0
  obtain ⟨c0, c1, c2, c3, c4⟩ := Bx.r5 hx
  obtain ⟨d0, d1, d2, d3, d4⟩ := Bx.r5 hy
  clear hv hu h0 g0 hB0 hx hy
  go_enter Try.func31, Try.ntmps31
  go_wp2_with fail
  refine hR.mono ?_
  rintro e w1 ⟨rfl, hb1⟩
  have HB1 : Hid (Below w.heap.size w w1) := HB.out.trans (hb1.mono HB.out.size)
  have HX1 : Hid (Bx w1 w.heap.size 40 #[.int .i64 m.id, .int .i64 m.n, .slice A.ra m.rows.length A.rc, .slice A.sa m.sung.length A.sc, .bool m.done]) := HX.out.below hb1
  have HY1 : Hid (Bx w1 (w.heap.size + 1) 40 #[.int .i64 m.id, .int .i64 m.n, .slice D.ra m.rows.length D.rc, .slice D.sa m.sung.length D.sc, .bool m.done]) := HY.out.below hb1
  clear c0 c1 c2 c3 c4 d0 d1 d2 d3 d4 hR hb1
  obtain ⟨c0, c1, c2, c3, c4⟩ := Bx.r5 HX1.out
  obtain ⟨d0, d1, d2, d3, d4⟩ := Bx.r5 HY1.out
  go_wp2_with fail
  refine (hE _ HB1.out).mono ?_
  rintro e w2 ⟨rfl, hb2⟩
  have HB2 : Hid (Below w.heap.size w w2) := HB1.out.trans (hb2.mono HB1.out.size)
  clear c0 c1 c2 c3 c4 d0 d1 d2 d3 d4 hE
  obtain ⟨c0, c1, c2, c3, c4⟩ := Bx.r5 (HX1.out.below hb2)
  obtain ⟨d0, d1, d2, d3, d4⟩ := Bx.r5 (HY1.out.below hb2)
  clear hb2
  go_wp2
  go_ret
  exact ⟨rfl, HB2.out⟩
end Go.Proofs.Ytgfeabgmllkdeaa

/-
  The specification's NewMember.
-/
namespace Go.Proofs.Ytgfeabgmllkdeaa
set_option linter.unusedVariables false
set_option linter.unusedSimpArgs false
open Go.RowKit Go.Sort

end Go.Proofs.Ytgfeabgmllkdeaa

/-
  The specification's Say, Doubt and Heard.
-/
namespace Go.Proofs.Ytgfeabgmllkdeaa
set_option linter.unusedVariables false
set_option linter.unusedSimpArgs false
open Go.RowKit Go.Sort

attribute [local irreducible] sv
end Go.Proofs.Ytgfeabgmllkdeaa

/-
  The specification's l17Left.
-/
namespace Go.Proofs.Ytgfeabgmllkdeaa
set_option linter.unusedVariables false
set_option linter.unusedSimpArgs false
open Go.RowKit Go.Sort

end Go.Proofs.Ytgfeabgmllkdeaa

/-
  Places: two elements of one list; what becomes of one leaves the other as it is (general).
-/
namespace Go.Proofs.Ytgfeabgmllkdeaa
set_option linter.unusedVariables false
set_option linter.unusedSimpArgs false
open Go.RowKit Go.Sort

end Go.Proofs.Ytgfeabgmllkdeaa

/-
  The specification's l17Learn: what is plain of it, and what a part of the work on a member holds.
-/
namespace Go.Proofs.Ytgfeabgmllkdeaa
set_option linter.unusedVariables false
set_option linter.unusedSimpArgs false
open Go.RowKit Go.Sort

end Go.Proofs.Ytgfeabgmllkdeaa

/-
  The specification's l17Learn.
-/
namespace Go.Proofs.Ytgfeabgmllkdeaa
set_option linter.unusedVariables false
set_option linter.unusedSimpArgs false
open Go.RowKit Go.Sort

end Go.Proofs.Ytgfeabgmllkdeaa

/-
  The specification's l17Sing.
-/
namespace Go.Proofs.Ytgfeabgmllkdeaa
set_option linter.unusedVariables false
set_option linter.unusedSimpArgs false
open Go.RowKit Go.Sort

end Go.Proofs.Ytgfeabgmllkdeaa

/-
  The specification's l17Adopt.
-/
namespace Go.Proofs.Ytgfeabgmllkdeaa
set_option linter.unusedVariables false
set_option linter.unusedSimpArgs false
open Go.RowKit Go.Sort

end Go.Proofs.Ytgfeabgmllkdeaa

/-
  The contracts of Earlier and Apart, the specification's and the program's, and the walks of the laws FnExactEarlier and FnExactApart.
-/
namespace Go.Proofs.Ytgfeabgmllkdeaa
set_option linter.unusedSimpArgs false
set_option linter.unusedVariables false
open Go.RowKit

end Go.Proofs.Ytgfeabgmllkdeaa

/-
  The specification's l17SameRow.
-/
namespace Go.Proofs.Ytgfeabgmllkdeaa
set_option linter.unusedVariables false
set_option linter.unusedSimpArgs false
open Go.RowKit Go.Sort

end Go.Proofs.Ytgfeabgmllkdeaa

/-
  Lists of rows that lie in no block of the rows themselves; the plain words of l17Lead.
-/
namespace Go.Proofs.Ytgfeabgmllkdeaa
set_option linter.unusedVariables false
set_option linter.unusedSimpArgs false
open Go.RowKit Go.Sort

end Go.Proofs.Ytgfeabgmllkdeaa

/-
  The specification's l17Lead.
-/
namespace Go.Proofs.Ytgfeabgmllkdeaa
set_option linter.unusedVariables false
set_option linter.unusedSimpArgs false
open Go.RowKit Go.Sort

end Go.Proofs.Ytgfeabgmllkdeaa

/-
  The contracts of the specification's SeqOf, SenderOf, IndexOf, l7Counts and Ready.
-/
namespace Go.Proofs.Ytgfeabgmllkdeaa
set_option linter.unusedVariables false
set_option linter.unusedSimpArgs false
open Go.RowKit Go.Sort

end Go.Proofs.Ytgfeabgmllkdeaa

/-
  The contract of the specification's Woven.
-/
namespace Go.Proofs.Ytgfeabgmllkdeaa
set_option linter.unusedVariables false
set_option linter.unusedSimpArgs false
open Go.RowKit Go.Sort

end Go.Proofs.Ytgfeabgmllkdeaa

/-
  The specification's l17End.
-/
namespace Go.Proofs.Ytgfeabgmllkdeaa
set_option linter.unusedVariables false
set_option linter.unusedSimpArgs false
open Go.RowKit Go.Sort

end Go.Proofs.Ytgfeabgmllkdeaa

/-
  A draw that holds a struct of any size (general): the cursor, the answer's room, the struct's own block, its lists.
-/
namespace Go.Proofs.Ytgfeabgmllkdeaa
set_option linter.unusedVariables false
set_option linter.unusedSimpArgs false
open Go.RowKit Go.Sort

section
variable {w X Y Y' : World} {p : Nat} {a : Option Addr} {len cap : Nat} {bs : Nat → Int} {T : TypeId} {o : Nat} {Z C : Array Value} {cs : List Cel} {vs : List Value} {fp : Fp}
end
end Go.Proofs.Ytgfeabgmllkdeaa

/-
  The specification's l1DrawVector once more: its answer lies in memory of its own.
-/
namespace Go.Proofs.Ytgfeabgmllkdeaa
set_option linter.unusedVariables false
set_option linter.unusedSimpArgs false
open Go.RowKit Go.Sort

end Go.Proofs.Ytgfeabgmllkdeaa

/-
  What l16Draw holds: a row under way.
-/
namespace Go.Proofs.Ytgfeabgmllkdeaa
set_option linter.unusedVariables false
set_option linter.unusedSimpArgs false
open Go.RowKit Go.Sort

section
variable {w X Y Y' : World} {p : Nat} {a : Option Addr} {len cap : Nat} {bs : Nat → Int} {o : Nat} {Zr : Array Value} {A : Ra} {r : Rw} {fp : Fp}
end
end Go.Proofs.Ytgfeabgmllkdeaa

/-
  Slices of bytes in memory of one's own; the contract of the specification's l1DrawText.
-/
namespace Go.Proofs.Ytgfeabgmllkdeaa
set_option linter.unusedSimpArgs false
set_option linter.unusedVariables false
open Go.RowKit Go.Sort

attribute [local irreducible] sv
end Go.Proofs.Ytgfeabgmllkdeaa

/-
  The draw l16Draw.
-/
namespace Go.Proofs.Ytgfeabgmllkdeaa
set_option linter.unusedVariables false
set_option linter.unusedSimpArgs false
open Go.RowKit Go.Sort

attribute [local irreducible] sv
end Go.Proofs.Ytgfeabgmllkdeaa

/-
  The draws of stage 16: l16DrawCount, DrawNewRow, DrawRowOk, DrawLater.
-/
namespace Go.Proofs.Ytgfeabgmllkdeaa
set_option linter.unusedVariables false
set_option linter.unusedSimpArgs false
open Go.RowKit Go.Sort

theorem totS_le {T : List (List UInt8)} {m : Nat} (h : ∀ i, i < T.length → (T.getD i []).length ≤ m) : ∀ k, k ≤ T.length → totS T k ≤ k * m
  | 0, _ => by simp [totS]
  | k + 1, hk => by
    have := totS_le h k (by omega)
    have := h k (by omega)
    rw [totS, Nat.add_mul]
    omega
theorem owL_it {w : World} {cs : List Cel} {vs : List Value} {fp : Fp} (h : owL w cs vs fp) {lo : Nat} (hl : ∀ b, fp b → lo ≤ b) : It w cs vs lo w.heap.size := ⟨fp, h, fun b hb => ⟨hl b hb, owL_lt h b hb⟩⟩
end Go.Proofs.Ytgfeabgmllkdeaa

/-
  The draw DrawLater.
-/
namespace Go.Proofs.Ytgfeabgmllkdeaa
set_option linter.unusedVariables false
set_option linter.unusedSimpArgs false
open Go.RowKit Go.Sort

end Go.Proofs.Ytgfeabgmllkdeaa

/-
  The stages of a step, plain: at each of them the member is right.
-/
namespace Go.Proofs.Ytgfeabgmllkdeaa
set_option linter.unusedVariables false
set_option linter.unusedSimpArgs false
open Go.RowKit Go.Sort

end Go.Proofs.Ytgfeabgmllkdeaa

/-
  The specification's l17Step.
-/
namespace Go.Proofs.Ytgfeabgmllkdeaa
set_option linter.unusedVariables false
set_option linter.unusedSimpArgs false
open Go.RowKit Go.Sort

theorem OkR.sz {r : Rw} {n : Nat} (h : OkR r n) : szRw r ≤ 1048576 := by
  have h5 := h.n5
  have h1 := h.gl
  have h2 := h.sl
  have h3 := h.ml
  have h4 := h.tl
  have h6 : totS r.txt r.txt.length ≤ r.txt.length * 20 := totS_le (fun i hi => h.ts _ (by rw [List.getD_eq_getElem?_getD, List.getElem?_eq_getElem hi]; exact List.getElem_mem hi)) _ (Nat.le_refl _)
  unfold szRw
  omega
end Go.Proofs.Ytgfeabgmllkdeaa

/-
  The specification's Step.
-/
namespace Go.Proofs.Ytgfeabgmllkdeaa
set_option linter.unusedVariables false
set_option linter.unusedSimpArgs false
open Go.RowKit Go.Sort

end Go.Proofs.Ytgfeabgmllkdeaa

/-
  The specification's l17Voice and Voice.
-/
namespace Go.Proofs.Ytgfeabgmllkdeaa
set_option linter.unusedVariables false
set_option linter.unusedSimpArgs false
open Go.RowKit Go.Sort

attribute [local irreducible] sv
end Go.Proofs.Ytgfeabgmllkdeaa

/-
  The specification's Voice.
-/
namespace Go.Proofs.Ytgfeabgmllkdeaa
set_option linter.unusedVariables false
set_option linter.unusedSimpArgs false
open Go.RowKit Go.Sort

theorem NewO.before {w w1 w2 : World} {c : Cel} {v : Value} (h : NewO w1 w2 c v) (hb : Below w.heap.size w w1) : NewO w w2 c v := by
  obtain ⟨f, h1, h2, h3⟩ := h
  exact ⟨f, h1, fun b hb' => Nat.le_trans hb.size (h2 b hb'), hb.trans (h3.mono hb.size)⟩
end Go.Proofs.Ytgfeabgmllkdeaa

/-
  What the program's functions on members must be shown to answer; facts for their exact laws.
-/
namespace Go.Proofs.Ytgfeabgmllkdeaa
set_option linter.unusedVariables false
set_option linter.unusedSimpArgs false
open Go.RowKit Go.Sort

def Mb64 (m : Mb) : Prop := I64v m.id ∧ I64v m.n ∧ ∀ r ∈ m.rows, Rw64 r
/-- A member that a program is handed. -/
structure MbP (w : World) (A : Ma) (m : Mb) : Prop where
  own : ∃ f, owL w (mbCels m) (mbVals A m) f
  fit : FitM m
  i64 : Mb64 m
  sz : szMb m ≤ 1048576
theorem MbS.fitM {w : World} {A : Ma} {m : Mb} (h : MbS w A m) : FitM m := ⟨h.fit, h.sung.2.1⟩
theorem it_mbs {w : World} {A : Ma} {m : Mb} {lo hi : Nat} (h : It w (mbCels m) (mbVals A m) lo hi) (hf : FitM m) : MbS w A m := mbs_of h.vw hf
theorem it_mbp {w : World} {A : Ma} {m : Mb} {lo hi : Nat} (h : It w (mbCels m) (mbVals A m) lo hi) (hf : FitM m) (h6 : Mb64 m) (hs : szMb m ≤ 1048576) : MbP w A m := ⟨h.imp (fun _ h => h.1), hf, h6, hs⟩
theorem AnsMb.it {w w' : World} {e : Ending} {m : Mb} (h : AnsMb w w' e m) : ∃ A, e = .returned (mbV A m) ∧ It w' (mbCels m) (mbVals A m) w.heap.size w'.heap.size ∧ Below w.heap.size w w' := by
  obtain ⟨A, h1, h2⟩ := h
  exact ⟨A, h1, It.of_new h2, h2.choose_spec.2.2⟩
def ImplMemberOk : Prop := ∀ (A : Ma) (m : Mb) (w : World), MbP w A m → Calls Try.prog 30 #[mbV A m] w fun e w' => e = .returned (.bool (okMb m)) ∧ Below w.heap.size w w'
attribute [local irreducible] sv
end Go.Proofs.Ytgfeabgmllkdeaa

/-
  The walk of the exact law of MemberOk FROM what the program answers.
-/
namespace Go.Proofs.Ytgfeabgmllkdeaa
set_option linter.unusedVariables false
set_option linter.unusedSimpArgs false
open Go.RowKit Go.Sort

set_option maxRecDepth 100000 in
set_option maxHeartbeats 6400000 in
theorem lawMemberOk (hI : ImplMemberOk) (A0 : Ma) (m : Mb) (w : World) (hv0 : MbS w A0 m) (hg0 : ∀ r ∈ m.rows, LongT r.txt) (h60 : Mb64 m) :
    Calls Try.prog 4 #[mbV A0 m] w fun e w' => e = .returned (.bool true) ∧ Below w.heap.size w w' := by
  have hf0 : FitM m := hv0.fitM
  have hZ0 : ∀ (X : World) (left : Int), Below w.heap.size w X → (0 ≤ left ∧ left ≤ 1048576) → Calls Try.prog 27 #[mbV A0 m, .int .i64 left] X fun e w' => ∃ q : Int, e = .returned (.int .i64 q) ∧ (q = -1 ∨ 0 ≤ q ∧ q + (szMb m : Int) = left) ∧ Below X.heap.size X w' := fun X left hX hl => szMb_any A0 m left X (hv0.below hX) hg0 hl
  have hTo0 : szMb m ≤ 1048576 → ∀ X, Below w.heap.size w X → Calls Try.prog 29 #[mbV A0 m] X fun e w' => ∃ A', e = .returned (mbV A' m) ∧ It w' (mbCels m) (mbVals A' m) X.heap.size w'.heap.size ∧ Below X.heap.size X w' := fun hs X hX => (toMb_any A0 m X (hv0.below hX) hs).mono (fun e w' h => h.it)
  have hE0 : szMb m ≤ 1048576 → ∀ (X : World) (A1 A2 : Ma) {l1 h1 l2 h2 : Nat}, It X (mbCels m) (mbVals A1 m) l1 h1 → It X (mbCels m) (mbVals A2 m) l2 h2 → Calls Try.prog 31 #[mbV A1 m, mbV A2 m] X fun e w' => e = .returned (.bool true) ∧ Below X.heap.size X w' := fun hs X A1 A2 l1 h1 l2 h2 i1 i2 => eqMb_any A1 A2 m X (it_mbs i1 hf0) (it_mbs i2 hf0)
  have hSp : szMb m ≤ 1048576 → ∀ (X : World) (B0 : Ma) {l0 u0 : Nat}, It X (mbCels m) (mbVals B0 m) l0 u0 → Calls Try.prog 28 #[mbV B0 m] X fun e w' => e = .returned (.bool (okMb m)) ∧ Below X.heap.size X w' := fun hs0 X B0 l0 u0 i0 => mbkS_any B0 m X (it_mbs i0 hf0)
  have hIm : szMb m ≤ 1048576 → ∀ (X : World) (B0 : Ma) {l0 u0 : Nat}, It X (mbCels m) (mbVals B0 m) l0 u0 → Calls Try.prog 30 #[mbV B0 m] X fun e w' => e = .returned (.bool (okMb m)) ∧ Below X.heap.size X w' := fun hs0 X B0 l0 u0 i0 => hI B0 m X (it_mbp i0 hf0 h60 hs0)
  generalize okMb m = Q at *
  have ne : (Q != Q) = false := by simp
  clear hI hv0
  unfold mbV mbC at *
  have hb00 : Below w.heap.size w w := Below.refl _ _
  have b2 := oneA16 w (.cells #[.int .i64 m.id, .int .i64 m.n, .slice A0.ra m.rows.length A0.rc, .slice A0.sa m.sung.length A0.sc, .bool m.done] 35)
  have h3 := Bx.new w 35 #[.int .i64 m.id, .int .i64 m.n, .slice A0.ra m.rows.length A0.rc, .slice A0.sa m.sung.length A0.sc, .bool m.done]
  generalize hX1 : w.alloc (.cells #[.int .i64 m.id, .int .i64 m.n, .slice A0.ra m.rows.length A0.rc, .slice A0.sa m.sung.length A0.sc, .bool m.done] 35) = X1 at *
  have B5 : Below w.heap.size w X1 := hb00.trans (b2.mono hb00.size)
  have sB5 : w.heap.size ≤ X1.heap.size := b2.size
  clear hb00
  have k4 : w.heap.size < X1.heap.size := h3.lt
  clear b2
  go_enter Try.func4, Try.ntmps4
  obtain ⟨c60, c61, c62, c63, c64⟩ := Bx.r5 h3
  go_wp2_with fail
  refine (hZ0 X1 1048576 B5 ⟨by omega, by omega⟩).mono ?_
  rintro e z0 ⟨q0, rfl, hq0, hbz0⟩
  clear c60 c61 c62 c63 c64
  have B7 : Below w.heap.size w z0 := B5.trans (hbz0.mono B5.size)
  have sB7 : X1.heap.size ≤ z0.heap.size := hbz0.size
  have h8 := h3.below hbz0
  clear B5 h3
  rcases hq0 with rfl | ⟨hqa0, hqb0⟩
  · go_wp2
    go_ret
    exact ⟨rfl, B7⟩
  have hqn0 : decide (q0 < 0) = false := by simp; omega
  have hs0 : szMb m ≤ 1048576 := by omega
  have hT0 := hTo0 hs0
  have hEE0 := hE0 hs0
  have hS2 := hSp hs0
  have hI2 := hIm hs0
  clear hSp hIm hTo0 hE0 hZ0
  obtain ⟨c90, c91, c92, c93, c94⟩ := Bx.r5 h8
  go_wp2_with fail
  refine (hT0 z0 B7).mono ?_
  rintro e s0 ⟨As0, rfl, is0, hbs0⟩
  clear c90 c91 c92 c93 c94
  have B10 : Below w.heap.size w s0 := B7.trans (hbs0.mono B7.size)
  have sB10 : z0.heap.size ≤ s0.heap.size := hbs0.size
  have h11 := h8.below hbs0
  clear B7 h8
  go_wp2_with fail
  refine (hS2 s0 _ is0).mono ?_
  rintro e ws ⟨rfl, hbws⟩
  have B12 : Below w.heap.size w ws := B10.trans (hbws.mono B10.size)
  have sB12 : s0.heap.size ≤ ws.heap.size := hbws.size
  have h13 := h11.below hbws
  have h14 := is0.below hbws
  clear B10 h11 is0
  clear h14
  obtain ⟨c150, c151, c152, c153, c154⟩ := Bx.r5 h13
  go_wp2_with fail
  refine (hT0 ws B12).mono ?_
  rintro e wx0 ⟨Ax0, rfl, ix0, hbx0⟩
  clear c150 c151 c152 c153 c154
  have B16 : Below w.heap.size w wx0 := B12.trans (hbx0.mono B12.size)
  have sB16 : ws.heap.size ≤ wx0.heap.size := hbx0.size
  have h17 := h13.below hbx0
  clear B12 h13
  have b19 := oneA16 wx0 (.cells #[.int .i64 m.id, .int .i64 m.n, .slice Ax0.ra m.rows.length Ax0.rc, .slice Ax0.sa m.sung.length Ax0.sc, .bool m.done] 40)
  have h20 := Bx.new wx0 40 #[.int .i64 m.id, .int .i64 m.n, .slice Ax0.ra m.rows.length Ax0.rc, .slice Ax0.sa m.sung.length Ax0.sc, .bool m.done]
  generalize hX18 : wx0.alloc (.cells #[.int .i64 m.id, .int .i64 m.n, .slice Ax0.ra m.rows.length Ax0.rc, .slice Ax0.sa m.sung.length Ax0.sc, .bool m.done] 40) = X18 at *
  have B22 : Below w.heap.size w X18 := B16.trans (b19.mono B16.size)
  have sB22 : wx0.heap.size ≤ X18.heap.size := b19.size
  have h23 := h17.below b19
  have h24 := ix0.below b19
  clear B16 h17 ix0
  have k21 : wx0.heap.size < X18.heap.size := h20.lt
  clear b19
  obtain ⟨c250, c251, c252, c253, c254⟩ := Bx.r5 h20
  go_wp2_with fail
  refine (hI2 X18 _ h24).mono ?_
  rintro e wi ⟨rfl, hbi⟩
  have B26 : Below w.heap.size w wi := B22.trans (hbi.mono B22.size)
  have sB26 : X18.heap.size ≤ wi.heap.size := hbi.size
  have h27 := h23.below hbi
  have h28 := h24.below hbi
  have h29 := h20.below hbi
  clear B22 h23 h24 h20
  clear c250 c251 c252 c253 c254
  have KS : ∀ X, Below wi.heap.size wi X → (X.cell? ⟨w.heap.size, 0, none⟩ = some (.int .i64 m.id) ∧ X.cell? ⟨w.heap.size, 1, none⟩ = some (.int .i64 m.n) ∧ X.cell? ⟨w.heap.size, 2, none⟩ = some (.slice A0.ra m.rows.length A0.rc) ∧ X.cell? ⟨w.heap.size, 3, none⟩ = some (.slice A0.sa m.sung.length A0.sc) ∧ X.cell? ⟨w.heap.size, 4, none⟩ = some (.bool m.done)) ∧ (X.cell? ⟨wx0.heap.size, 0, none⟩ = some (.int .i64 m.id) ∧ X.cell? ⟨wx0.heap.size, 1, none⟩ = some (.int .i64 m.n) ∧ X.cell? ⟨wx0.heap.size, 2, none⟩ = some (.slice Ax0.ra m.rows.length Ax0.rc) ∧ X.cell? ⟨wx0.heap.size, 3, none⟩ = some (.slice Ax0.sa m.sung.length Ax0.sc) ∧ X.cell? ⟨wx0.heap.size, 4, none⟩ = some (.bool m.done)) := fun X hX => ⟨Bx.r5 (h27.below hX), Bx.r5 (h29.below hX)⟩
  have bd : Below wi.heap.size wi (wi.drewN 1) := belowN (Below.refl _ _)
  have hTo2 := fun X (h : Below wi.heap.size wi X) => hT0 X (B26.trans (h.mono B26.size))
  have hEq2 := fun X (A7 : Ma) (h : Below wi.heap.size wi X) (h7 : ∃ lo hi, It X (mbCels m) (mbVals A7 m) lo hi) => hEE0 X Ax0 A7 (h28.below h) h7.choose_spec.choose_spec
  go_wp2_with fail
  go_region_held3 (fun X => (X.cell? ⟨w.heap.size, 0, none⟩ = some (.int .i64 m.id) ∧ X.cell? ⟨w.heap.size, 1, none⟩ = some (.int .i64 m.n) ∧ X.cell? ⟨w.heap.size, 2, none⟩ = some (.slice A0.ra m.rows.length A0.rc) ∧ X.cell? ⟨w.heap.size, 3, none⟩ = some (.slice A0.sa m.sung.length A0.sc) ∧ X.cell? ⟨w.heap.size, 4, none⟩ = some (.bool m.done)) ∧ (X.cell? ⟨wx0.heap.size, 0, none⟩ = some (.int .i64 m.id) ∧ X.cell? ⟨wx0.heap.size, 1, none⟩ = some (.int .i64 m.n) ∧ X.cell? ⟨wx0.heap.size, 2, none⟩ = some (.slice Ax0.ra m.rows.length Ax0.rc) ∧ X.cell? ⟨wx0.heap.size, 3, none⟩ = some (.slice Ax0.sa m.sung.length Ax0.sc) ∧ X.cell? ⟨wx0.heap.size, 4, none⟩ = some (.bool m.done)))
    (first | exact KS _ b8 | exact KS _ b7b | exact KS _ bd)
    (first
      | (go_at_call 29; refine (hTo2 _ bd).mono ?_; rintro e t0 ⟨A7, rfl, i7, hb7⟩; have b7b : Below wi.heap.size wi t0 := bd.trans (hb7.mono bd.size))
      | (go_at_call 31; refine (hEq2 t0 A7 b7b ⟨_, _, i7⟩).mono ?_; rintro e u0 ⟨rfl, hb8⟩; have b8 : Below wi.heap.size wi u0 := b7b.trans (hb8.mono b7b.size)))
  clear KS bd hTo2 hEq2 i7 hb7 b7b hb8
  have B30 : Below w.heap.size w u0 := B26.trans (b8.mono B26.size)
  have sB30 : wi.heap.size ≤ u0.heap.size := b8.size
  have h31 := h27.below b8
  have h32 := h28.below b8
  have h33 := h29.below b8
  clear B26 h27 h28 h29
  go_wp2
  go_ret
  exact ⟨rfl, B30⟩
end Go.Proofs.Ytgfeabgmllkdeaa

/-
  How a row that comes in is read: out of its eight cells.
-/
namespace Go.Proofs.Ytgfeabgmllkdeaa
set_option linter.unusedVariables false
set_option linter.unusedSimpArgs false
open Go.ChangeShapes Go.WideShapes Go.ChangeAt Go.RowKit Go.Deep

section
variable {H : Type} {enc : TypeId × Value → H} {P : Program} {W : World} {base : Nat} {held : Bool}
/-- A field of one cell of a struct that reads. -/
theorem field_of {t : TypeId} {fs : Array Field} {fuel : Nat} {cs : List Value} {x : DataW H × List MemPlace} (ht : P.underlying t = some (.struct fs)) (hone : oneCellFields P fs = true) (h : DataW.trod enc P W base (fun _ => true) held fuel t cs = some x) :
    cs.length = P.cellsOf t ∧ ∃ n, ∀ (i : Nat) (f : Field) (c : Value), fs[i]? = some f → cs[i]? = some c → ∃ y, DataW.trod enc P W base (fun _ => true) held n f.type [c] = some y := by
  obtain ⟨xs, n, _, rfl, hl, hlen, hf⟩ := DataW.trod_struct ht h
  refine ⟨hl, n, fun i f c hi hc => ?_⟩
  obtain ⟨o, k⟩ := hone_of hone i f hi
  have h1 := hf i f hi
  have hix : i < xs.length := by
    rw [hlen]
    exact (Array.getElem?_eq_some_iff.1 hi).1
  have e : (cs.drop i).take 1 = [c] := by
    have hic := (List.getElem?_eq_some_iff.1 hc).1
    have hcc := (List.getElem?_eq_some_iff.1 hc).2
    rw [List.drop_eq_getElem_cons hic, hcc]
    rfl
  rw [o, k, e, List.getElem?_eq_getElem hix] at h1
  exact ⟨_, h1⟩
/-- A cell that reads as a list of numbers. -/
theorem ints_of {t e : TypeId} {fuel : Nat} {c : Value} {y : DataW H × List MemPlace} (ht : P.underlying t = some (.slice e)) (he : P.underlying e = some (.int .i64)) (hc : P.cellsOf e = 1) (h : DataW.trod enc P W base (fun _ => true) held fuel t [c] = some y) :
    ∃ a cap M, c = .slice a (List.length M) cap ∧ Vec W a (List.length M) M ∧ List.length M ≤ maxLen := by
  obtain ⟨a, len, cap, z, rfl, hw⟩ : ∃ a len cap zs, c = .slice a len cap ∧ IsRow .i64 W a len cap zs := by
    rcases open_ints ht he hc h with ⟨hcs, _⟩ | ⟨x, l, c, zs, hcs, _, hl, hm, hz, _, hcell, hwz⟩
    · simp at hcs
      exact ⟨none, 0, 0, [], hcs, .inl ⟨rfl, rfl, rfl, rfl⟩⟩
    · simp at hcs
      exact ⟨some x, l, c, zs, hcs, .inr ⟨_, rfl, hl, hm, by simpa using hz, hcell, hwz⟩⟩
  rcases hw with ⟨rfl, rfl, rfl, rfl⟩ | ⟨ad, rfl, hl, hm, hz, hcell, hwz⟩
  · exact ⟨none, 0, [], rfl, ⟨rfl, fun x hx => absurd hx List.not_mem_nil, .inl rfl⟩, Nat.zero_le _⟩
  · have hz' : z.length = cap := by simpa using hz
    have hlen : (z.take len).length = len := by rw [List.length_take]; omega
    have hfit : Fits (z.take len) := fun n hn => bounds_i64 (hwz n (List.mem_of_mem_take hn))
    refine ⟨some ad, cap, z.take len, by rw [hlen], ⟨rfl, hfit, ?_⟩, by rw [hlen]; exact Nat.le_trans hl hm⟩
    rcases Nat.eq_zero_or_pos len with e | e
    · exact .inl (by omega)
    · obtain ⟨b, off, spot⟩ := ad
      have hs : spot = none := by
        have := hcell 0 (by omega)
        simpa [Addr.add] using World.cell?_spot this
      subst hs
      refine .inr ⟨b, off, rfl, fun i hi => ?_⟩
      have h1 := hcell i (by omega)
      rw [add_lit0] at h1
      rw [h1]
      simp [el, List.getD, List.getElem?_take_of_lt (show i < len by omega)]
theorem str_short16 {s : ByteArray} (h : s.size ≤ maxLen) : s.data.toList.length ≤ 9223372036854775807 := by
  have e : s.data.toList.length = s.size := by rw [Array.length_toList]; rfl
  rw [e]
  unfold maxLen at h
  exact h
end
theorem list8 {α : Type} {l : List α} (h : l.length = 8) : ∃ c0 c1 c2 c3 c4 c5 c6 c7, l = [c0, c1, c2, c3, c4, c5, c6, c7] := by
  match l, h with
  | [c0, c1, c2, c3, c4, c5, c6, c7], _ => exact ⟨c0, c1, c2, c3, c4, c5, c6, c7, rfl⟩
end Go.Proofs.Ytgfeabgmllkdeaa

/-
  How a member that comes in is read.
-/
namespace Go.Proofs.Ytgfeabgmllkdeaa
set_option linter.unusedVariables false
set_option linter.unusedSimpArgs false
open Go.ChangeShapes Go.WideShapes Go.ChangeAt Go.RowKit Go.Deep

theorem vw_of_txs {w : World} {a : Option Addr} {c : Nat} {T : List (List UInt8)} (h : TxS w a T) (h1 : T.length ≤ c) (h2 : c ≤ maxLen) : Cel.vw w (scl T) (.slice a T.length c) := by
  refine ⟨a, c, _, rfl, h1, h2, by rw [svs_len]; omega, ?_, vwL_pl.2 rfl⟩
  rcases h with h0 | ⟨b, off, ha, hc⟩
  · exact .inl h0
  · refine .inr ⟨b, off, ha, fun i hi => ?_⟩
    rw [svs_get (by omega)]
    exact hc i (by omega)
/-- A list of structs, to be read, out of its elements. -/
theorem vw_lcl_of {α : Type} {F : α → List Cel} {s : Nat} {w : World} {b off : Nat} (R : Nat → α) (V : Nat → List Value) : ∀ n, (∀ i, i < n → (V i).length = s ∧ (∀ j, j < s → w.cell? ⟨b, off + i * s + j, none⟩ = (V i)[j]?) ∧ vwL w (F (R i)) (V i)) →
    ∃ us : List Value, us.length = n * s ∧ (∀ j, j < n * s → w.cell? ⟨b, off + j, none⟩ = us[j]?) ∧ vwL w (((List.range n).map R).flatMap F) us
  | 0, _ => ⟨[], by simp, fun j hj => by omega, rfl⟩
  | n + 1, h => by
    obtain ⟨us, h1, h2, h3⟩ := vw_lcl_of R V n (fun i hi => h i (by omega))
    obtain ⟨k1, k2, k3⟩ := h n (by omega)
    have hm : (n + 1) * s = n * s + s := by rw [Nat.add_mul, Nat.one_mul]
    refine ⟨us ++ V n, by rw [List.length_append, h1, k1, hm], fun j hj => ?_, ?_⟩
    · rcases Nat.lt_or_ge j (n * s) with hj2 | hj2
      · rw [List.getElem?_append_left (by omega)]; exact h2 j hj2
      · rw [List.getElem?_append_right (by omega), h1]
        have := k2 (j - n * s) (by omega)
        rw [show off + n * s + (j - n * s) = off + j by omega] at this
        exact this
    · rw [List.range_succ, List.map_append, List.flatMap_append]
      refine vwL_append h3 ?_
      simpa using k3
section
variable {H : Type} {enc : TypeId × Value → H} {P : Program} {W : World} {base : Nat} {held : Bool}
/-- A cell that reads as a list of numbers. -/
theorem ints_ofC {t e : TypeId} {fuel : Nat} {c : Value} {y : DataW H × List MemPlace} (ht : P.underlying t = some (.slice e)) (he : P.underlying e = some (.int .i64)) (hc : P.cellsOf e = 1) (h : DataW.trod enc P W base (fun _ => true) held fuel t [c] = some y) :
    ∃ a cap M, c = .slice a (List.length M) cap ∧ Cel.vw W (icl M) (.slice a (List.length M) cap) ∧ Fits M ∧ List.length M ≤ maxLen := by
  obtain ⟨a, len, cap, z, rfl, hw⟩ : ∃ a len cap zs, c = .slice a len cap ∧ IsRow .i64 W a len cap zs := by
    rcases open_ints ht he hc h with ⟨hcs, _⟩ | ⟨x, l, c, zs, hcs, _, hl, hm, hz, _, hcell, hwz⟩
    · simp at hcs
      exact ⟨none, 0, 0, [], hcs, .inl ⟨rfl, rfl, rfl, rfl⟩⟩
    · simp at hcs
      exact ⟨some x, l, c, zs, hcs, .inr ⟨_, rfl, hl, hm, by simpa using hz, hcell, hwz⟩⟩
  rcases hw with ⟨rfl, rfl, rfl, rfl⟩ | ⟨ad, rfl, hl, hm, hz, hcell, hwz⟩
  · exact ⟨none, 0, [], rfl, vw_of_vec ⟨rfl, fun x hx => absurd hx List.not_mem_nil, .inl rfl⟩ (Nat.le_refl _) (Nat.zero_le _), fun x hx => absurd hx List.not_mem_nil, Nat.zero_le _⟩
  · have hz' : z.length = cap := by simpa using hz
    have hlen : (z.take len).length = len := by rw [List.length_take]; omega
    have hfit : Fits (z.take len) := fun n hn => bounds_i64 (hwz n (List.mem_of_mem_take hn))
    refine ⟨some ad, cap, z.take len, by rw [hlen], vw_of_vec ⟨rfl, hfit, ?_⟩ (by rw [hlen]; exact hl) hm, hfit, by rw [hlen]; exact Nat.le_trans hl hm⟩
    rcases Nat.eq_zero_or_pos len with e | e
    · exact .inl (by omega)
    · obtain ⟨b, off, spot⟩ := ad
      have hs : spot = none := by
        have := hcell 0 (by omega)
        simpa [Addr.add] using World.cell?_spot this
      subst hs
      refine .inr ⟨b, off, rfl, fun i hi => ?_⟩
      have h1 := hcell i (by omega)
      rw [add_lit0] at h1
      rw [h1]
      simp [el, List.getD, List.getElem?_take_of_lt (show i < len by omega)]
/-- A cell that reads as a list of texts. -/
theorem txts_ofC {t e : TypeId} {fuel : Nat} {c : Value} {y : DataW H × List MemPlace} (ht : P.underlying t = some (.slice e)) (he : P.underlying e = some .string) (hc : P.cellsOf e = 1) (h : DataW.trod enc P W base (fun _ => true) held fuel t [c] = some y) :
    ∃ a cap T, c = .slice a (List.length T) cap ∧ Cel.vw W (scl T) (.slice a (List.length T) cap) ∧ LongT T ∧ List.length T ≤ maxLen := by
  rcases open_strs ht he hc h with ⟨hcs, _⟩ | ⟨ad, len, cap, m, S, hcs, _, hl, hm, hmm, _, hx⟩
  · simp at hcs
    subst hcs
    exact ⟨none, 0, [], rfl, vw_of_txs (.inl rfl) (Nat.le_refl _) (Nat.zero_le _), fun i hi => absurd hi (Nat.not_lt_zero _), Nat.zero_le _⟩
  · simp at hcs
    subst hcs
    have hlm : len ≤ m := by rw [hmm]; split <;> omega
    have hlen : ((List.range len).map fun r => (S r).data.toList).length = len := by simp
    have hget : ∀ i, i < len → ((List.range len).map fun r => (S r).data.toList).getD i [] = (S i).data.toList := fun i hi => by simp [List.getD, hi]
    refine ⟨some ad, cap, (List.range len).map fun r => (S r).data.toList, by rw [hlen], vw_of_txs ?_ (by rw [hlen]; exact hl) hm, fun i hi => ?_, by rw [hlen]; exact Nat.le_trans hl hm⟩
    · by_cases h0 : len = 0
      · exact .inl (by rw [hlen]; exact h0)
      · obtain ⟨b, off, spot⟩ := ad
        have hs : spot = none := by
          have := (hx 0 (by omega)).1
          simpa [Addr.add] using World.cell?_spot this
        subst hs
        refine .inr ⟨b, off, rfl, fun i hi => ?_⟩
        rw [hlen] at hi
        rw [hget i hi]
        have hc := (hx i (by omega)).1
        rw [add_lit0] at hc
        rw [hc, ← sv_of]
    · rw [hlen] at hi
      rw [hget i hi]
      exact str_short16 (hx i (by omega)).2
end
set_option maxRecDepth 100000 in
/-- Eight cells that read as a row. -/
theorem row_ofC {H : Type} {enc : TypeId × Value → H} {W : World} {base fuel : Nat} {held : Bool} {cs : List Value} {x : DataW H × List MemPlace} (h : DataW.trod enc Try.prog W base (fun _ => true) held fuel 52 cs = some x) :
    ∃ r, cs.length = 8 ∧ vwL W (rw8 r) cs ∧ FitR r ∧ LongT r.txt ∧ Rw64 r := by
  obtain ⟨hl, n, hf⟩ := field_of Try.underlying52 (by kernel_rfl) h
  rw [show Try.prog.cellsOf 52 = 8 by kernel_rfl] at hl
  obtain ⟨c0, c1, c2, c3, c4, c5, c6, c7, rfl⟩ := list8 hl
  obtain ⟨y0, g0⟩ := hf 0 _ c0 rfl rfl
  obtain ⟨y1, g1⟩ := hf 1 _ c1 rfl rfl
  obtain ⟨y2, g2⟩ := hf 2 _ c2 rfl rfl
  obtain ⟨y3, g3⟩ := hf 3 _ c3 rfl rfl
  obtain ⟨y4, g4⟩ := hf 4 _ c4 rfl rfl
  obtain ⟨y5, g5⟩ := hf 5 _ c5 rfl rfl
  obtain ⟨y6, g6⟩ := hf 6 _ c6 rfl rfl
  obtain ⟨y7, g7⟩ := hf 7 _ c7 rfl rfl
  obtain ⟨i0, e0, _, b0⟩ := DataW.trod_int Try.underlying2 g0
  obtain ⟨a1, d1, T, rfl, t1, t2, t3⟩ := txts_ofC Try.underlying50 Try.underlying9 (by kernel_rfl) g1
  obtain ⟨a2, d2, M2, rfl, u2, v2, _⟩ := ints_ofC Try.underlying24 Try.underlying2 (by kernel_rfl) g2
  obtain ⟨a3, d3, M3, rfl, u3, v3, _⟩ := ints_ofC Try.underlying24 Try.underlying2 (by kernel_rfl) g3
  obtain ⟨z4, e4, _⟩ := DataW.trod_bool Try.underlying4 g4
  obtain ⟨z5, e5, _⟩ := DataW.trod_bool Try.underlying4 g5
  obtain ⟨i6, e6, _, b6⟩ := DataW.trod_int Try.underlying2 g6
  obtain ⟨a7, d7, M7, rfl, u7, v7, _⟩ := ints_ofC Try.underlying24 Try.underlying2 (by kernel_rfl) g7
  simp at e0 e4 e5 e6
  subst e0 e4 e5 e6
  exact ⟨⟨i0, T, M2, M3, z4, z5, i6, M7⟩, rfl, ⟨_, _, rfl, rfl, _, _, rfl, t1, _, _, rfl, u2, _, _, rfl, u3, _, _, rfl, rfl, _, _, rfl, rfl, _, _, rfl, rfl, _, _, rfl, u7, rfl⟩, ⟨v2, v3, v7⟩, t2, ⟨bounds_i64 b0, bounds_i64 b6⟩⟩
set_option maxRecDepth 100000 in
/-- A cell that reads as a list of rows. -/
theorem rows_of {H : Type} {enc : TypeId × Value → H} {W : World} {base fuel : Nat} {held : Bool} {c : Value} {y : DataW H × List MemPlace} (h : DataW.trod enc Try.prog W base (fun _ => true) held fuel 33 [c] = some y) :
    ∃ a cap R, c = .slice a (List.length R) cap ∧ Cel.vw W (lcl 8 rw8 R) (.slice a (List.length R) cap) ∧ (∀ r ∈ R, FitR r ∧ LongT r.txt ∧ Rw64 r) ∧ List.length R ≤ maxLen := by
  rcases open_slice Try.underlying33 h with ⟨h0, _⟩ | ⟨ad, len, cap, m, n, D, Pl, hcs, _, hl, hm, hmm, _, hx⟩
  · simp at h0
    subst h0
    exact ⟨none, 0, [], rfl, ⟨none, 0, [], rfl, Nat.le_refl _, Nat.zero_le _, rfl, .inl rfl, rfl⟩, fun r hr => absurd hr List.not_mem_nil, Nat.zero_le _⟩
  · simp at hcs
    subst hcs
    have hlm : len ≤ m := by rw [hmm]; split <;> omega
    have ce : Try.prog.cellsOf 52 = 8 := by kernel_rfl
    by_cases h0 : len = 0
    · subst h0
      exact ⟨some ad, cap, [], rfl, ⟨some ad, cap, [], rfl, hl, hm, rfl, .inl rfl, rfl⟩, fun r hr => absurd hr List.not_mem_nil, Nat.zero_le _⟩
    obtain ⟨b, off, spot⟩ := ad
    have each : ∀ i, i < len → ∃ q : List Value × Rw, (q.1.length = 8 ∧ (∀ j, j < 8 → W.cell? ((⟨b, off, spot⟩ : Addr).add (i * 8 + j)) = q.1[j]?) ∧ vwL W (rw8 q.2) q.1) ∧ FitR q.2 ∧ LongT q.2.txt ∧ Rw64 q.2 := by
      intro i hi
      obtain ⟨cs', h1, h2⟩ := hx i (by omega)
      rw [ce] at h1
      obtain ⟨_, hlen, hcell⟩ := World.cells?_some h1
      obtain ⟨r, e8, hv, hf, hg, h6⟩ := row_ofC h2
      refine ⟨(cs', r), ⟨e8, fun j hj => ?_, hv⟩, hf, hg, h6⟩
      have := hcell j hj
      rw [add_add] at this
      exact this
    have hs : spot = none := by
      obtain ⟨q, ⟨h1, h2, _⟩, _⟩ := each 0 (by omega)
      have := h2 0 (by omega)
      rw [List.getElem?_eq_getElem (by omega)] at this
      simpa [Addr.add] using World.cell?_spot this
    subst hs
    haveI : Inhabited (List Value × Rw) := ⟨([], zeroRw)⟩
    obtain ⟨q, hq⟩ := choose_lt each
    obtain ⟨us, u1, u2, u3⟩ := vw_lcl_of (F := rw8) (s := 8) (w := W) (b := b) (off := off) (fun i => (q i).2) (fun i => (q i).1) len (fun i hi => ⟨(hq i hi).1.1, fun j hj => by have := (hq i hi).1.2.1 j hj; rw [add_lit0, ← Nat.add_assoc] at this; exact this, (hq i hi).1.2.2⟩)
    have hlen : ((List.range len).map (fun i => (q i).2)).length = len := by simp
    refine ⟨some ⟨b, off, none⟩, cap, (List.range len).map (fun i => (q i).2), by rw [hlen], ?_, fun r hr => ?_, by rw [hlen]; exact Nat.le_trans hl hm⟩
    · unfold lcl
      rw [hlen]
      exact ⟨_, cap, us, rfl, hl, hm, u1, .inr ⟨b, off, rfl, u2⟩, u3⟩
    · obtain ⟨i, hi, rfl⟩ := List.mem_map.1 hr
      exact (hq i (List.mem_range.1 hi)).2
theorem list5 {α : Type} {l : List α} (h : l.length = 5) : ∃ c0 c1 c2 c3 c4, l = [c0, c1, c2, c3, c4] := by
  match l, h with
  | [c0, c1, c2, c3, c4], _ => exact ⟨c0, c1, c2, c3, c4, rfl⟩
set_option maxRecDepth 100000 in
/-- Five cells that read as a member. -/
theorem mb_of {H : Type} {enc : TypeId × Value → H} {W : World} {base fuel : Nat} {held : Bool} {cs : List Value} {x : DataW H × List MemPlace} (h : DataW.trod enc Try.prog W base (fun _ => true) held fuel 35 cs = some x) :
    ∃ A m, cs = (mbC A m).toList ∧ MbS W A m ∧ (∀ r ∈ m.rows, LongT r.txt) ∧ Mb64 m := by
  obtain ⟨hl, n, hf⟩ := field_of Try.underlying35 (by kernel_rfl) h
  rw [show Try.prog.cellsOf 35 = 5 by kernel_rfl] at hl
  obtain ⟨c0, c1, c2, c3, c4, rfl⟩ := list5 hl
  obtain ⟨y0, g0⟩ := hf 0 _ c0 rfl rfl
  obtain ⟨y1, g1⟩ := hf 1 _ c1 rfl rfl
  obtain ⟨y2, g2⟩ := hf 2 _ c2 rfl rfl
  obtain ⟨y3, g3⟩ := hf 3 _ c3 rfl rfl
  obtain ⟨y4, g4⟩ := hf 4 _ c4 rfl rfl
  obtain ⟨i0, e0, _, b0⟩ := DataW.trod_int Try.underlying2 g0
  obtain ⟨i1, e1, _, b1⟩ := DataW.trod_int Try.underlying2 g1
  obtain ⟨a2, d2, R, rfl, t1, t2, t3⟩ := rows_of g2
  obtain ⟨a3, d3, M3, rfl, u3, v3⟩ := ints_of Try.underlying24 Try.underlying2 (by kernel_rfl) g3
  obtain ⟨z4, e4, _⟩ := DataW.trod_bool Try.underlying4 g4
  simp at e0 e1 e4
  subst e0 e1 e4
  exact ⟨⟨a2, d2, a3, d3⟩, ⟨i0, i1, R, M3, z4⟩, rfl, ⟨t1, u3, t3, v3, fun r hr => (t2 r hr).1⟩, fun r hr => (t2 r hr).2.1, bounds_i64 b0, bounds_i64 b1, fun r hr => (t2 r hr).2.2⟩
set_option maxRecDepth 100000 in
theorem open_mem {H : Type} {enc : TypeId × Value → H} {W : World} {base : Nat} {v : Value} {d : DataW H} {p : List MemPlace} (hv : Value.okWide Try.prog W .any base 35 v) (h : DataW.Trod enc Try.prog W 0 (fun _ => true) true 35 v d p) :
    ∃ A m, v = mbV A m ∧ MbS W A m ∧ (∀ r ∈ m.rows, LongT r.txt) ∧ Mb64 m := by
  obtain ⟨cs, rfl, hsz⟩ := okWide_struct Try.underlying35 hv
  obtain ⟨fuel, hf⟩ := h
  obtain ⟨A, m, e, h1, h2, h3⟩ := mb_of hf
  have e' : cs.toList = (mbC A m).toList := by simpa [Value.cells] using e
  exact ⟨A, m, by rw [mbV, Array.toList_inj.1 e'], h1, h2, h3⟩
end Go.Proofs.Ytgfeabgmllkdeaa

/-
  Giving up: the program's want and isAsTold.
-/
namespace Go.Proofs.Ytgfeabgmllkdeaa
set_option linter.unusedVariables false
set_option linter.unusedSimpArgs false
open Go.RowKit Go.Sort

/-- A function gave up. -/
def Gu (e : Ending) : Prop := ∃ T v, e = .panicked [{ v := .iface T v, recovered := false }]
set_option maxHeartbeats 400000 in
theorem wantT (w : World) : Calls Try.prog 104 #[.bool true] w fun e w' => e = .returned (.tuple #[]) ∧ w' = w := by
  have hnot : ∀ (x : Bool) (w : World), (Op.unary .not (.bool x)).run Try.prog w = .ok (.bool (!x)) w := fun _ _ => rfl
  go_enter Try.func104, Try.ntmps104
  go_wp2
  first | go_end0 | go_ret
  exact ⟨rfl, rfl⟩
set_option maxHeartbeats 400000 in
theorem wantF (w : World) : Calls Try.prog 104 #[.bool false] w fun e w' => Gu e ∧ w' = w := by
  go_enter Try.func104, Try.ntmps104
  go_wp2
  exact ⟨rfl, ⟨_, _, rfl⟩, rfl⟩
theorem tellP (p : Addr) (x : Value) (u : TypeId) (pv : Value) (older : List PanicEntry) (w : World) (hc : w.cell? p = some x) (hz : w.frozen? p = false) :
    CallsD Try.prog 103 #[.pointer (some p)] (.panicking ({ v := .iface u pv, recovered := false } :: older)) w fun e u' w' =>
      e = .returned (.tuple #[]) ∧ u' = .panicking ({ v := .iface u pv, recovered := true } :: older) ∧ w' = w.setCell p (.bool false) := by
  refine callsD_of_wpS Try.func103 rfl fun c₀ cs hu => ?_
  apply wpS_region
  simp [wpOpsS, go_sem, recoverD, hu, Try.ntmps103, hc, hz, bodyPostS, results, Try.results103]
theorem tellR (p : Addr) (x : Value) (w : World) (hc : w.cell? p = some x) (hz : w.frozen? p = false) :
    CallsD Try.prog 103 #[.pointer (some p)] .returning w fun e u' w' => e = .returned (.tuple #[]) ∧ u' = .returning ∧ w' = w.setCell p (.bool true) := by
  refine callsD_of_wpS Try.func103 rfl fun c₀ cs hu => ?_
  apply wpS_region
  simp [wpOpsS, go_sem, recoverD, hu, Try.ntmps103, hc, hz, bodyPostS, results, Try.results103]
  cases c₀
  simp_all
set_option maxRecDepth 100000 in
set_option maxHeartbeats 800000 in
/-- isAsTold, whatever work is handed over: whether it gave up. -/
theorem told_any (F : Nat) (C D : Array Value) (w : World) (Q : Bool → World → Prop) (hE : ∀ (args : Array Value) (w : World), (callFunc F args).run Try.prog w = .ok (.enter F args) w)
    (h : Calls Try.prog F (C ++ D) (w.alloc (.cells #[.bool false] 4)) fun e w' => (e = .returned (.tuple #[]) ∧ Q true w') ∨ (Gu e ∧ Q false w')) (hq : ∀ b w', Q b w' → Bx w' w.heap.size 4 #[.bool false]) :
    Calls Try.prog 75 #[.func (.func F) C D] w fun e w' => ∃ b X, e = .returned (.bool b) ∧ Q b X ∧ Wrt (fun x => x = w.heap.size) X w' := by
  have hmf : ∀ (fn : Fn) (first cap : Array Value) (w : World), (Instr.makeFunc fn first cap).run Try.prog w = .ok (.func fn first cap) w := fun _ _ _ _ => rfl
  have HQ : Hid (∀ b w', Q b w' → Bx w' w.heap.size 4 #[.bool false]) := hq
  clear hq
  go_enter_defers Try.func75, Try.ntmps75
  go_wp2_with fail
  refine h.mono ?_
  rintro e w1 (⟨rfl, hQ⟩ | ⟨⟨T, v, rfl⟩, hQ⟩)
  · have hx := HQ.out _ _ hQ
    have c0 := hx.at 0 (v := .bool false) rfl
    have f0 := hx.f 0
    have HQ1 : Hid (Q true w1) := hQ
    clear hQ h hx
    go_wp2
    refine leaves_cons (f := 103) (args := #[.pointer (some ⟨w.heap.size, 0, none⟩)]) (by simp) (by simp [go_sem]) ?_
    refine (tellR ⟨w.heap.size, 0, none⟩ (.bool true) _ (World.cell?_setCell_same _ _ _ c0) (by rw [World.frozen?_setCell]; exact f0)).mono ?_
    rintro e u' w'' ⟨rfl, rfl, rfl⟩
    have hc : ((w1.setCell ⟨w.heap.size, 0, none⟩ (.bool true)).setCell ⟨w.heap.size, 0, none⟩ (.bool true)).cell? ⟨w.heap.size, 0, none⟩ = some (.bool true) := World.cell?_setCell_same _ _ _ (World.cell?_setCell_same _ _ _ c0)
    have hW := (Wrt.set w1 w.heap.size 0 (.bool true)).trans (Wrt.set (w1.setCell ⟨w.heap.size, 0, none⟩ (.bool true)) w.heap.size 0 (.bool true)) (fun _ _ h => h)
    generalize (w1.setCell ⟨w.heap.size, 0, none⟩ (.bool true)).setCell ⟨w.heap.size, 0, none⟩ (.bool true) = W2 at *
    refine ⟨.bool true, by simp [results, Try.results75, go_sem, hc], true, w1, rfl, HQ1.out, hW⟩
  · have hx := HQ.out _ _ hQ
    have c0 := hx.at 0 (v := .bool false) rfl
    have f0 := hx.f 0
    have HQ1 : Hid (Q false w1) := hQ
    clear hQ h hx
    simp only
    refine leaves_cons (f := 103) (args := #[.pointer (some ⟨w.heap.size, 0, none⟩)]) (by simp) (by simp [go_sem]) ?_
    refine (tellP ⟨w.heap.size, 0, none⟩ (.bool false) T v [] _ c0 f0).mono ?_
    rintro e u' w'' ⟨rfl, rfl, rfl⟩
    have hc : (w1.setCell ⟨w.heap.size, 0, none⟩ (.bool false)).cell? ⟨w.heap.size, 0, none⟩ = some (.bool false) := World.cell?_setCell_same _ _ _ c0
    have hW := Wrt.set w1 w.heap.size 0 (.bool false)
    generalize w1.setCell ⟨w.heap.size, 0, none⟩ (.bool false) = W2 at *
    refine ⟨.bool false, by simp [results, Try.results75, go_sem, hc], false, w1, rfl, HQ1.out, hW⟩
end Go.Proofs.Ytgfeabgmllkdeaa

/-
  The program's isWithin, risesWithin, slices.Index and slices.Contains; ViewOk, Leader, Rank and Majority of views.
-/
namespace Go.Proofs.Ytgfeabgmllkdeaa
set_option linter.unusedVariables false
set_option linter.unusedSimpArgs false
open Go.RowKit Go.Sort

set_option maxHeartbeats 400000 in
theorem isW14_any (n last : Int) (w : World) : Calls Try.prog 106 #[.int .i64 n, .int .i64 last] w fun e w' => e = .returned (.bool (inB n 0 last)) ∧ w' = w := by
  by_cases h0 : (0 : Int) ≤ n
  · have H : Hid (inB n 0 last = decide (n ≤ last)) := by rw [Hid, inB]; simp [h0]
    go_enter Try.func106, Try.ntmps106
    go_wp2
    go_ret
    exact ⟨ret_bool (by rw [H.out]), rfl⟩
  · have H : Hid (inB n 0 last = false) := by rw [Hid, inB]; simp [h0]
    go_enter Try.func106, Try.ntmps106
    go_wp2
    go_ret
    exact ⟨ret_bool (by rw [H.out]), rfl⟩
set_option maxHeartbeats 800000 in
theorem rw14_any (a : Option Addr) (len cap : Nat) (B : Int) (xs : List Int) (w : World) (hv : Vec w a len xs) (hm : len ≤ maxLen) :
    Calls Try.prog 109 #[.slice a len cap, .int .i64 (B - 1)] w fun e w' => e = .returned (.bool (decide (okRow B xs))) ∧ w' = w := by
  unfold maxLen at hm
  have HL : Hid (xs.length = len) := hv.1
  have hc := hv.2.2
  clear hv
  go_enter Try.func109, Try.ntmps109
  go_wp2
  go_loop [9] (fun i => ∃ k : Nat, k ≤ len ∧ i = .int .i64 k ∧ (∀ j, j < k → 0 ≤ el xs j ∧ el xs j ≤ B - 1) ∧ ∀ j, j + 1 < k → el xs j < el xs (j + 1)) (fun i => len - (intOf i).toNat)
  case atStart => exact ⟨0, Nat.zero_le _, rfl, fun j hj => by omega, fun j hj => by omega⟩
  case round =>
    obtain ⟨k, hk, rfl, hin, hri⟩ := hrel
    have HI : Hid (∀ j, j < k → 0 ≤ el xs j ∧ el xs j ≤ B - 1) := hin
    have HR : Hid (∀ j, j + 1 < k → el xs j < el xs (j + 1)) := hri
    clear hin hri
    by_cases hlt : k < len
    · rcases hc with h0 | ⟨b, off, rfl, hc⟩
      · omega
      have hck := hc k hlt
      have k0 : (0 : Int) ≤ (k : Int) := by omega
      have k1 : (k : Int) < (len : Int) := by omega
      cases e4 : inB (el xs k) 0 (B - 1) with
      | false =>
        have HF : Hid (decide (okRow B xs) = false) := decide_eq_false (fun h => by
          have := h.1 k (by rw [HL.out]; exact hlt)
          rw [inB7.2 this] at e4
          cases e4)
        go_wp2_with (go_at_call 106; refine (isW14_any _ _ _).mono ?_; rintro e w' ⟨rfl, hw'⟩; rw [hw']; clear hw')
        go_ret
        exact ⟨ret_bool (by rw [HF.out]), rfl⟩
      | true =>
        have HX : Hid (0 ≤ el xs k ∧ el xs k ≤ B - 1) := inB7.1 e4
        by_cases hk0 : 0 < k
        · obtain ⟨q, rfl⟩ : ∃ q, k = q + 1 := ⟨k - 1, by omega⟩
          have hcq := hc q (by omega)
          have hg : decide (((q + 1 : Nat) : Int) > 0) = true := decide_eq_true (by omega)
          have g0 : (0 : Int) < ((q + 1 : Nat) : Int) := by omega
          have hq : wrap64 (((q + 1 : Nat) : Int) - 1) = (q : Int) := by unfold wrap64; omega
          have q0 : (0 : Int) ≤ (q : Int) := by omega
          have q1 : (q : Int) < (len : Int) := by omega
          by_cases hx : el xs q < el xs (q + 1)
          · have hd : decide (el xs (q + 1) ≤ el xs q) = false := by simp; omega
            have HY : Hid (el xs q < el xs (q + 1)) := hx
            clear hx
            go_wp2_with (go_at_call 106; refine (isW14_any _ _ _).mono ?_; rintro e w' ⟨rfl, hw'⟩; rw [hw']; clear hw')
            go_round
            case rel => exact ⟨q + 1 + 1, by omega, by go_num, fun j hj => by
              rcases Nat.lt_succ_iff_lt_or_eq.1 hj with h | h
              · exact HI.out j h
              · rw [h]; exact HX.out, fun j hj => by
              rcases Nat.lt_succ_iff_lt_or_eq.1 hj with h | h
              · exact HR.out j h
              · have : j = q := by omega
                rw [this]; exact HY.out⟩
            case measure => simp [intOf]; omega
          · have hd : decide (el xs (q + 1) ≤ el xs q) = true := by simp; omega
            have HF : Hid (decide (okRow B xs) = false) := decide_eq_false (fun h => hx (h.2 q (by rw [HL.out]; omega)))
            clear hx
            go_wp2_with (go_at_call 106; refine (isW14_any _ _ _).mono ?_; rintro e w' ⟨rfl, hw'⟩; rw [hw']; clear hw')
            go_ret
            exact ⟨ret_bool (by rw [HF.out]), rfl⟩
        · obtain rfl : k = 0 := by omega
          rw [Nat.add_zero] at hck
          go_wp2_with (go_at_call 106; refine (isW14_any _ _ _).mono ?_; rintro e w' ⟨rfl, hw'⟩; rw [hw']; clear hw')
          go_round
          case rel => exact ⟨1, by omega, by go_num, fun j hj => by
            obtain rfl : j = 0 := by omega
            exact HX.out, fun j hj => by omega⟩
          case measure => simp [intOf]; omega
    · have hkl : k = len := by omega
      have HF : Hid (decide (okRow B xs) = true) := decide_eq_true ⟨fun j hj => HI.out j (by rw [HL.out] at hj; omega), fun j hj => HR.out j (by rw [HL.out] at hj; omega)⟩
      subst hkl
      clear hc
      go_wp2
      go_ret
      exact ⟨ret_bool (by rw [HF.out]), rfl⟩


/-- The first place of x among these, or -1. -/
def IsIdx (xs : List Int) (x z : Int) : Prop := (∃ k : Nat, k < xs.length ∧ z = (k : Int) ∧ el xs k = x ∧ ∀ j, j < k → el xs j ≠ x) ∨ (z = -1 ∧ ∀ j, j < xs.length → el xs j ≠ x)
theorem IsIdx.mem {xs : List Int} {x z : Int} (h : IsIdx xs x z) : decide (0 ≤ z) = decide (x ∈ xs) := by
  rcases h with ⟨k, hk, rfl, rfl, _⟩ | ⟨rfl, h⟩
  · rw [decide_eq_true (el_in hk), decide_eq_true (by omega)]
  · rw [decide_eq_false (by omega), decide_eq_false (fun hx => by obtain ⟨i, hi, e⟩ := el_of hx; exact h i hi e)]
set_option maxHeartbeats 800000 in
theorem idx14_any (a : Option Addr) (cap : Nat) (xs : List Int) (x : Int) (w : World) (hv : Vec w a xs.length xs) (hm : xs.length ≤ maxLen) :
    Calls Try.prog 125 #[.slice a xs.length cap, .int .i64 x] w fun e w' => (∃ z : Int, e = .returned (.int .i64 z) ∧ IsIdx xs x z) ∧ w' = w := by
  unfold maxLen at hm
  have hc := hv.2.2
  clear hv
  go_enter Try.func125, Try.ntmps125
  go_wp2
  go_loop [8] (fun i => ∃ k : Nat, k ≤ xs.length ∧ i = .int .i64 k ∧ ∀ j, j < k → el xs j ≠ x) (fun i => xs.length - (intOf i).toNat)
  case atStart => exact ⟨0, Nat.zero_le _, rfl, fun j hj => by omega⟩
  case round =>
    obtain ⟨k, hk, rfl, hall⟩ := hrel
    have HA : Hid (∀ j, j < k → el xs j ≠ x) := hall
    clear hall
    by_cases hlt : k < xs.length
    · rcases hc with h0 | ⟨b, off, rfl, hc⟩
      · omega
      have hck := hc k hlt
      clear hc
      have k0 : (0 : Int) ≤ (k : Int) := by omega
      have k1 : (k : Int) < (xs.length : Int) := by omega
      by_cases hx : el xs k = x
      · have HX : Hid (IsIdx xs x (k : Int)) := .inl ⟨k, hlt, rfl, hx, HA.out⟩
        have hq : (x == el xs k) = true := by simp [hx]
        clear hx
        generalize el xs k = E at *
        go_wp2
        go_ret
        exact ⟨⟨_, rfl, HX.out⟩, rfl⟩
      · have HX : Hid (∀ j, j < k + 1 → el xs j ≠ x) := fun j hj => by
          by_cases e : j = k
          · rw [e]; exact hx
          · exact HA.out j (by omega)
        have hq : (x == el xs k) = false := by simp [Ne.symm hx]
        clear hx
        generalize el xs k = E at *
        go_wp2
        go_round
        case rel => exact ⟨k + 1, by omega, by go_num, HX.out⟩
        case measure => simp [intOf]; omega
    · have k1 : ¬ ((k : Int) < (xs.length : Int)) := by omega
      obtain rfl : k = xs.length := by omega
      clear hc
      go_wp2
      go_ret
      exact ⟨⟨_, rfl, .inr ⟨rfl, HA.out⟩⟩, rfl⟩
set_option maxHeartbeats 400000 in
theorem con14_any (a : Option Addr) (cap : Nat) (xs : List Int) (x : Int) (w : World) (hv : Vec w a xs.length xs) (hm : xs.length ≤ maxLen) :
    Calls Try.prog 108 #[.slice a xs.length cap, .int .i64 x] w fun e w' => e = .returned (.bool (decide (x ∈ xs))) ∧ w' = w := by
  have hI := idx14_any a cap xs x w hv hm
  clear hv
  go_enter Try.func108, Try.ntmps108
  go_wp2_with (go_at_call 125; refine hI.mono ?_; rintro e w' ⟨⟨z, rfl, hz⟩, hw'⟩; rw [hw']; clear hw'; have HZ : Hid (IsIdx xs x z) := hz; clear hz)
  go_ret
  exact ⟨ret_bool (by rw [← HZ.out.mem]), rfl⟩
end Go.Proofs.Ytgfeabgmllkdeaa

/-
  The program's parts of a right row: isRowLength, areRowTexts, areRowCounts, risesWithin; slices.Equal of texts, beginWith, areAmong.
-/
namespace Go.Proofs.Ytgfeabgmllkdeaa
set_option linter.unusedVariables false
set_option linter.unusedSimpArgs false
open Go.RowKit Go.Sort

set_option maxHeartbeats 400000 in
theorem isRl_any (n : Int) (w : World) : Calls Try.prog 105 #[.int .i64 n] w fun e w' => e = .returned (.bool (inB n 1 5)) ∧ w' = w := by
  by_cases h0 : (1 : Int) ≤ n
  · have H : Hid (inB n 1 5 = decide (n ≤ 5)) := by rw [Hid, inB]; simp [h0]
    go_enter Try.func105, Try.ntmps105
    go_wp2
    go_ret
    exact ⟨ret_bool (by rw [H.out]), rfl⟩
  · have H : Hid (inB n 1 5 = false) := by rw [Hid, inB]; simp [h0]
    go_enter Try.func105, Try.ntmps105
    go_wp2
    go_ret
    exact ⟨ret_bool (by rw [H.out]), rfl⟩
/-- Texts of a row: not too many, none too long. -/
def txB (T : List (List UInt8)) : Bool := decide (T.length ≤ 12) && T.all (fun t => decide (t.length ≤ 20))
theorem txB_long {T : List (List UInt8)} {k : Nat} (hk : k < T.length) (h : ¬ (T.getD k []).length ≤ 20) : txB T = false := by
  have : T.all (fun t => decide (t.length ≤ 20)) = false := by
    rw [List.all_eq_false]
    refine ⟨T[k], List.getElem_mem hk, ?_⟩
    rw [List.getD_eq_getElem?_getD, List.getElem?_eq_getElem hk] at h
    simpa using h
  rw [txB, this]
  simp
theorem txB_all {T : List (List UInt8)} (h0 : T.length ≤ 12) (h : ∀ k, k < T.length → (T.getD k []).length ≤ 20) : txB T = true := by
  have : T.all (fun t => decide (t.length ≤ 20)) = true := by
    rw [List.all_eq_true]
    intro t ht
    obtain ⟨j, hj, rfl⟩ := List.mem_iff_getElem.1 ht
    have := h j hj
    rw [List.getD_eq_getElem?_getD, List.getElem?_eq_getElem hj] at this
    simpa using this
  rw [txB, decide_eq_true h0, this]
  rfl
attribute [local irreducible] sv
set_option maxHeartbeats 800000 in
theorem areTx_any (a : Option Addr) (cap : Nat) (T : List (List UInt8)) (w : World) (hv : TxS w a T) (hm : T.length ≤ maxLen) :
    Calls Try.prog 129 #[.slice a T.length cap] w fun e w' => e = .returned (.bool (txB T)) ∧ w' = w := by
  unfold maxLen at hm
  by_cases h12 : T.length ≤ 12
  · have g12 : ¬ ((12 : Int) < (T.length : Int)) := by omega
    have H12 : Hid (T.length ≤ 12) := h12
    have HV : Hid (TxS w a T) := hv
    clear hv h12
    go_enter Try.func129, Try.ntmps129
    go_wp2
    go_loop [10] (fun i => ∃ k : Nat, k ≤ T.length ∧ i = .int .i64 k ∧ ∀ j, j < k → (T.getD j []).length ≤ 20) (fun i => T.length - (intOf i).toNat)
    case atStart => exact ⟨0, Nat.zero_le _, rfl, fun j hj => by omega⟩
    case round =>
      obtain ⟨k, hk, rfl, hall⟩ := hrel
      have HA : Hid (∀ j, j < k → (T.getD j []).length ≤ 20) := hall
      clear hall
      by_cases hlt : k < T.length
      · rcases HV.out with h0 | ⟨b, off, rfl, hc⟩
        · omega
        have hck := hc k hlt
        have k1 : (k : Int) < (T.length : Int) := by omega
        have k0 : (0 : Int) ≤ (k : Int) := by omega
        clear hc
        by_cases h20 : (T.getD k []).length ≤ 20
        · have g20 : ¬ ((20 : Int) < ((T.getD k []).length : Int)) := by omega
          have HN : Hid (∀ j, j < k + 1 → (T.getD j []).length ≤ 20) := fun j hj => by
            rcases Nat.lt_succ_iff_lt_or_eq.1 hj with h1 | h1
            · exact HA.out j h1
            · rw [h1]; exact h20
          generalize T.getD k [] = t at *
          have hz : (sv t).size = t.length := sv_size t
          clear h20
          go_wp2
          go_round
          case rel => exact ⟨k + 1, by omega, by go_num, HN.out⟩
          case measure => simp [intOf]; omega
        · have g20 : (20 : Int) < ((T.getD k []).length : Int) := by omega
          have HZ : Hid (txB T = false) := txB_long (k := k) hlt h20
          generalize T.getD k [] = t at *
          have hz : (sv t).size = t.length := sv_size t
          clear h20
          go_wp2
          go_ret
          exact ⟨ret_bool (by rw [HZ.out]), rfl⟩
      · have k1 : ¬ ((k : Int) < (T.length : Int)) := by omega
        have HZ : Hid (txB T = true) := txB_all H12.out (fun j hj => HA.out j (by omega))
        go_wp2
        go_ret
        exact ⟨ret_bool (by rw [HZ.out]), rfl⟩
  · have g12 : (12 : Int) < (T.length : Int) := by omega
    have HZ : Hid (txB T = false) := by rw [Hid, txB, decide_eq_false h12]; rfl
    clear hv h12
    go_enter Try.func129, Try.ntmps129
    go_wp2
    go_ret
    exact ⟨ret_bool (by rw [HZ.out]), rfl⟩
theorem hi16 {x m : Int} : ∀ {xs : List Int}, hiL x xs ≤ m ↔ x ≤ m ∧ ∀ y ∈ xs, y ≤ m := by
  intro xs
  induction xs generalizing x with
  | nil => simp [hiL]
  | cons y ys ih =>
    show hiL (max x y) ys ≤ m ↔ _
    rw [ih]
    simp only [List.mem_cons]
    constructor
    · rintro ⟨h1, h2⟩
      exact ⟨by omega, fun z hz => by rcases hz with rfl | hz; omega; exact h2 z hz⟩
    · rintro ⟨h1, h2⟩
      exact ⟨by have := h2 y (.inl rfl); omega, fun z hz => h2 z (.inr hz)⟩
theorem sm_gr {v : List Int} {n : Int} (h1 : (v.length : Int) = n) (h2 : okB v = true) : smB v n = decide (hiL (el v 0) v.tail ≤ 12) := by
  have hl := (okB_len h2).1
  rw [smB, h2, decide_eq_true h1, Bool.true_and, Bool.true_and, Bool.eq_iff_iff, decide_eq_true_eq, hi16, List.all_eq_true]
  cases v with
  | nil => simp at hl
  | cons x xs =>
    simp only [decide_eq_true_eq, List.mem_cons, List.tail_cons]
    constructor
    · intro h
      exact ⟨h _ (.inl rfl), fun y hy => h y (.inr hy)⟩
    · rintro ⟨h, h'⟩ y hy
      rcases hy with rfl | hy
      · exact h
      · exact h' y hy
set_option maxRecDepth 100000 in
set_option maxHeartbeats 800000 in
theorem areCt_any (a : Option Addr) (cap : Nat) (v : List Int) (n : Int) (w : World) (hv : Vec w a v.length v) (hcap : v.length ≤ cap) (hm : cap ≤ maxLen) :
    Calls Try.prog 130 #[.slice a v.length cap, .int .i64 n] w fun e w' => e = .returned (.bool (smB v n)) ∧ ∃ m, w' = w.drewN m := by
  have hV := vok_any a v.length cap v w hv hcap hm
  have hml : v.length ≤ maxLen := Nat.le_trans hcap hm
  unfold maxLen at hml
  by_cases hl : (v.length : Int) = n
  · have e1 : ((v.length : Int) == n) = true := by simpa using hl
    cases hb : okB v with
    | false =>
      rw [hb] at hV
      have HZ : Hid (smB v n = false) := by rw [Hid, smB, hb]; rfl
      clear hb hl hv
      go_enter Try.func130, Try.ntmps130
      go_wp2_with (go_at_call 65; refine hV.mono ?_; rintro e w' ⟨rfl, n1, rfl⟩)
      go_ret
      exact ⟨ret_bool (by rw [HZ.out]), _, rfl⟩
    | true =>
      rw [hb] at hV
      have HZ : Hid (smB v n = decide (hiL (el v 0) v.tail ≤ 12)) := sm_gr hl hb
      have h18 := okB_len hb
      clear hb hl
      obtain ⟨_, hf, hcs⟩ := hv
      have hG : Hid (∀ n, Calls Try.prog 100 #[.slice a v.length cap] (w.drewN n) fun e w' => e = .returned (.int .i64 (hiL (el v 0) v.tail)) ∧ ∃ m, w' = (w.drewN n).drewN m) := by
        intro n
        rcases hcs with h0 | ⟨b, off, rfl, hc⟩
        · omega
        · exact vgreatest_any b off v.length cap v _ rfl hf (fun k hk => by rw [World.cell?_drewN]; exact hc k hk) (by omega) hcap hm
      clear hcs hf h18
      generalize hiL (el v 0) v.tail = G at *
      go_enter Try.func130, Try.ntmps130
      go_wp2_with (first | (go_at_call 65; refine hV.mono ?_; rintro e w' ⟨rfl, n1, rfl⟩) | (go_at_call 100; refine (hG.out _).mono ?_; rintro e w' ⟨rfl, n2, rfl⟩))
      go_ret
      exact ⟨ret_bool (by rw [HZ.out]), _, rfl⟩
  · have e1 : ((v.length : Int) == n) = false := by simpa using hl
    have HZ : Hid (smB v n = false) := by rw [Hid, smB, decide_eq_false hl]; simp
    clear hl hv hV
    go_enter Try.func130, Try.ntmps130
    go_wp2
    go_ret
    exact ⟨ret_bool (by rw [HZ.out]), 0, rfl⟩
theorem sus_row (n : Int) (l : List Int) : decide (okRow n l) = susB l n := by
  rw [Bool.eq_iff_iff, decide_eq_true_eq, susB, Bool.and_eq_true, List.all_eq_true, okRow, risB, decide_eq_true_eq]
  constructor
  · rintro ⟨h1, h2⟩
    refine ⟨fun x hx => ?_, h2⟩
    obtain ⟨j, hj, rfl⟩ := List.mem_iff_getElem.1 hx
    have := h1 j hj
    rw [el_eq hj] at this
    exact inB7.2 this
  · rintro ⟨h1, h2⟩
    exact ⟨fun i hi => inB7.1 (h1 _ (el_mem hi)), h2⟩
end Go.Proofs.Ytgfeabgmllkdeaa
