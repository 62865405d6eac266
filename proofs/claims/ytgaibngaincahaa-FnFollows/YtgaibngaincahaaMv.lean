/-
  Several texts in one: Rcy Rdr.
-/
import Derived.Test.YtgaibngaincahaaMp
import Derived.Test.YtgaibngaincahaaKx
import Derived.Test.YtgaibngaincahaaMu
import Derived.Deep.Cut
import Derived.Deep.CutRange
import Derived.Deep.RegionHeld3
/-
  The specification's l16Copy.
-/
namespace Go.Proofs.Ytgaibngaincahaa
set_option linter.unusedVariables false
set_option linter.unusedSimpArgs false
open Go.RowKit Go.Sort

/-- What l16Copy holds: the row under way in block w.heap.size, the answer's room behind it, the lists that are copied already. -/
structure CR (w X : World) (O : Array Value) (cs : List Cel) (vs : List Value) (fp : Fp) : Prop where
  out : Bx X w.heap.size 35 O
  res : Bx X (w.heap.size + 1) 35 #[.int .i64 0, .slice none 0 0, .slice none 0 0, .slice none 0 0, .bool false, .bool false, .int .i64 0, .slice none 0 0]
  own : owL X cs vs fp
  fpl : ∀ b, fp b → w.heap.size + 1 < b
  below : Below w.heap.size w X
theorem CR.put {w X Z X' : World} {O : Array Value} {cs : List Cel} {vs : List Value} {fp f : Fp} {c : Cel} {v : Value} (h : CR w X O cs vs fp) (hbZ : Below X.heap.size X Z) (hw : Wrt (fun _ => False) Z X') (ho : Cel.ow X' c v f) (hf : ∀ b, f b → b = Z.heap.size) (i : Nat) :
    CR w X' O cs vs fp ∧ ∃ fp', CR w (X'.setCell ⟨w.heap.size, i, none⟩ v) (O.setIfInBounds i v) (cs ++ [c]) (vs ++ [v]) fp' := by
  have hb : Below X.heap.size X X' := hw.below hbZ hbZ.size (fun b h => absurd h id)
  have hol := h.res.lt
  have hZ := hbZ.size
  have h1 : CR w X' O cs vs fp := ⟨h.out.below hb, h.res.below hb, owL_below h.own hb, h.fpl, h.below.trans (hb.mono h.below.size)⟩
  refine ⟨h1, fun b => fp b ∨ f b, h1.out.setC i v, h1.res.far (by omega) v, owL_wrt (owL_append h1.own (owL_one.2 ho) (fun b h2 h3 => by have := owL_lt h.own b h2; have := hf b h3; omega)) (Wrt.set X' w.heap.size i v) (fun b hb e => ?_), fun b hb => ?_, h1.below.setCell (p := ⟨w.heap.size, i, none⟩) (Nat.le_refl _) v⟩
  · rcases hb with hb | hb
    · have := h.fpl b hb; omega
    · have := hf b hb; omega
  · rcases hb with hb | hb
    · exact h.fpl b hb
    · have := hf b hb; omega
theorem CR.ints {w X : World} {O : Array Value} {cs : List Cel} {vs : List Value} {fp : Fp} (h : CR w X O cs vs fp) {x : Option Addr} {c : Nat} {l : List Int} (hv : Vec w x l.length l) (hl : l.length ≤ 1000000) (i : Nat) (o : Value) (hi : O[i]? = some o) (i0 : TypeInfo) (hi0 : Try.prog.info? 2 = some i0) (hz0 : i0.zero = some (.int .i64 0)) (hz1 : i0.size = 1) (hz2 : i0.bytes = 8) :
    ∀ Z, Same Z (X.alloc (.cells #[] 2)) → ∃ v' w4, (Builtin.append_ #[24, 24] 24 #[.slice (some ⟨X.heap.size, 0, none⟩) 0 0, .slice x l.length c]).run Try.prog Z = .ok v' w4 ∧
      ∃ a' c', v' = .slice a' l.length c' ∧ w4.cell? ⟨w.heap.size, i, none⟩ = some o ∧ w4.frozen? ⟨w.heap.size, i, none⟩ = false ∧ ∃ fp', CR w (w4.setCell ⟨w.heap.size, i, none⟩ (.slice a' l.length c')) (O.setIfInBounds i (.slice a' l.length c')) (cs ++ [icl l]) (vs ++ [.slice a' l.length c']) fp' := by
  intro Z hZ
  have hbZ : Below X.heap.size X Z := (oneA16 X _).trans (hZ.below.mono (oneA16 X _).size)
  obtain ⟨a6, c6, w6, fp6, hr6, ho6, hw6, hf6⟩ := ints_copied (P := Try.prog) (w := Z) 24 24 2 i0 Try.underlying24 hi0 hz0 hz1 hz2 (plainS X.heap.size 0) (x := x) (c := c) (hv.below (h.below.trans (hbZ.mono h.below.size)) (Nat.le_refl _)) hl
  obtain ⟨h1, fp', h2⟩ := h.put hbZ hw6 ho6 hf6 i
  exact ⟨_, w6, hr6, a6, c6, rfl, h1.out.at i hi, h1.out.f i, fp', h2⟩
theorem CR.txts {w X : World} {O : Array Value} {cs : List Cel} {vs : List Value} {fp : Fp} (h : CR w X O cs vs fp) {x : Option Addr} {c : Nat} {l : List (List UInt8)} (hv : TxS w x l) (hl : l.length ≤ 1000000) (i : Nat) (o : Value) (hi : O[i]? = some o) (i0 : TypeInfo) (hi0 : Try.prog.info? 9 = some i0) (hz0 : i0.zero = some (.string ⟨#[]⟩)) (hz1 : i0.size = 1) (hz2 : i0.bytes = 16) :
    ∀ Z, Same Z (X.alloc (.cells #[] 9)) → ∃ v' w4, (Builtin.append_ #[33, 33] 33 #[.slice (some ⟨X.heap.size, 0, none⟩) 0 0, .slice x l.length c]).run Try.prog Z = .ok v' w4 ∧
      ∃ a' c', v' = .slice a' l.length c' ∧ w4.cell? ⟨w.heap.size, i, none⟩ = some o ∧ w4.frozen? ⟨w.heap.size, i, none⟩ = false ∧ ∃ fp', CR w (w4.setCell ⟨w.heap.size, i, none⟩ (.slice a' l.length c')) (O.setIfInBounds i (.slice a' l.length c')) (cs ++ [scl l]) (vs ++ [.slice a' l.length c']) fp' := by
  intro Z hZ
  have hbZ : Below X.heap.size X Z := (oneA16 X _).trans (hZ.below.mono (oneA16 X _).size)
  obtain ⟨a6, c6, w6, fp6, hr6, ho6, hw6, hf6⟩ := txs_copied (P := Try.prog) (w := Z) 33 33 9 i0 Try.underlying33 hi0 hz0 hz1 hz2 (plainS X.heap.size 0) (x := x) (c := c) (hv.below (h.below.trans (hbZ.mono h.below.size))) (by omega)
  obtain ⟨h1, fp', h2⟩ := h.put hbZ hw6 ho6 hf6 i
  exact ⟨_, w6, hr6, a6, c6, rfl, h1.out.at i hi, h1.out.f i, fp', h2⟩
attribute [local irreducible] sv
set_option maxRecDepth 100000 in
set_option maxHeartbeats 3200000 in
theorem cpyRw_any (A : Ra) (r : Rw) (w : World) (hv : RwS w A r) (h1 : r.txt.length ≤ 1000000) (h2 : r.got.length ≤ 1000000) (h3 : r.sus.length ≤ 1000000) (h4 : r.trm.length ≤ 1000000) :
    Calls Try.prog 66 #[rwV A r] w fun e w' => AnsRw w w' e r := by
  obtain ⟨i0, hi0, hz0, hz1, hz2⟩ := info_parts9 Try.info9
  obtain ⟨i2, hi2, hy0, hy1, hy2⟩ := info_parts2n Try.info2n
  have HV : Hid (RwS w A r) := hv
  have T0 : CR w ((w.alloc (.cells (rwC A r) 35)).alloc (.cells #[.int .i64 0, .slice none 0 0, .slice none 0 0, .slice none 0 0, .bool false, .bool false, .int .i64 0, .slice none 0 0] 35)) (rwC A r) [] [] (fun _ => False) := by
    have x1 := Bx.new (w.alloc (.cells (rwC A r) 35)) 35 #[.int .i64 0, .slice none 0 0, .slice none 0 0, .slice none 0 0, .bool false, .bool false, .int .i64 0, .slice none 0 0]
    rw [World.size_alloc] at x1
    exact ⟨(Bx.new w _ _).alloc _, x1, ⟨rfl, fun _ h => h⟩, fun b h => absurd h id, (oneA16 w _).trans ((oneA16 _ _).mono (oneA16 w _).size)⟩
  obtain ⟨ver, txt, got, sus, wed, rdy, by_, trm⟩ := r
  obtain ⟨ta, tc, ga, gc, sa, sc, ma, mc⟩ := A
  unfold rwV
  unfold rwC at *
  simp only at *
  generalize hWW : (w.alloc (.cells #[.int .i64 ver, .slice ta txt.length tc, .slice ga got.length gc, .slice sa sus.length sc, .bool wed, .bool rdy, .int .i64 by_, .slice ma trm.length mc] 35)).alloc (.cells #[.int .i64 0, .slice none 0 0, .slice none 0 0, .slice none 0 0, .bool false, .bool false, .int .i64 0, .slice none 0 0] 35) = W at *
  have hA := T0.txts (x := ta) (c := tc) (l := txt) HV.out.txt h1 1 (.slice ta txt.length tc) rfl i0 hi0 hz0 hz1 hz2
  have c1 : W.cell? ⟨w.heap.size, 1, none⟩ = some (.slice ta txt.length tc) := T0.out.at 1 rfl
  have d1 : (W.alloc (.cells #[] 9)).cell? ⟨w.heap.size, 1, none⟩ = some (.slice ta txt.length tc) := (T0.out.below (oneA16 W (.cells #[] 9))).at 1 rfl
  clear T0
  clear hv
  go_enter Try.func66, Try.ntmps66
  go_upto_region 1 with fail
  go_upto_region 2 with (at_builtin; refine wpList_append_of (by rfl) _ _ _ _ (by rfl) _ _ (by rfl) (by rfl) hA ⟨rfl, rfl, rfl, rfl⟩ ?_; rintro v1 w1 ⟨a1, e1, rfl, q1a, q1b, fp1, hR1⟩; have HR1 : Hid (CR w (w1.setCell ⟨w.heap.size, 1, none⟩ (.slice a1 txt.length e1)) (#[.int .i64 ver, .slice ta txt.length tc, .slice ga got.length gc, .slice sa sus.length sc, .bool wed, .bool rdy, .int .i64 by_, .slice ma trm.length mc].setIfInBounds 1 (.slice a1 txt.length e1)) ([] ++ [scl txt]) ([] ++ [.slice a1 txt.length e1]) fp1) := hR1; clear hR1 hA c1 d1)
  clear q1a q1b
  generalize w1.setCell ⟨w.heap.size, 1, none⟩ (.slice a1 txt.length e1) = W1 at *
  have T1 : CR w W1 #[.int .i64 ver, .slice a1 txt.length e1, .slice ga got.length gc, .slice sa sus.length sc, .bool wed, .bool rdy, .int .i64 by_, .slice ma trm.length mc] ([] ++ [scl txt]) ([] ++ [.slice a1 txt.length e1]) fp1 := by simpa using HR1.out
  clear HR1
  have hA := T1.ints (x := ga) (c := gc) (l := got) HV.out.got h2 2 (.slice ga got.length gc) rfl i2 hi2 hy0 hy1 hy2
  have c2 : W1.cell? ⟨w.heap.size, 2, none⟩ = some (.slice ga got.length gc) := T1.out.at 2 rfl
  have d2 : (W1.alloc (.cells #[] 2)).cell? ⟨w.heap.size, 2, none⟩ = some (.slice ga got.length gc) := (T1.out.below (oneA16 W1 (.cells #[] 2))).at 2 rfl
  clear T1
  go_upto_region 3 with (at_builtin; refine wpList_append_of (by rfl) _ _ _ _ (by rfl) _ _ (by rfl) (by rfl) hA ⟨rfl, rfl, rfl, rfl⟩ ?_; rintro v2 w2 ⟨a2, e2, rfl, q2a, q2b, fp2, hR2⟩; have HR2 : Hid (CR w (w2.setCell ⟨w.heap.size, 2, none⟩ (.slice a2 got.length e2)) (#[.int .i64 ver, .slice a1 txt.length e1, .slice ga got.length gc, .slice sa sus.length sc, .bool wed, .bool rdy, .int .i64 by_, .slice ma trm.length mc].setIfInBounds 2 (.slice a2 got.length e2)) (([] ++ [scl txt]) ++ [icl got]) (([] ++ [.slice a1 txt.length e1]) ++ [.slice a2 got.length e2]) fp2) := hR2; clear hR2 hA c2 d2)
  clear q2a q2b
  generalize w2.setCell ⟨w.heap.size, 2, none⟩ (.slice a2 got.length e2) = W2 at *
  have T2 : CR w W2 #[.int .i64 ver, .slice a1 txt.length e1, .slice a2 got.length e2, .slice sa sus.length sc, .bool wed, .bool rdy, .int .i64 by_, .slice ma trm.length mc] (([] ++ [scl txt]) ++ [icl got]) (([] ++ [.slice a1 txt.length e1]) ++ [.slice a2 got.length e2]) fp2 := by simpa using HR2.out
  clear HR2
  have hA := T2.ints (x := sa) (c := sc) (l := sus) HV.out.sus h3 3 (.slice sa sus.length sc) rfl i2 hi2 hy0 hy1 hy2
  have c3 : W2.cell? ⟨w.heap.size, 3, none⟩ = some (.slice sa sus.length sc) := T2.out.at 3 rfl
  have d3 : (W2.alloc (.cells #[] 2)).cell? ⟨w.heap.size, 3, none⟩ = some (.slice sa sus.length sc) := (T2.out.below (oneA16 W2 (.cells #[] 2))).at 3 rfl
  clear T2
  go_upto_region 4 with (at_builtin; refine wpList_append_of (by rfl) _ _ _ _ (by rfl) _ _ (by rfl) (by rfl) hA ⟨rfl, rfl, rfl, rfl⟩ ?_; rintro v3 w3 ⟨a3, e3, rfl, q3a, q3b, fp3, hR3⟩; have HR3 : Hid (CR w (w3.setCell ⟨w.heap.size, 3, none⟩ (.slice a3 sus.length e3)) (#[.int .i64 ver, .slice a1 txt.length e1, .slice a2 got.length e2, .slice sa sus.length sc, .bool wed, .bool rdy, .int .i64 by_, .slice ma trm.length mc].setIfInBounds 3 (.slice a3 sus.length e3)) ((([] ++ [scl txt]) ++ [icl got]) ++ [icl sus]) ((([] ++ [.slice a1 txt.length e1]) ++ [.slice a2 got.length e2]) ++ [.slice a3 sus.length e3]) fp3) := hR3; clear hR3 hA c3 d3)
  clear q3a q3b
  generalize w3.setCell ⟨w.heap.size, 3, none⟩ (.slice a3 sus.length e3) = W3 at *
  have T3 : CR w W3 #[.int .i64 ver, .slice a1 txt.length e1, .slice a2 got.length e2, .slice a3 sus.length e3, .bool wed, .bool rdy, .int .i64 by_, .slice ma trm.length mc] ((([] ++ [scl txt]) ++ [icl got]) ++ [icl sus]) ((([] ++ [.slice a1 txt.length e1]) ++ [.slice a2 got.length e2]) ++ [.slice a3 sus.length e3]) fp3 := by simpa using HR3.out
  clear HR3
  have hA := T3.ints (x := ma) (c := mc) (l := trm) HV.out.trm h4 7 (.slice ma trm.length mc) rfl i2 hi2 hy0 hy1 hy2
  have c4 : W3.cell? ⟨w.heap.size, 7, none⟩ = some (.slice ma trm.length mc) := T3.out.at 7 rfl
  have d4 : (W3.alloc (.cells #[] 2)).cell? ⟨w.heap.size, 7, none⟩ = some (.slice ma trm.length mc) := (T3.out.below (oneA16 W3 (.cells #[] 2))).at 7 rfl
  clear T3
  go_upto_region 5 with (at_builtin; refine wpList_append_of (by rfl) _ _ _ _ (by rfl) _ _ (by rfl) (by rfl) hA ⟨rfl, rfl, rfl, rfl⟩ ?_; rintro v4 w4 ⟨a4, e4, rfl, q4a, q4b, fp4, hR4⟩; have HR4 : Hid (CR w (w4.setCell ⟨w.heap.size, 7, none⟩ (.slice a4 trm.length e4)) (#[.int .i64 ver, .slice a1 txt.length e1, .slice a2 got.length e2, .slice a3 sus.length e3, .bool wed, .bool rdy, .int .i64 by_, .slice ma trm.length mc].setIfInBounds 7 (.slice a4 trm.length e4)) (((([] ++ [scl txt]) ++ [icl got]) ++ [icl sus]) ++ [icl trm]) (((([] ++ [.slice a1 txt.length e1]) ++ [.slice a2 got.length e2]) ++ [.slice a3 sus.length e3]) ++ [.slice a4 trm.length e4]) fp4) := hR4; clear hR4 hA c4 d4)
  clear q4a q4b
  generalize w4.setCell ⟨w.heap.size, 7, none⟩ (.slice a4 trm.length e4) = W4 at *
  have T4 : CR w W4 #[.int .i64 ver, .slice a1 txt.length e1, .slice a2 got.length e2, .slice a3 sus.length e3, .bool wed, .bool rdy, .int .i64 by_, .slice a4 trm.length e4] (((([] ++ [scl txt]) ++ [icl got]) ++ [icl sus]) ++ [icl trm]) (((([] ++ [.slice a1 txt.length e1]) ++ [.slice a2 got.length e2]) ++ [.slice a3 sus.length e3]) ++ [.slice a4 trm.length e4]) fp4 := by simpa using HR4.out
  clear HR4
  obtain ⟨⟨o0, o1, o2, o3⟩, o4, o5, o6, o7⟩ := Bx.r8 T4.out
  obtain ⟨⟨r0, r1, r2, r3⟩, r4, r5, r6, r7⟩ := Bx.r8 T4.res
  obtain ⟨⟨f0, f1, f2, f3⟩, f4, f5, f6, f7⟩ := T4.res.f8
  have HT : Hid (CR w W4 #[.int .i64 ver, .slice a1 txt.length e1, .slice a2 got.length e2, .slice a3 sus.length e3, .bool wed, .bool rdy, .int .i64 by_, .slice a4 trm.length e4] (((([] ++ [scl txt]) ++ [icl got]) ++ [icl sus]) ++ [icl trm]) (((([] ++ [.slice a1 txt.length e1]) ++ [.slice a2 got.length e2]) ++ [.slice a3 sus.length e3]) ++ [.slice a4 trm.length e4]) fp4) := T4
  clear T4
  go_wp2
  refine bodyPost_ret (v := .agg #[.int .i64 ver, .slice a1 txt.length e1, .slice a2 got.length e2, .slice a3 sus.length e3, .bool wed, .bool rdy, .int .i64 by_, .slice a4 trm.length e4]) (by simp [results, Try.results66, go_sem, *]) rfl ?_
  refine ⟨⟨a1, e1, a2, e2, a3, e3, a4, e4⟩, rfl, fp4, owL_wrt HT.out.own (wrt8 _ (w.heap.size + 1)) (fun b hb e => by have := HT.out.fpl b hb; omega), fun b hb => by have := HT.out.fpl b hb; omega, (wrt8 _ (w.heap.size + 1)).below HT.out.below HT.out.below.size (fun b e => by rw [e]; omega)⟩
end Go.Proofs.Ytgaibngaincahaa

/-
  The draws of stage 16: l16DrawCount, DrawNewRow, DrawRowOk, DrawLater.
-/
namespace Go.Proofs.Ytgaibngaincahaa
set_option linter.unusedVariables false
set_option linter.unusedSimpArgs false
open Go.RowKit Go.Sort

theorem totS_le {T : List (List UInt8)} {m : Nat} (h : ∀ i, i < T.length → (T.getD i []).length ≤ m) : ∀ k, k ≤ T.length → totS T k ≤ k * m
  | 0, _ => by simp [totS]
  | k + 1, hk => by
    have := totS_le h k (by omega)
    have := h k (by omega)
    rw [totS, Nat.add_mul]
    omega
theorem SmR.sz {r : Rw} (h : SmR r) : szRw r ≤ 1048576 := by
  have h1 := totS_le h.ts r.txt.length (Nat.le_refl _)
  have := h.tl
  have := h.gl
  have := h.sl
  have := h.ml
  have h2 : r.txt.length * 21 ≤ 20 * 21 := Nat.mul_le_mul_right 21 h.tl
  unfold szRw
  omega
theorem SmR.fit {r : Rw} (h : SmR r) : FitR r := ⟨h.gf, h.sf, h.mf⟩
theorem SmR.i64 {r : Rw} (h : SmR r) : Rw64 r := ⟨⟨by have := h.ver; omega, by have := h.ver; omega⟩, by have := h.bys; omega, by have := h.bys; omega⟩
theorem owL_it {w : World} {cs : List Cel} {vs : List Value} {fp : Fp} (h : owL w cs vs fp) {lo : Nat} (hl : ∀ b, fp b → lo ≤ b) : It w cs vs lo w.heap.size := ⟨fp, h, fun b hb => ⟨hl b hb, owL_lt h b hb⟩⟩
theorem SmR.rwp {w : World} {A : Ra} {r : Rw} {fp : Fp} (h : SmR r) (ho : owL w (rwCels r) (rwVals A r) fp) : RwP w A r := it_rwp (owL_it ho (lo := 0) (fun b _ => Nat.zero_le b)) h.fit h.i64 h.sz
set_option maxRecDepth 100000 in
set_option maxHeartbeats 1600000 in
theorem cntC {w X : World} {p : Nat} {a : Option Addr} {len cap : Nat} {bs : Nat → Int} (h : Cc w X p a len cap bs) :
    Calls Try.prog 64 #[.pointer (some ⟨p, 0, none⟩)] X fun e w' => ∃ x : Int, e = .returned (.int .i64 x) ∧ -1 ≤ x ∧ x ≤ 6 ∧ Cc w w' p a len cap bs ∧ X.grownBy w' (some p) := by
  have hO := onceC 12 h (by omega)
  go_enter Try.func64, Try.ntmps64
  go_wp2_with fail
  refine hO.mono ?_
  rintro e Y1 ⟨t, rfl, c1, g1⟩
  clear hO
  cases t with
  | false =>
    have hB := belowC 4 4 rfl c1 (by omega) (by omega)
    have HG : Hid (X.grownBy Y1 (some p)) := g1
    clear c1 g1
    go_wp2_with fail
    refine hB.mono ?_
    rintro e Y2 ⟨v, rfl, hv, c2, g2⟩
    have HQ : Hid (Cc w Y2 p a len cap bs ∧ X.grownBy Y2 (some p)) := ⟨c2, grown_trans HG.out g2⟩
    have b1 : 1 + (v : Int) ≤ 9223372036854775807 := by omega
    have b2 : -9223372036854775808 ≤ 1 + (v : Int) := by omega
    clear hB c2 g2
    go_wp2
    go_ret
    exact ⟨1 + (v : Int), rfl, by omega, by omega, HQ.out⟩
  | true =>
    have c2 := c1.step (oneA16 Y1 (.cells #[.int .i64 (-1), .int .i64 0, .int .i64 5, .int .i64 6] 2))
    have hB := belowC 4 4 rfl c2 (by omega) (by omega)
    have hq := Bx.new Y1 2 #[.int .i64 (-1), .int .i64 0, .int .i64 5, .int .i64 6]
    have hpY : p < Y1.heap.size := c1.lt
    have HG : Hid (X.grownBy (Y1.alloc (.cells #[.int .i64 (-1), .int .i64 0, .int .i64 5, .int .i64 6] 2)) (some p)) := grown_trans g1 (World.grownBy_alloc _ _ _)
    clear c1 g1 c2
    go_wp2_with fail
    refine hB.mono ?_
    rintro e Y2 ⟨z, rfl, hz, c2, g2⟩
    have HQ : Hid (Cc w Y2 p a len cap bs ∧ X.grownBy Y2 (some p)) := ⟨c2, grown_trans HG.out g2⟩
    have hq2 := hq.grown g2 (by simp; omega)
    clear hB c2 g2 hq
    obtain rfl | rfl | rfl | rfl : z = 0 ∨ z = 1 ∨ z = 2 ∨ z = 3 := by omega
    · have hqc : Y2.cell? ⟨Y1.heap.size, 0, none⟩ = some (.int .i64 (-1)) := hq2.at 0 rfl
      clear hq2
      go_wp2
      go_ret
      exact ⟨-1, rfl, by omega, by omega, HQ.out⟩
    · have hqc : Y2.cell? ⟨Y1.heap.size, 1, none⟩ = some (.int .i64 0) := hq2.at 1 rfl
      clear hq2
      go_wp2
      go_ret
      exact ⟨0, rfl, by omega, by omega, HQ.out⟩
    · have hqc : Y2.cell? ⟨Y1.heap.size, 2, none⟩ = some (.int .i64 5) := hq2.at 2 rfl
      clear hq2
      go_wp2
      go_ret
      exact ⟨5, rfl, by omega, by omega, HQ.out⟩
    · have hqc : Y2.cell? ⟨Y1.heap.size, 3, none⟩ = some (.int .i64 6) := hq2.at 3 rfl
      clear hq2
      go_wp2
      go_ret
      exact ⟨6, rfl, by omega, by omega, HQ.out⟩
theorem cc_below {w X X' : World} {p : Nat} {a : Option Addr} {len cap : Nat} {bs : Nat → Int} (h : Cc w X p a len cap bs) : Below w.heap.size w X := h.below
set_option maxRecDepth 100000 in
set_option maxHeartbeats 1600000 in
theorem drawNr_any (a : Option Addr) (len cap : Nat) (bs : Nat → Int) (w : World) (hv : BVec w a len bs) (hl : len ≤ 4096) :
    Calls Try.prog 31 #[.slice a len cap] w fun e w' => ∃ x : Int, e = .returned (.int .i64 x) ∧ -1 ≤ x ∧ x ≤ 6 ∧ Below w.heap.size w w' := by
  have hN := newC a len cap bs w w (Below.refl _ _) hv hl
  go_enter Try.func31, Try.ntmps31
  go_wp2_with fail
  refine hN.mono ?_
  rintro e X1 ⟨p, rfl, hp, c1, hb1⟩
  have hC := cntC c1
  clear hN c1 hb1
  go_wp2_with fail
  refine hC.mono ?_
  rintro e X2 ⟨x, rfl, h0, h1, c2, g2⟩
  have HB : Hid (Below w.heap.size w X2) := c2.below
  clear hC c2 g2
  go_wp2
  go_ret
  exact ⟨x, rfl, h0, h1, HB.out⟩
def Z8 : Array Value := #[.int .i64 0, .slice none 0 0, .slice none 0 0, .slice none 0 0, .bool false, .bool false, .int .i64 0, .slice none 0 0]
set_option maxRecDepth 100000 in
set_option maxHeartbeats 3200000 in
theorem drawRo_any (a : Option Addr) (len cap : Nat) (bs : Nat → Int) (w : World) (hv : BVec w a len bs) (hl : len ≤ 4096) :
    Calls Try.prog 30 #[.slice a len cap] w fun e w' => ∃ (A : Ra) (r : Rw) (n : Int), e = .returned (.tuple #[rwV A r, .int .i64 n]) ∧ RwP w' A r ∧ SmR r ∧ -1 ≤ n ∧ n ≤ 6 ∧ Below w.heap.size w w' := by
  have hb1 := oneA16 w (.cells #[.int .i64 0, .slice none 0 0, .slice none 0 0, .slice none 0 0, .bool false, .bool false, .int .i64 0, .slice none 0 0] 35)
  have HR : Hid (Bx (w.alloc (.cells #[.int .i64 0, .slice none 0 0, .slice none 0 0, .slice none 0 0, .bool false, .bool false, .int .i64 0, .slice none 0 0] 35)) w.heap.size 35 #[.int .i64 0, .slice none 0 0, .slice none 0 0, .slice none 0 0, .bool false, .bool false, .int .i64 0, .slice none 0 0]) := Bx.new _ _ _
  have hN := newC a len cap bs w _ hb1 hv hl
  generalize hX0 : w.alloc (.cells #[.int .i64 0, .slice none 0 0, .slice none 0 0, .slice none 0 0, .bool false, .bool false, .int .i64 0, .slice none 0 0] 35) = X0 at *
  clear hb1
  go_enter Try.func30, Try.ntmps30
  go_wp2_with fail
  refine hN.mono ?_
  rintro e X1 ⟨p, rfl, hp, c1, hb1⟩
  have R1 := HR.out.below hb1
  have hwp : w.heap.size < p := by have := HR.out.lt; omega
  have hC := cntC c1
  clear hN c1 hb1 HR
  go_wp2_with fail
  refine hC.mono ?_
  rintro e X2 ⟨x, rfl, h0, h1, c2, g2⟩
  have R2 := R1.grown g2 (by simp; omega)
  obtain ⟨N, hN1, hN5⟩ : ∃ N : Nat, max 0 (min x 5) = (N : Int) ∧ N ≤ 5 := ⟨(max 0 (min x 5)).toNat, by omega, by omega⟩
  have hD := drawRw_any N (N : Int) rfl hN5 c2
  have HR2 : Hid (Bx X2 w.heap.size 35 #[.int .i64 0, .slice none 0 0, .slice none 0 0, .slice none 0 0, .bool false, .bool false, .int .i64 0, .slice none 0 0]) := R2
  have hMi := fun X => l1Min_any x 5 X
  have hMa := fun X => l1Max_any 0 (min x 5) X
  rw [hN1] at hMa
  generalize min x 5 = mm at *
  clear hC c2 g2 R1 R2 hN1
  unfold rwV rwC at hD
  go_wp2_with (first
    | (go_at_call 55; refine (hMi _).mono ?_; rintro e w' ⟨rfl, hw'⟩; rw [hw']; clear hw')
    | (go_at_call 54; refine (hMa _).mono ?_; rintro e w' ⟨rfl, hw'⟩; rw [hw']; clear hw'))
  refine hD.mono ?_
  rintro e X3 ⟨A, r, fp, rfl, hS, ho, hf, c3, g3⟩
  have R3 := HR2.out.grown g3 (by simp; omega)
  have hb4 := oneA16 X3 (.cells (rwC A r) 35)
  have B4 := Bx.new X3 35 (rwC A r)
  have R4 := R3.below hb4
  have o4 := owL_below ho hb4
  have c4 := c3.step hb4
  have hs3 := g3.size
  have HS : Hid (SmR r) := hS
  unfold rwC at *
  generalize hX4 : X3.alloc (.cells #[.int .i64 r.ver, .slice A.ta r.txt.length A.tc, .slice A.ga r.got.length A.gc, .slice A.sa r.sus.length A.sc, .bool r.wed, .bool r.rdy, .int .i64 r.by_, .slice A.ma r.trm.length A.mc] 35) = X4 at *
  have HE : Hid (owL X4 (rwCels r) (rwVals A r) fp ∧ Cc w X4 p a len cap bs) := ⟨o4, c4⟩
  have hX2 : X2.heap.size ≤ X3.heap.size := hs3
  have HF : Hid (∀ b, fp b → w.heap.size < b) := fun b hb => by have := hf b hb; have := HR2.out.lt; omega
  obtain ⟨⟨e0, e1, e2, e3⟩, e4, e5, e6, e7⟩ := Bx.r8 B4
  obtain ⟨⟨s0, s1, s2, s3⟩, s4, s5, s6, s7⟩ := Bx.r8 R4
  obtain ⟨⟨f0, f1, f2, f3⟩, f4, f5, f6, f7⟩ := R4.f8
  clear hD ho hf c3 g3 R3 hb4 B4 R4 o4 c4 hS HR2 hMi hMa
  go_wp2
  refine bodyPost_ret (v := .tuple #[.agg #[.int .i64 r.ver, .slice A.ta r.txt.length A.tc, .slice A.ga r.got.length A.gc, .slice A.sa r.sus.length A.sc, .bool r.wed, .bool r.rdy, .int .i64 r.by_, .slice A.ma r.trm.length A.mc], .int .i64 x]) (by simp [results, Try.results30, go_sem, *]) rfl ?_
  exact ⟨A, r, x, rfl, HS.out.rwp (owL_wrt HE.out.1 (wrt8 _ w.heap.size) (fun b hb e => by have := HF.out b hb; omega)), HS.out, h0, h1, (wrt8 _ w.heap.size).below HE.out.2.below HE.out.2.below.size (fun b e => by rw [e]; exact Nat.le_refl _)⟩
end Go.Proofs.Ytgaibngaincahaa
