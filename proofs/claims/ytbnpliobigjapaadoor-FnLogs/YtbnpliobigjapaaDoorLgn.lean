/-
  The draws DrawLogOk, DrawShowLog, DrawAdded and DrawRecovered of stage 12.
-/
import Derived.Test.YtbnpliobigjapaaDoorLh
import Derived.Test.YtbnpliobigjapaaDoorLp
import Derived.Test.YtbnpliobigjapaaDoorLd
import Derived.Test.YtbnpliobigjapaaDoorGt
import Derived.BigQuiet
namespace Go.Proofs.YtbnpliobigjapaaDoor
set_option linter.unusedVariables false
set_option linter.unusedSimpArgs false
open Go.RowKit Go.Sort

theorem newO_set2 {w X1 X3 : World} {T : List (List UInt8)} {v x y : Value} (hb : Below w.heap.size w X1) (h : NewO X1 X3 (scl T) v) (hl : w.heap.size < X1.heap.size) : NewO w ((X3.setCell ⟨w.heap.size, 0, none⟩ x).setCell ⟨w.heap.size, 1, none⟩ y) (scl T) v := by
  obtain ⟨fp, ho, hf, hb3⟩ := h
  exact ⟨fp, Cel.ow_wrt ho (setw2 _ _) (fun b hb e => by have := hf b hb; omega), fun b hb => by have := hf b hb; omega, setb2 (hb.trans (hb3.mono hb.size)) (Nat.le_refl _)⟩
theorem conv_byG2 (w : World) (n g : Nat) (x y : Value) (hn : n ≤ 1048576) (hne : g ≠ w.heap.size) : (convert 22 9 (.slice (some ⟨w.heap.size, 0, none⟩) n n)).run Tryd.prog (((w.alloc (.cells (madeCells #[.int .u8 0] n) 5)).setCell ⟨g, 0, none⟩ x).setCell ⟨g, 1, none⟩ y) = .ok (.string (sv (List.replicate n 0))) (((w.alloc (.cells (madeCells #[.int .u8 0] n) 5)).setCell ⟨g, 0, none⟩ x).setCell ⟨g, 1, none⟩ y) := by
  have h := osl_made w #[.int .u8 0] 1 n 5 rfl (by omega) (by unfold maxLen; omega)
  have e : bys (List.replicate n 0) = (List.replicate n (#[Value.int .u8 0] : Array Value).toList).flatten := by
    simp only [bys, List.map_replicate]
    clear h hn hne
    induction n with
    | zero => rfl
    | succ n ih => rw [List.replicate_succ, List.replicate_succ, List.flatten_cons, ← ih]; rfl
  rw [← e, Nat.mul_one] at h
  have h1 := osl_wrt h (setw2 (w.alloc (.cells (madeCells #[.int .u8 0] n) 5)) g (x := x) (y := y)) (fun e => hne e.symm)
  have h2 : OBy (((w.alloc (.cells (madeCells #[.int .u8 0] n) 5)).setCell ⟨g, 0, none⟩ x).setCell ⟨g, 1, none⟩ y) w.heap.size 0 (List.replicate n (0 : UInt8)).length n (List.replicate n 0) := by rw [List.length_replicate]; exact h1
  have h3 := h2.str
  rw [List.length_replicate] at h3
  exact h3
attribute [local irreducible] sv
set_option maxRecDepth 100000 in
set_option maxHeartbeats 800000 in
theorem drawLk_any (a : Option Addr) (len cap : Nat) (bs : Nat → Int) (w : World) (hv : BVec w a len bs) (hl : len ≤ 4096) :
    Calls Tryd.prog 36 #[.slice a len cap] w fun e w' => ∃ l : Lg, AnsLg w w' e l ∧ SmL l := by
  have hb1 := oneA w (.cells #[.int .i64 0, .slice none 0 0] 26)
  have R1 := Bx.new w 26 #[.int .i64 0, .slice none 0 0]
  have l1 := R1.lt
  generalize hW1 : w.alloc (.cells #[.int .i64 0, .slice none 0 0] 26) = X1 at *
  go_enter Tryd.func36, Tryd.ntmps36
  go_wp2_with fail
  refine (newC a len cap bs w X1 hb1 hv hl).mono ?_
  rintro e X2 ⟨p, rfl, hp, C2, hb2⟩
  have s2 := hb2.size
  go_wp2_with fail
  refine (drawLg_any C2).mono ?_
  rintro e X3 ⟨⟨F, T⟩, ta, tc, fp, rfl, hsm, hown, hfp, C3, hg3⟩
  unfold lgV
  dsimp only at hown hfp ⊢
  have R3 := (R1.below hb2).grown hg3 (by simp; omega)
  have f0 := R3.f 0
  have f1 := R3.f 1
  obtain ⟨u0, u1⟩ := bx2 R3
  obtain ⟨r0, r1⟩ := bx2 (x := .int .i64 F) (y := .slice ta T.length tc) (by simpa using (R3.setC 0 (.int .i64 F)).setC 1 (.slice ta T.length tc))
  have HA : Hid (NewO w ((X3.setCell ⟨w.heap.size, 0, none⟩ (.int .i64 F)).setCell ⟨w.heap.size, 1, none⟩ (.slice ta T.length tc)) (scl T) (.slice ta T.length tc)) :=
    ⟨fp, Cel.ow_wrt hown (setw2 _ _) (fun b hb e => by have := hfp b hb; omega), fun b hb => by have := hfp b hb; omega, setb2 C3.below (Nat.le_refl _)⟩
  have HSM : Hid (SmL (F, T)) := hsm
  clear hown hfp C3 hg3 R3 R1 hb1 hb2 C2 hsm
  go_wp2
  refine bodyPost_ret (v := .agg #[.int .i64 F, .slice ta T.length tc]) (by simp [results, Tryd.results36, go_sem, r0, r1]) rfl ?_
  exact ⟨(F, T), ⟨ta, tc, rfl, HA.out⟩, HSM.out⟩
set_option maxRecDepth 100000 in
set_option maxHeartbeats 800000 in
theorem drawSl_any (a : Option Addr) (len cap : Nat) (bs : Nat → Int) (w : World) (hv : BVec w a len bs) (hl : len ≤ 4096) :
    Calls Tryd.prog 9 #[.slice a len cap] w fun e w' => ∃ l : Lg, AnsLg w w' e l ∧ SmL l := by
  have hb1 := oneA w (.cells #[.int .i64 0, .slice none 0 0] 26)
  have R1 := Bx.new w 26 #[.int .i64 0, .slice none 0 0]
  have l1 := R1.lt
  generalize hW1 : w.alloc (.cells #[.int .i64 0, .slice none 0 0] 26) = X1 at *
  go_enter Tryd.func9, Tryd.ntmps9
  go_wp2_with fail
  refine (drawLk_any a len cap bs X1 (hv.below hb1 (Nat.le_refl _)) hl).mono ?_
  rintro e X3 ⟨⟨F, T⟩, ⟨ta, tc, rfl, hN⟩, hsm⟩
  unfold lgV
  dsimp only at hN ⊢
  have R3 := R1.below hN.choose_spec.2.2
  have f0 := R3.f 0
  have f1 := R3.f 1
  obtain ⟨u0, u1⟩ := bx2 R3
  obtain ⟨r0, r1⟩ := bx2 (x := .int .i64 F) (y := .slice ta T.length tc) (by simpa using (R3.setC 0 (.int .i64 F)).setC 1 (.slice ta T.length tc))
  have HA : Hid (NewO w ((X3.setCell ⟨w.heap.size, 0, none⟩ (.int .i64 F)).setCell ⟨w.heap.size, 1, none⟩ (.slice ta T.length tc)) (scl T) (.slice ta T.length tc)) := newO_set2 hb1 hN l1
  have HSM : Hid (SmL (F, T)) := hsm
  clear R3 R1 hb1 hN hsm
  go_wp2
  refine bodyPost_ret (v := .agg #[.int .i64 F, .slice ta T.length tc]) (by simp [results, Tryd.results9, go_sem, r0, r1]) rfl ?_
  exact ⟨(F, T), ⟨ta, tc, rfl, HA.out⟩, HSM.out⟩
set_option maxRecDepth 100000 in
set_option maxHeartbeats 1600000 in
theorem drawAd_any (a : Option Addr) (len cap : Nat) (bs : Nat → Int) (w : World) (hv : BVec w a len bs) (hl : len ≤ 4096) :
    Calls Tryd.prog 7 #[.slice a len cap] w fun e w' => ∃ F ta tc T v s, e = .returned (.tuple #[lgV F ta (List.length T) tc, .int .i64 v, .string (sv s)]) ∧ (TxP w' ta tc T ∧ SmL (F, T)) ∧ (-100 ≤ v ∧ v ≤ 2000000) ∧ s.length ≤ 101 ∧ Below w.heap.size w w' := by
  have hb1 := oneA w (.cells #[.int .i64 0, .slice none 0 0] 26)
  have R1 := Bx.new w 26 #[.int .i64 0, .slice none 0 0]
  generalize hW1 : w.alloc (.cells #[.int .i64 0, .slice none 0 0] 26) = X1 at *
  have hmix : Tryd.prog.follows .mixedOrders = true := by kernel_rfl
  go_enter Tryd.func7, Tryd.ntmps7
  go_wp2_with fail
  refine (newC a len cap bs w X1 hb1 hv hl).mono ?_
  rintro e X2 ⟨p, rfl, hp, C2, hb2⟩
  go_wp2_with fail
  refine (drawLg_any C2).mono ?_
  rintro e X3 ⟨⟨F, T⟩, ta, tc, fp, rfl, hsm, hown, hfp, C3, hg3⟩
  unfold lgV
  dsimp only at hown hfp ⊢
  have D := DH.start (F := F) R1 hp C2.lt hb2 hg3 C3 hown hfp
  have HSM : Hid (SmL (F, T)) := hsm
  have hF := hsm.1
  have hT41 := hsm.2.1
  dsimp only at hF hT41
  generalize hW4 : X3.alloc (.cells #[.int .i64 F, .slice ta T.length tc] 26) = X4 at *
  clear hb1 hb2 R1 C2 hown hfp C3 hg3 hsm
  have SD : ∀ W, DH w W p a len cap bs 26 X3.heap.size F (scl T) (.slice ta T.length tc) fp → W.cell? ⟨X3.heap.size, 0, none⟩ = some (.int .i64 F) ∧ W.cell? ⟨X3.heap.size, 1, none⟩ = some (.slice ta T.length tc) := fun W h => bx2 h.box
  obtain ⟨b0, b1⟩ := SD _ D
  have hwr : wrap64 (F + (T.length : Int)) = F + (T.length : Int) := by unfold wrap64; omega
  go_wp2_with fail
  refine (onceC 4 D.cc (by omega)).mono ?_
  rintro e X5 ⟨t, rfl, C5, g5⟩
  have D5 := D.drawn g5 C5
  clear D C5 g5 b0 b1 hwr
  cases t
  · have V0 : -100 ≤ F + (T.length : Int) ∧ F + (T.length : Int) ≤ 2000000 := by omega
    generalize F + (T.length : Int) = v at *
    have D6 := D5
    clear D5
    go_wp2_with fail
    refine (onceC 14 D6.cc (by omega)).mono ?_
    rintro e X7 ⟨t, rfl, C7, g7⟩
    have D7 := D6.drawn g7 C7
    clear D6 C7 g7
    have D0 := D7.drewN 1
    cases t
    · clear D7
      go_wp2_with fail
      go_region_held3 (fun W => W.cell? ⟨X3.heap.size, 0, none⟩ = some (.int .i64 F) ∧ W.cell? ⟨X3.heap.size, 1, none⟩ = some (.slice ta T.length tc))
        (first
          | (with_reducible exact hAn)
          | (with_reducible exact SD _ DB)
          | exact SD _ D0)
        (first
          | (go_at_call 32; refine (textG 4 4 rfl (by omega) D0.cc).mono ?_; rintro e WB ⟨s, rfl, hsl0, CD, hgB⟩; have DB := D0.drawn hgB CD; have hAn := (DB.ans (x := .int .i64 F) (y := .slice ta T.length tc)).2.2.1; have f0 := DB.res.f 0; have f1 := DB.res.f 1; obtain ⟨u0, u1⟩ := bx2 DB.res))
      have A4 := DB.ans (x := .int .i64 F) (y := .slice ta T.length tc)
      have hsl : s.length ≤ 101 := by omega
      clear D0 DB hAn hgB CD u0 u1 f0 f1 SD
      go_wp2
      (obtain ⟨ho, hbl, _, r0, r1⟩ := A4; refine bodyPost_ret (v := .tuple #[.agg #[.int .i64 F, .slice ta T.length tc], .int .i64 v, .string (sv s)]) (by simp [results, Tryd.results7, go_sem, r0, r1]) rfl ?_; exact ⟨F, ta, tc, T, v, s, rfl, ⟨ow_txp ho, HSM.out⟩, V0, hsl, hbl⟩)
    · have DA : DH w X7.drew p a len cap bs 26 X3.heap.size F (scl T) (.slice ta T.length tc) fp := D7.drewN 1
      obtain ⟨⟨s0, s1⟩, _, _⟩ := DA.six
      have hpw := DA.hp
      clear D7 D0 SD
      go_wp2_with fail
      go_region_law
        (go_simp; go_at_call 31; refine (belowC 2 2 rfl DA.cc (by omega) (by omega)).mono ?_; rintro e WB ⟨y, rfl, hy, CD, hgB⟩; have D4 := DA.drawn hgB CD; obtain ⟨M, hM⟩ : ∃ M : Nat, 100 + y = M := ⟨_, rfl⟩; have hM1 : (100 : Int) + (y : Int) = (M : Int) := (by omega); have hM2 : IntKind.i64.wrap (M : Int) = (M : Int) := (by rw [IntKind.wrap_i64]; omega); have hmk := make_byG M (by omega); have lpB := CD.lt; have hcv := fun X => conv_byG X M (by omega); have hcv2 := conv_byG2 WB M w.heap.size (.int .i64 F) (.slice ta T.length tc) (by omega) (by omega); have hsl : (List.replicate M (0 : UInt8)).length ≤ 101 := (by rw [List.length_replicate]; omega); clear hM; generalize List.replicate M (0 : UInt8) = zz at *; have D6 : DH w (WB.alloc (.cells (madeCells #[.int .u8 0] M) 5)) p a len cap bs 26 X3.heap.size F (scl T) (.slice ta T.length tc) fp := D4.step (oneA _ _); obtain ⟨⟨q0, q1⟩, ⟨q2, q3⟩, q4, q5⟩ := D4.six; obtain ⟨⟨m0, m1⟩, ⟨m2, m3⟩, m4, m5⟩ := D6.six; have A4 := D4.ans (x := .int .i64 F) (y := .slice ta T.length tc); have A6 := D6.ans (x := .int .i64 F) (y := .slice ta T.length tc); have hcv3 := hcv ((WB.setCell ⟨w.heap.size, 0, none⟩ (.int .i64 F)).setCell ⟨w.heap.size, 1, none⟩ (.slice ta T.length tc)); simp only [World.size_setCell] at hcv3)
      all_goals
        clear q0 q1 q2 q3 q4 q5 m0 m1 m2 m3 m4 m5 s0 s1 hcv hcv2 hcv3 hmk
        go_wp2
        first
          | (obtain ⟨ho, hbl, _, r0, r1⟩ := A4; refine bodyPost_ret (v := .tuple #[.agg #[.int .i64 F, .slice ta T.length tc], .int .i64 v, .string (sv zz)]) (by simp [results, Tryd.results7, go_sem, r0, r1]) rfl ?_; exact ⟨F, ta, tc, T, v, zz, rfl, ⟨ow_txp ho, HSM.out⟩, V0, hsl, hbl⟩)
          | (obtain ⟨ho, hbl, _, r0, r1⟩ := A6; refine bodyPost_ret (v := .tuple #[.agg #[.int .i64 F, .slice ta T.length tc], .int .i64 v, .string (sv zz)]) (by simp [results, Tryd.results7, go_sem, r0, r1]) rfl ?_; exact ⟨F, ta, tc, T, v, zz, rfl, ⟨ow_txp ho, HSM.out⟩, V0, hsl, hbl⟩)
          | (obtain ⟨ho, hbl, _, r0, r1⟩ := A4; have r0' := ((oneA _ (.cells (madeCells #[.int .u8 0] M) 5)).cell (World.block_lt_of_cell? _ _ r0)).trans r0; have r1' := ((oneA _ (.cells (madeCells #[.int .u8 0] M) 5)).cell (World.block_lt_of_cell? _ _ r1)).trans r1; refine bodyPost_ret (v := .tuple #[.agg #[.int .i64 F, .slice ta T.length tc], .int .i64 v, .string (sv zz)]) (by simp [results, Tryd.results7, go_sem, r0', r1']) rfl ?_; exact ⟨F, ta, tc, T, v, zz, rfl, ⟨(ow_txp ho).below (oneA _ _), HSM.out⟩, V0, hsl, hbl.alloc hbl.size _⟩)
  · have V9 : -2 ≤ F + (T.length : Int) ∧ F + (T.length : Int) ≤ 1000100 := by omega
    generalize F + (T.length : Int) = v9 at *
    go_wp2_with fail
    refine (fromC (-2) 5 (by omega) (by omega) (by omega) D5.cc).mono ?_
    rintro e X6 ⟨yA, rfl, hA0, hA1, C6, g6⟩
    have D6 := D5.drawn g6 C6
    have hwr : wrap64 (v9 + yA) = v9 + yA := by unfold wrap64; omega
    have V0 : -100 ≤ v9 + yA ∧ v9 + yA ≤ 2000000 := by omega
    clear D5 C6 g6
    go_wp2_with fail
    clear hwr
    generalize v9 + yA = v at *
    refine (onceC 14 D6.cc (by omega)).mono ?_
    rintro e X7 ⟨t, rfl, C7, g7⟩
    have D7 := D6.drawn g7 C7
    clear D6 C7 g7
    have D0 := D7.drewN 1
    cases t
    · clear D7
      go_wp2_with fail
      go_region_held3 (fun W => W.cell? ⟨X3.heap.size, 0, none⟩ = some (.int .i64 F) ∧ W.cell? ⟨X3.heap.size, 1, none⟩ = some (.slice ta T.length tc))
        (first
          | (with_reducible exact hAn)
          | (with_reducible exact SD _ DB)
          | exact SD _ D0)
        (first
          | (go_at_call 32; refine (textG 4 4 rfl (by omega) D0.cc).mono ?_; rintro e WB ⟨s, rfl, hsl0, CD, hgB⟩; have DB := D0.drawn hgB CD; have hAn := (DB.ans (x := .int .i64 F) (y := .slice ta T.length tc)).2.2.1; have f0 := DB.res.f 0; have f1 := DB.res.f 1; obtain ⟨u0, u1⟩ := bx2 DB.res))
      have A4 := DB.ans (x := .int .i64 F) (y := .slice ta T.length tc)
      have hsl : s.length ≤ 101 := by omega
      clear D0 DB hAn hgB CD u0 u1 f0 f1 SD
      go_wp2
      (obtain ⟨ho, hbl, _, r0, r1⟩ := A4; refine bodyPost_ret (v := .tuple #[.agg #[.int .i64 F, .slice ta T.length tc], .int .i64 v, .string (sv s)]) (by simp [results, Tryd.results7, go_sem, r0, r1]) rfl ?_; exact ⟨F, ta, tc, T, v, s, rfl, ⟨ow_txp ho, HSM.out⟩, V0, hsl, hbl⟩)
    · have DA : DH w X7.drew p a len cap bs 26 X3.heap.size F (scl T) (.slice ta T.length tc) fp := D7.drewN 1
      obtain ⟨⟨s0, s1⟩, _, _⟩ := DA.six
      have hpw := DA.hp
      clear D7 D0 SD
      go_wp2_with fail
      go_region_law
        (go_simp; go_at_call 31; refine (belowC 2 2 rfl DA.cc (by omega) (by omega)).mono ?_; rintro e WB ⟨y, rfl, hy, CD, hgB⟩; have D4 := DA.drawn hgB CD; obtain ⟨M, hM⟩ : ∃ M : Nat, 100 + y = M := ⟨_, rfl⟩; have hM1 : (100 : Int) + (y : Int) = (M : Int) := (by omega); have hM2 : IntKind.i64.wrap (M : Int) = (M : Int) := (by rw [IntKind.wrap_i64]; omega); have hmk := make_byG M (by omega); have lpB := CD.lt; have hcv := fun X => conv_byG X M (by omega); have hcv2 := conv_byG2 WB M w.heap.size (.int .i64 F) (.slice ta T.length tc) (by omega) (by omega); have hsl : (List.replicate M (0 : UInt8)).length ≤ 101 := (by rw [List.length_replicate]; omega); clear hM; generalize List.replicate M (0 : UInt8) = zz at *; have D6 : DH w (WB.alloc (.cells (madeCells #[.int .u8 0] M) 5)) p a len cap bs 26 X3.heap.size F (scl T) (.slice ta T.length tc) fp := D4.step (oneA _ _); obtain ⟨⟨q0, q1⟩, ⟨q2, q3⟩, q4, q5⟩ := D4.six; obtain ⟨⟨m0, m1⟩, ⟨m2, m3⟩, m4, m5⟩ := D6.six; have A4 := D4.ans (x := .int .i64 F) (y := .slice ta T.length tc); have A6 := D6.ans (x := .int .i64 F) (y := .slice ta T.length tc); have hcv3 := hcv ((WB.setCell ⟨w.heap.size, 0, none⟩ (.int .i64 F)).setCell ⟨w.heap.size, 1, none⟩ (.slice ta T.length tc)); simp only [World.size_setCell] at hcv3)
      all_goals
        clear q0 q1 q2 q3 q4 q5 m0 m1 m2 m3 m4 m5 s0 s1 hcv hcv2 hcv3 hmk
        go_wp2
        first
          | (obtain ⟨ho, hbl, _, r0, r1⟩ := A4; refine bodyPost_ret (v := .tuple #[.agg #[.int .i64 F, .slice ta T.length tc], .int .i64 v, .string (sv zz)]) (by simp [results, Tryd.results7, go_sem, r0, r1]) rfl ?_; exact ⟨F, ta, tc, T, v, zz, rfl, ⟨ow_txp ho, HSM.out⟩, V0, hsl, hbl⟩)
          | (obtain ⟨ho, hbl, _, r0, r1⟩ := A6; refine bodyPost_ret (v := .tuple #[.agg #[.int .i64 F, .slice ta T.length tc], .int .i64 v, .string (sv zz)]) (by simp [results, Tryd.results7, go_sem, r0, r1]) rfl ?_; exact ⟨F, ta, tc, T, v, zz, rfl, ⟨ow_txp ho, HSM.out⟩, V0, hsl, hbl⟩)
          | (obtain ⟨ho, hbl, _, r0, r1⟩ := A4; have r0' := ((oneA _ (.cells (madeCells #[.int .u8 0] M) 5)).cell (World.block_lt_of_cell? _ _ r0)).trans r0; have r1' := ((oneA _ (.cells (madeCells #[.int .u8 0] M) 5)).cell (World.block_lt_of_cell? _ _ r1)).trans r1; refine bodyPost_ret (v := .tuple #[.agg #[.int .i64 F, .slice ta T.length tc], .int .i64 v, .string (sv zz)]) (by simp [results, Tryd.results7, go_sem, r0', r1']) rfl ?_; exact ⟨F, ta, tc, T, v, zz, rfl, ⟨(ow_txp ho).below (oneA _ _), HSM.out⟩, V0, hsl, hbl.alloc hbl.size _⟩)
theorem flat_most {α : Type} {M : Nat} : ∀ {zs : List (List α)}, (∀ z ∈ zs, z.length ≤ M) → zs.flatten.length ≤ zs.length * M
  | [], _ => by simp
  | z :: zs, h => by
    have h1 := flat_most (M := M) (zs := zs) (fun x hx => h x (by simp [hx]))
    have h2 := h z (by simp)
    simp only [List.flatten_cons, List.length_append, List.length_cons, Nat.add_mul]
    omega
theorem showLg_len (l : Lg) : (showLg l).length ≤ 5000 := by
  obtain ⟨F, T⟩ := l
  unfold showLg
  by_cases h : okLg (F, T)
  · rw [if_pos h]
    have h1 := h.1
    obtain ⟨n, rfl⟩ : ∃ n : Nat, F = (n : Int) := ⟨F.toNat, by dsimp only at h1; omega⟩
    have hs := linesL_short h
    have hlen : (linesL n T).length ≤ 40 := by have := h.2.1; simp [linesL]; exact this
    have hm : ((linesL n T).map frL).flatten.length ≤ ((linesL n T).map frL).length * 121 := flat_most (fun z hz => by
      obtain ⟨t, ht, rfl⟩ := List.mem_map.1 hz
      have h2 := hs t ht
      have h3 := headL_len (l := t) (by omega)
      rw [frL_len]
      omega)
    rw [List.length_map] at hm
    simp only [Int.toNat_natCast, bytesOf]
    omega
  · rw [if_neg h]; simp
set_option maxRecDepth 100000 in
set_option maxHeartbeats 1600000 in
theorem drawRc_any (a : Option Addr) (len cap : Nat) (bs : Nat → Int) (w : World) (hv : BVec w a len bs) (hl : len ≤ 4096) :
    Calls Tryd.prog 11 #[.slice a len cap] w fun e w' => ∃ (d : List UInt8) (v : Int), e = .returned (.tuple #[.string (sv d), .int .i64 v]) ∧ d.length ≤ 6000 ∧ (-100 ≤ v ∧ v ≤ 2000000) ∧ Below w.heap.size w w' := by
  have hmix : Tryd.prog.follows .mixedOrders = true := by kernel_rfl
  have hlit : (⟨#[48, 49, 32, 10, 97]⟩ : ByteArray) = sv [48, 49, 32, 10, 97] := by unfold sv; rfl
  have HLIT : Hid ((⟨#[48, 49, 32, 10, 97]⟩ : ByteArray) = sv [48, 49, 32, 10, 97]) := hlit
  clear hlit
  go_enter Tryd.func11, Tryd.ntmps11
  go_wp2_with fail
  refine (newC a len cap bs w w (Below.refl _ _) hv hl).mono ?_
  rintro e X2 ⟨p, rfl, hp, C2, hb2⟩
  go_wp2_with fail
  refine (drawLg_any C2).mono ?_
  rintro e X3 ⟨⟨F, T⟩, ta, tc, fp, rfl, hsm, hown, hfp, C3, hg3⟩
  unfold lgV
  dsimp only at hown hfp ⊢
  have hF := hsm.1
  have hT41 := hsm.2.1
  dsimp only at hF hT41
  have lp3 := C3.lt
  have B4 := Bx.new X3 26 #[.int .i64 F, .slice ta T.length tc]
  have C4 := C3.step (oneA X3 (.cells #[.int .i64 F, .slice ta T.length tc] 26))
  have x4 := (ow_txp hown).below (oneA X3 (.cells #[.int .i64 F, .slice ta T.length tc] 26))
  generalize hW4 : X3.alloc (.cells #[.int .i64 F, .slice ta T.length tc] 26) = X4 at *
  have hSL := lgwS_any F ta tc T X4 x4.txs (by unfold maxLen; omega)
  have hln := showLg_len (F, T)
  generalize showLg (F, T) = sh at *
  unfold lgV at hSL
  obtain ⟨b0, b1⟩ := bx2 B4
  clear C2 hb2 hown hfp C3 hg3 hsm x4
  go_wp2_with fail
  refine hSL.mono ?_
  rintro e X5 ⟨rfl, hb5⟩
  have C5 := C4.step hb5
  have B5 := B4.below hb5
  clear C4 B4 b0 b1 hb5 hSL
  go_wp2_with fail
  refine (onceC 2 C5 (by omega)).mono ?_
  rintro e X6 ⟨t, rfl, C6, g6⟩
  have B6 := B5.grown g6 (by simp; omega)
  clear C5 B5 g6
  cases t
  · have hd : sh.length ≤ 6000 := by omega
    generalize sh = d at *
    have C7 := C6
    have B7 := B6
    clear C6 B6
    generalize X6 = X7 at *
    go_wp2_with fail
    refine (onceC 6 C7 (by omega)).mono ?_
    rintro e X8 ⟨t, rfl, C8, g8⟩
    have B8 := B7.grown g8 (by simp; omega)
    clear C7 B7 g8
    cases t
    · obtain ⟨b0, b1⟩ := bx2 B8
      have HB : Hid (∀ m, Below w.heap.size w (X8.drewN m)) := fun m => belowN C8.below
      clear C8 B8
      go_wp2_with fail
      go_quiet (fail)
      go_wp2
      refine bodyPost_ret (v := .tuple #[.string (sv d), .int .i64 F]) (by simp [results, Tryd.results11, go_sem]) rfl ?_
      exact ⟨d, F, rfl, hd, by omega, HB.out _⟩
    · have C9 : Cc w (X8.drewN 1) p a len cap bs := C8.step (Same.drewN X8 1).below
      have B9 : Bx (X8.drewN 1) X3.heap.size 26 #[.int .i64 F, .slice ta T.length tc] := B8.below (Same.drewN X8 1).below
      clear C8 B8
      go_wp2_with fail
      go_region_held3 (fun W => W.cell? ⟨X3.heap.size, 0, none⟩ = some (.int .i64 F))
        (first
          | (with_reducible exact hAn)
          | exact (bx2 B9).1)
        (first
          | (go_at_call 30; refine (fromC (-1) 3 (by omega) (by omega) (by omega) C9).mono ?_; rintro e WB ⟨yB, rfl, hB0, hB1, CD, hgB⟩; have hAn := (bx2 (B9.grown hgB (by simp; omega))).1))
      have hwr : IntKind.i64.wrap (F + yB) = F + yB := by rw [IntKind.wrap_i64]; omega
      rw [hwr]
      have HB : Hid (Below w.heap.size w WB) := CD.below
      have HV : Hid (-100 ≤ F + yB ∧ F + yB ≤ 2000000) := by rw [Hid]; omega
      clear hwr C9 B9 CD hgB hAn
      generalize F + yB = v at *
      go_wp2
      refine bodyPost_ret (v := .tuple #[.string (sv d), .int .i64 v]) (by simp [results, Tryd.results11, go_sem]) rfl ?_
      exact ⟨d, v, rfl, hd, HV.out, HB.out⟩
  · go_wp2_with fail
    rw [HLIT.out]
    have hbd := bend_any p a len cap bs sh [48, 49, 32, 10, 97] X6 C6.cur C6.bvec C6.off C6.hl (by omega) (by decide)
    refine hbd.mono ?_
    rintro e X7 ⟨d, hd0, rfl, hc7, g7⟩
    have C7 := C6.drawn g7 hc7
    have B7 := B6.grown g7 (by simp; omega)
    have hd : d.length ≤ 6000 := by omega
    clear C6 B6 hbd hc7 g7 hd0
    go_wp2_with fail
    refine (onceC 6 C7 (by omega)).mono ?_
    rintro e X8 ⟨t, rfl, C8, g8⟩
    have B8 := B7.grown g8 (by simp; omega)
    clear C7 B7 g8
    cases t
    · obtain ⟨b0, b1⟩ := bx2 B8
      have HB : Hid (∀ m, Below w.heap.size w (X8.drewN m)) := fun m => belowN C8.below
      clear C8 B8
      go_wp2_with fail
      go_quiet (fail)
      go_wp2
      refine bodyPost_ret (v := .tuple #[.string (sv d), .int .i64 F]) (by simp [results, Tryd.results11, go_sem]) rfl ?_
      exact ⟨d, F, rfl, hd, by omega, HB.out _⟩
    · have C9 : Cc w (X8.drewN 1) p a len cap bs := C8.step (Same.drewN X8 1).below
      have B9 : Bx (X8.drewN 1) X3.heap.size 26 #[.int .i64 F, .slice ta T.length tc] := B8.below (Same.drewN X8 1).below
      clear C8 B8
      go_wp2_with fail
      go_region_held3 (fun W => W.cell? ⟨X3.heap.size, 0, none⟩ = some (.int .i64 F))
        (first
          | (with_reducible exact hAn)
          | exact (bx2 B9).1)
        (first
          | (go_at_call 30; refine (fromC (-1) 3 (by omega) (by omega) (by omega) C9).mono ?_; rintro e WB ⟨yB, rfl, hB0, hB1, CD, hgB⟩; have hAn := (bx2 (B9.grown hgB (by simp; omega))).1))
      have hwr : IntKind.i64.wrap (F + yB) = F + yB := by rw [IntKind.wrap_i64]; omega
      rw [hwr]
      have HB : Hid (Below w.heap.size w WB) := CD.below
      have HV : Hid (-100 ≤ F + yB ∧ F + yB ≤ 2000000) := by rw [Hid]; omega
      clear hwr C9 B9 CD hgB hAn
      generalize F + yB = v at *
      go_wp2
      refine bodyPost_ret (v := .tuple #[.string (sv d), .int .i64 v]) (by simp [results, Tryd.results11, go_sem]) rfl ?_
      exact ⟨d, v, rfl, hd, HV.out, HB.out⟩
end Go.Proofs.YtbnpliobigjapaaDoor
