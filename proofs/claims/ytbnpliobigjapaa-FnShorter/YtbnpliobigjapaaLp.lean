/-
  Several texts in one: Dhl Lgl.
-/
import Derived.Test.YtbnpliobigjapaaIw
import Derived.Test.YtbnpliobigjapaaJn
import Derived.Test.YtbnpliobigjapaaLh
/-
  A draw that holds one struct of a number and a list: the cursor, the answer's room, the struct's own block (general: logs, views).
-/
namespace Go.Proofs.Ytbnpliobigjapaa
set_option linter.unusedVariables false
set_option linter.unusedSimpArgs false
open Go.RowKit Go.Sort

theorem bx2 {w : World} {B : Nat} {T : TypeId} {x y : Value} (h : Bx w B T #[x, y]) : w.cell? ⟨B, 0, none⟩ = some x ∧ w.cell? ⟨B, 1, none⟩ = some y := ⟨h.at 0 rfl, h.at 1 rfl⟩
theorem setw2 (w : World) (g : Nat) {x y : Value} : Wrt (fun b => b = g) w ((w.setCell ⟨g, 0, none⟩ x).setCell ⟨g, 1, none⟩ y) :=
  (Wrt.set w g 0 x).trans (Wrt.set _ g 1 y) (fun _ _ h => h)
theorem setb2 {B g : Nat} {w w' : World} (h : Below B w w') (hg : B ≤ g) {x y : Value} : Below B w ((w'.setCell ⟨g, 0, none⟩ x).setCell ⟨g, 1, none⟩ y) :=
  (h.setCell (p := ⟨g, 0, none⟩) hg _).setCell (p := ⟨g, 1, none⟩) hg _
/-- What such a draw holds: the answer's room in block R, the struct in block B. -/
structure DH (w Y : World) (p : Nat) (a : Option Addr) (len cap : Nat) (bs : Nat → Int) (T : TypeId) (B : Nat) (F : Int) (c : Cel) (v : Value) (fp : Fp) : Prop where
  cc : Cc w Y p a len cap bs
  res : Bx Y w.heap.size T #[.int .i64 0, .slice none 0 0]
  box : Bx Y B T #[.int .i64 F, v]
  own : Cel.ow Y c v fp
  fpl : ∀ b, fp b → p < b
  hp : w.heap.size < p
  hB : p < B
theorem DH.drawn {w Y Y' : World} {p : Nat} {a : Option Addr} {len cap : Nat} {bs : Nat → Int} {T : TypeId} {B : Nat} {F : Int} {c : Cel} {v : Value} {fp : Fp} (h : DH w Y p a len cap bs T B F c v fp) (hg : Y.grownBy Y' (some p)) (hc : Cc w Y' p a len cap bs) : DH w Y' p a len cap bs T B F c v fp := by
  have h1 := h.hp
  have h2 := h.hB
  exact ⟨hc, h.res.grown hg (by simp; omega), h.box.grown hg (by simp; omega), Cel.ow_wrt h.own (Wrt.of_grown hg) (fun b hb e => by cases e; have := h.fpl _ hb; omega), h.fpl, h1, h2⟩
theorem DH.step {w Y Y' : World} {p : Nat} {a : Option Addr} {len cap : Nat} {bs : Nat → Int} {T : TypeId} {B : Nat} {F : Int} {c : Cel} {v : Value} {fp : Fp} (h : DH w Y p a len cap bs T B F c v fp) (hb : Below Y.heap.size Y Y') : DH w Y' p a len cap bs T B F c v fp :=
  ⟨h.cc.step hb, h.res.below hb, h.box.below hb, Cel.ow_below h.own hb, h.fpl, h.hp, h.hB⟩
theorem DH.drewN {w Y : World} {p : Nat} {a : Option Addr} {len cap : Nat} {bs : Nat → Int} {T : TypeId} {B : Nat} {F : Int} {c : Cel} {v : Value} {fp : Fp} (h : DH w Y p a len cap bs T B F c v fp) (n : Nat) : DH w (Y.drewN n) p a len cap bs T B F c v fp := h.step (Same.drewN Y n).below
/-- From the answer's room, the cursor and the draw of the struct. -/
theorem DH.start {w X1 X2 X3 : World} {p : Nat} {a : Option Addr} {len cap : Nat} {bs : Nat → Int} {T : TypeId} {F : Int} {c : Cel} {v : Value} {fp : Fp} (R1 : Bx X1 w.heap.size T #[.int .i64 0, .slice none 0 0]) (hp : X1.heap.size ≤ p) (hpl : p < X2.heap.size) (hb2 : Below X1.heap.size X1 X2)
    (hg : X2.grownBy X3 (some p)) (hc : Cc w X3 p a len cap bs) (ho : Cel.ow X3 c v fp) (hf : ∀ b, fp b → X2.heap.size ≤ b) : DH w (X3.alloc (.cells #[.int .i64 F, v] T)) p a len cap bs T X3.heap.size F c v fp := by
  have l1 := R1.lt
  have s1 := hg.size
  have hb := (Below.refl X3.heap.size X3).alloc (Nat.le_refl _) (.cells #[.int .i64 F, v] T)
  exact ⟨hc.step hb, ((R1.below hb2).grown hg (by simp; omega)).below hb, Bx.new _ _ _, Cel.ow_below ho hb, fun b hb' => by have := hf b hb'; omega, by omega, by omega⟩
/-- The struct is stored into the answer's room. -/
theorem DH.ans {w Y : World} {p : Nat} {a : Option Addr} {len cap : Nat} {bs : Nat → Int} {T : TypeId} {B : Nat} {F : Int} {c : Cel} {v : Value} {fp : Fp} (h : DH w Y p a len cap bs T B F c v fp) {x y : Value} :
    Cel.ow ((Y.setCell ⟨w.heap.size, 0, none⟩ x).setCell ⟨w.heap.size, 1, none⟩ y) c v fp ∧ Below w.heap.size w ((Y.setCell ⟨w.heap.size, 0, none⟩ x).setCell ⟨w.heap.size, 1, none⟩ y) ∧
      (((Y.setCell ⟨w.heap.size, 0, none⟩ x).setCell ⟨w.heap.size, 1, none⟩ y).cell? ⟨B, 0, none⟩ = some (.int .i64 F) ∧ ((Y.setCell ⟨w.heap.size, 0, none⟩ x).setCell ⟨w.heap.size, 1, none⟩ y).cell? ⟨B, 1, none⟩ = some v) ∧
      (((Y.setCell ⟨w.heap.size, 0, none⟩ x).setCell ⟨w.heap.size, 1, none⟩ y).cell? ⟨w.heap.size, 0, none⟩ = some x ∧ ((Y.setCell ⟨w.heap.size, 0, none⟩ x).setCell ⟨w.heap.size, 1, none⟩ y).cell? ⟨w.heap.size, 1, none⟩ = some y) := by
  have h1 := h.hp
  have h2 := h.hB
  have hw := setw2 Y w.heap.size (x := x) (y := y)
  refine ⟨Cel.ow_wrt h.own hw (fun b hb e => by have := h.fpl b hb; omega), setb2 h.cc.below (Nat.le_refl _), bx2 (h.box.wrt hw (by omega)), ?_⟩
  have h3 := (h.res.setC 0 x).setC 1 y
  exact bx2 (by simpa using h3)
/-- All cells that a region of such a draw reads or writes. -/
theorem DH.six {w Y : World} {p : Nat} {a : Option Addr} {len cap : Nat} {bs : Nat → Int} {T : TypeId} {B : Nat} {F : Int} {c : Cel} {v : Value} {fp : Fp} (h : DH w Y p a len cap bs T B F c v fp) :
    (Y.cell? ⟨B, 0, none⟩ = some (.int .i64 F) ∧ Y.cell? ⟨B, 1, none⟩ = some v) ∧ (Y.cell? ⟨w.heap.size, 0, none⟩ = some (.int .i64 0) ∧ Y.cell? ⟨w.heap.size, 1, none⟩ = some (.slice none 0 0)) ∧ (Y.frozen? ⟨w.heap.size, 0, none⟩ = false ∧ Y.frozen? ⟨w.heap.size, 1, none⟩ = false) := ⟨bx2 h.box, bx2 h.res, h.res.f 0, h.res.f 1⟩
end Go.Proofs.Ytbnpliobigjapaa

/-
  The draws DrawTextAt, DrawShorter, DrawCut, DrawLogOk and DrawShowLog of stage 12.
-/
namespace Go.Proofs.Ytbnpliobigjapaa
set_option linter.unusedVariables false
set_option linter.unusedSimpArgs false
open Go.RowKit Go.Sort

/-- A drawn log, to be read. -/
structure RdL (w : World) (F : Int) (a : Option Addr) (c : Nat) (T : List (List UInt8)) : Prop where
  txp : TxP w a c T
  sm : SmL (F, T)
theorem RdL.below {w w' : World} {F : Int} {a : Option Addr} {c : Nat} {T : List (List UInt8)} (h : RdL w F a c T) (hb : Below w.heap.size w w') : RdL w' F a c T := ⟨h.txp.below hb, h.sm⟩
attribute [local irreducible] sv
set_option maxRecDepth 100000 in
set_option maxHeartbeats 1600000 in
theorem drawTx_any (a : Option Addr) (len cap : Nat) (bs : Nat → Int) (w : World) (hv : BVec w a len bs) (hl : len ≤ 4096) :
    Calls Try.prog 31 #[.slice a len cap] w fun e w' => ∃ F ta tc T v, e = .returned (.tuple #[lgV F ta (List.length T) tc, .int .i64 v]) ∧ RdL w' F ta tc T ∧ (-100 ≤ v ∧ v ≤ 2000000) ∧ Below w.heap.size w w' := by
  have hb1 := oneA w (.cells #[.int .i64 0, .slice none 0 0] 35)
  have R1 := Bx.new w 35 #[.int .i64 0, .slice none 0 0]
  generalize hW1 : w.alloc (.cells #[.int .i64 0, .slice none 0 0] 35) = X1 at *
  have hmix : Try.prog.follows .mixedOrders = true := by kernel_rfl
  go_enter Try.func31, Try.ntmps31
  go_wp2_with fail
  refine (newC a len cap bs w X1 hb1 hv hl).mono ?_
  rintro e X2 ⟨p, rfl, hp, C2, hb2⟩
  go_wp2_with fail
  refine (drawLg_any C2).mono ?_
  rintro e X3 ⟨⟨F, T⟩, ta, tc, fp, rfl, hsm, hown, hfp, C3, hg3⟩
  unfold lgV
  dsimp only at hown hfp ⊢
  have D := DH.start (F := F) R1 hp C2.lt hb2 hg3 C3 hown hfp
  have HSM : Hid (SmL (F, T)) := hsm
  have hF := hsm.1
  dsimp only at hF
  generalize hW4 : X3.alloc (.cells #[.int .i64 F, .slice ta T.length tc] 35) = X4 at *
  clear hb1 hb2 R1 C2 hown hfp C3 hg3 hsm
  have SD : ∀ W, DH w W p a len cap bs 35 X3.heap.size F (scl T) (.slice ta T.length tc) fp → W.cell? ⟨X3.heap.size, 0, none⟩ = some (.int .i64 F) ∧ W.cell? ⟨X3.heap.size, 1, none⟩ = some (.slice ta T.length tc) := fun W h => bx2 h.box
  have D0 := D.drewN 1
  clear D
  go_wp2_with fail
  go_region_held3 (fun W => W.cell? ⟨X3.heap.size, 0, none⟩ = some (.int .i64 F) ∧ W.cell? ⟨X3.heap.size, 1, none⟩ = some (.slice ta T.length tc))
    (first
      | (with_reducible exact hAn)
      | (with_reducible exact SD _ DB)
      | exact SD _ D0)
    (first
      | (go_at_call 66; refine (fromC (-2) 9 (by omega) (by omega) (by omega) D0.cc).mono ?_; rintro e WB ⟨yB, rfl, hB0, hB1, CD, hgB⟩; have DB := D0.drawn hgB CD; have hAn := (DB.ans (x := .int .i64 F) (y := .slice ta T.length tc)).2.2.1; have f0 := DB.res.f 0; have f1 := DB.res.f 1; obtain ⟨u0, u1⟩ := bx2 DB.res))
  have hwr : IntKind.i64.wrap (F + yB) = F + yB := by rw [IntKind.wrap_i64]; omega
  rw [hwr]
  obtain ⟨ho, hbl, _, r0, r1⟩ := DB.ans (x := .int .i64 F) (y := .slice ta T.length tc)
  have HW : Hid (RdL ((WB.setCell ⟨w.heap.size, 0, none⟩ (.int .i64 F)).setCell ⟨w.heap.size, 1, none⟩ (.slice ta T.length tc)) F ta tc T) := ⟨ow_txp ho, HSM.out⟩
  have HB : Hid (Below w.heap.size w ((WB.setCell ⟨w.heap.size, 0, none⟩ (.int .i64 F)).setCell ⟨w.heap.size, 1, none⟩ (.slice ta T.length tc))) := hbl
  have HV : Hid (-100 ≤ F + yB ∧ F + yB ≤ 2000000) := by rw [Hid]; omega
  clear hwr ho hbl D0 DB hAn hgB CD u0 u1 f0 f1
  generalize F + yB = v at *
  go_wp2
  refine bodyPost_ret (v := .tuple #[.agg #[.int .i64 F, .slice ta T.length tc], .int .i64 v]) (by simp [results, Try.results31, go_sem, r0, r1]) rfl ?_
  exact ⟨F, ta, tc, T, v, rfl, HW.out, HV.out, HB.out⟩
def lit12 : List Int := [-9223372036854775808, 0, 4611686018427387904, 1000005]
theorem lit12_bd {i : Nat} (h : i < 4) : -9223372036854775808 ≤ el lit12 i ∧ el lit12 i ≤ 9223372036854775807 := by
  obtain rfl | rfl | rfl | rfl : i = 0 ∨ i = 1 ∨ i = 2 ∨ i = 3 := by omega
  all_goals decide
theorem lit12_get {y : Nat} : ∀ (h : y < [Value.int .i64 (-9223372036854775808), Value.int .i64 0, Value.int .i64 4611686018427387904, Value.int .i64 1000005].length), [Value.int .i64 (-9223372036854775808), Value.int .i64 0, Value.int .i64 4611686018427387904, Value.int .i64 1000005][y]'h = .int .i64 (el lit12 y) := by
  intro h
  obtain rfl | rfl | rfl | rfl : y = 0 ∨ y = 1 ∨ y = 2 ∨ y = 3 := by simp at h; omega
  all_goals rfl
set_option maxRecDepth 100000 in
set_option maxHeartbeats 1600000 in
theorem drawSh_any (a : Option Addr) (len cap : Nat) (bs : Nat → Int) (w : World) (hv : BVec w a len bs) (hl : len ≤ 4096) :
    Calls Try.prog 28 #[.slice a len cap] w fun e w' => ∃ F ta tc T v, e = .returned (.tuple #[lgV F ta (List.length T) tc, .int .i64 v]) ∧ RdL w' F ta tc T ∧ (-9223372036854775808 ≤ v ∧ v ≤ 9223372036854775807) ∧ Below w.heap.size w w' := by
  have hb1 := oneA w (.cells #[.int .i64 0, .slice none 0 0] 35)
  have R1 := Bx.new w 35 #[.int .i64 0, .slice none 0 0]
  generalize hW1 : w.alloc (.cells #[.int .i64 0, .slice none 0 0] 35) = X1 at *
  have hmix : Try.prog.follows .mixedOrders = true := by kernel_rfl
  go_enter Try.func28, Try.ntmps28
  go_wp2_with fail
  refine (newC a len cap bs w X1 hb1 hv hl).mono ?_
  rintro e X2 ⟨p, rfl, hp, C2, hb2⟩
  go_wp2_with fail
  refine (drawLg_any C2).mono ?_
  rintro e X3 ⟨⟨F, T⟩, ta, tc, fp, rfl, hsm, hown, hfp, C3, hg3⟩
  unfold lgV
  dsimp only at hown hfp ⊢
  have D := DH.start (F := F) R1 hp C2.lt hb2 hg3 C3 hown hfp
  have HSM : Hid (SmL (F, T)) := hsm
  have hF := hsm.1
  dsimp only at hF
  generalize hW4 : X3.alloc (.cells #[.int .i64 F, .slice ta T.length tc] 35) = X4 at *
  clear hb1 hb2 R1 C2 hown hfp C3 hg3 hsm
  have SD : ∀ W, DH w W p a len cap bs 35 X3.heap.size F (scl T) (.slice ta T.length tc) fp → W.cell? ⟨X3.heap.size, 0, none⟩ = some (.int .i64 F) ∧ W.cell? ⟨X3.heap.size, 1, none⟩ = some (.slice ta T.length tc) := fun W h => bx2 h.box
  go_wp2_with fail
  refine (onceC 8 D.cc (by omega)).mono ?_
  rintro e X5 ⟨t, rfl, C5, g5⟩
  have D5 := D.drawn g5 C5
  clear D C5 g5
  cases t
  · have D0 := D5.drewN 1
    clear D5
    go_wp2_with fail
    go_region_held3 (fun W => W.cell? ⟨X3.heap.size, 0, none⟩ = some (.int .i64 F) ∧ W.cell? ⟨X3.heap.size, 1, none⟩ = some (.slice ta T.length tc))
      (first
        | (with_reducible exact hAn)
        | (with_reducible exact SD _ DB)
        | exact SD _ D0)
      (first
        | (go_at_call 66; refine (fromC (-2) 9 (by omega) (by omega) (by omega) D0.cc).mono ?_; rintro e WB ⟨yB, rfl, hB0, hB1, CD, hgB⟩; have DB := D0.drawn hgB CD; have hAn := (DB.ans (x := .int .i64 F) (y := .slice ta T.length tc)).2.2.1; have f0 := DB.res.f 0; have f1 := DB.res.f 1; obtain ⟨u0, u1⟩ := bx2 DB.res))
    have hwr : IntKind.i64.wrap (F + yB) = F + yB := by rw [IntKind.wrap_i64]; omega
    rw [hwr]
    obtain ⟨ho, hbl, _, r0, r1⟩ := DB.ans (x := .int .i64 F) (y := .slice ta T.length tc)
    have HW : Hid (RdL ((WB.setCell ⟨w.heap.size, 0, none⟩ (.int .i64 F)).setCell ⟨w.heap.size, 1, none⟩ (.slice ta T.length tc)) F ta tc T) := ⟨ow_txp ho, HSM.out⟩
    have HB : Hid (Below w.heap.size w ((WB.setCell ⟨w.heap.size, 0, none⟩ (.int .i64 F)).setCell ⟨w.heap.size, 1, none⟩ (.slice ta T.length tc))) := hbl
    have HV : Hid (-9223372036854775808 ≤ F + yB ∧ F + yB ≤ 9223372036854775807) := by rw [Hid]; omega
    clear hwr ho hbl D0 DB hAn hgB CD u0 u1 f0 f1
    generalize F + yB = v at *
    go_wp2
    refine bodyPost_ret (v := .tuple #[.agg #[.int .i64 F, .slice ta T.length tc], .int .i64 v]) (by simp [results, Try.results28, go_sem, r0, r1]) rfl ?_
    exact ⟨F, ta, tc, T, v, rfl, HW.out, HV.out, HB.out⟩
  · have DA : DH w X5.drew p a len cap bs 35 X3.heap.size F (scl T) (.slice ta T.length tc) fp := D5.drewN 1
    have lp5 := D5.cc.lt
    have hp5 := D5.hp
    have hBB : ∀ V, Cc w V p a len cap bs → Calls Try.prog 47 #[.pointer (some ⟨p, 0, none⟩), .int .i64 4] V fun e w' => ∃ y : Nat, e = .returned (.int .i64 (y : Int)) ∧ y < 4 ∧ Cc w w' p a len cap bs ∧ V.grownBy w' (some p) := fun V h => belowC 4 4 rfl h (by omega) (by omega)
    have L0 : ∀ V : World, Bx (V.alloc (.cells #[.int .i64 (-9223372036854775808), .int .i64 0, .int .i64 4611686018427387904, .int .i64 1000005] 2)) V.heap.size 2 (arC lit12) := fun V => Bx.new V 2 _
    have L1 : ∀ V : World, Bx (V.alloc (.cells #[.int .i64 (-9223372036854775808), .int .i64 0, .int .i64 4611686018427387904, .int .i64 1000005] 2)).drew V.heap.size 2 (arC lit12) := fun V => Bx.new V 2 _
    have DB1 : DH w (X5.drew.alloc (.cells #[.int .i64 (-9223372036854775808), .int .i64 0, .int .i64 4611686018427387904, .int .i64 1000005] 2)) p a len cap bs 35 X3.heap.size F (scl T) (.slice ta T.length tc) fp := DA.step (oneA _ _)
    have DB2 : DH w (X5.alloc (.cells #[.int .i64 (-9223372036854775808), .int .i64 0, .int .i64 4611686018427387904, .int .i64 1000005] 2)).drew p a len cap bs 35 X3.heap.size F (scl T) (.slice ta T.length tc) fp := (D5.step (oneA _ _)).drewN 1
    obtain ⟨⟨s0, s1⟩, _, _⟩ := DA.six
    obtain ⟨⟨s2, s3⟩, _, _⟩ := DB1.six
    obtain ⟨⟨s4, s5⟩, _, _⟩ := DB2.six
    clear SD
    go_wp2_with fail
    go_region_law
      (go_simp; go_at_call 47; (first | (refine (hBB _ DA.cc).mono ?_; rintro e V4 ⟨y, rfl, hy, C4, g4⟩; have D4 := DA.drawn g4 C4; have n2 := True.intro; have n1 := True.intro) | (refine (hBB _ DB1.cc).mono ?_; rintro e V4 ⟨y, rfl, hy, C4, g4⟩; have D4 := DB1.drawn g4 C4; have k1 := (L0 X5.drew).grown g4 (by simp; omega); have n1 := cell_arC k1 (i := y) hy; have n2 := cell_arC (k1.wrt (setw2 V4 w.heap.size (x := .int .i64 F) (y := .slice ta T.length tc)) (by omega)) (i := y) hy) | (refine (hBB _ DB2.cc).mono ?_; rintro e V4 ⟨y, rfl, hy, C4, g4⟩; have D4 := DB2.drawn g4 C4; have k1 := (L1 X5).grown g4 (by simp; omega); have n1 := cell_arC k1 (i := y) hy; have n2 := cell_arC (k1.wrt (setw2 V4 w.heap.size (x := .int .i64 F) (y := .slice ta T.length tc)) (by omega)) (i := y) hy));
        have j1 : (y : Int) < 4 := (by omega); have j0 : (0 : Int) ≤ (y : Int) := (by omega); have hzb := lit12_bd hy; have hlg := lit12_get (y := y); have n3 := cell_arC (L0 V4) (i := y) hy; have hwV : w.heap.size ≠ V4.heap.size := (by have := D4.cc.below.size; have := D4.hp; have := D4.cc.lt; omega); have n4 := cell_arC ((L0 V4).wrt (setw2 (V4.alloc (.cells #[.int .i64 (-9223372036854775808), .int .i64 0, .int .i64 4611686018427387904, .int .i64 1000005] 2)) w.heap.size (x := .int .i64 F) (y := .slice ta T.length tc)) (fun e => hwV e.symm)) (i := y) hy; have n5 := cell_arC (L0 ((V4.setCell ⟨w.heap.size, 0, none⟩ (.int .i64 F)).setCell ⟨w.heap.size, 1, none⟩ (.slice ta T.length tc))) (i := y) hy; have D6 : DH w (V4.alloc (.cells #[.int .i64 (-9223372036854775808), .int .i64 0, .int .i64 4611686018427387904, .int .i64 1000005] 2)) p a len cap bs 35 X3.heap.size F (scl T) (.slice ta T.length tc) fp := D4.step (oneA _ _); obtain ⟨⟨q0, q1⟩, ⟨q2, q3⟩, q4, q5⟩ := D4.six; obtain ⟨⟨m0, m1⟩, ⟨m2, m3⟩, m4, m5⟩ := D6.six; have A4 := D4.ans (x := .int .i64 F) (y := .slice ta T.length tc); have A6 := D6.ans (x := .int .i64 F) (y := .slice ta T.length tc); generalize el lit12 y = Bq at *)
    all_goals
      clear q0 q1 q2 q3 q4 q5 m0 m1 m2 m3 m4 m5 n1 n2 n3 n4 n5 s0 s1 s2 s3 s4 s5 L0 L1 hBB
      go_wp2
      first
        | (obtain ⟨ho, hbl, _, r0, r1⟩ := A4; refine bodyPost_ret (v := .tuple #[.agg #[.int .i64 F, .slice ta T.length tc], .int .i64 Bq]) (by simp [results, Try.results28, go_sem, r0, r1, hlg]) rfl ?_; exact ⟨F, ta, tc, T, Bq, rfl, ⟨ow_txp ho, HSM.out⟩, hzb, hbl⟩)
        | (obtain ⟨ho, hbl, _, r0, r1⟩ := A6; refine bodyPost_ret (v := .tuple #[.agg #[.int .i64 F, .slice ta T.length tc], .int .i64 Bq]) (by simp [results, Try.results28, go_sem, r0, r1, hlg]) rfl ?_; exact ⟨F, ta, tc, T, Bq, rfl, ⟨ow_txp ho, HSM.out⟩, hzb, hbl⟩)
        | (obtain ⟨ho, hbl, _, r0, r1⟩ := A4; have r0' := ((oneA _ (.cells #[.int .i64 (-9223372036854775808), .int .i64 0, .int .i64 4611686018427387904, .int .i64 1000005] 2)).cell (World.block_lt_of_cell? _ _ r0)).trans r0; have r1' := ((oneA _ (.cells #[.int .i64 (-9223372036854775808), .int .i64 0, .int .i64 4611686018427387904, .int .i64 1000005] 2)).cell (World.block_lt_of_cell? _ _ r1)).trans r1; refine bodyPost_ret (v := .tuple #[.agg #[.int .i64 F, .slice ta T.length tc], .int .i64 Bq]) (by simp [results, Try.results28, go_sem, r0', r1', hlg]) rfl ?_; exact ⟨F, ta, tc, T, Bq, rfl, ⟨(ow_txp ho).below (oneA _ _), HSM.out⟩, hzb, hbl.alloc hbl.size _⟩)
end Go.Proofs.Ytbnpliobigjapaa
