/-
  Texts in one: Nmi Nme Nmj Nmk Nml.
-/
import Derived.Test.YtgfeabgmllkdeaaGreatJao
import Derived.Test.YtgfeabgmllkdeaaGreatJan
import Derived.Test.YtgfeabgmllkdeaaGreatJaf
/-
  The program's memberOf: a member to work on, in memory of its own.
-/
namespace Go.Proofs.YtgfeabgmllkdeaaGreat
set_option linter.unusedVariables false
set_option linter.unusedSimpArgs false
open Go.RowKit Go.Sort

def imC (A : Ma) (m : Mb) : Array Value := #[.int .i64 m.id, .slice A.ra m.rows.length A.rc, .slice A.sa m.sung.length A.sc, .bool m.done]
/-- A member under work as a value. -/
def imV (A : Ma) (m : Mb) : Value := .agg (imC A m)
def AnsIm (w w' : World) (e : Ending) (m : Mb) : Prop := ∃ A : Ma, e = .returned (imV A m) ∧ NewL w w' (mbCels m) (mbVals A m)
theorem Bx.r4 {w : World} {B : Nat} {T : TypeId} {x0 x1 x2 x3 : Value} (h : Bx w B T #[x0, x1, x2, x3]) : w.cell? ⟨B, 0, none⟩ = some x0 ∧ w.cell? ⟨B, 1, none⟩ = some x1 ∧ w.cell? ⟨B, 2, none⟩ = some x2 ∧ w.cell? ⟨B, 3, none⟩ = some x3 := ⟨h.at 0 rfl, h.at 1 rfl, h.at 2 rfl, h.at 3 rfl⟩
theorem wrt4 (w : World) (g : Nat) {a b c d : Value} : Wrt (fun x => x = g) w ((((w.setCell ⟨g, 0, none⟩ a).setCell ⟨g, 1, none⟩ b).setCell ⟨g, 2, none⟩ c).setCell ⟨g, 3, none⟩ d) :=
  (((Wrt.set w g 0 a).trans (Wrt.set _ g 1 b) (fun _ _ h => h)).trans (Wrt.set _ g 2 c) (fun _ _ h => h)).trans (Wrt.set _ g 3 d) (fun _ _ h => h)
/-- A member under way in block o, all since w. -/
structure IO (w X : World) (o : Nat) (A : Ma) (m : Mb) (fp : Fp) : Prop where
  own : Bx X o 107 (imC A m)
  ls : owL X (mbCels m) (mbVals A m) fp
  fpl : ∀ b, fp b → w.heap.size + 2 ≤ b ∧ b ≠ o
  lo : w.heap.size + 2 ≤ o
  below : Below w.heap.size w X
theorem IO.step {w X X' : World} {o : Nat} {A : Ma} {m : Mb} {fp : Fp} (h : IO w X o A m fp) (hb : Below X.heap.size X X') : IO w X' o A m fp := ⟨h.own.below hb, owL_below h.ls hb, h.fpl, h.lo, h.below.trans (hb.mono h.below.size)⟩
/-- A row is appended. -/
theorem IO.push {w X X1 : World} {o : Nat} {A : Ma} {m : Mb} {fp : Fp} (h : IO w X o A m fp) (hb : Below X.heap.size X X1) {r : Rw} {Ar : Ra} {fr : Fp} (hr : owL X1 (rwCels r) (rwVals Ar r) fr) (hfr : ∀ b, fr b → X.heap.size ≤ b) (hl : m.rows.length ≤ 1000000) :
    ∀ Y, Same Y (X1.alloc (.cells (rwC Ar r) 37)) → ∃ v' w4, (Builtin.append_ #[24, 24] 24 #[.slice A.ra m.rows.length A.rc, .slice (some ⟨X1.heap.size, 0, none⟩) 1 1]).run Tryz.prog Y = .ok v' w4 ∧
      ∃ a' c', v' = .slice a' (m.rows.length + 1) c' ∧ w4.cell? ⟨o, 1, none⟩ = some (.slice A.ra m.rows.length A.rc) ∧ w4.frozen? ⟨o, 1, none⟩ = false ∧ Wrt (fun b => fp b) X w4 ∧ Below (w.heap.size + 2) X (w4.setCell ⟨o, 1, none⟩ (.slice a' (m.rows.length + 1) c')) ∧ ∃ fp', IO w (w4.setCell ⟨o, 1, none⟩ (.slice a' (m.rows.length + 1) c')) o ⟨a', c', A.sa, A.sc⟩ { m with rows := m.rows ++ [r] } fp' := by
  intro Y hY
  have h1 := h.step hb
  have hbY : Below X1.heap.size X1 Y := (oneA16 X1 _).trans (hY.below.mono (oneA16 X1 _).size)
  have h2 := h1.step hbY
  have hls := h2.ls
  obtain ⟨u1, us1, f1, g1, e1, o1, l2, d1, i1⟩ := hls
  cases e1
  have hrY := ow_rw8 (owL_below hr hbY)
  have hol : o < X.heap.size := h.own.lt
  have hpl : ∀ b, fp b → b < X.heap.size := owL_lt h.ls
  have hXs := hb.size
  have hlo := h.lo
  obtain ⟨a', c', w4, fp', k1, k2, k3, k4⟩ := ow_pushF (P := Tryz.prog) rw8_len (w := Y) 24 24 37 _ 120 Tryz.underlying24 Tryz.infoRw rfl (by omega) (x := r) o1 hrY (fun b hb1 hb2 => by have := hpl b ((i1 b).2 (.inl hb1)); have := hfr b hb2; omega) (by intro u hu; simp [rwC] at hu; rcases hu with h | h | h | h | h | h | h | h <;> rw [h] <;> rfl) X1.heap.size 37 (by rw [hY.heap]; exact heap_alloc_new X1 _) (by unfold maxLen; omega) (by omega)
  have hf1 : ∀ b, f1 b → w.heap.size + 2 ≤ b ∧ b ≠ o := fun b hb1 => h.fpl b ((i1 b).2 (.inl hb1))
  have hg1 : ∀ b, g1 b → w.heap.size + 2 ≤ b ∧ b ≠ o := fun b hb1 => h.fpl b ((i1 b).2 (.inr hb1))
  have hYs : X1.heap.size < Y.heap.size := by rw [hY.size]; simp
  have ho4 : Bx w4 o 107 (imC A m) := h2.own.wrt k3 (fun hb1 => (hf1 _ hb1).2 rfl)
  have hXY : Below X.heap.size X Y := hb.trans (hbY.mono hb.size)
  have hW4 : Wrt (fun b => fp b) X w4 := (Wrt.of_below hXY).trans k3 (fun b _ hb1 => (i1 b).2 (.inl hb1))
  have b4 : Below (w.heap.size + 2) X w4 := k3.below (hXY.mono (by omega)) (by omega) (fun b hb1 => (hf1 b hb1).1)
  have hfp' : ∀ b, fp' b → w.heap.size + 2 ≤ b ∧ b ≠ o := fun b hb1 => by
    rcases k4 b hb1 with k | k | k
    · exact hf1 b k
    · have := hfr b k; omega
    · omega
  refine ⟨_, w4, k1, a', c', rfl, ho4.at 1 rfl, ho4.f 1, hW4, b4.setCell (p := ⟨o, 1, none⟩) hlo _, fun b => fp' b ∨ g1 b, ?_, ?_, fun b hb1 => hb1.elim (hfp' b) (hg1 b), h.lo, ?_⟩
  · have := ho4.setC 1 (.slice a' (m.rows.length + 1) c')
    have e : (imC A m).setIfInBounds 1 (.slice a' (m.rows.length + 1) c') = imC ⟨a', c', A.sa, A.sc⟩ { m with rows := m.rows ++ [r] } := by simp [imC]
    rw [e] at this
    exact this
  · have hw := Wrt.set w4 o 1 (.slice a' (m.rows.length + 1) c')
    have k2' : Cel.ow w4 (lcl 8 rw8 (m.rows ++ [r])) (.slice a' (m.rows ++ [r]).length c') fp' := by
      rw [List.length_append]
      exact k2
    exact owL_wrt (owL_c k2' (owL_wrt l2 k3 (fun b hb1 hb2 => d1 b hb2 hb1)) (fun b hb1 hb2 => by
      rcases k4 b hb1 with k | k | k
      · exact d1 b k hb2
      · have := hfr b k; have := hpl b ((i1 b).2 (.inr hb2)); omega
      · have := hpl b ((i1 b).2 (.inr hb2)); omega)) hw (fun b hb1 e => by have := hb1.elim (hfp' b) (hg1 b); omega)
  · exact (h.below.trans (b4.mono (by omega))).setCell (p := ⟨o, 1, none⟩) (show w.heap.size ≤ o by omega) _
theorem le_mio {k : Nat} (h : k ≤ 100) : k ≤ 1000000 := Nat.le_trans h (by decide)
theorem ow_io {w X : World} {o : Nat} {A : Ma} {m : Mb} {f : Fp} {sa : Option Addr} {sc : Nat} (hx : Bx X o 107 #[.int .i64 m.id, .slice none 0 0, .slice sa m.sung.length sc, .bool m.done]) (h : Cel.ow X (icl m.sung) (.slice sa m.sung.length sc) f) (hf : ∀ b, f b → w.heap.size + 2 ≤ b ∧ b ≠ o) (hlo : w.heap.size + 2 ≤ o) (hb : Below w.heap.size w X) : IO w X o ⟨none, 0, sa, sc⟩ { m with rows := [] } f :=
  ⟨hx, owL_congr (owL_c (ow_lcl0 X 8 rw8) (owL_c h (⟨rfl, fun _ h => h⟩ : owL X [] [] (fun _ => False)) (fun _ _ h => h)) (fun _ h => absurd h id)) (fun b => by simp), hf, hlo, hb⟩
set_option maxRecDepth 100000 in
set_option maxHeartbeats 3200000 in
theorem mof_any (A : Ma) (m : Mb) (i n : Nat) (w : World) (hv : MbP w A m) (ok : OkM m i n) :
    Calls Tryz.prog 89 #[mbV A m] w fun e w' => AnsIm w w' e m := by
  have hmix := mixed17
  have hb1 := oneA16 w (.cells #[.int .i64 m.id, .int .i64 m.n, .slice A.ra m.rows.length A.rc, .slice A.sa m.sung.length A.sc, .bool m.done] 27)
  have hb2 := oneA16 (w.alloc (.cells #[.int .i64 m.id, .int .i64 m.n, .slice A.ra m.rows.length A.rc, .slice A.sa m.sung.length A.sc, .bool m.done] 27)) (.cells #[.int .i64 0, .slice none 0 0, .slice none 0 0, .bool false] 107)
  have hx1 : Bx ((w.alloc (.cells #[.int .i64 m.id, .int .i64 m.n, .slice A.ra m.rows.length A.rc, .slice A.sa m.sung.length A.sc, .bool m.done] 27)).alloc (.cells #[.int .i64 0, .slice none 0 0, .slice none 0 0, .bool false] 107)) w.heap.size 27 #[.int .i64 m.id, .int .i64 m.n, .slice A.ra m.rows.length A.rc, .slice A.sa m.sung.length A.sc, .bool m.done] := (Bx.new w _ _).alloc _
  have hx2 : Bx ((w.alloc (.cells #[.int .i64 m.id, .int .i64 m.n, .slice A.ra m.rows.length A.rc, .slice A.sa m.sung.length A.sc, .bool m.done] 27)).alloc (.cells #[.int .i64 0, .slice none 0 0, .slice none 0 0, .bool false] 107)) (w.heap.size + 1) 107 #[.int .i64 0, .slice none 0 0, .slice none 0 0, .bool false] := by
    have := Bx.new (w.alloc (.cells #[.int .i64 m.id, .int .i64 m.n, .slice A.ra m.rows.length A.rc, .slice A.sa m.sung.length A.sc, .bool m.done] 27)) 107 #[.int .i64 0, .slice none 0 0, .slice none 0 0, .bool false]
    simp only [World.size_alloc] at this
    exact this
  have hb12 : Below w.heap.size w ((w.alloc (.cells #[.int .i64 m.id, .int .i64 m.n, .slice A.ra m.rows.length A.rc, .slice A.sa m.sung.length A.sc, .bool m.done] 27)).alloc (.cells #[.int .i64 0, .slice none 0 0, .slice none 0 0, .bool false] 107)) := hb1.trans (hb2.mono hb1.size)
  have hsz : w.heap.size + 2 = ((w.alloc (.cells #[.int .i64 m.id, .int .i64 m.n, .slice A.ra m.rows.length A.rc, .slice A.sa m.sung.length A.sc, .bool m.done] 27)).alloc (.cells #[.int .i64 0, .slice none 0 0, .slice none 0 0, .bool false] 107)).heap.size := by simp only [World.size_alloc]
  unfold mbV mbC
  have HX1 : Hid (Bx ((w.alloc (.cells #[.int .i64 m.id, .int .i64 m.n, .slice A.ra m.rows.length A.rc, .slice A.sa m.sung.length A.sc, .bool m.done] 27)).alloc (.cells #[.int .i64 0, .slice none 0 0, .slice none 0 0, .bool false] 107)) w.heap.size 27 #[.int .i64 m.id, .int .i64 m.n, .slice A.ra m.rows.length A.rc, .slice A.sa m.sung.length A.sc, .bool m.done]) := hx1
  have HX2 : Hid (Bx ((w.alloc (.cells #[.int .i64 m.id, .int .i64 m.n, .slice A.ra m.rows.length A.rc, .slice A.sa m.sung.length A.sc, .bool m.done] 27)).alloc (.cells #[.int .i64 0, .slice none 0 0, .slice none 0 0, .bool false] 107)) (w.heap.size + 1) 107 #[.int .i64 0, .slice none 0 0, .slice none 0 0, .bool false]) := hx2
  have HB : Hid (Below w.heap.size w ((w.alloc (.cells #[.int .i64 m.id, .int .i64 m.n, .slice A.ra m.rows.length A.rc, .slice A.sa m.sung.length A.sc, .bool m.done] 27)).alloc (.cells #[.int .i64 0, .slice none 0 0, .slice none 0 0, .bool false] 107))) := hb12
  have HV : Hid (MbP w A m) := hv
  have HSz : Hid (w.heap.size + 2 = ((w.alloc (.cells #[.int .i64 m.id, .int .i64 m.n, .slice A.ra m.rows.length A.rc, .slice A.sa m.sung.length A.sc, .bool m.done] 27)).alloc (.cells #[.int .i64 0, .slice none 0 0, .slice none 0 0, .bool false] 107)).heap.size) := hsz
  have hsl := ok.sl
  have HLn : Hid (m.rows.length = n) := ok.len
  have hn5 := ok.n5
  clear hb1 hb2 hx1 hx2 hb12 hsz hv
  go_enter Tryz.func89, Tryz.ntmps89
  go_upto_region 1 with fail
  generalize ((w.alloc (.cells #[.int .i64 m.id, .int .i64 m.n, .slice A.ra m.rows.length A.rc, .slice A.sa m.sung.length A.sc, .bool m.done] 27)).alloc (.cells #[.int .i64 0, .slice none 0 0, .slice none 0 0, .bool false] 107)) = W0 at *
  go_cut [3] from 6 to 14 (fun v X => ∃ (o : Nat) (sa : Option Addr) (sc : Nat) (f : Fp), v = .pointer (some ⟨o, 0, none⟩) ∧ Bx X o 107 #[.int .i64 m.id, .slice none 0 0, .slice sa m.sung.length sc, .bool m.done] ∧ Cel.ow X (icl m.sung) (.slice sa m.sung.length sc) f ∧ (∀ b, f b → w.heap.size + 2 ≤ b ∧ b ≠ o) ∧ w.heap.size + 2 ≤ o ∧ Below W0.heap.size W0 X)
  case first =>
    have hbd : Below W0.heap.size W0 W0.drew := (Same.drewN W0 1).below
    have KS : ∀ X, Below W0.heap.size W0 X → X.cell? ⟨w.heap.size, 0, none⟩ = some (.int .i64 m.id) ∧ X.cell? ⟨w.heap.size, 3, none⟩ = some (.slice A.sa m.sung.length A.sc) ∧ X.cell? ⟨w.heap.size, 4, none⟩ = some (.bool m.done) := fun X hX => by
      obtain ⟨d0, d1, d2, d3, d4⟩ := Bx.r5 (HX1.out.below hX)
      exact ⟨d0, d3, d4⟩
    have HC : Hid (∀ X, Below W0.heap.size W0 X → Calls Tryz.prog 137 #[.slice A.sa m.sung.length A.sc] X fun e w' => AnsL X w' e m.sung) := fun X hX => cln_any A.sa A.sc m.sung X (HV.out.mbs.sung.below (HB.out.trans (hX.mono HB.out.size)) (Nat.le_refl _)) (by omega)
    have hsz := HSz.out
    refine gt_begin (S := fun X : World => X.cell? ⟨w.heap.size, 0, none⟩ = some (.int .i64 m.id) ∧ X.cell? ⟨w.heap.size, 3, none⟩ = some (.slice A.sa m.sung.length A.sc) ∧ X.cell? ⟨w.heap.size, 4, none⟩ = some (.bool m.done)) 10 hmix (by kernel_rfl) ?_
    have hHeld : (fun X : World => X.cell? ⟨w.heap.size, 0, none⟩ = some (.int .i64 m.id) ∧ X.cell? ⟨w.heap.size, 3, none⟩ = some (.slice A.sa m.sung.length A.sc) ∧ X.cell? ⟨w.heap.size, 4, none⟩ = some (.bool m.done)) W0.drew := (KS _ hbd)
    refine gt_take (i := 0) (v := ?_) rfl (by kernel_rfl) (by kernel_rfl) (by kernel_rfl) (by kernel_rfl) (fun _ _ _ h => h) (Or.inl ⟨by rfl, ?_⟩) hHeld ?_
    rotate_left
    · (intro X hSX; (try dsimp only at hSX); obtain ⟨g0, g1, g2⟩ := hSX; go_simp; try with_reducible rfl)
    try simp only [Act.put, List.setIfInBounds_toArray, List.set_cons_zero, List.set_cons_succ]
    refine gt_take (i := 1) (v := ?_) rfl (by kernel_rfl) (by kernel_rfl) (by kernel_rfl) (by kernel_rfl) (fun _ _ _ h => h) (Or.inl ⟨by rfl, ?_⟩) hHeld ?_
    rotate_left
    · (intro X hSX; (try dsimp only at hSX); obtain ⟨g0, g1, g2⟩ := hSX; go_simp; try with_reducible rfl)
    try simp only [Act.put, List.setIfInBounds_toArray, List.set_cons_zero, List.set_cons_succ]
    refine gt_take (i := 2) (v := ?_) rfl (by kernel_rfl) (by kernel_rfl) (by kernel_rfl) (by kernel_rfl) (fun _ _ _ h => h) (Or.inl ⟨by rfl, ?_⟩) hHeld ?_
    rotate_left
    · (intro X hSX; (try dsimp only at hSX); obtain ⟨g0, g1, g2⟩ := hSX; go_simp; try with_reducible rfl)
    try simp only [Act.put, List.setIfInBounds_toArray, List.set_cons_zero, List.set_cons_succ]
    refine gt_take (i := 3) (v := ?_) rfl (by kernel_rfl) (by kernel_rfl) (by kernel_rfl) (by kernel_rfl) (fun _ _ _ h => h) (Or.inl ⟨by rfl, ?_⟩) hHeld ?_
    rotate_left
    · (intro X hSX; (try dsimp only at hSX); obtain ⟨g0, g1, g2⟩ := hSX; go_simp; try with_reducible rfl)
    try simp only [Act.put, List.setIfInBounds_toArray, List.set_cons_zero, List.set_cons_succ]
    refine gt_take (i := 4) (v := ?_) rfl (by kernel_rfl) (by kernel_rfl) (by kernel_rfl) (by kernel_rfl) (fun _ _ _ h => h) (Or.inl ⟨by rfl, ?_⟩) hHeld ?_
    rotate_left
    · (intro X hSX; (try dsimp only at hSX); obtain ⟨g0, g1, g2⟩ := hSX; go_simp; try with_reducible rfl)
    try simp only [Act.put, List.setIfInBounds_toArray, List.set_cons_zero, List.set_cons_succ]
    refine gt_take (i := 6) (v := ?_) rfl (by kernel_rfl) (by kernel_rfl) (by kernel_rfl) (by kernel_rfl) (fun _ _ _ h => h) (Or.inl ⟨by rfl, ?_⟩) hHeld ?_
    rotate_left
    · (intro X hSX; (try dsimp only at hSX); obtain ⟨g0, g1, g2⟩ := hSX; go_simp; try with_reducible rfl)
    try simp only [Act.put, List.setIfInBounds_toArray, List.set_cons_zero, List.set_cons_succ]
    refine gt_take (i := 7) (v := ?_) rfl (by kernel_rfl) (by kernel_rfl) (by kernel_rfl) (by kernel_rfl) (fun _ _ _ h => h) (Or.inl ⟨by rfl, ?_⟩) hHeld ?_
    rotate_left
    · (intro X hSX; (try dsimp only at hSX); obtain ⟨g0, g1, g2⟩ := hSX; go_simp; try with_reducible rfl)
    try simp only [Act.put, List.setIfInBounds_toArray, List.set_cons_zero, List.set_cons_succ]
    refine gt_two (i := 5) (j := 9) rfl rfl (by kernel_rfl) (by kernel_rfl) (fun K hK => ?_) (fun K hK => ?_)
    · go_simp
      go_at_call 137
      refine (HC.out _ hbd).mono ?_
      rintro e V1 ⟨a1, e1, rfl, f1, o1, p1, b1⟩
      have hbV1 : Below W0.heap.size W0 V1 := hbd.trans (b1.mono hbd.size)
      refine hK.out _ _ (KS _ hbV1) (fun hHeldN => ?_)
      clear hK hHeld
      have hHeld := hHeldN
      try simp only [Act.put, List.setIfInBounds_toArray, List.set_cons_zero, List.set_cons_succ]
      refine gt_pure (i := 8) (v := ?_) rfl (by kernel_rfl) (by kernel_rfl) (by kernel_rfl) (fun _ _ _ h => h) (Or.inl ⟨by rfl, ?_⟩) ?_
      rotate_left
      · (intro X; go_simp; try with_reducible rfl)
      try simp only [Act.put, List.setIfInBounds_toArray, List.set_cons_zero, List.set_cons_succ]
      refine gt_one (i := 9) rfl (by kernel_rfl) (by kernel_rfl) (fun K hK => ?_)
      go_simp
      have hba := oneA16 V1 (.cells #[.int .i64 0, .slice none 0 0, .slice none 0 0, .bool false] 107)
      have hbV2 : Below W0.heap.size W0 (V1.alloc (.cells #[.int .i64 0, .slice none 0 0, .slice none 0 0, .bool false] 107)) := hbV1.trans (hba.mono hbV1.size)
      refine hK.out _ _ (KS _ hbV2) (fun hHeldN => ?_)
      clear hK hHeld
      have hHeld := hHeldN
      try simp only [Act.put, List.setIfInBounds_toArray, List.set_cons_zero, List.set_cons_succ]
      refine gt_last rfl (by kernel_rfl) (by kernel_rfl) (fun K hK => ?_)
      go_simp
      refine hK.out _ _ ?_
      have hs1 := b1.size
      have hd : W0.drew.heap.size = W0.heap.size := rfl
      have hlt := Cel.ow_lt o1
      have HE : Hid (∃ (o : Nat) (sa : Option Addr) (sc : Nat) (f : Fp), (Value.pointer (some ⟨V1.heap.size, 0, none⟩)) = .pointer (some ⟨o, 0, none⟩) ∧ Bx (V1.alloc (.cells #[.int .i64 m.id, .slice none 0 0, .slice a1 m.sung.length e1, .bool m.done] 107)) o 107 #[.int .i64 m.id, .slice none 0 0, .slice sa m.sung.length sc, .bool m.done] ∧ Cel.ow (V1.alloc (.cells #[.int .i64 m.id, .slice none 0 0, .slice a1 m.sung.length e1, .bool m.done] 107)) (icl m.sung) (.slice sa m.sung.length sc) f ∧ (∀ b, f b → w.heap.size + 2 ≤ b ∧ b ≠ o) ∧ w.heap.size + 2 ≤ o ∧ Below W0.heap.size W0 (V1.alloc (.cells #[.int .i64 m.id, .slice none 0 0, .slice a1 m.sung.length e1, .bool m.done] 107))) := by
        have hba := oneA16 V1 (.cells #[.int .i64 m.id, .slice none 0 0, .slice a1 m.sung.length e1, .bool m.done] 107)
        exact ⟨V1.heap.size, a1, e1, f1, rfl, Bx.new V1 _ _, Cel.ow_below o1 hba, fun b hb => ⟨by have := p1 b hb; omega, by have := hlt b hb; omega⟩, by omega, hbV1.trans (hba.mono hbV1.size)⟩
      clear hHeld KS HC o1 p1 b1 hbV1 hbV2 hba hbd hK hlt
      try go_wp2_with fail
      go_meet
      case rel => exact HE.out
    · go_simp
      have hba := oneA16 W0.drew (.cells #[.int .i64 0, .slice none 0 0, .slice none 0 0, .bool false] 107)
      have hbV1 : Below W0.heap.size W0 (W0.drew.alloc (.cells #[.int .i64 0, .slice none 0 0, .slice none 0 0, .bool false] 107)) := hbd.trans (hba.mono hbd.size)
      have hxa := Bx.new W0.drew 107 #[.int .i64 0, .slice none 0 0, .slice none 0 0, .bool false]
      have hd : W0.drew.heap.size = W0.heap.size := rfl
      refine hK.out _ _ (KS _ hbV1) (fun hHeldN => ?_)
      clear hK hHeld
      have hHeld := hHeldN
      try simp only [Act.put, List.setIfInBounds_toArray, List.set_cons_zero, List.set_cons_succ]
      refine gt_one (i := 5) rfl (by kernel_rfl) (by kernel_rfl) (fun K hK => ?_)
      go_simp
      go_at_call 137
      refine (HC.out _ hbV1).mono ?_
      rintro e V1 ⟨a1, e1, rfl, f1, o1, p1, b1⟩
      have hbV2 : Below W0.heap.size W0 V1 := hbV1.trans (b1.mono hbV1.size)
      have hx1 := hxa.below b1
      rw [hd] at hx1
      refine hK.out _ _ (KS _ hbV2) (fun hHeldN => ?_)
      clear hK hHeld
      have hHeld := hHeldN
      try simp only [Act.put, List.setIfInBounds_toArray, List.set_cons_zero, List.set_cons_succ]
      refine gt_pure (i := 8) (v := ?_) rfl (by kernel_rfl) (by kernel_rfl) (by kernel_rfl) (fun _ _ _ h => h) (Or.inl ⟨by rfl, ?_⟩) ?_
      rotate_left
      · (intro X; go_simp; try with_reducible rfl)
      try simp only [Act.put, List.setIfInBounds_toArray, List.set_cons_zero, List.set_cons_succ]
      obtain ⟨z0, z1, z2, z3⟩ := Bx.r4 hx1
      have y0 := hx1.f 0
      have y1 := hx1.f 1
      have y2 := hx1.f 2
      have y3 := hx1.f 3
      refine gt_last rfl (by kernel_rfl) (by kernel_rfl) (fun K hK => ?_)
      go_simp
      refine hK.out _ _ ?_
      have hs1 := b1.size
      have hsa : (W0.drew.alloc (.cells #[.int .i64 0, .slice none 0 0, .slice none 0 0, .bool false] 107)).heap.size = W0.heap.size + 1 := by rw [World.size_alloc]; rfl
      have HE : Hid (∃ (o : Nat) (sa : Option Addr) (sc : Nat) (f : Fp), (Value.pointer (some ⟨W0.heap.size, 0, none⟩)) = .pointer (some ⟨o, 0, none⟩) ∧ Bx ((((V1.setCell ⟨W0.heap.size, 0, none⟩ (.int .i64 m.id)).setCell ⟨W0.heap.size, 1, none⟩ (.slice none 0 0)).setCell ⟨W0.heap.size, 2, none⟩ (.slice a1 m.sung.length e1)).setCell ⟨W0.heap.size, 3, none⟩ (.bool m.done)) o 107 #[.int .i64 m.id, .slice none 0 0, .slice sa m.sung.length sc, .bool m.done] ∧ Cel.ow ((((V1.setCell ⟨W0.heap.size, 0, none⟩ (.int .i64 m.id)).setCell ⟨W0.heap.size, 1, none⟩ (.slice none 0 0)).setCell ⟨W0.heap.size, 2, none⟩ (.slice a1 m.sung.length e1)).setCell ⟨W0.heap.size, 3, none⟩ (.bool m.done)) (icl m.sung) (.slice sa m.sung.length sc) f ∧ (∀ b, f b → w.heap.size + 2 ≤ b ∧ b ≠ o) ∧ w.heap.size + 2 ≤ o ∧ Below W0.heap.size W0 ((((V1.setCell ⟨W0.heap.size, 0, none⟩ (.int .i64 m.id)).setCell ⟨W0.heap.size, 1, none⟩ (.slice none 0 0)).setCell ⟨W0.heap.size, 2, none⟩ (.slice a1 m.sung.length e1)).setCell ⟨W0.heap.size, 3, none⟩ (.bool m.done))) := by
        have hx9 : Bx ((((V1.setCell ⟨W0.heap.size, 0, none⟩ (.int .i64 m.id)).setCell ⟨W0.heap.size, 1, none⟩ (.slice none 0 0)).setCell ⟨W0.heap.size, 2, none⟩ (.slice a1 m.sung.length e1)).setCell ⟨W0.heap.size, 3, none⟩ (.bool m.done)) W0.heap.size 107 #[.int .i64 m.id, .slice none 0 0, .slice a1 m.sung.length e1, .bool m.done] := by simpa using (((hx1.setC 0 (.int .i64 m.id)).setC 1 (.slice none 0 0)).setC 2 (.slice a1 m.sung.length e1)).setC 3 (.bool m.done)
        exact ⟨W0.heap.size, a1, e1, f1, rfl, hx9, Cel.ow_wrt o1 (wrt4 V1 W0.heap.size) (fun b hb e => by have := p1 b hb; omega), fun b hb => ⟨by have := p1 b hb; omega, by have := p1 b hb; omega⟩, by omega, (wrt4 V1 W0.heap.size).below hbV2 hbV2.size (fun b e => by omega)⟩
      clear hHeld KS HC o1 p1 b1 hbV1 hbV2 hba hbd hK hx1 hxa z0 z1 z2 z3 y0 y1 y2 y3
      try go_wp2_with fail
      go_meet
      case rel => exact HE.out
  case rest =>
    obtain ⟨o, sa, sc, f, rfl, hx, hO, hf, hlo, hbX⟩ := hcut
    generalize wc = V at *
    have hBV : Below w.heap.size w V := HB.out.trans (hbX.mono HB.out.size)
    have HI0 : Hid (IO w V o ⟨none, 0, sa, sc⟩ { m with rows := [] } f) := ow_io (A := A) hx hO hf hlo hBV
    have HP0 : Hid (Bx V w.heap.size 27 #[.int .i64 m.id, .int .i64 m.n, .slice A.ra m.rows.length A.rc, .slice A.sa m.sung.length A.sc, .bool m.done]) := HX1.out.below hbX
    have HR0 : Hid (Bx V (w.heap.size + 1) 107 #[.int .i64 0, .slice none 0 0, .slice none 0 0, .bool false]) := HX2.out.below hbX
    obtain ⟨c0, c1, c2, c3, c4⟩ := Bx.r5 HP0.out
    clear hx hO hf hbX hBV HX1 HX2 HB HSz
    go_upto_region 3 with fail
    clear c0 c1 c2 c3 c4
    go_loopw [18] (fun v wr => ∃ (k : Nat) (A2 : Ma) (R : List Rw) (fp : Fp), k ≤ m.rows.length ∧ v = .int .i64 (k : Int) ∧ Hid (R = m.rows.take k) ∧ IO w wr o A2 { m with rows := R } fp ∧ Bx wr w.heap.size 27 #[.int .i64 m.id, .int .i64 m.n, .slice A.ra m.rows.length A.rc, .slice A.sa m.sung.length A.sc, .bool m.done] ∧ Bx wr (w.heap.size + 1) 107 #[.int .i64 0, .slice none 0 0, .slice none 0 0, .bool false]) (fun v _ => m.rows.length - (intOf v).toNat)
    case atStart => exact ⟨0, _, [], f, Nat.zero_le _, rfl, rfl, HI0.out, HP0.out, HR0.out⟩
    case round =>
      obtain ⟨k, A2, R, fp, hk, rfl, hR, hI, hP, hRes⟩ := hrel
      have HI : Hid (IO w wr o A2 { m with rows := R } fp) := hI
      have HPm : Hid (Bx wr w.heap.size 27 #[.int .i64 m.id, .int .i64 m.n, .slice A.ra m.rows.length A.rc, .slice A.sa m.sung.length A.sc, .bool m.done]) := hP
      have HRs : Hid (Bx wr (w.heap.size + 1) 107 #[.int .i64 0, .slice none 0 0, .slice none 0 0, .bool false]) := hRes
      clear HI0 HP0 HR0
      by_cases hlt : k < m.rows.length
      · obtain ⟨g, off, Ak, hra, ⟨⟨d0, d1, d2, d3⟩, d4, d5, d6, d7⟩, hrp⟩ := (HV.out.below hI.below).row hlt
        have hokr : OkR (rowN m.rows k) n := ok.ok k (by have := HLn.out; omega)
        have HRk : Hid (R ++ [rowN m.rows k] = m.rows.take (k + 1)) := by
          rw [Hid, hR.out, List.take_succ_eq_append_getElem hlt]
          simp [rowN, List.getD, hlt]
        have HRl : Hid (R.length ≤ 1000000) := le_mio (by rw [hR.out, List.length_take]; have := HLn.out; omega)
        have k0 : (0 : Int) ≤ (k : Int) := by omega
        have k1 : (k : Int) < (m.rows.length : Int) := by omega
        have hml : m.rows.length ≤ 5 := by rw [HLn.out]; omega
        rw [hra]
        generalize rowN m.rows k = r at *
        have hg0 : 0 < r.got.length := by rw [hokr.gl]; omega
        have hsr : szRw r ≤ 1000 := by have := hokr.c8.2; omega
        have hba := oneA16 wr (.cells #[.int .i64 r.ver, .slice Ak.ta r.txt.length Ak.tc, .slice Ak.ga r.got.length Ak.gc, .slice Ak.sa r.sus.length Ak.sc, .bool r.wed, .bool r.rdy, .int .i64 r.by_, .slice Ak.ma r.trm.length Ak.mc] 37)
        have hxr := Bx.new wr 37 #[.int .i64 r.ver, .slice Ak.ta r.txt.length Ak.tc, .slice Ak.ga r.got.length Ak.gc, .slice Ak.sa r.sus.length Ak.sc, .bool r.wed, .bool r.rdy, .int .i64 r.by_, .slice Ak.ma r.trm.length Ak.mc]
        have hI5 := hI.step hba
        have HI5 : Hid (IO w (wr.alloc (.cells #[.int .i64 r.ver, .slice Ak.ta r.txt.length Ak.tc, .slice Ak.ga r.got.length Ak.gc, .slice Ak.sa r.sus.length Ak.sc, .bool r.wed, .bool r.rdy, .int .i64 r.by_, .slice Ak.ma r.trm.length Ak.mc] 37)) o A2 { m with rows := R } fp) := hI5
        have HBa : Hid (Below wr.heap.size wr (wr.alloc (.cells #[.int .i64 r.ver, .slice Ak.ta r.txt.length Ak.tc, .slice Ak.ga r.got.length Ak.gc, .slice Ak.sa r.sus.length Ak.sc, .bool r.wed, .bool r.rdy, .int .i64 r.by_, .slice Ak.ma r.trm.length Ak.mc] 37))) := hba
        have hbd : Below (wr.alloc (.cells #[.int .i64 r.ver, .slice Ak.ta r.txt.length Ak.tc, .slice Ak.ga r.got.length Ak.gc, .slice Ak.sa r.sus.length Ak.sc, .bool r.wed, .bool r.rdy, .int .i64 r.by_, .slice Ak.ma r.trm.length Ak.mc] 37)).heap.size (wr.alloc (.cells #[.int .i64 r.ver, .slice Ak.ta r.txt.length Ak.tc, .slice Ak.ga r.got.length Ak.gc, .slice Ak.sa r.sus.length Ak.sc, .bool r.wed, .bool r.rdy, .int .i64 r.by_, .slice Ak.ma r.trm.length Ak.mc] 37)) (wr.alloc (.cells #[.int .i64 r.ver, .slice Ak.ta r.txt.length Ak.tc, .slice Ak.ga r.got.length Ak.gc, .slice Ak.sa r.sus.length Ak.sc, .bool r.wed, .bool r.rdy, .int .i64 r.by_, .slice Ak.ma r.trm.length Ak.mc] 37)).drew := (Same.drewN _ 1).below
        have hAn := anw_any Ak r (wr.alloc (.cells #[.int .i64 r.ver, .slice Ak.ta r.txt.length Ak.tc, .slice Ak.ga r.got.length Ak.gc, .slice Ak.sa r.sus.length Ak.sc, .bool r.wed, .bool r.rdy, .int .i64 r.by_, .slice Ak.ma r.trm.length Ak.mc] 37)).drew ((hrp.below hba).below hbd) hg0 hsr
        unfold rwV at hAn
        have KS : ∀ X, Below (wr.alloc (.cells #[.int .i64 r.ver, .slice Ak.ta r.txt.length Ak.tc, .slice Ak.ga r.got.length Ak.gc, .slice Ak.sa r.sus.length Ak.sc, .bool r.wed, .bool r.rdy, .int .i64 r.by_, .slice Ak.ma r.trm.length Ak.mc] 37)).heap.size (wr.alloc (.cells #[.int .i64 r.ver, .slice Ak.ta r.txt.length Ak.tc, .slice Ak.ga r.got.length Ak.gc, .slice Ak.sa r.sus.length Ak.sc, .bool r.wed, .bool r.rdy, .int .i64 r.by_, .slice Ak.ma r.trm.length Ak.mc] 37)) X → X.cell? ⟨o, 1, none⟩ = some (.slice A2.ra R.length A2.rc) ∧ X.cell? ⟨wr.heap.size, 0, none⟩ = some (.int .i64 r.ver) ∧ X.cell? ⟨wr.heap.size, 1, none⟩ = some (.slice Ak.ta r.txt.length Ak.tc) ∧ X.cell? ⟨wr.heap.size, 2, none⟩ = some (.slice Ak.ga r.got.length Ak.gc) ∧ X.cell? ⟨wr.heap.size, 3, none⟩ = some (.slice Ak.sa r.sus.length Ak.sc) ∧ X.cell? ⟨wr.heap.size, 4, none⟩ = some (.bool r.wed) ∧ X.cell? ⟨wr.heap.size, 5, none⟩ = some (.bool r.rdy) ∧ X.cell? ⟨wr.heap.size, 6, none⟩ = some (.int .i64 r.by_) ∧ X.cell? ⟨wr.heap.size, 7, none⟩ = some (.slice Ak.ma r.trm.length Ak.mc) := fun X hX => by
          obtain ⟨⟨x0, x1, x2, x3⟩, x4, x5, x6, x7⟩ := Bx.r8 (hxr.below hX)
          exact ⟨(HI5.out.own.below hX).at 1 rfl, x0, x1, x2, x3, x4, x5, x6, x7⟩
        have hrb : wr.heap.size < (wr.alloc (.cells #[.int .i64 r.ver, .slice Ak.ta r.txt.length Ak.tc, .slice Ak.ga r.got.length Ak.gc, .slice Ak.sa r.sus.length Ak.sc, .bool r.wed, .bool r.rdy, .int .i64 r.by_, .slice Ak.ma r.trm.length Ak.mc] 37)).heap.size := hxr.lt
        clear hrp hI hI5 hP hRes hxr hokr
        go_upto_region 5 with fail
        generalize wr.alloc (.cells #[.int .i64 r.ver, .slice Ak.ta r.txt.length Ak.tc, .slice Ak.ga r.got.length Ak.gc, .slice Ak.sa r.sus.length Ak.sc, .bool r.wed, .bool r.rdy, .int .i64 r.by_, .slice Ak.ma r.trm.length Ak.mc] 37) = W5 at *
        clear d0 d1 d2 d3 d4 d5 d6 d7 hba
        unfold rwC at hAn
        refine gt_begin (S := fun X : World => X.cell? ⟨o, 1, none⟩ = some (.slice A2.ra R.length A2.rc) ∧ X.cell? ⟨wr.heap.size, 0, none⟩ = some (.int .i64 r.ver) ∧ X.cell? ⟨wr.heap.size, 1, none⟩ = some (.slice Ak.ta r.txt.length Ak.tc) ∧ X.cell? ⟨wr.heap.size, 2, none⟩ = some (.slice Ak.ga r.got.length Ak.gc) ∧ X.cell? ⟨wr.heap.size, 3, none⟩ = some (.slice Ak.sa r.sus.length Ak.sc) ∧ X.cell? ⟨wr.heap.size, 4, none⟩ = some (.bool r.wed) ∧ X.cell? ⟨wr.heap.size, 5, none⟩ = some (.bool r.rdy) ∧ X.cell? ⟨wr.heap.size, 6, none⟩ = some (.int .i64 r.by_) ∧ X.cell? ⟨wr.heap.size, 7, none⟩ = some (.slice Ak.ma r.trm.length Ak.mc)) 9 hmix (by kernel_rfl) ?_
        have hHeld : (fun X : World => X.cell? ⟨o, 1, none⟩ = some (.slice A2.ra R.length A2.rc) ∧ X.cell? ⟨wr.heap.size, 0, none⟩ = some (.int .i64 r.ver) ∧ X.cell? ⟨wr.heap.size, 1, none⟩ = some (.slice Ak.ta r.txt.length Ak.tc) ∧ X.cell? ⟨wr.heap.size, 2, none⟩ = some (.slice Ak.ga r.got.length Ak.gc) ∧ X.cell? ⟨wr.heap.size, 3, none⟩ = some (.slice Ak.sa r.sus.length Ak.sc) ∧ X.cell? ⟨wr.heap.size, 4, none⟩ = some (.bool r.wed) ∧ X.cell? ⟨wr.heap.size, 5, none⟩ = some (.bool r.rdy) ∧ X.cell? ⟨wr.heap.size, 6, none⟩ = some (.int .i64 r.by_) ∧ X.cell? ⟨wr.heap.size, 7, none⟩ = some (.slice Ak.ma r.trm.length Ak.mc)) W5.drew := (KS _ hbd)
        refine gt_take (i := 0) (v := ?_) rfl (by kernel_rfl) (by kernel_rfl) (by kernel_rfl) (by kernel_rfl) (fun _ _ _ h => h) (Or.inl ⟨by rfl, ?_⟩) hHeld ?_
        rotate_left
        · (intro X hSX; (try dsimp only at hSX); obtain ⟨g0, g1, g2, g3, g4, g5, g6, g7, g8⟩ := hSX; go_simp; try with_reducible rfl)
        try simp only [Act.put, List.setIfInBounds_toArray, List.set_cons_zero, List.set_cons_succ]
        refine gt_take (i := 1) (v := ?_) rfl (by kernel_rfl) (by kernel_rfl) (by kernel_rfl) (by kernel_rfl) (fun _ _ _ h => h) (Or.inl ⟨by rfl, ?_⟩) hHeld ?_
        rotate_left
        · (intro X hSX; (try dsimp only at hSX); obtain ⟨g0, g1, g2, g3, g4, g5, g6, g7, g8⟩ := hSX; go_simp; try with_reducible rfl)
        try simp only [Act.put, List.setIfInBounds_toArray, List.set_cons_zero, List.set_cons_succ]
        refine gt_take (i := 2) (v := ?_) rfl (by kernel_rfl) (by kernel_rfl) (by kernel_rfl) (by kernel_rfl) (fun _ _ _ h => h) (Or.inl ⟨by rfl, ?_⟩) hHeld ?_
        rotate_left
        · (intro X hSX; (try dsimp only at hSX); obtain ⟨g0, g1, g2, g3, g4, g5, g6, g7, g8⟩ := hSX; go_simp; try with_reducible rfl)
        try simp only [Act.put, List.setIfInBounds_toArray, List.set_cons_zero, List.set_cons_succ]
        refine gt_take (i := 3) (v := ?_) rfl (by kernel_rfl) (by kernel_rfl) (by kernel_rfl) (by kernel_rfl) (fun _ _ _ h => h) (Or.inl ⟨by rfl, ?_⟩) hHeld ?_
        rotate_left
        · (intro X hSX; (try dsimp only at hSX); obtain ⟨g0, g1, g2, g3, g4, g5, g6, g7, g8⟩ := hSX; go_simp; try with_reducible rfl)
        try simp only [Act.put, List.setIfInBounds_toArray, List.set_cons_zero, List.set_cons_succ]
        refine gt_one (i := 4) rfl (by kernel_rfl) (by kernel_rfl) (fun K hK => ?_)
        go_simp
        go_at_call 102
        refine hAn.mono ?_
        rintro e V1 ⟨Ar, rfl, fr, hr1, hr2, hr3⟩
        have hbV1 : Below W5.heap.size W5 V1 := hbd.trans (hr3.mono hbd.size)
        have hd : W5.drew.heap.size = W5.heap.size := rfl
        have hA := HI5.out.push hbV1 hr1 (fun b hb => by have := hr2 b hb; omega) HRl.out
        have hba2 := oneA16 V1 (.cells (rwC Ar r) 37)
        refine hK.out _ _ (KS _ hbV1) (fun hHeldN => ?_)
        clear hK hHeld
        have hHeld := hHeldN
        try simp only [Act.put, List.setIfInBounds_toArray, List.set_cons_zero, List.set_cons_succ]
        unfold rwV
        unfold rwC at hA hba2 ⊢
        refine gt_one (i := 5) rfl (by kernel_rfl) (by kernel_rfl) (fun K hK => ?_)
        go_simp
        refine hK.out _ _ (KS _ (hbV1.trans (hba2.mono hbV1.size))) (fun hHeldN => ?_)
        clear hK hHeld
        have hHeld := hHeldN
        try simp only [Act.put, List.setIfInBounds_toArray, List.set_cons_zero, List.set_cons_succ]
        refine gt_one (i := 6) rfl (by kernel_rfl) (by kernel_rfl) (fun K hK => ?_)
        refine step_append_of (by rfl) _ _ _ _ (by rfl) (.slice A2.ra R.length A2.rc) _ (by rfl) (by rfl) hA ⟨rfl, rfl, rfl, rfl⟩ ?_
        rintro v9 w4 ⟨a9, c9, rfl, q1, q2, hW4, b5, fp9, hI9⟩
        have hfl := HI5.out.fpl
        have hpl : ∀ b, fp b → b ≠ wr.heap.size := fun b hb e => by
          have := owL_lt HI.out.ls b hb
          omega
        have hk9 : w4.cell? ⟨o, 1, none⟩ = some (.slice A2.ra R.length A2.rc) ∧ w4.cell? ⟨wr.heap.size, 0, none⟩ = some (.int .i64 r.ver) ∧ w4.cell? ⟨wr.heap.size, 1, none⟩ = some (.slice Ak.ta r.txt.length Ak.tc) ∧ w4.cell? ⟨wr.heap.size, 2, none⟩ = some (.slice Ak.ga r.got.length Ak.gc) ∧ w4.cell? ⟨wr.heap.size, 3, none⟩ = some (.slice Ak.sa r.sus.length Ak.sc) ∧ w4.cell? ⟨wr.heap.size, 4, none⟩ = some (.bool r.wed) ∧ w4.cell? ⟨wr.heap.size, 5, none⟩ = some (.bool r.rdy) ∧ w4.cell? ⟨wr.heap.size, 6, none⟩ = some (.int .i64 r.by_) ∧ w4.cell? ⟨wr.heap.size, 7, none⟩ = some (.slice Ak.ma r.trm.length Ak.mc) := by
          obtain ⟨_, x0, x1, x2, x3, x4, x5, x6, x7⟩ := KS W5 (Below.refl _ _)
          have t : ∀ {j v}, W5.cell? ⟨wr.heap.size, j, none⟩ = some v → w4.cell? ⟨wr.heap.size, j, none⟩ = some v := fun {j v} h => (World.cell?_of_block (hW4.block wr.heap.size hrb (fun hb => hpl _ hb rfl))).trans h
          exact ⟨q1, t x0, t x1, t x2, t x3, t x4, t x5, t x6, t x7⟩
        refine hK.out _ _ hk9 (fun hHeldN => ?_)
        clear hK hHeld
        have hHeld := hHeldN
        try simp only [Act.put, List.setIfInBounds_toArray, List.set_cons_zero, List.set_cons_succ]
        refine gt_one (i := 7) rfl (by kernel_rfl) (by kernel_rfl) (fun K hK => ?_)
        go_simp
        refine hK.out _ _ hk9 (fun hHeldN => ?_)
        clear hK hHeld
        have hHeld := hHeldN
        try simp only [Act.put, List.setIfInBounds_toArray, List.set_cons_zero, List.set_cons_succ]
        refine gt_one (i := 8) rfl (by kernel_rfl) (by kernel_rfl) (fun K hK => ?_)
        go_simp
        refine hK.out _ _ hk9 (fun hHeldN => ?_)
        clear hK hHeld
        have hHeld := hHeldN
        try simp only [Act.put, List.setIfInBounds_toArray, List.set_cons_zero, List.set_cons_succ]
        refine gt_last rfl (by kernel_rfl) (by kernel_rfl) (fun K hK => ?_)
        go_simp
        refine hK.out _ _ ?_
        have HI9 : Hid (IO w (w4.setCell ⟨o, 1, none⟩ (.slice a9 (R.length + 1) c9)) o ⟨a9, c9, A2.sa, A2.sc⟩ { m with rows := R ++ [r] } fp9) := hI9
        have hbw : Below (w.heap.size + 2) wr (w4.setCell ⟨o, 1, none⟩ (.slice a9 (R.length + 1) c9)) := (HBa.out.mono (Nat.succ_le_of_lt HRs.out.lt)).trans b5
        have HP9 : Hid (Bx (w4.setCell ⟨o, 1, none⟩ (.slice a9 (R.length + 1) c9)) w.heap.size 27 #[.int .i64 m.id, .int .i64 m.n, .slice A.ra m.rows.length A.rc, .slice A.sa m.sung.length A.sc, .bool m.done]) := (hbw.block w.heap.size (Nat.lt_add_of_pos_right (Nat.succ_pos 1))).trans HPm.out
        have HR9 : Hid (Bx (w4.setCell ⟨o, 1, none⟩ (.slice a9 (R.length + 1) c9)) (w.heap.size + 1) 107 #[.int .i64 0, .slice none 0 0, .slice none 0 0, .bool false]) := (hbw.block (w.heap.size + 1) (Nat.lt_succ_self _)).trans HRs.out
        clear hI9 hA hr1 hr2 hr3 hHeld hK hk9 hW4 b5 hbw KS
        generalize w4.setCell ⟨o, 1, none⟩ (.slice a9 (R.length + 1) c9) = W9 at *
        go_wp2
        go_roundw
        case rel => exact ⟨k + 1, _, _, fp9, by omega, by go_num, HRk.out, HI9.out, by rw [← hra]; exact HP9.out, HR9.out⟩
        case measure => simp [intOf]; omega
      · have k1 : ¬ ((k : Int) < (m.rows.length : Int)) := by omega
        have eR : R = m.rows := by rw [hR.out, show k = m.rows.length by omega, List.take_length]
        subst eR
        have hown : Bx wr o 107 #[.int .i64 m.id, .slice A2.ra m.rows.length A2.rc, .slice A2.sa m.sung.length A2.sc, .bool m.done] := hI.own
        obtain ⟨x0, x1, x2, x3⟩ := Bx.r4 hown
        obtain ⟨z0, z1, z2, z3⟩ := Bx.r4 hRes
        have y0 := hRes.f 0
        have y1 := hRes.f 1
        have y2 := hRes.f 2
        have y3 := hRes.f 3
        have HN : Hid (∀ {z0 z1 z2 z3 : Value}, NewL w ((((wr.setCell ⟨w.heap.size + 1, 0, none⟩ z0).setCell ⟨w.heap.size + 1, 1, none⟩ z1).setCell ⟨w.heap.size + 1, 2, none⟩ z2).setCell ⟨w.heap.size + 1, 3, none⟩ z3) (mbCels m) (mbVals A2 m)) := fun {z0 z1 z2 z3} => ⟨fp, owL_wrt hI.ls (wrt4 wr (w.heap.size + 1)) (fun b hb e => by have := hI.fpl b hb; omega), fun b hb => by have := hI.fpl b hb; omega, (wrt4 wr (w.heap.size + 1)).below hI.below hI.below.size (fun b e => by omega)⟩
        clear hI hP hRes hown hR HI HPm HRs
        go_wp2
        refine bodyPost_ret (v := imV A2 m) (by simp [results, Tryz.results89, go_sem, imV, imC, *]) rfl ?_
        exact ⟨_, rfl, HN.out⟩
end Go.Proofs.YtgfeabgmllkdeaaGreat

/-
  The program's left; newVer.
-/
namespace Go.Proofs.YtgfeabgmllkdeaaGreat
set_option linter.unusedVariables false
set_option linter.unusedSimpArgs false
open Go.RowKit Go.Sort

end Go.Proofs.YtgfeabgmllkdeaaGreat

/-
  The program's told and worked.
-/
namespace Go.Proofs.YtgfeabgmllkdeaaGreat
set_option linter.unusedVariables false
set_option linter.unusedSimpArgs false
open Go.RowKit Go.Sort

theorem ow_mb4 {w : World} {A : Ma} {m : Mb} {f : Fp} (h : owL w (mbCels m) (mbVals A m) f) : owL w (mb4 m) (imC A m).toList f := by
  obtain ⟨u1, us1, f1, g1, e1, o1, h2, d1, i1⟩ := h
  cases e1
  obtain ⟨u2, us2, f2, g2, e2, o2, h3, d2, i2⟩ := h2
  cases e2
  exact owL_v ⟨_, _, f1, g1, rfl, o1, ⟨_, _, f2, g2, rfl, o2, owL_v h3, d2, i2⟩, d1, i1⟩
theorem mb4_ow {w : World} {m : Mb} {us : List Value} {f : Fp} (h : owL w (mb4 m) us f) : ∃ A : Ma, us = (imC A m).toList ∧ owL w (mbCels m) (mbVals A m) f := by
  obtain ⟨us0, rfl, hq1⟩ := owL_v' h
  obtain ⟨u1, us1, f1, g1, rfl, o1, h2, d1, i1⟩ := hq1
  obtain ⟨u2, us2, f2, g2, rfl, o2, h3, d2, i2⟩ := h2
  obtain ⟨us4, rfl, ⟨rfl, h4⟩⟩ := owL_v' h3
  have o1' := o1
  obtain ⟨ra, rc, _, _, _, rfl, _⟩ := o1'
  obtain ⟨sa, sc, _, rfl, _⟩ := ow_icl.1 o2
  exact ⟨⟨ra, rc, sa, sc⟩, rfl, ⟨_, _, f1, g1, rfl, o1, ⟨_, _, f2, g2, rfl, o2, ⟨rfl, h4⟩, d2, i2⟩, d1, i1⟩⟩
/-- The cells of a member in a box. -/
theorem Plc.c4 {w : World} {B : Nat} {m : Mb} {f : Fp} (h : Plc w B 0 (mb4 m) f) : ∃ A : Ma, C4 w B (.int .i64 m.id) (.slice A.ra m.rows.length A.rc) (.slice A.sa m.sung.length A.sc) (.bool m.done) ∧ (w.frozen? ⟨B, 0, none⟩ = false ∧ w.frozen? ⟨B, 1, none⟩ = false ∧ w.frozen? ⟨B, 2, none⟩ = false ∧ w.frozen? ⟨B, 3, none⟩ = false) ∧ owL w (mbCels m) (mbVals A m) f := by
  obtain ⟨vs, hpc, hov, _⟩ := h
  obtain ⟨A, rfl, hl⟩ := mb4_ow hov
  have hl4 : (imC A m).toList.length = 4 := rfl
  have c := hpc.cell
  have f := hpc.free
  exact ⟨A, ⟨c 0 (by rw [hl4]; omega), c 1 (by rw [hl4]; omega), c 2 (by rw [hl4]; omega), c 3 (by rw [hl4]; omega)⟩, ⟨f 0 (by rw [hl4]; omega), f 1 (by rw [hl4]; omega), f 2 (by rw [hl4]; omega), f 3 (by rw [hl4]; omega)⟩, hl⟩
theorem ibox_plc {w : World} {B : Nat} {T : TypeId} {A : Ma} {m : Mb} {fp : Fp} (h : Bx w B T (imC A m)) (hl : owL w (mbCels m) (mbVals A m) fp) (hB : ¬ fp B) : Plc w B 0 (mb4 m) fp := ⟨_, h.pc, ow_mb4 hl, hB⟩
set_option maxRecDepth 100000 in
set_option maxHeartbeats 800000 in
theorem tol_any (A : Ma) (m : Mb) (w : World) (hn : m.n = (m.rows.length : Int)) :
    Calls Tryz.prog 92 #[imV A m] w fun e w' => e = .returned (mbV A m) ∧ Below w.heap.size w w' := by
  have hmix := mixed17
  have hb1 := oneA16 w (.cells #[.int .i64 m.id, .slice A.ra m.rows.length A.rc, .slice A.sa m.sung.length A.sc, .bool m.done] 107)
  have hb2 := oneA16 (w.alloc (.cells #[.int .i64 m.id, .slice A.ra m.rows.length A.rc, .slice A.sa m.sung.length A.sc, .bool m.done] 107)) (.cells #[.int .i64 0, .int .i64 0, .slice none 0 0, .slice none 0 0, .bool false] 27)
  have hx1 : Bx ((w.alloc (.cells #[.int .i64 m.id, .slice A.ra m.rows.length A.rc, .slice A.sa m.sung.length A.sc, .bool m.done] 107)).alloc (.cells #[.int .i64 0, .int .i64 0, .slice none 0 0, .slice none 0 0, .bool false] 27)) w.heap.size 107 #[.int .i64 m.id, .slice A.ra m.rows.length A.rc, .slice A.sa m.sung.length A.sc, .bool m.done] := (Bx.new w _ _).alloc _
  have hx2 : Bx ((w.alloc (.cells #[.int .i64 m.id, .slice A.ra m.rows.length A.rc, .slice A.sa m.sung.length A.sc, .bool m.done] 107)).alloc (.cells #[.int .i64 0, .int .i64 0, .slice none 0 0, .slice none 0 0, .bool false] 27)) (w.heap.size + 1) 27 #[.int .i64 0, .int .i64 0, .slice none 0 0, .slice none 0 0, .bool false] := by
    have := Bx.new (w.alloc (.cells #[.int .i64 m.id, .slice A.ra m.rows.length A.rc, .slice A.sa m.sung.length A.sc, .bool m.done] 107)) 27 #[.int .i64 0, .int .i64 0, .slice none 0 0, .slice none 0 0, .bool false]
    simp only [World.size_alloc] at this
    exact this
  have hb12 : Below w.heap.size w ((w.alloc (.cells #[.int .i64 m.id, .slice A.ra m.rows.length A.rc, .slice A.sa m.sung.length A.sc, .bool m.done] 107)).alloc (.cells #[.int .i64 0, .int .i64 0, .slice none 0 0, .slice none 0 0, .bool false] 27)) := hb1.trans (hb2.mono hb1.size)
  unfold imV imC
  have HX2 : Hid (Bx ((w.alloc (.cells #[.int .i64 m.id, .slice A.ra m.rows.length A.rc, .slice A.sa m.sung.length A.sc, .bool m.done] 107)).alloc (.cells #[.int .i64 0, .int .i64 0, .slice none 0 0, .slice none 0 0, .bool false] 27)) (w.heap.size + 1) 27 #[.int .i64 0, .int .i64 0, .slice none 0 0, .slice none 0 0, .bool false]) := hx2
  have HB : Hid (Below w.heap.size w ((w.alloc (.cells #[.int .i64 m.id, .slice A.ra m.rows.length A.rc, .slice A.sa m.sung.length A.sc, .bool m.done] 107)).alloc (.cells #[.int .i64 0, .int .i64 0, .slice none 0 0, .slice none 0 0, .bool false] 27))) := hb12
  obtain ⟨c0, c1, c2, c3⟩ := Bx.r4 hx1
  have HN : Hid (m.n = (m.rows.length : Int)) := hn
  clear hb1 hb2 hx1 hx2 hb12 hn
  go_enter Tryz.func92, Tryz.ntmps92
  go_upto_region 1 with fail
  generalize ((w.alloc (.cells #[.int .i64 m.id, .slice A.ra m.rows.length A.rc, .slice A.sa m.sung.length A.sc, .bool m.done] 107)).alloc (.cells #[.int .i64 0, .int .i64 0, .slice none 0 0, .slice none 0 0, .bool false] 27)) = W0 at *
  have T : ∀ {x v}, W0.cell? x = some v → ∀ q : Bk W0, q.w.cell? x = some v := fun h q => (q.h.cell (World.block_lt_of_cell? _ _ h)).trans h
  have y0 := T c0
  have y1 := T c1
  have y2 := T c2
  have y3 := T c3
  have hC : ∀ q : Bk W0, Calls Tryz.prog 100 #[.pointer (some ⟨w.heap.size, 0, none⟩)] q.w fun e w' => e = .returned (.int .i64 (m.rows.length : Int)) ∧ Below q.w.heap.size q.w w' := fun q => (cnt_any w.heap.size A.ra m.rows.length A.rc q.w (y1 q)).mono (fun e w' h => ⟨h.1, by rw [h.2]; exact Below.refl _ _⟩)
  clear T c0 c1 c2 c3
  refine wp_region_quiet_tail (C := fun w' => ∃ p : Bk W0, w' = p.w) 13 hmix (by kernel_rfl) ⟨⟨W0.drewN 1, belowN (Below.refl _ _)⟩, rfl⟩ ?_
  simp only [List.take_succ_cons, List.take_zero]
  repeat (go_big_quiet_step ((first | (go_at_call 100; exact bk_call _ (hC _)) | rfl)))
  refine wpQuiet_nil ?_
  intro wE hw'
  obtain ⟨⟨w11, hb11⟩, hw''⟩ := hw'
  have hwe : wE = w11 := hw''
  clear hw''
  subst hwe
  simp only [List.drop_succ_cons, List.drop_zero]
  have hR := HX2.out.below hb11
  have HB1 : Hid (Below w.heap.size w wE) := HB.out.trans (hb11.mono HB.out.size)
  obtain ⟨z0, z1, z2, z3, z4⟩ := Bx.r5 hR
  obtain ⟨f0, f1, f2, f3, f4⟩ := hR.f5
  clear y0 y1 y2 y3 hC hb11 hR HX2
  go_wp2
  refine bodyPost_ret (v := mbV A m) (by simp [results, Tryz.results92, go_sem, mbV, mbC, HN.out, *]) rfl ?_
  exact ⟨rfl, (wrt5 wE (w.heap.size + 1)).below HB1.out HB1.out.size (fun b e => by omega)⟩
set_option maxRecDepth 100000 in
set_option maxHeartbeats 800000 in
/-- What is handed to isAsTold: nothing where it is done, else the work. -/
theorem wk1_any (F : Nat) (C : Array Value) (m : Mb) (B wb : Nat) (fp : Fp) (X : World) (R : Ending → World → Prop) (hE : ∀ (args : Array Value) (w : World), (callFunc F args).run Tryz.prog w = .ok (.enter F args) w) (h : Plc X B 0 (mb4 m) fp) (hw : X.cell? ⟨wb, 0, none⟩ = some (.func (.func F) #[] C))
    (hF : m.done = false → Calls Tryz.prog F (#[.pointer (some ⟨B, 0, none⟩)] ++ C) X R) (hD : m.done = true → ∀ e, Gu e → R e X) (hR : ∀ e w', R e w' → e = .returned (.tuple #[]) ∨ Gu e) :
    Calls Tryz.prog 90 #[.pointer (some ⟨B, 0, none⟩), .pointer (some ⟨wb, 0, none⟩)] X R := by
  obtain ⟨A, ⟨c0, c1, c2, c3⟩, _, _⟩ := h.c4
  cases hd : m.done with
  | true =>
    have HD : Hid (∀ e, Gu e → R e X) := hD hd
    rw [hd] at c3
    clear hD hF hd h hR
    go_enter Tryz.func90, Tryz.ntmps90
    go_wp2_with (go_at_call 91; refine (wantF _).mono ?_; rintro e w' ⟨⟨T, v, rfl⟩, hw'⟩; rw [hw']; clear hw')
    exact ⟨rfl, HD.out _ ⟨_, _, rfl⟩⟩
  | false =>
    have hFF := hF hd
    rw [hd] at c3
    have HR : Hid (∀ e w', R e w' → e = .returned (.tuple #[]) ∨ Gu e) := hR
    clear hD hF hd h hR
    go_enter Tryz.func90, Tryz.ntmps90
    go_wp2_with (go_at_call 91; refine (wantT _).mono ?_; rintro e w' ⟨rfl, hw'⟩; rw [hw']; clear hw')
    refine hFF.mono ?_
    intro e w1 hRe
    rcases HR.out e w1 hRe with rfl | ⟨T, v, rfl⟩
    · have HRe : Hid (R (.returned (.tuple #[])) w1) := hRe
      clear hRe hFF c0 c1 c2 c3
      go_wp2
      first | go_end0 | go_ret
      exact HRe.out
    · exact ⟨rfl, hRe⟩
end Go.Proofs.YtgfeabgmllkdeaaGreat

/-
  The program's worked: a work on a copy, and the copy anew where the work gave up.
-/
namespace Go.Proofs.YtgfeabgmllkdeaaGreat
set_option linter.unusedVariables false
set_option linter.unusedSimpArgs false
open Go.RowKit Go.Sort

def wkdM (m m' : Mb) (flag : Bool) : Mb × Bool := if okMb m = true then (if m.done = true then (m, false) else if flag = true then (m', true) else (m, false)) else (zeroMb, false)
/-- How the work ends. -/
def WkR (X : World) (B : Nat) (fp : Fp) (m' : Mb) (b : Bool) (w' : World) : Prop := if b = true then Bcm X w' B 0 (mb4 m') fp else ∃ m1, Bcm X w' B 0 (mb4 m1) fp
theorem WkR.wrt {X w' : World} {B : Nat} {fp : Fp} {m' : Mb} {b : Bool} (h : WkR X B fp m' b w') : Wrt (fun x => fp x ∨ x = B) X w' := by
  unfold WkR at h
  split at h
  · exact h.wrt
  · obtain ⟨m1, h⟩ := h
    exact h.wrt
set_option maxRecDepth 100000 in
set_option maxHeartbeats 1600000 in
theorem wkd_any (F : Nat) (C : Array Value) (A : Ma) (m m' : Mb) (flag : Bool) (w : World) (hv : MbP w A m) (hE : ∀ (args : Array Value) (w : World), (callFunc F args).run Tryz.prog w = .ok (.enter F args) w)
    (hm' : okMb m = true → flag = true → m'.n = (m'.rows.length : Int))
    (hF : ∀ X B fp i n, Below w.heap.size w X → Plc X B 0 (mb4 m) fp → OkM m i n → m.done = false → Calls Tryz.prog F (#[.pointer (some ⟨B, 0, none⟩)] ++ C) X fun e w' => (flag = true ∧ e = .returned (.tuple #[]) ∧ Bcm X w' B 0 (mb4 m') fp) ∨ (flag = false ∧ Gu e ∧ ∃ m1, Bcm X w' B 0 (mb4 m1) fp)) :
    Calls Tryz.prog 46 #[mbV A m, .func (.func F) #[] C] w fun e w' => AnsMf w w' e (wkdM m m' flag).1 (wkdM m m' flag).2 := by
  have hmf : ∀ (fn : Fn) (first cap : Array Value) (w : World), (Instr.makeFunc fn first cap).run Tryz.prog w = .ok (.func fn first cap) w := fun _ _ _ _ => rfl
  have hb1 := oneA16 w (.cells #[.int .i64 m.id, .int .i64 m.n, .slice A.ra m.rows.length A.rc, .slice A.sa m.sung.length A.sc, .bool m.done] 27)
  have hb2 := oneA16 (w.alloc (.cells #[.int .i64 m.id, .int .i64 m.n, .slice A.ra m.rows.length A.rc, .slice A.sa m.sung.length A.sc, .bool m.done] 27)) (.cells #[.func (.func F) #[] C] 72)
  have hb3 := oneA16 ((w.alloc (.cells #[.int .i64 m.id, .int .i64 m.n, .slice A.ra m.rows.length A.rc, .slice A.sa m.sung.length A.sc, .bool m.done] 27)).alloc (.cells #[.func (.func F) #[] C] 72)) (.cells #[.int .i64 0, .int .i64 0, .slice none 0 0, .slice none 0 0, .bool false] 27)
  have hx1 : Bx (((w.alloc (.cells #[.int .i64 m.id, .int .i64 m.n, .slice A.ra m.rows.length A.rc, .slice A.sa m.sung.length A.sc, .bool m.done] 27)).alloc (.cells #[.func (.func F) #[] C] 72)).alloc (.cells #[.int .i64 0, .int .i64 0, .slice none 0 0, .slice none 0 0, .bool false] 27)) w.heap.size 27 #[.int .i64 m.id, .int .i64 m.n, .slice A.ra m.rows.length A.rc, .slice A.sa m.sung.length A.sc, .bool m.done] := ((Bx.new w _ _).alloc _).alloc _
  have hx2 : Bx (((w.alloc (.cells #[.int .i64 m.id, .int .i64 m.n, .slice A.ra m.rows.length A.rc, .slice A.sa m.sung.length A.sc, .bool m.done] 27)).alloc (.cells #[.func (.func F) #[] C] 72)).alloc (.cells #[.int .i64 0, .int .i64 0, .slice none 0 0, .slice none 0 0, .bool false] 27)) (w.heap.size + 1) 72 #[.func (.func F) #[] C] := by
    have := (Bx.new (w.alloc (.cells #[.int .i64 m.id, .int .i64 m.n, .slice A.ra m.rows.length A.rc, .slice A.sa m.sung.length A.sc, .bool m.done] 27)) 72 #[.func (.func F) #[] C]).alloc (.cells #[.int .i64 0, .int .i64 0, .slice none 0 0, .slice none 0 0, .bool false] 27)
    simp only [World.size_alloc] at this
    exact this
  have hx3 : Bx (((w.alloc (.cells #[.int .i64 m.id, .int .i64 m.n, .slice A.ra m.rows.length A.rc, .slice A.sa m.sung.length A.sc, .bool m.done] 27)).alloc (.cells #[.func (.func F) #[] C] 72)).alloc (.cells #[.int .i64 0, .int .i64 0, .slice none 0 0, .slice none 0 0, .bool false] 27)) (w.heap.size + 1 + 1) 27 #[.int .i64 0, .int .i64 0, .slice none 0 0, .slice none 0 0, .bool false] := by
    have := Bx.new ((w.alloc (.cells #[.int .i64 m.id, .int .i64 m.n, .slice A.ra m.rows.length A.rc, .slice A.sa m.sung.length A.sc, .bool m.done] 27)).alloc (.cells #[.func (.func F) #[] C] 72)) 27 #[.int .i64 0, .int .i64 0, .slice none 0 0, .slice none 0 0, .bool false]
    simp only [World.size_alloc] at this
    exact this
  have hb12 := hb1.trans (hb2.mono hb1.size)
  have hb13 : Below w.heap.size w (((w.alloc (.cells #[.int .i64 m.id, .int .i64 m.n, .slice A.ra m.rows.length A.rc, .slice A.sa m.sung.length A.sc, .bool m.done] 27)).alloc (.cells #[.func (.func F) #[] C] 72)).alloc (.cells #[.int .i64 0, .int .i64 0, .slice none 0 0, .slice none 0 0, .bool false] 27)) := hb12.trans (hb3.mono hb12.size)
  have hM0 := memI_any A m (((w.alloc (.cells #[.int .i64 m.id, .int .i64 m.n, .slice A.ra m.rows.length A.rc, .slice A.sa m.sung.length A.sc, .bool m.done] 27)).alloc (.cells #[.func (.func F) #[] C] 72)).alloc (.cells #[.int .i64 0, .int .i64 0, .slice none 0 0, .slice none 0 0, .bool false] 27)) (hv.below hb13)
  unfold mbV mbC at *
  have HX1 : Hid (Bx (((w.alloc (.cells #[.int .i64 m.id, .int .i64 m.n, .slice A.ra m.rows.length A.rc, .slice A.sa m.sung.length A.sc, .bool m.done] 27)).alloc (.cells #[.func (.func F) #[] C] 72)).alloc (.cells #[.int .i64 0, .int .i64 0, .slice none 0 0, .slice none 0 0, .bool false] 27)) w.heap.size 27 #[.int .i64 m.id, .int .i64 m.n, .slice A.ra m.rows.length A.rc, .slice A.sa m.sung.length A.sc, .bool m.done]) := hx1
  have HX2 : Hid (Bx (((w.alloc (.cells #[.int .i64 m.id, .int .i64 m.n, .slice A.ra m.rows.length A.rc, .slice A.sa m.sung.length A.sc, .bool m.done] 27)).alloc (.cells #[.func (.func F) #[] C] 72)).alloc (.cells #[.int .i64 0, .int .i64 0, .slice none 0 0, .slice none 0 0, .bool false] 27)) (w.heap.size + 1) 72 #[.func (.func F) #[] C]) := hx2
  have HX3 : Hid (Bx (((w.alloc (.cells #[.int .i64 m.id, .int .i64 m.n, .slice A.ra m.rows.length A.rc, .slice A.sa m.sung.length A.sc, .bool m.done] 27)).alloc (.cells #[.func (.func F) #[] C] 72)).alloc (.cells #[.int .i64 0, .int .i64 0, .slice none 0 0, .slice none 0 0, .bool false] 27)) (w.heap.size + 1 + 1) 27 #[.int .i64 0, .int .i64 0, .slice none 0 0, .slice none 0 0, .bool false]) := hx3
  have HB0 : Hid (Below w.heap.size w (((w.alloc (.cells #[.int .i64 m.id, .int .i64 m.n, .slice A.ra m.rows.length A.rc, .slice A.sa m.sung.length A.sc, .bool m.done] 27)).alloc (.cells #[.func (.func F) #[] C] 72)).alloc (.cells #[.int .i64 0, .int .i64 0, .slice none 0 0, .slice none 0 0, .bool false] 27))) := hb13
  have HV : Hid (MbP w A m) := hv
  obtain ⟨c0, c1, c2, c3, c4⟩ := Bx.r5 hx1
  clear hb1 hb2 hb3 hx1 hx2 hx3 hb12 hb13 hv
  cases hok : okMb m with
  | false =>
    have HZ : Hid (wkdM m m' flag = (zeroMb, false)) := by rw [Hid, wkdM, if_neg (by rw [hok]; decide)]
    rw [hok] at hM0
    clear hok hm' hF
    go_enter Tryz.func46, Tryz.ntmps46
    go_wp2_with fail
    generalize (((w.alloc (.cells #[.int .i64 m.id, .int .i64 m.n, .slice A.ra m.rows.length A.rc, .slice A.sa m.sung.length A.sc, .bool m.done] 27)).alloc (.cells #[.func (.func F) #[] C] 72)).alloc (.cells #[.int .i64 0, .int .i64 0, .slice none 0 0, .slice none 0 0, .bool false] 27)) = W0 at *
    refine hM0.mono ?_
    rintro e w1 ⟨rfl, hb1⟩
    have hR := HX3.out.below hb1
    have HB1 : Hid (Below w.heap.size w w1) := HB0.out.trans (hb1.mono HB0.out.size)
    obtain ⟨z0, z1, z2, z3, z4⟩ := Bx.r5 hR
    obtain ⟨f0, f1, f2, f3, f4⟩ := hR.f5
    clear hR hb1 c0 c1 c2 c3 c4 hM0
    go_wp2
    refine bodyPost_ret (v := .tuple #[mbV ⟨none, 0, none, 0⟩ zeroMb, .bool false]) (by simp [results, Tryz.results46, go_sem, mbV, mbC, zeroMb, *]) rfl ?_
    rw [HZ.out]
    exact ⟨_, rfl, ansM_zero ((wrt5 w1 (w.heap.size + 1 + 1)).below HB1.out HB1.out.size (fun b h => by omega))⟩
  | true =>
  obtain ⟨i, n, ok⟩ := okMb_iff.1 hok
  have HZ : Hid (wkdM m m' flag = if m.done = true then (m, false) else if flag = true then (m', true) else (m, false)) := by rw [Hid, wkdM, if_pos hok]
  have HM' : Hid (flag = true → m'.n = (m'.rows.length : Int)) := hm' hok
  have HMn : Hid (m.n = (m.rows.length : Int)) := by rw [Hid, ok.hn, ok.len]
  rw [hok] at hM0
  have HF : Hid (∀ X B fp i n, Below w.heap.size w X → Plc X B 0 (mb4 m) fp → OkM m i n → m.done = false → Calls Tryz.prog F (#[.pointer (some ⟨B, 0, none⟩)] ++ C) X fun e w' => (flag = true ∧ e = .returned (.tuple #[]) ∧ Bcm X w' B 0 (mb4 m') fp) ∨ (flag = false ∧ Gu e ∧ ∃ m1, Bcm X w' B 0 (mb4 m1) fp)) := hF
  clear hok hm' hF
  go_enter Tryz.func46, Tryz.ntmps46
  go_wp2_with fail
  generalize (((w.alloc (.cells #[.int .i64 m.id, .int .i64 m.n, .slice A.ra m.rows.length A.rc, .slice A.sa m.sung.length A.sc, .bool m.done] 27)).alloc (.cells #[.func (.func F) #[] C] 72)).alloc (.cells #[.int .i64 0, .int .i64 0, .slice none 0 0, .slice none 0 0, .bool false] 27)) = W0 at *
  refine hM0.mono ?_
  rintro e w1 ⟨rfl, hb1⟩
  have HB1 : Hid (Below w.heap.size w w1) := HB0.out.trans (hb1.mono HB0.out.size)
  have HY1 : Hid (Bx w1 w.heap.size 27 #[.int .i64 m.id, .int .i64 m.n, .slice A.ra m.rows.length A.rc, .slice A.sa m.sung.length A.sc, .bool m.done]) := HX1.out.below hb1
  have HY2 : Hid (Bx w1 (w.heap.size + 1) 72 #[.func (.func F) #[] C]) := HX2.out.below hb1
  have HY3 : Hid (Bx w1 (w.heap.size + 1 + 1) 27 #[.int .i64 0, .int .i64 0, .slice none 0 0, .slice none 0 0, .bool false]) := HX3.out.below hb1
  clear hb1 c0 c1 c2 c3 c4 hM0 HX1 HX2 HX3 HB0
  have hMo := mof_any A m i n w1 (HV.out.below HB1.out) ok
  unfold mbV mbC at hMo
  obtain ⟨c0, c1, c2, c3, c4⟩ := Bx.r5 HY1.out
  go_wp2_with fail
  refine hMo.mono ?_
  rintro e w2 ⟨A2, rfl, fp, hl2, hf2, hb2⟩
  unfold imV imC
  have HB2 : Hid (Below w.heap.size w w2) := HB1.out.trans (hb2.mono HB1.out.size)
  have HZ1 : Hid (Bx w2 w.heap.size 27 #[.int .i64 m.id, .int .i64 m.n, .slice A.ra m.rows.length A.rc, .slice A.sa m.sung.length A.sc, .bool m.done]) := HY1.out.below hb2
  have HZ2 : Hid (Bx w2 (w.heap.size + 1) 72 #[.func (.func F) #[] C]) := HY2.out.below hb2
  have HZ3 : Hid (Bx w2 (w.heap.size + 1 + 1) 27 #[.int .i64 0, .int .i64 0, .slice none 0 0, .slice none 0 0, .bool false]) := HY3.out.below hb2
  have hlt2 := owL_lt hl2
  have hw1 := HY3.out.lt
  have hs2 := hb2.size
  clear c0 c1 c2 c3 c4 hMo
  -- the copy lies in a box of its own
  have hba := oneA16 w2 (.cells #[.int .i64 m.id, .slice A2.ra m.rows.length A2.rc, .slice A2.sa m.sung.length A2.sc, .bool m.done] 107)
  have hxb := Bx.new w2 107 #[.int .i64 m.id, .slice A2.ra m.rows.length A2.rc, .slice A2.sa m.sung.length A2.sc, .bool m.done]
  have hP3 : Plc (w2.alloc (.cells #[.int .i64 m.id, .slice A2.ra m.rows.length A2.rc, .slice A2.sa m.sung.length A2.sc, .bool m.done] 107)) w2.heap.size 0 (mb4 m) fp := ibox_plc hxb (owL_below hl2 hba) (fun k => by have := hlt2 _ k; omega)
  have HB3 : Hid (Below w.heap.size w (w2.alloc (.cells #[.int .i64 m.id, .slice A2.ra m.rows.length A2.rc, .slice A2.sa m.sung.length A2.sc, .bool m.done] 107))) := HB2.out.trans (hba.mono HB2.out.size)
  have HU1 : Hid (Bx (w2.alloc (.cells #[.int .i64 m.id, .slice A2.ra m.rows.length A2.rc, .slice A2.sa m.sung.length A2.sc, .bool m.done] 107)) w.heap.size 27 #[.int .i64 m.id, .int .i64 m.n, .slice A.ra m.rows.length A.rc, .slice A.sa m.sung.length A.sc, .bool m.done]) := HZ1.out.below hba
  have HU2 : Hid (Bx (w2.alloc (.cells #[.int .i64 m.id, .slice A2.ra m.rows.length A2.rc, .slice A2.sa m.sung.length A2.sc, .bool m.done] 107)) (w.heap.size + 1) 72 #[.func (.func F) #[] C]) := HZ2.out.below hba
  have HU3 : Hid (Bx (w2.alloc (.cells #[.int .i64 m.id, .slice A2.ra m.rows.length A2.rc, .slice A2.sa m.sung.length A2.sc, .bool m.done] 107)) (w.heap.size + 1 + 1) 27 #[.int .i64 0, .int .i64 0, .slice none 0 0, .slice none 0 0, .bool false]) := HZ3.out.below hba
  have hB3 : w2.heap.size < (w2.alloc (.cells #[.int .i64 m.id, .slice A2.ra m.rows.length A2.rc, .slice A2.sa m.sung.length A2.sc, .bool m.done] 107)).heap.size := hxb.lt
  have hfl : ∀ b, fp b → w.heap.size + 1 + 1 < b ∧ b < w2.heap.size := fun b hb => ⟨by have := hf2 b hb; omega, hlt2 b hb⟩
  clear hxb hl2 hf2 hlt2 hb2 hba HY1 HY2 HY3 HZ1 HZ2 HZ3
  go_upto_region 4 with fail
  generalize w2.alloc (.cells #[.int .i64 m.id, .slice A2.ra m.rows.length A2.rc, .slice A2.sa m.sung.length A2.sc, .bool m.done] 107) = V3 at *
  generalize w2.heap.size = B at *
  have hbt := oneA16 V3 (.cells #[.bool false] 4)
  have hP4 := hP3.below hbt
  have hB4 : Below w.heap.size w (V3.alloc (.cells #[.bool false] 4)) := HB3.out.trans (hbt.mono HB3.out.size)
  have hw4 := (HU2.out.below hbt).at 0 (v := .func (.func F) #[] C) rfl
  have hsz4 : V3.heap.size < (V3.alloc (.cells #[.bool false] 4)).heap.size := (Bx.new V3 4 #[.bool false]).lt
  have hT := told_any 90 #[] #[.pointer (some ⟨B, 0, none⟩), .pointer (some ⟨w.heap.size + 1, 0, none⟩)] V3 (fun b X => b = (!m.done && flag) ∧ WkR (V3.alloc (.cells #[.bool false] 4)) B fp m' b X) (fun _ _ => enters_of Tryz.func90 (by kernel_rfl) rfl _ _)
    ((wk1_any F C m B (w.heap.size + 1) fp _ (fun e w' => (m.done = false ∧ flag = true ∧ e = .returned (.tuple #[]) ∧ Bcm (V3.alloc (.cells #[.bool false] 4)) w' B 0 (mb4 m') fp) ∨ ((m.done = true ∨ flag = false) ∧ Gu e ∧ ∃ m1, Bcm (V3.alloc (.cells #[.bool false] 4)) w' B 0 (mb4 m1) fp)) hE hP4 hw4 (fun hd => (HF.out _ B fp i n hB4 hP4 ok hd).mono (fun e w' h => by
      rcases h with ⟨h1, h2, h3⟩ | ⟨h1, h2, h3⟩
      · exact .inl ⟨hd, h1, h2, h3⟩
      · exact .inr ⟨.inr h1, h2, h3⟩)) (fun hd e hg => .inr ⟨.inl hd, hg, m, Bcm.refl hP4⟩) (fun e w' h => by
      rcases h with ⟨_, _, h, _⟩ | ⟨_, h, _⟩
      · exact .inl h
      · exact .inr h)).mono (fun e w' h => by
      rcases h with ⟨h1, h2, h3, h4⟩ | ⟨h1, h2, h3⟩
      · exact .inl ⟨h3, by rw [h1, h2]; rfl, by unfold WkR; rw [if_pos rfl]; exact h4⟩
      · refine .inr ⟨h2, ?_, by unfold WkR; rw [if_neg (by decide)]; exact h3⟩
        rcases h1 with h1 | h1 <;> rw [h1] <;> simp)) (fun b X h => (Bx.new V3 4 #[.bool false]).wrt h.2.wrt (fun k => by rcases k with k | k; have := hfl _ k; omega; omega))
  clear hP3 hbt hP4 hB4 hw4
  have HU1' := HU1
  go_wp2_with fail
  refine hT.mono ?_
  rintro e Y ⟨b, X, rfl, ⟨hbv, hWk⟩, hWt⟩
  have hWX := hWk.wrt
  have hX0 : Below w.heap.size w (V3.alloc (.cells #[.bool false] 4)) := HB3.out.trans ((oneA16 V3 _).mono HB3.out.size)
  have hBX : Below w.heap.size w X := hWX.below hX0 hX0.size (fun x hx => by rcases hx with hx | hx; have := hfl x hx; omega; omega)
  have hBY : Below w.heap.size w Y := hWt.below hBX hBX.size (fun x hx => by have := HB3.out.size; omega)
  have keep : ∀ {k : Nat} {T : TypeId} {cs : Array Value}, k < w.heap.size + 1 + 1 + 1 → Bx V3 k T cs → Bx Y k T cs := fun {k T cs} hk hx => ((hx.alloc (.cells #[.bool false] 4)).wrt hWX (fun kk => by rcases kk with kk | kk; have := hfl _ kk; omega; omega)).wrt hWt (fun kk => by omega)
  have HT1 : Hid (Bx Y w.heap.size 27 #[.int .i64 m.id, .int .i64 m.n, .slice A.ra m.rows.length A.rc, .slice A.sa m.sung.length A.sc, .bool m.done]) := keep (by omega) HU1.out
  have HT3 : Hid (Bx Y (w.heap.size + 1 + 1) 27 #[.int .i64 0, .int .i64 0, .slice none 0 0, .slice none 0 0, .bool false]) := keep (by omega) HU3.out
  have hsz : (V3.alloc (.cells #[.bool false] 4)).heap.size = V3.heap.size + 1 := World.size_alloc _ _
  have hpl : ∃ (mm : Mb) (fp1 : Fp), Plc Y B 0 (mb4 mm) fp1 ∧ (∀ x, fp1 x → w.heap.size + 1 + 1 < x) ∧ (b = true → mm = m') := by
    have key : ∀ mm, Bcm (V3.alloc (.cells #[.bool false] 4)) X B 0 (mb4 mm) fp → ∃ fp1, Plc Y B 0 (mb4 mm) fp1 ∧ ∀ x, fp1 x → w.heap.size + 1 + 1 < x := fun mm hb => by
      obtain ⟨fp1, h1, h2⟩ := hb.plc
      have h3 : ∀ x, fp1 x → w.heap.size + 1 + 1 < x ∧ x ≠ V3.heap.size := fun x hx => by
        rcases h2 x hx with k | k
        · have := hfl x k; omega
        · have := HB3.out.size; omega
      exact ⟨fp1, h1.wrt hWt (fun x hx e => by rcases hx with hx | hx; exact (h3 x hx).2 e; omega), fun x hx => (h3 x hx).1⟩
    unfold WkR at hWk
    cases b with
    | true =>
      rw [if_pos rfl] at hWk
      obtain ⟨fp1, h1, h2⟩ := key m' hWk
      exact ⟨m', fp1, h1, h2, fun _ => rfl⟩
    | false =>
      rw [if_neg (by decide)] at hWk
      obtain ⟨m1, hWk⟩ := hWk
      obtain ⟨fp1, h1, h2⟩ := key m1 hWk
      exact ⟨m1, fp1, h1, h2, fun h => by cases h⟩
  obtain ⟨mm, fp1, hPY, hf1, hmm⟩ := hpl
  have HBY : Hid (Below w.heap.size w Y) := hBY
  have hBl := hPY.lt
  obtain ⟨A3, ⟨y0, y1, y2, y3⟩, ⟨q0, q1, q2, q3⟩, hl3⟩ := hPY.c4
  clear hT hWk hWX hX0 hBX hBY keep hWt HU1 HU1' HU2 HU3 hPY hsz
  cases b with
  | true =>
    have hmm' := hmm rfl
    subst hmm'
    have hdf : m.done = false ∧ flag = true := by
      cases hd : m.done <;> cases hf : flag <;> rw [hd, hf] at hbv <;> simp at hbv ⊢
    have HZf : Hid (wkdM m mm flag = (mm, true)) := by rw [Hid, HZ.out, if_neg (by rw [hdf.1]; decide), if_pos hdf.2]
    have hTo := tol_any A3 mm Y (HM'.out hdf.2)
    unfold imV imC at hTo
    clear hmm hbv hdf q0 q1 q2 q3
    go_wp2_with fail
    refine hTo.mono ?_
    rintro e Y2 ⟨rfl, hb2⟩
    have hR := HT3.out.below hb2
    have HN : Hid (∀ {z0 z1 z2 z3 z4 : Value}, NewL w (((((Y2.setCell ⟨w.heap.size + 1 + 1, 0, none⟩ z0).setCell ⟨w.heap.size + 1 + 1, 1, none⟩ z1).setCell ⟨w.heap.size + 1 + 1, 2, none⟩ z2).setCell ⟨w.heap.size + 1 + 1, 3, none⟩ z3).setCell ⟨w.heap.size + 1 + 1, 4, none⟩ z4) (mbCels mm) (mbVals A3 mm)) := fun {z0 z1 z2 z3 z4} => by
      have hB2 : Below w.heap.size w Y2 := HBY.out.trans (hb2.mono HBY.out.size)
      exact ⟨fp1, owL_wrt (owL_below hl3 hb2) (wrt5 Y2 (w.heap.size + 1 + 1)) (fun x hx e => by have := hf1 x hx; omega), fun x hx => by have := hf1 x hx; omega, (wrt5 Y2 (w.heap.size + 1 + 1)).below hB2 hB2.size (fun x e => by omega)⟩
    unfold mbV mbC
    obtain ⟨z0, z1, z2, z3, z4⟩ := Bx.r5 hR
    obtain ⟨r0, r1, r2, r3, r4⟩ := hR.f5
    clear hTo hR hb2 hl3 y0 y1 y2 y3
    go_wp2
    refine bodyPost_ret (v := .tuple #[mbV A3 mm, .bool true]) (by simp [results, Tryz.results46, go_sem, mbV, mbC, *]) rfl ?_
    rw [HZf.out]
    exact ⟨_, rfl, HN.out⟩
  | false =>
    have HZf : Hid (wkdM m m' flag = (m, false)) := by
      rw [Hid, HZ.out]
      cases hd : m.done <;> cases hf : flag <;> rw [hd, hf] at hbv <;> simp at hbv ⊢
    have hMo := mof_any A m i n Y (HV.out.below HBY.out) ok
    unfold mbV mbC at hMo
    obtain ⟨c0, c1, c2, c3, c4⟩ := Bx.r5 HT1.out
    have HQ : Hid (∀ Z, Below Y.heap.size Y Z → (∃ v0 v1 v2 v3, Z.cell? ⟨B, 0, none⟩ = some v0 ∧ Z.cell? ⟨B, 1, none⟩ = some v1 ∧ Z.cell? ⟨B, 2, none⟩ = some v2 ∧ Z.cell? ⟨B, 3, none⟩ = some v3) ∧ Z.frozen? ⟨B, 0, none⟩ = false ∧ Z.frozen? ⟨B, 1, none⟩ = false ∧ Z.frozen? ⟨B, 2, none⟩ = false ∧ Z.frozen? ⟨B, 3, none⟩ = false) := fun Z hZ => by
      have e := hZ.block B hBl
      have t : ∀ {j v}, Y.cell? ⟨B, j, none⟩ = some v → Z.cell? ⟨B, j, none⟩ = some v := fun h => (World.cell?_of_block e).trans h
      have u : ∀ {j}, Y.frozen? ⟨B, j, none⟩ = false → Z.frozen? ⟨B, j, none⟩ = false := fun h => by simp only [World.frozen?, e] at h ⊢; exact h
      exact ⟨⟨_, _, _, _, t y0, t y1, t y2, t y3⟩, u q0, u q1, u q2, u q3⟩
    clear hmm hbv q0 q1 q2 q3 y0 y1 y2 y3 hl3
    go_wp2_with fail
    refine hMo.mono ?_
    rintro e Y1 ⟨A4, rfl, fp4, hl4, hf4, hb4⟩
    unfold imV imC
    obtain ⟨⟨v0, v1, v2, v3, g0, g1, g2, g3⟩, p0, p1, p2, p3⟩ := HQ.out Y1 hb4
    have hsY := hb4.size
    have hW4 : Wrt (fun x => x = B) Y1 ((((Y1.setCell ⟨B, 0, none⟩ (.int .i64 m.id)).setCell ⟨B, 1, none⟩ (.slice A4.ra m.rows.length A4.rc)).setCell ⟨B, 2, none⟩ (.slice A4.sa m.sung.length A4.sc)).setCell ⟨B, 3, none⟩ (.bool m.done)) := wrt4 Y1 B
    have hl5 : owL ((((Y1.setCell ⟨B, 0, none⟩ (.int .i64 m.id)).setCell ⟨B, 1, none⟩ (.slice A4.ra m.rows.length A4.rc)).setCell ⟨B, 2, none⟩ (.slice A4.sa m.sung.length A4.sc)).setCell ⟨B, 3, none⟩ (.bool m.done)) (mbCels m) (mbVals A4 m) fp4 := owL_wrt hl4 hW4 (fun x hx e => by have := hf4 x hx; omega)
    have HB5 : Hid (Below w.heap.size w ((((Y1.setCell ⟨B, 0, none⟩ (.int .i64 m.id)).setCell ⟨B, 1, none⟩ (.slice A4.ra m.rows.length A4.rc)).setCell ⟨B, 2, none⟩ (.slice A4.sa m.sung.length A4.sc)).setCell ⟨B, 3, none⟩ (.bool m.done))) := hW4.below (HBY.out.trans (hb4.mono HBY.out.size)) (HBY.out.trans (hb4.mono HBY.out.size)).size (fun x e => by omega)
    have hT5 : Bx ((((Y1.setCell ⟨B, 0, none⟩ (.int .i64 m.id)).setCell ⟨B, 1, none⟩ (.slice A4.ra m.rows.length A4.rc)).setCell ⟨B, 2, none⟩ (.slice A4.sa m.sung.length A4.sc)).setCell ⟨B, 3, none⟩ (.bool m.done)) (w.heap.size + 1 + 1) 27 #[.int .i64 0, .int .i64 0, .slice none 0 0, .slice none 0 0, .bool false] := (HT3.out.below hb4).wrt hW4 (fun e => by omega)
    have HT5 : Hid (Bx ((((Y1.setCell ⟨B, 0, none⟩ (.int .i64 m.id)).setCell ⟨B, 1, none⟩ (.slice A4.ra m.rows.length A4.rc)).setCell ⟨B, 2, none⟩ (.slice A4.sa m.sung.length A4.sc)).setCell ⟨B, 3, none⟩ (.bool m.done)) (w.heap.size + 1 + 1) 27 #[.int .i64 0, .int .i64 0, .slice none 0 0, .slice none 0 0, .bool false]) := hT5
    have HL5 : Hid (owL ((((Y1.setCell ⟨B, 0, none⟩ (.int .i64 m.id)).setCell ⟨B, 1, none⟩ (.slice A4.ra m.rows.length A4.rc)).setCell ⟨B, 2, none⟩ (.slice A4.sa m.sung.length A4.sc)).setCell ⟨B, 3, none⟩ (.bool m.done)) (mbCels m) (mbVals A4 m) fp4) := hl5
    have x0 : ((((Y1.setCell ⟨B, 0, none⟩ (.int .i64 m.id)).setCell ⟨B, 1, none⟩ (.slice A4.ra m.rows.length A4.rc)).setCell ⟨B, 2, none⟩ (.slice A4.sa m.sung.length A4.sc)).setCell ⟨B, 3, none⟩ (.bool m.done)).cell? ⟨B, 0, none⟩ = some (.int .i64 m.id) := by simp [go_sem, g0, g1, g2, g3]
    have x1 : ((((Y1.setCell ⟨B, 0, none⟩ (.int .i64 m.id)).setCell ⟨B, 1, none⟩ (.slice A4.ra m.rows.length A4.rc)).setCell ⟨B, 2, none⟩ (.slice A4.sa m.sung.length A4.sc)).setCell ⟨B, 3, none⟩ (.bool m.done)).cell? ⟨B, 1, none⟩ = some (.slice A4.ra m.rows.length A4.rc) := by simp [go_sem, g0, g1, g2, g3]
    have x2 : ((((Y1.setCell ⟨B, 0, none⟩ (.int .i64 m.id)).setCell ⟨B, 1, none⟩ (.slice A4.ra m.rows.length A4.rc)).setCell ⟨B, 2, none⟩ (.slice A4.sa m.sung.length A4.sc)).setCell ⟨B, 3, none⟩ (.bool m.done)).cell? ⟨B, 2, none⟩ = some (.slice A4.sa m.sung.length A4.sc) := by simp [go_sem, g0, g1, g2, g3]
    have x3 : ((((Y1.setCell ⟨B, 0, none⟩ (.int .i64 m.id)).setCell ⟨B, 1, none⟩ (.slice A4.ra m.rows.length A4.rc)).setCell ⟨B, 2, none⟩ (.slice A4.sa m.sung.length A4.sc)).setCell ⟨B, 3, none⟩ (.bool m.done)).cell? ⟨B, 3, none⟩ = some (.bool m.done) := by simp [go_sem, g0, g1, g2, g3]
    have hTo := tol_any A4 m ((((Y1.setCell ⟨B, 0, none⟩ (.int .i64 m.id)).setCell ⟨B, 1, none⟩ (.slice A4.ra m.rows.length A4.rc)).setCell ⟨B, 2, none⟩ (.slice A4.sa m.sung.length A4.sc)).setCell ⟨B, 3, none⟩ (.bool m.done)) HMn.out
    unfold imV imC at hTo
    have HF4 : Hid (∀ x, fp4 x → w.heap.size + 1 + 1 < x) := fun x hx => by have := hf4 x hx; have := HT3.out.lt; omega
    clear hl4 hf4 hl5 hT5 hW4 hMo c0 c1 c2 c3 c4 HQ
    go_upto_region 7 with fail
    generalize ((((Y1.setCell ⟨B, 0, none⟩ (.int .i64 m.id)).setCell ⟨B, 1, none⟩ (.slice A4.ra m.rows.length A4.rc)).setCell ⟨B, 2, none⟩ (.slice A4.sa m.sung.length A4.sc)).setCell ⟨B, 3, none⟩ (.bool m.done)) = Y5 at *
    clear g0 g1 g2 g3 p0 p1 p2 p3
    go_wp2_with fail
    refine hTo.mono ?_
    rintro e Y2 ⟨rfl, hb2⟩
    have hR := HT5.out.below hb2
    have HN : Hid (∀ {z0 z1 z2 z3 z4 : Value}, NewL w (((((Y2.setCell ⟨w.heap.size + 1 + 1, 0, none⟩ z0).setCell ⟨w.heap.size + 1 + 1, 1, none⟩ z1).setCell ⟨w.heap.size + 1 + 1, 2, none⟩ z2).setCell ⟨w.heap.size + 1 + 1, 3, none⟩ z3).setCell ⟨w.heap.size + 1 + 1, 4, none⟩ z4) (mbCels m) (mbVals A4 m)) := fun {z0 z1 z2 z3 z4} => by
      have hB2 : Below w.heap.size w Y2 := HB5.out.trans (hb2.mono HB5.out.size)
      exact ⟨fp4, owL_wrt (owL_below HL5.out hb2) (wrt5 Y2 (w.heap.size + 1 + 1)) (fun x hx e => by have := HF4.out x hx; omega), fun x hx => by have := HF4.out x hx; omega, (wrt5 Y2 (w.heap.size + 1 + 1)).below hB2 hB2.size (fun x e => by omega)⟩
    unfold mbV mbC
    obtain ⟨z0, z1, z2, z3, z4⟩ := Bx.r5 hR
    obtain ⟨r0, r1, r2, r3, r4⟩ := hR.f5
    clear hTo hR hb2 x0 x1 x2 x3
    go_wp2
    refine bodyPost_ret (v := .tuple #[mbV A4 m, .bool false]) (by simp [results, Tryz.results46, go_sem, mbV, mbC, *]) rfl ?_
    rw [HZf.out]
    exact ⟨_, rfl, HN.out⟩
end Go.Proofs.YtgfeabgmllkdeaaGreat

/-
  The program's newVer, say and Say.
-/
namespace Go.Proofs.YtgfeabgmllkdeaaGreat
set_option linter.unusedVariables false
set_option linter.unusedSimpArgs false
open Go.RowKit Go.Sort

set_option maxHeartbeats 800000 in
theorem nvT_any (g q : Nat) (ver : Int) (X : World) (hc : X.cell? ⟨g, q, none⟩ = some (.int .i64 ver)) (hf : X.frozen? ⟨g, q, none⟩ = false) (h0 : 0 ≤ ver) (hv : ver < 1000000) :
    Calls Tryz.prog 95 #[.pointer (some ⟨g, q, none⟩)] X fun e w' => e = .returned (.tuple #[]) ∧ w' = X.setCell ⟨g, q, none⟩ (.int .i64 (ver + 1)) := by
  have hw : wrap64 (ver + 1) = ver + 1 := by unfold wrap64; omega
  go_enter Tryz.func95, Tryz.ntmps95
  go_wp2_with (go_at_call 91; refine (wantT _).mono ?_; rintro e w' ⟨rfl, hw'⟩; rw [hw']; clear hw')
  first | go_end0 | go_ret
  exact ⟨rfl, rfl⟩
set_option maxHeartbeats 800000 in
theorem nvF_any (g q : Nat) (ver : Int) (X : World) (hc : X.cell? ⟨g, q, none⟩ = some (.int .i64 ver)) (hv : ¬ ver < 1000000) :
    Calls Tryz.prog 95 #[.pointer (some ⟨g, q, none⟩)] X fun e w' => Gu e ∧ w' = X := by
  go_enter Tryz.func95, Tryz.ntmps95
  go_wp2_with (go_at_call 91; refine (wantF _).mono ?_; rintro e w' ⟨⟨T, v, rfl⟩, hw'⟩; rw [hw']; clear hw')
  exact ⟨rfl, ⟨_, _, rfl⟩, rfl⟩
attribute [local irreducible] sv
set_option maxRecDepth 100000 in
set_option maxHeartbeats 1600000 in
theorem say_any (B : Nat) (m : Mb) (i n : Nat) (t : List UInt8) (fp : Fp) (w : World) (h : Plc w B 0 (mb4 m) fp) (ok : OkM m i n) (hd : m.done = false) (ht : t.length ≤ 1048576) :
    Calls Tryz.prog 48 #[.pointer (some ⟨B, 0, none⟩), .string (sv t)] w fun e w' => ((sayMb m t).2 = true ∧ e = .returned (.tuple #[]) ∧ Bcm w w' B 0 (mb4 (sayMb m t).1) fp) ∨ ((sayMb m t).2 = false ∧ Gu e ∧ ∃ m1, Bcm w w' B 0 (mb4 m1) fp) := by
  have hmix := mixed17
  have hil : i < m.rows.length := by rw [ok.len]; exact ok.lt
  obtain ⟨g, off, c, M0⟩ := Iw.start h (by omega)
  obtain ⟨c0, c3⟩ := M0.id'
  have c1 := M0.rws
  rw [ok.hid] at c0
  have hOw := own_any B i m.rows.length g off c w c0 c1 hil
  have HM0 : Hid (Iw w w B m fp g off c) := M0
  have hszt := sv_size t
  have hr := ok.ok i ok.lt
  have HSay : Hid (sayMb m t = if (rowN m.rows i).wed = true ∨ m.done = true ∨ (rowN m.rows i).txt.length = 12 ∨ 20 < t.length ∨ (rowN m.rows i).ver = 1000000 then (m, false) else ({ m with rows := m.rows.set i { rowN m.rows i with txt := (rowN m.rows i).txt ++ [t], got := (rowN m.rows i).got.set i (el (rowN m.rows i).got i + 1), ver := (rowN m.rows i).ver + 1 } }, true)) := by
    have e : m.i = i := by unfold Mb.i; rw [ok.hid]; rfl
    rw [Hid, sayMb, Mb.put, Mb.own, e]
  have HNo : Hid (((rowN m.rows i).wed = true ∨ m.done = true ∨ (rowN m.rows i).txt.length = 12 ∨ 20 < t.length ∨ (rowN m.rows i).ver = 1000000) → (sayMb m t).2 = false) := fun h => by rw [HSay.out, if_pos h]
  have HYes : Hid (¬ ((rowN m.rows i).wed = true ∨ m.done = true ∨ (rowN m.rows i).txt.length = 12 ∨ 20 < t.length ∨ (rowN m.rows i).ver = 1000000) → sayMb m t = ({ m with rows := m.rows.set i { rowN m.rows i with txt := (rowN m.rows i).txt ++ [t], got := (rowN m.rows i).got.set i (el (rowN m.rows i).got i + 1), ver := (rowN m.rows i).ver + 1 } }, true)) := fun h => by rw [HSay.out, if_neg h]
  have htl := hr.tl
  clear HSay c0 c1 c3 M0 h
  go_enter Tryz.func48, Tryz.ntmps48
  go_wp2_with fail
  refine hOw.mono ?_
  rintro e wA ⟨rfl, hbA⟩
  have M1 := HM0.out.step hbA
  have HM1 : Hid (Iw w wA B m fp g off c) := M1
  obtain ⟨Ak, ⟨⟨d0, d1, d2, d3⟩, d4, d5, d6, d7⟩, hrs⟩ := M1.row ok.fit hil
  have HGi : Hid (∃ m1, Bcm w wA B 0 (mb4 m1) fp) := ⟨m, M1.bcm⟩
  clear hOw hrs d0 d2 d3 d5 d6 d7 M1 hbA HM0
  cases hwd : (rowN m.rows i).wed with
  | true =>
    have HZ : Hid ((sayMb m t).2 = false) := HNo.out (.inl hwd)
    rw [hwd] at d4
    go_wp2_with (go_at_call 91; refine (wantF _).mono ?_; rintro e w' ⟨⟨T, v, rfl⟩, hw'⟩; rw [hw']; clear hw')
    exact ⟨rfl, .inr ⟨HZ.out, ⟨_, _, rfl⟩, HGi.out⟩⟩
  | false =>
  rw [hwd] at d4
  by_cases h12 : (rowN m.rows i).txt.length = 12
  · have HZ : Hid ((sayMb m t).2 = false) := HNo.out (.inr (.inr (.inl h12)))
    have e12 : ¬ (((rowN m.rows i).txt.length : Int) < 12) := by omega
    clear h12
    go_wp2_with (go_at_call 91; refine (wantF _).mono ?_; rintro e w' ⟨⟨T, v, rfl⟩, hw'⟩; rw [hw']; clear hw')
    exact ⟨rfl, .inr ⟨HZ.out, ⟨_, _, rfl⟩, HGi.out⟩⟩
  have e12 : ((rowN m.rows i).txt.length : Int) < 12 := by omega
  by_cases h20 : 20 < t.length
  · have HZ : Hid ((sayMb m t).2 = false) := HNo.out (.inr (.inr (.inr (.inl h20))))
    have e23 : decide ((t.length : Int) ≤ 20) = false := decide_eq_false (by omega)
    clear h20
    go_wp2_with (go_at_call 91; (try rw [e23]); refine (wantF _).mono ?_; rintro e w' ⟨⟨T, v, rfl⟩, hw'⟩; rw [hw']; clear hw')
    exact ⟨rfl, .inr ⟨HZ.out, ⟨_, _, rfl⟩, HGi.out⟩⟩
  have e20 : (t.length : Int) ≤ 20 := by omega
  have HH : Hid (¬ ((rowN m.rows i).wed = true) ∧ ¬ m.done = true ∧ ¬ (rowN m.rows i).txt.length = 12 ∧ ¬ 20 < t.length) := ⟨by rw [hwd]; decide, by rw [hd]; decide, h12, h20⟩
  clear h12 h20 hwd HGi
  go_upto_region 2 with (go_at_call 91; refine (wantT _).mono ?_; rintro e w' ⟨rfl, hw'⟩; rw [hw']; clear hw')
  clear d4 e12 e20
  obtain ⟨u, f, hu, hfz, how, hlt, hset⟩ := HM1.out.at hil (j := 1) rfl
  have hbd : Below wA.heap.size wA wA.drew := (Same.drewN wA 1).below
  have hu' : ∀ X, Below wA.heap.size wA X → X.cell? ⟨g, off + i * 8 + 1, none⟩ = some u := fun X hX => (hX.cell (World.block_lt_of_cell? _ _ hu)).trans hu
  have hCl := clone_any t wA.drew ht
  obtain ⟨ta, tc, _, rfl, _⟩ := ow_scl.1 how
  have HS : Hid (∀ (X1 : World) (c' : Cel) (u' : Value) (f' : Fp) (r' : Rw), (rw8 (rowN m.rows i)).set 1 c' = rw8 r' → Wrt f wA X1 → Cel.ow X1 c' u' f' → (∀ b, f' b → f b ∨ wA.heap.size ≤ b) → X1.cell? ⟨g, off + i * 8 + 1, none⟩ = some (.slice ta (rowN m.rows i).txt.length tc) ∧ X1.frozen? ⟨g, off + i * 8 + 1, none⟩ = false ∧ Iw w (X1.setCell ⟨g, off + i * 8 + 1, none⟩ u') B { m with rows := m.rows.set i r' } fp g off c ∧ (u' = .slice ta (rowN m.rows i).txt.length tc → Iw w X1 B { m with rows := m.rows.set i r' } fp g off c)) := hset
  clear d1 hset hlt HM1
  refine gt_begin (S := fun X : World => X.cell? ⟨g, off + i * 8 + 1, none⟩ = some (.slice ta (rowN m.rows i).txt.length tc)) 11 hmix (by kernel_rfl) ?_
  have hHeld : (fun X : World => X.cell? ⟨g, off + i * 8 + 1, none⟩ = some (.slice ta (rowN m.rows i).txt.length tc)) wA.drew := (hu' _ hbd)
  refine gt_take (i := 0) (v := ?_) rfl (by kernel_rfl) (by kernel_rfl) (by kernel_rfl) (by kernel_rfl) (fun _ _ _ h => h) (Or.inl ⟨by rfl, ?_⟩) hHeld ?_
  rotate_left
  · (intro X hSX; (try dsimp only at hSX); have g0 := hSX; go_simp; try with_reducible rfl)
  try simp only [Act.put, List.setIfInBounds_toArray, List.set_cons_zero, List.set_cons_succ]
  refine gt_take (i := 1) (v := ?_) rfl (by kernel_rfl) (by kernel_rfl) (by kernel_rfl) (by kernel_rfl) (fun _ _ _ h => h) (Or.inl ⟨by rfl, ?_⟩) hHeld ?_
  rotate_left
  · (intro X hSX; (try dsimp only at hSX); have g0 := hSX; go_simp; try with_reducible rfl)
  try simp only [Act.put, List.setIfInBounds_toArray, List.set_cons_zero, List.set_cons_succ]
  refine gt_take (i := 2) (v := ?_) rfl (by kernel_rfl) (by kernel_rfl) (by kernel_rfl) (by kernel_rfl) (fun _ _ _ h => h) (Or.inl ⟨by rfl, ?_⟩) hHeld ?_
  rotate_left
  · (intro X hSX; (try dsimp only at hSX); have g0 := hSX; go_simp; try with_reducible rfl)
  try simp only [Act.put, List.setIfInBounds_toArray, List.set_cons_zero, List.set_cons_succ]
  refine gt_take (i := 3) (v := ?_) rfl (by kernel_rfl) (by kernel_rfl) (by kernel_rfl) (by kernel_rfl) (fun _ _ _ h => h) (Or.inl ⟨by rfl, ?_⟩) hHeld ?_
  rotate_left
  · (intro X hSX; (try dsimp only at hSX); have g0 := hSX; go_simp; try with_reducible rfl)
  try simp only [Act.put, List.setIfInBounds_toArray, List.set_cons_zero, List.set_cons_succ]
  refine gt_take (i := 4) (v := ?_) rfl (by kernel_rfl) (by kernel_rfl) (by kernel_rfl) (by kernel_rfl) (fun _ _ _ h => h) (Or.inl ⟨by rfl, ?_⟩) hHeld ?_
  rotate_left
  · (intro X hSX; (try dsimp only at hSX); have g0 := hSX; go_simp; try with_reducible rfl)
  try simp only [Act.put, List.setIfInBounds_toArray, List.set_cons_zero, List.set_cons_succ]
  refine gt_take (i := 5) (v := ?_) rfl (by kernel_rfl) (by kernel_rfl) (by kernel_rfl) (by kernel_rfl) (fun _ _ _ h => h) (Or.inl ⟨by rfl, ?_⟩) hHeld ?_
  rotate_left
  · (intro X hSX; (try dsimp only at hSX); have g0 := hSX; go_simp; try with_reducible rfl)
  try simp only [Act.put, List.setIfInBounds_toArray, List.set_cons_zero, List.set_cons_succ]
  refine gt_one (i := 6) rfl (by kernel_rfl) (by kernel_rfl) (fun K hK => ?_)
  go_simp
  go_at_call 94
  refine hCl.mono ?_
  rintro e V1 ⟨rfl, hb1⟩
  have hbV1 : Below wA.heap.size wA V1 := hbd.trans (hb1.mono hbd.size)
  obtain ⟨ta', tc', et, hA⟩ := ow_txt_app t (Cel.ow_below how hbV1) (by omega)
  cases et
  have hba := oneA16 V1 (.cells #[.string (sv t)] 9)
  refine hK.out _ _ (hu' _ hbV1) (fun hHeldN => ?_)
  clear hK hHeld
  have hHeld := hHeldN
  try simp only [Act.put, List.setIfInBounds_toArray, List.set_cons_zero, List.set_cons_succ]
  refine gt_one (i := 7) rfl (by kernel_rfl) (by kernel_rfl) (fun K hK => ?_)
  go_simp
  refine hK.out _ _ (hu' _ (hbV1.trans (hba.mono hbV1.size))) (fun hHeldN => ?_)
  clear hK hHeld
  have hHeld := hHeldN
  try simp only [Act.put, List.setIfInBounds_toArray, List.set_cons_zero, List.set_cons_succ]
  refine gt_one (i := 8) rfl (by kernel_rfl) (by kernel_rfl) (fun K hK => ?_)
  refine step_append_of (by rfl) _ _ _ _ (by rfl) (.slice ta (rowN m.rows i).txt.length tc) _ (by rfl) (by rfl) hA ⟨rfl, rfl, rfl, rfl⟩ ?_
  rintro v9 w1 ⟨a1, e1, f1, rfl, k1, k2, k3⟩
  have hs1 := hbV1.size
  obtain ⟨q1, q2, M2, _⟩ := HS.out w1 _ _ f1 { rowN m.rows i with txt := (rowN m.rows i).txt ++ [t] } rfl ((Wrt.of_below hbV1).trans k3 (fun _ _ h => h)) k1 (fun b hb => (k2 b hb).imp id (fun h => by omega))
  have HM2 : Hid (Iw w (w1.setCell ⟨g, off + i * 8 + 1, none⟩ (.slice a1 ((rowN m.rows i).txt.length + 1) e1)) B { m with rows := m.rows.set i { rowN m.rows i with txt := (rowN m.rows i).txt ++ [t] } } fp g off c) := M2
  refine hK.out _ _ q1 (fun hHeldN => ?_)
  clear hK hHeld
  have hHeld := hHeldN
  try simp only [Act.put, List.setIfInBounds_toArray, List.set_cons_zero, List.set_cons_succ]
  refine gt_one (i := 9) rfl (by kernel_rfl) (by kernel_rfl) (fun K hK => ?_)
  go_simp
  refine hK.out _ _ q1 (fun hHeldN => ?_)
  clear hK hHeld
  have hHeld := hHeldN
  try simp only [Act.put, List.setIfInBounds_toArray, List.set_cons_zero, List.set_cons_succ]
  refine gt_one (i := 10) rfl (by kernel_rfl) (by kernel_rfl) (fun K hK => ?_)
  go_simp
  refine hK.out _ _ q1 (fun hHeldN => ?_)
  clear hK hHeld
  have hHeld := hHeldN
  try simp only [Act.put, List.setIfInBounds_toArray, List.set_cons_zero, List.set_cons_succ]
  refine gt_last rfl (by kernel_rfl) (by kernel_rfl) (fun K hK => ?_)
  go_simp
  refine hK.out _ _ ?_
  clear hHeld hK M2 k1 k2 k3 hA HS q1 q2 hu' hu how hfz hCl hbV1 hbd hb1 hba
  go_upto_region 3 with fail
  generalize w1.setCell ⟨g, off + i * 8 + 1, none⟩ (.slice a1 ((rowN m.rows i).txt.length + 1) e1) = W5 at *
  generalize hr1 : ({ rowN m.rows i with txt := (rowN m.rows i).txt ++ [t] } : Rw) = r1 at *
  have hgl : r1.got = (rowN m.rows i).got := by rw [← hr1]
  have hvl : r1.ver = (rowN m.rows i).ver := by rw [← hr1]
  have hset1 : rowN (m.rows.set i r1) i = r1 := rowN_self hil
  have hil1 : i < (m.rows.set i r1).length := by rw [List.length_set]; exact hil
  have hgi : i < r1.got.length := by rw [hgl, hr.gl]; exact ok.lt
  obtain ⟨u, f, hu, hfz, how, hlt, hset⟩ := HM2.out.at hil1 (j := 2) (cl := icl r1.got) (by rw [hset1]; rfl)
  obtain ⟨gb, go, gc, rfl, hfg, hge, hgz, hgs⟩ := ow_int_set how hgi
  obtain ⟨c0, c4⟩ := HM2.out.id'
  simp only at c0
  rw [ok.hid] at c0
  have i0 : (0 : Int) ≤ (i : Int) := by omega
  have i2 : (i : Int) < (r1.got.length : Int) := by omega
  have p0 : ∀ q : Bk W5, q.w.cell? ⟨B, 0, none⟩ = _ := fun q => (q.h.cell (World.block_lt_of_cell? _ _ c0)).trans c0
  have p2 : ∀ q : Bk W5, q.w.cell? ⟨g, off + i * 8 + 2, none⟩ = _ := fun q => (q.h.cell (World.block_lt_of_cell? _ _ hu)).trans hu
  have p3 : ∀ q : Bk W5, q.w.cell? ⟨gb, go + i, none⟩ = _ := fun q => (q.h.cell (World.block_lt_of_cell? _ _ hge)).trans hge
  have hx12 : -1000 ≤ el r1.got i ∧ el r1.got i ≤ 1000 := by
    have hg := (small_iff hr.n5 hr.gl).1 ⟨hr.got, hr.g12⟩ i ok.lt
    rw [hgl]
    omega
  have hwx : wrap64 (el r1.got i + 1) = el r1.got i + 1 := by unfold wrap64; omega
  have HEL : Hid (el r1.got i = el (rowN m.rows i).got i) := by rw [Hid, hgl]
  have HGL : Hid (r1.got = (rowN m.rows i).got) := hgl
  have HVL : Hid (r1.ver = (rowN m.rows i).ver) := hvl
  have HS1 : Hid (rowN (m.rows.set i r1) i = r1) := hset1
  have HR1 : Hid (({ rowN m.rows i with txt := (rowN m.rows i).txt ++ [t] } : Rw) = r1) := hr1
  clear hu hfz hge hgz hgs how hset c0 c4 hx12 hgl hvl hset1 hr1
  generalize el r1.got i = x at *
  refine wp_region_quiet_tail (C := fun w' => ∃ p : Bk W5, w' = p.w) 13 hmix (by kernel_rfl) ⟨⟨W5.drewN 1, belowN (Below.refl _ _)⟩, rfl⟩ ?_
  simp only [List.take_succ_cons, List.take_zero]
  repeat (go_big_quiet_step ((first | rfl)))
  refine wpQuiet_nil ?_
  intro wE hw'
  obtain ⟨⟨w11, hb11⟩, hw''⟩ := hw'
  have hwe : wE = w11 := hw''
  clear hw''
  subst hwe
  simp only [List.drop_succ_cons, List.drop_zero]
  have hu3 := p2 ⟨wE, hb11⟩
  simp only at hu3
  have M3 := HM2.out.step hb11
  obtain ⟨u, f3, hu, hfz, how, hlt3, hset⟩ := M3.at hil1 (j := 2) (cl := icl r1.got) (by rw [HS1.out]; rfl)
  obtain rfl := Option.some.inj (hu.symm.trans hu3)
  obtain ⟨gb', go', gc', e4, hfg4, hge, hgz, hgs⟩ := ow_int_set how hgi
  cases e4
  obtain ⟨k1, k2⟩ := hgs (x + 1)
  obtain ⟨_, _, _, hM4⟩ := hset _ (icl (r1.got.set i (x + 1))) _ f3 { r1 with got := r1.got.set i (x + 1) } (by rw [HS1.out]; rfl) k2 k1 (fun b hb => .inl hb)
  have HM4 : Hid (Iw w (wE.setCell ⟨gb, go + i, none⟩ (.int .i64 (x + 1))) B { m with rows := (m.rows.set i r1).set i { r1 with got := r1.got.set i (x + 1) } } fp g off c) := hM4 rfl
  clear hM4 hgs k1 k2 hset M3 how hu hu3 hfz p0 p2 p3 hlt3 hlt
  go_upto_region 4 with fail
  generalize wE.setCell ⟨gb, go + i, none⟩ (.int .i64 (x + 1)) = W7 at *
  clear hge hgz
  rw [List.set_set] at HM4
  generalize hr2 : ({ r1 with got := r1.got.set i (x + 1) } : Rw) = r2 at *
  have hil2 : i < (m.rows.set i r2).length := by rw [List.length_set]; exact hil
  have hv2 : r2.ver = (rowN m.rows i).ver := by rw [← hr2]; exact HVL.out
  have hs2 : rowN (m.rows.set i r2) i = r2 := rowN_self hil
  obtain ⟨v1, v2, hM5⟩ := HM4.out.put hil2 (j := 0) (x := .int .i64 r2.ver) (y := .int .i64 (r2.ver + 1)) (r' := { r2 with ver := r2.ver + 1 }) (by rw [hs2]; rfl) (by rw [hs2]; rfl)
  have hvb := hr.ver
  simp only [Nat.add_zero] at v1 v2 hM5
  rw [List.set_set] at hM5
  have HM5 : Hid (Iw w (W7.setCell ⟨g, off + i * 8, none⟩ (.int .i64 (r2.ver + 1))) B { m with rows := m.rows.set i { r2 with ver := r2.ver + 1 } } fp g off c) := hM5
  have HFin : Hid ((rowN m.rows i).ver ≠ 1000000 → ({ m with rows := m.rows.set i { r2 with ver := r2.ver + 1 } } : Mb) = (sayMb m t).1 ∧ (sayMb m t).2 = true) := fun hne => by
    rw [HYes.out (by obtain ⟨h1, h2, h3, h4⟩ := HH.out; rintro (h | h | h | h | h); exact h1 h; exact h2 h; exact h3 h; exact h4 h; exact hne h)]
    refine ⟨?_, rfl⟩
    rw [← hr2, ← HR1.out, HEL.out]
  by_cases hver : (rowN m.rows i).ver = 1000000
  · have hnv := nvF_any g (off + i * 8) r2.ver W7 v1 (by omega)
    have HZ : Hid ((sayMb m t).2 = false) := HNo.out (.inr (.inr (.inr (.inr hver))))
    clear hM5 hr2 hs2 hv2 hvb HFin
    go_wp2_with (go_at_call 95; refine hnv.mono ?_; rintro e w' ⟨⟨T, v, rfl⟩, hw'⟩; rw [hw']; clear hw')
    exact ⟨rfl, .inr ⟨HZ.out, ⟨_, _, rfl⟩, _, HM4.out.bcm⟩⟩
  · have hnv := nvT_any g (off + i * 8) r2.ver W7 v1 v2 (by omega) (by omega)
    have HF := HFin.out hver
    have HF2 : Hid (({ m with rows := m.rows.set i { r2 with ver := r2.ver + 1 } } : Mb) = (sayMb m t).1 ∧ (sayMb m t).2 = true) := HF
    clear hM5 hr2 hs2 hv2 hvb HFin HF hver
    go_wp2_with (go_at_call 95; refine hnv.mono ?_; rintro e w' ⟨rfl, hw'⟩; rw [hw']; clear hw')
    first | go_end0 | go_ret
    exact .inl ⟨HF2.out.2, rfl, by rw [← HF2.out.1]; exact HM5.out.bcm⟩
end Go.Proofs.YtgfeabgmllkdeaaGreat
