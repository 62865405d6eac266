/-
  The contract of the program's ticked.
-/
import Derived.Test.YtacogcfdolmfpaaKmp
import Derived.Deep.RegionWith
namespace Go.Proofs.Ytacogcfdolmfpaa
set_option linter.unusedSimpArgs false
set_option linter.unusedVariables false
open Go.RowKit Go.Sort

/-- One more at place p. -/
def up1 (c : Nat → Int) (p : Nat) : Nat → Int := fun j => c j + (if j = p then 1 else 0)
theorem grown_of_below {w w' : World} (h : Below w.heap.size w w') (r : Option Nat) : w.grownBy w' r := ⟨h.os, h.tape, h.output, h.size, fun k hk _ => h.block k hk⟩

/-- What ticked holds as its world goes on. -/
structure Tst (w W : World) (B n : Nat) (F : Int → Int → Option (Nat → Int)) (bc : Nat) (p : Nat) (kd m : Int) (c : Nat → Int) : Prop where
  e0 : W.cell? ⟨w.heap.size, 0, none⟩ = some (.int .i64 (p : Int))
  e1 : W.cell? ⟨w.heap.size, 1, none⟩ = some (.int .i64 kd)
  e2 : W.cell? ⟨w.heap.size, 2, none⟩ = some (.int .i64 m)
  res : Ck W (w.heap.size + 1) (fun _ => 0)
  now : Ck W bc c
  map : KM W B n F
  grown : w.grownBy W (some B)
  lt : B < w.heap.size
  at_ : w.heap.size + 1 < bc
theorem Tst.step {w W W' : World} {B n : Nat} {F : Int → Int → Option (Nat → Int)} {bc p : Nat} {kd m : Int} {c : Nat → Int} (h : Tst w W B n F bc p kd m c) (hb : Below W.heap.size W W') : Tst w W' B n F bc p kd m c := by
  have hs : w.heap.size < W.heap.size := by have := h.res.blk; omega
  exact ⟨(hb.cell (by exact hs)).trans h.e0, (hb.cell (by exact hs)).trans h.e1, (hb.cell (by exact hs)).trans h.e2, h.res.below hb h.res.blk, h.now.below hb h.now.blk, h.map.below hb, h.grown.trans (grown_of_below hb _), h.lt, h.at_⟩
theorem Tst.drewN {w W : World} {B n : Nat} {F : Int → Int → Option (Nat → Int)} {bc p : Nat} {kd m : Int} {c : Nat → Int} (h : Tst w W B n F bc p kd m c) (k : Nat) : Tst w (W.drewN k) B n F bc p kd m c :=
  h.step (belowN (Below.refl _ _))
theorem Tst.put {w W W' : World} {B n n' : Nat} {F F' : Int → Int → Option (Nat → Int)} {bc p : Nat} {kd m : Int} {c : Nat → Int} (h : Tst w W B n F bc p kd m c) (hg : W.grownBy W' (some B)) (hk : KM W' B n' F') : Tst w W' B n' F' bc p kd m c := by
  have hs : w.heap.size < W.heap.size := by have := h.res.blk; omega
  have hl := h.lt
  have ha := h.at_
  have hc : ∀ j, W'.cell? ⟨w.heap.size, j, none⟩ = W.cell? ⟨w.heap.size, j, none⟩ := fun j => World.cell?_of_block (hg.block w.heap.size hs (by simp; omega))
  exact ⟨(hc 0).trans h.e0, (hc 1).trans h.e1, (hc 2).trans h.e2, h.res.grown hg (by simp; omega), h.now.grown hg (by simp; omega), hk, h.grown.trans hg, h.lt, h.at_⟩
theorem Tst.far {w W W' : World} {B n : Nat} {F : Int → Int → Option (Nat → Int)} {bc p : Nat} {kd m : Int} {c d : Nat → Int} (h : Tst w W B n F bc p kd m c) (hg : W.grownBy W' (some bc)) (hk : Ck W' bc d) : Tst w W' B n F bc p kd m d := by
  have hs : w.heap.size < W.heap.size := by have := h.res.blk; omega
  have hl := h.lt
  have ha := h.at_
  have hc : ∀ j, W'.cell? ⟨w.heap.size, j, none⟩ = W.cell? ⟨w.heap.size, j, none⟩ := fun j => World.cell?_of_block (hg.block w.heap.size hs (by simp; omega))
  refine ⟨(hc 0).trans h.e0, (hc 1).trans h.e1, (hc 2).trans h.e2, h.res.grown hg (by simp; omega), hk, h.map.kept hg (by simp; omega), ⟨hg.os.trans h.grown.os, hg.tape.trans h.grown.tape, hg.output.trans h.grown.output, Nat.le_trans h.grown.size hg.size, fun k hk hne => ?_⟩, h.lt, h.at_⟩
  exact (hg.block k (Nat.lt_of_lt_of_le hk h.grown.size) (by simp; omega)).trans (h.grown.block k hk hne)
theorem grown_setCell (W : World) (b i : Nat) (u : Value) : W.grownBy (W.setCell ⟨b, i, none⟩ u) (some b) :=
  ⟨rfl, rfl, rfl, by simp [World.setCell], fun k hk hne => Below.heap_setCell _ _ _ _ (by intro e; exact hne (by rw [e]))⟩
theorem Ck.up {w : World} {b p : Nat} {c : Nat → Int} (h : Ck w b c) (hp : p < 8) : Ck (w.setCell ⟨b, p, none⟩ (.int .i64 (c p + 1))) b (up1 c p) := by
  refine ⟨fun j hj => ?_, fun j => by rw [World.frozen?_setCell]; exact h.free j, by simp [World.setCell]; exact h.blk⟩
  unfold up1
  by_cases e : j = p
  · subst e
    rw [World.cell?_setCell_same _ _ _ (h.cell j hj), if_pos rfl]
  · rw [World.cell?_setCell_other _ _ _ _ (by intro h; have := congrArg Addr.off h; simp only at this; omega), if_neg e, Int.add_zero]; exact h.cell j hj
theorem Tst.up {w W : World} {B n : Nat} {F : Int → Int → Option (Nat → Int)} {bc p : Nat} {kd m : Int} {c : Nat → Int} (h : Tst w W B n F bc p kd m c) (hp : p < 8) : Tst w (W.setCell ⟨bc, p, none⟩ (.int .i64 (c p + 1))) B n F bc p kd m (up1 c p) :=
  h.far (grown_setCell _ _ _ _) (h.now.up hp)
theorem Tst.held {w W : World} {B n : Nat} {F : Int → Int → Option (Nat → Int)} {bc p : Nat} {kd m : Int} {c : Nat → Int} (h : Tst w W B n F bc p kd m c) :
    W.cell? ⟨w.heap.size, 0, none⟩ = some (.int .i64 (p : Int)) ∧ W.cell? ⟨w.heap.size, 2, none⟩ = some (.int .i64 m) ∧ W.cell? ⟨bc, 0, none⟩ = some (.int .i64 (c 0)) ∧ W.cell? ⟨bc, 1, none⟩ = some (.int .i64 (c 1)) ∧ W.cell? ⟨bc, 2, none⟩ = some (.int .i64 (c 2)) ∧ W.cell? ⟨bc, 3, none⟩ = some (.int .i64 (c 3)) ∧
      W.cell? ⟨bc, 4, none⟩ = some (.int .i64 (c 4)) ∧ W.cell? ⟨bc, 5, none⟩ = some (.int .i64 (c 5)) ∧ W.cell? ⟨bc, 6, none⟩ = some (.int .i64 (c 6)) ∧ W.cell? ⟨bc, 7, none⟩ = some (.int .i64 (c 7)) := ⟨h.e0, h.e2, h.now.all⟩
/-- The end of ticked: the clock is laid into the answer. -/
theorem Tst.fin {w W : World} {B n : Nat} {F : Int → Int → Option (Nat → Int)} {bc p : Nat} {kd m : Int} {c : Nat → Int} (h : Tst w W B n F bc p kd m c) (us : List Value) : KM (W.setCells (w.heap.size + 1) 0 us) B n F ∧ w.grownBy (W.setCells (w.heap.size + 1) 0 us) (some B) := by
  have hg := grown_setCells (w.heap.size + 1) us 0 W
  have hl := h.lt
  refine ⟨h.map.kept hg (by simp; omega), ⟨hg.os.trans h.grown.os, hg.tape.trans h.grown.tape, hg.output.trans h.grown.output, Nat.le_trans h.grown.size hg.size, fun k hk hne => ?_⟩⟩
  exact (hg.block k (Nat.lt_of_lt_of_le hk h.grown.size) (by simp; omega)).trans (h.grown.block k hk hne)
/-- The world in which ticked has laid its clock. -/
theorem tst_start {w w2 : World} {B n p : Nat} {F : Int → Int → Option (Nat → Int)} {kd m : Int} (c : Nat → Int) (hK : KM w B n F)
    (hg : Grew ((w.alloc (.cells #[.int .i64 (p : Int), .int .i64 kd, .int .i64 m] 48)).alloc (.cells #[.int .i64 0, .int .i64 0, .int .i64 0, .int .i64 0, .int .i64 0, .int .i64 0, .int .i64 0, .int .i64 0] 94)) w2) :
    ∃ W, w2.alloc (.cells #[.int .i64 (c 0), .int .i64 (c 1), .int .i64 (c 2), .int .i64 (c 3), .int .i64 (c 4), .int .i64 (c 5), .int .i64 (c 6), .int .i64 (c 7)] 94) = W ∧ Tst w W B n F w2.heap.size p kd m c := by
  have E1 := heap_alloc_new w (.cells #[.int .i64 (p : Int), .int .i64 kd, .int .i64 m] 48)
  obtain ⟨W1, e1⟩ : ∃ W1, w.alloc (.cells #[.int .i64 (p : Int), .int .i64 kd, .int .i64 m] 48) = W1 := ⟨_, rfl⟩
  have s1 : W1.heap.size = w.heap.size + 1 := by rw [← e1]; simp
  have B1 : Below w.heap.size w W1 := by rw [← e1]; exact (Below.refl _ _).alloc (Nat.le_refl _) _
  rw [e1] at E1 hg
  have K2 := ck_block (c := fun _ => 0) (heap_alloc_new W1 (.cells (ckA (fun _ => 0)) 94))
  obtain ⟨W2, e2⟩ : ∃ W2, W1.alloc (.cells (ckA (fun _ => 0)) 94) = W2 := ⟨_, rfl⟩
  have s2 : W2.heap.size = w.heap.size + 2 := by rw [← e2]; simp [s1]
  have B2 : Below W1.heap.size W1 W2 := by rw [← e2]; exact (Below.refl _ _).alloc (Nat.le_refl _) _
  rw [e2, s1] at K2
  have hg' : Grew W2 w2 := by rw [← e2]; exact hg
  have B3 := hg'.1
  have K4 := ck_block (c := c) (heap_alloc_new w2 (.cells (ckA c) 94))
  obtain ⟨W, e4⟩ : ∃ W, w2.alloc (.cells (ckA c) 94) = W := ⟨_, rfl⟩
  have B4 : Below w2.heap.size w2 W := by rw [← e4]; exact (Below.refl _ _).alloc (Nat.le_refl _) _
  rw [e4] at K4
  have s3 := B3.size
  have B24 : Below W1.heap.size W1 W := (B2.trans (B3.mono (by omega))).trans (B4.mono (by omega))
  have B14 : Below w.heap.size w W := B1.trans (B24.mono (by omega))
  have hE : W.heap[w.heap.size]? = some (.cells #[.int .i64 (p : Int), .int .i64 kd, .int .i64 m] 48 (0, 0)) := (B24.block _ (by omega)).trans E1
  refine ⟨W, e4, ?_, ?_, ?_, (K2.below B3 K2.blk).below B4 (by omega), K4, hK.below B14, grown_of_below B14 _, hK.lt, by omega⟩
  · simp [World.cell?, hE]
  · simp [World.cell?, hE]
  · simp [World.cell?, hE]

set_option maxRecDepth 100000 in
set_option maxHeartbeats 1600000 in
theorem tickedL (B n p : Nat) (F : Int → Int → Option (Nat → Int)) (kd m : Int) (c : Nat → Int) (w : World) (hK : KM w B n F) (hn : n ≤ 1000) (hp : p < 8)
    (hc : (F 1 p).getD (fun _ => 0) = c) (hb : ∀ j, j < 8 → 0 ≤ c j ∧ c j ≤ 999999) (h2 : kd ≠ 2) (h3 : kd ≠ 3) :
    Calls Try.prog 100 #[.map (some B), .agg #[.int .i64 (p : Int), .int .i64 kd, .int .i64 m]] w fun r w' => r = .returned (ckV (up1 c p)) ∧ KM w' B (n + 1) (put2 F 1 p (up1 c p)) ∧ w.grownBy w' (some B) := by
  have k2 : (kd == 2) = false := by simpa using h2
  have k3 : (kd == 3) = false := by simpa using h3
  have HP : Hid (p < 8) := hp
  have hp0 : (0 : Int) ≤ (p : Int) := by omega
  have hp8 : (p : Int) < 8 := by omega
  have hnm : n < maxLen := by unfold maxLen; omega
  have hnm1 : n + 1 < maxLen := by unfold maxLen; omega
  have h1b : (-9223372036854775808 : Int) ≤ 1 ∧ (1 : Int) ≤ 9223372036854775807 := by omega
  have h2b : (-9223372036854775808 : Int) ≤ 2 ∧ (2 : Int) ≤ 9223372036854775807 := by omega
  have hpr : -9223372036854775808 ≤ (p : Int) ∧ (p : Int) ≤ 9223372036854775807 := by omega
  go_enter Try.func100, Try.ntmps100
  go_wp2_with fail
  refine (ofNode_any _ _).mono ?_
  rintro e w2 ⟨rfl, hg2⟩
  have hL := (hK.below ((Below.refl _ _).alloc (Nat.le_refl _) _)).below ((Below.refl _ _).alloc (Nat.le_refl _) _) |>.below hg2.1 |>.look (a := 1) (b := p) h1b hpr
  obtain ⟨W, hW, T⟩ := tst_start c hK hg2
  rw [hc] at hL
  unfold keyV ckV at hL
  unfold keyV
  have HC : Hid ((F 1 p).getD (fun _ => 0) = c) := hc
  have HBC : Hid (∀ j, j < 8 → 0 ≤ c j ∧ c j ≤ 999999) := hb
  have HT : Hid (Tst w W B n F w2.heap.size p kd m c) := T
  have q0 := T.e0
  have q1 := T.e1
  have HBD : Hid (∀ j, j < 8 → 0 ≤ c j ∧ c j ≤ 999999) := hb
  have qp := HT.out.now.cell p HP.out
  have qf := HT.out.now.free p
  have hk1 : c p + 1 ≤ 9223372036854775807 := by have := HBD.out p HP.out; omega
  have hk0 : -9223372036854775808 ≤ c p + 1 := by have := HBD.out p HP.out; omega
  obtain ⟨W', hW'⟩ : ∃ W', W.setCell ⟨w2.heap.size, p, none⟩ (.int .i64 (c p + 1)) = W' := ⟨_, rfl⟩
  have HT' : Hid (Tst w W' B n F w2.heap.size p kd m (up1 c p)) := by rw [Hid, ← hW']; exact HT.out.up HP.out
  clear hg2 hc hb T hK h2 h3 hp
  go_wp2_with fail
  clear q0 q1 qp qf hW' hk1 hk0
  go_region_held3 (fun X => X.cell? ⟨w.heap.size, 0, none⟩ = some (.int .i64 (p : Int)) ∧ X.cell? ⟨w.heap.size, 2, none⟩ = some (.int .i64 m) ∧ X.cell? ⟨w2.heap.size, 0, none⟩ = some (.int .i64 (up1 c p 0)) ∧ X.cell? ⟨w2.heap.size, 1, none⟩ = some (.int .i64 (up1 c p 1)) ∧ X.cell? ⟨w2.heap.size, 2, none⟩ = some (.int .i64 (up1 c p 2)) ∧ X.cell? ⟨w2.heap.size, 3, none⟩ = some (.int .i64 (up1 c p 3)) ∧ X.cell? ⟨w2.heap.size, 4, none⟩ = some (.int .i64 (up1 c p 4)) ∧ X.cell? ⟨w2.heap.size, 5, none⟩ = some (.int .i64 (up1 c p 5)) ∧ X.cell? ⟨w2.heap.size, 6, none⟩ = some (.int .i64 (up1 c p 6)) ∧ X.cell? ⟨w2.heap.size, 7, none⟩ = some (.int .i64 (up1 c p 7)))
    (first
      | exact T6.held
      | exact T5.held
      | exact (HT'.out.drewN 1).held)
    (first
      | (go_at_call 105; refine (ofNode_any _ _).mono ?_; rintro e w5 ⟨rfl, hg5⟩; have T5 := (HT'.out.drewN 1).step hg5.1; obtain ⟨w6, hr6, km6, gr6⟩ := T5.map.put hnm h1b hpr (up1 c p); have T6 := T5.put gr6 km6; unfold keyV ckV at hr6; unfold keyV))
  have q1 := T6.e1
  obtain ⟨z0, z1, z2, z3, z4, z5, z6, z7⟩ := T6.now.all
  obtain ⟨y0, y1, y2, y3, y4, y5, y6, y7⟩ := T6.res.all
  have y8 := T6.res.free
  have HE : Hid _ := T6.fin ((ckI (up1 c p)).map (Value.int .i64))
  clear T5 T6 hr6 km6 gr6 hg5
  go_wp2
  refine bodyPost_ret (v := .agg #[.int .i64 (up1 (c) p 0), .int .i64 (up1 (c) p 1), .int .i64 (up1 (c) p 2), .int .i64 (up1 (c) p 3), .int .i64 (up1 (c) p 4), .int .i64 (up1 (c) p 5), .int .i64 (up1 (c) p 6), .int .i64 (up1 (c) p 7)]) (by simp [results, Try.results100, go_sem, *]) rfl ⟨rfl, ?_⟩
  exact HE.out

set_option maxRecDepth 100000 in
set_option maxHeartbeats 1600000 in
theorem tickedS (B n p : Nat) (F : Int → Int → Option (Nat → Int)) (m : Int) (c : Nat → Int) (w : World) (hK : KM w B n F) (hn : n ≤ 1000) (hp : p < 8)
    (hc : (F 1 p).getD (fun _ => 0) = c) (hb : ∀ j, j < 8 → 0 ≤ c j ∧ c j ≤ 999999) (hm : -9223372036854775808 ≤ m ∧ m ≤ 9223372036854775807) :
    Calls Try.prog 100 #[.map (some B), .agg #[.int .i64 (p : Int), .int .i64 2, .int .i64 m]] w fun r w' => r = .returned (ckV (up1 c p)) ∧ KM w' B (n + 1 + 1) (put2 (put2 F 1 p (up1 c p)) 2 m (up1 c p)) ∧ w.grownBy w' (some B) := by
  have HP : Hid (p < 8) := hp
  have hp0 : (0 : Int) ≤ (p : Int) := by omega
  have hp8 : (p : Int) < 8 := by omega
  have hnm : n < maxLen := by unfold maxLen; omega
  have hnm1 : n + 1 < maxLen := by unfold maxLen; omega
  have h1b : (-9223372036854775808 : Int) ≤ 1 ∧ (1 : Int) ≤ 9223372036854775807 := by omega
  have h2b : (-9223372036854775808 : Int) ≤ 2 ∧ (2 : Int) ≤ 9223372036854775807 := by omega
  have hpr : -9223372036854775808 ≤ (p : Int) ∧ (p : Int) ≤ 9223372036854775807 := by omega
  go_enter Try.func100, Try.ntmps100
  go_wp2_with fail
  refine (ofNode_any _ _).mono ?_
  rintro e w2 ⟨rfl, hg2⟩
  have hL := (hK.below ((Below.refl _ _).alloc (Nat.le_refl _) _)).below ((Below.refl _ _).alloc (Nat.le_refl _) _) |>.below hg2.1 |>.look (a := 1) (b := p) h1b hpr
  obtain ⟨W, hW, T⟩ := tst_start c hK hg2
  rw [hc] at hL
  unfold keyV ckV at hL
  unfold keyV
  have HC : Hid ((F 1 p).getD (fun _ => 0) = c) := hc
  have HBC : Hid (∀ j, j < 8 → 0 ≤ c j ∧ c j ≤ 999999) := hb
  have HT : Hid (Tst w W B n F w2.heap.size p 2 m c) := T
  have q0 := T.e0
  have q1 := T.e1
  have HBD : Hid (∀ j, j < 8 → 0 ≤ c j ∧ c j ≤ 999999) := hb
  have qp := HT.out.now.cell p HP.out
  have qf := HT.out.now.free p
  have hk1 : c p + 1 ≤ 9223372036854775807 := by have := HBD.out p HP.out; omega
  have hk0 : -9223372036854775808 ≤ c p + 1 := by have := HBD.out p HP.out; omega
  obtain ⟨W', hW'⟩ : ∃ W', W.setCell ⟨w2.heap.size, p, none⟩ (.int .i64 (c p + 1)) = W' := ⟨_, rfl⟩
  have HT' : Hid (Tst w W' B n F w2.heap.size p 2 m (up1 c p)) := by rw [Hid, ← hW']; exact HT.out.up HP.out
  clear hg2 hc hb T hK hp
  go_wp2_with fail
  clear q0 q1 qp qf hW' hk1 hk0
  go_region_held3 (fun X => X.cell? ⟨w.heap.size, 0, none⟩ = some (.int .i64 (p : Int)) ∧ X.cell? ⟨w.heap.size, 2, none⟩ = some (.int .i64 m) ∧ X.cell? ⟨w2.heap.size, 0, none⟩ = some (.int .i64 (up1 c p 0)) ∧ X.cell? ⟨w2.heap.size, 1, none⟩ = some (.int .i64 (up1 c p 1)) ∧ X.cell? ⟨w2.heap.size, 2, none⟩ = some (.int .i64 (up1 c p 2)) ∧ X.cell? ⟨w2.heap.size, 3, none⟩ = some (.int .i64 (up1 c p 3)) ∧ X.cell? ⟨w2.heap.size, 4, none⟩ = some (.int .i64 (up1 c p 4)) ∧ X.cell? ⟨w2.heap.size, 5, none⟩ = some (.int .i64 (up1 c p 5)) ∧ X.cell? ⟨w2.heap.size, 6, none⟩ = some (.int .i64 (up1 c p 6)) ∧ X.cell? ⟨w2.heap.size, 7, none⟩ = some (.int .i64 (up1 c p 7)))
    (first
      | exact T6.held
      | exact T5.held
      | exact (HT'.out.drewN 1).held)
    (first
      | (go_at_call 105; refine (ofNode_any _ _).mono ?_; rintro e w5 ⟨rfl, hg5⟩; have T5 := (HT'.out.drewN 1).step hg5.1; obtain ⟨w6, hr6, km6, gr6⟩ := T5.map.put hnm h1b hpr (up1 c p); have T6 := T5.put gr6 km6; unfold keyV ckV at hr6; unfold keyV))
  have HT6 : Hid (Tst w w6 B (n + 1) (put2 F 1 p (up1 c p)) w2.heap.size p 2 m (up1 c p)) := T6
  have q1 := T6.e1
  clear T5 T6 hr6 km6 gr6 hg5
  go_wp2_with fail
  clear q1
  go_region_held3 (fun X => X.cell? ⟨w.heap.size, 0, none⟩ = some (.int .i64 (p : Int)) ∧ X.cell? ⟨w.heap.size, 2, none⟩ = some (.int .i64 m) ∧ X.cell? ⟨w2.heap.size, 0, none⟩ = some (.int .i64 (up1 c p 0)) ∧ X.cell? ⟨w2.heap.size, 1, none⟩ = some (.int .i64 (up1 c p 1)) ∧ X.cell? ⟨w2.heap.size, 2, none⟩ = some (.int .i64 (up1 c p 2)) ∧ X.cell? ⟨w2.heap.size, 3, none⟩ = some (.int .i64 (up1 c p 3)) ∧ X.cell? ⟨w2.heap.size, 4, none⟩ = some (.int .i64 (up1 c p 4)) ∧ X.cell? ⟨w2.heap.size, 5, none⟩ = some (.int .i64 (up1 c p 5)) ∧ X.cell? ⟨w2.heap.size, 6, none⟩ = some (.int .i64 (up1 c p 6)) ∧ X.cell? ⟨w2.heap.size, 7, none⟩ = some (.int .i64 (up1 c p 7)))
    (first
      | exact T8.held
      | exact T7.held
      | exact (HT6.out.drewN 1).held)
    (first
      | (go_at_call 121; refine (ofMail_any _ _).mono ?_; rintro e w7 ⟨rfl, hg7⟩; have T7 := (HT6.out.drewN 1).step hg7.1; obtain ⟨w8, hr8, km8, gr8⟩ := T7.map.put hnm1 h2b hm (up1 c p); have T8 := T7.put gr8 km8; unfold keyV ckV at hr8; unfold keyV))
  have q1 := T8.e1
  obtain ⟨z0, z1, z2, z3, z4, z5, z6, z7⟩ := T8.now.all
  obtain ⟨y0, y1, y2, y3, y4, y5, y6, y7⟩ := T8.res.all
  have y8 := T8.res.free
  have HE : Hid _ := T8.fin ((ckI (up1 c p)).map (Value.int .i64))
  clear T7 T8 hr8 km8 gr8 hg7
  go_wp2
  refine bodyPost_ret (v := .agg #[.int .i64 (up1 (c) p 0), .int .i64 (up1 (c) p 1), .int .i64 (up1 (c) p 2), .int .i64 (up1 (c) p 3), .int .i64 (up1 (c) p 4), .int .i64 (up1 (c) p 5), .int .i64 (up1 (c) p 6), .int .i64 (up1 (c) p 7)]) (by simp [results, Try.results100, go_sem, *]) rfl ⟨rfl, ?_⟩
  exact HE.out

set_option maxRecDepth 100000 in
set_option maxHeartbeats 1600000 in
theorem tickedH (B n p : Nat) (F : Int → Int → Option (Nat → Int)) (m : Int) (c : Nat → Int) (w : World) (hK : KM w B n F) (hn : n ≤ 1000) (hp : p < 8)
    (hc : (F 1 p).getD (fun _ => 0) = c) (hb : ∀ j, j < 8 → 0 ≤ c j ∧ c j ≤ 999999) (hm : -9223372036854775808 ≤ m ∧ m ≤ 9223372036854775807) (d : Nat → Int) (hd : (F 2 m).getD (fun _ => 0) = d) (hbd : ∀ j, j < 8 → 0 ≤ d j ∧ d j ≤ 999999) :
    Calls Try.prog 100 #[.map (some B), .agg #[.int .i64 (p : Int), .int .i64 3, .int .i64 m]] w fun r w' => r = .returned (ckV (up1 (fun j => max (c j) (d j)) p)) ∧ KM w' B (n + 1) (put2 F 1 p (up1 (fun j => max (c j) (d j)) p)) ∧ w.grownBy w' (some B) := by
  have HP : Hid (p < 8) := hp
  have hp0 : (0 : Int) ≤ (p : Int) := by omega
  have hp8 : (p : Int) < 8 := by omega
  have hnm : n < maxLen := by unfold maxLen; omega
  have hnm1 : n + 1 < maxLen := by unfold maxLen; omega
  have h1b : (-9223372036854775808 : Int) ≤ 1 ∧ (1 : Int) ≤ 9223372036854775807 := by omega
  have h2b : (-9223372036854775808 : Int) ≤ 2 ∧ (2 : Int) ≤ 9223372036854775807 := by omega
  have hpr : -9223372036854775808 ≤ (p : Int) ∧ (p : Int) ≤ 9223372036854775807 := by omega
  go_enter Try.func100, Try.ntmps100
  go_wp2_with fail
  refine (ofNode_any _ _).mono ?_
  rintro e w2 ⟨rfl, hg2⟩
  have hL := (hK.below ((Below.refl _ _).alloc (Nat.le_refl _) _)).below ((Below.refl _ _).alloc (Nat.le_refl _) _) |>.below hg2.1 |>.look (a := 1) (b := p) h1b hpr
  obtain ⟨W, hW, T⟩ := tst_start c hK hg2
  rw [hc] at hL
  unfold keyV ckV at hL
  unfold keyV
  have HC : Hid ((F 1 p).getD (fun _ => 0) = c) := hc
  have HBC : Hid (∀ j, j < 8 → 0 ≤ c j ∧ c j ≤ 999999) := hb
  have HT : Hid (Tst w W B n F w2.heap.size p 3 m c) := T
  have q0 := T.e0
  have q1 := T.e1
  have HD : Hid ((F 2 m).getD (fun _ => 0) = d) := hd
  have HBD : Hid (∀ j, j < 8 → 0 ≤ max (c j) (d j) ∧ max (c j) (d j) ≤ 999999) := fun j hj => by have := hb j hj; have := hbd j hj; show 0 ≤ max (c j) (d j) ∧ max (c j) (d j) ≤ 999999; omega
  have hbc6 : ∀ j, j < 8 → 0 ≤ c j ∧ c j ≤ 1000000 := fun j hj => by have := hb j hj; omega
  have hbd6 : ∀ j, j < 8 → 0 ≤ d j ∧ d j ≤ 1000000 := fun j hj => by have := hbd j hj; omega
  have hnb : w.heap.size ≠ w2.heap.size := by have := T.at_; omega
  have hJ := fun (X : World) => joined_any c d X hbc6 hbd6
  unfold ckV at hJ
  have HJ : Hid _ := hJ
  clear hg2 hc hb T hK hp hd hbd hbc6 hbd6 hJ
  go_wp2_with fail
  clear q0 q1 hL hW
  obtain ⟨z0, z1, z2, z3, z4, z5, z6, z7⟩ := HT.out.now.all
  have z8 := HT.out.e2
  go_region_with
    (first
      | (go_at_call 121; refine (ofMail_any _ _).mono ?_; rintro e w3 ⟨rfl, hg3⟩; have T3 := (HT.out.drewN 1).step hg3.1; have hl3 := T3.map.look h2b hm; rw [HD.out] at hl3; unfold keyV ckV at hl3; unfold keyV; obtain ⟨x0, x1, x2, x3, x4, x5, x6, x7⟩ := T3.now.all)
      | (go_at_call 120; refine (HJ.out _).mono ?_; rintro e w4 ⟨rfl, hb4⟩; have T4 := T3.step hb4; obtain ⟨v0, v1, v2, v3, v4, v5, v6, v7⟩ := T4.now.all; have v8 := T4.now.free))
  all_goals
    obtain ⟨WQ, hWQ⟩ : ∃ WQ, ((((((((w4.setCell ⟨w2.heap.size, 0, none⟩ (.int .i64 (max (c 0) (d 0)))).setCell ⟨w2.heap.size, 1, none⟩ (.int .i64 (max (c 1) (d 1)))).setCell ⟨w2.heap.size, 2, none⟩ (.int .i64 (max (c 2) (d 2)))).setCell ⟨w2.heap.size, 3, none⟩ (.int .i64 (max (c 3) (d 3)))).setCell ⟨w2.heap.size, 4, none⟩ (.int .i64 (max (c 4) (d 4)))).setCell ⟨w2.heap.size, 5, none⟩ (.int .i64 (max (c 5) (d 5)))).setCell ⟨w2.heap.size, 6, none⟩ (.int .i64 (max (c 6) (d 6)))).setCell ⟨w2.heap.size, 7, none⟩ (.int .i64 (max (c 7) (d 7)))) = WQ := ⟨_, rfl⟩
    have TQ : Tst w WQ B n F w2.heap.size p 3 m (fun j => max (c j) (d j)) := by
      rw [← hWQ]
      exact T4.far (grown_setCells w2.heap.size ((ckI (fun j => max (c j) (d j))).map (Value.int .i64)) 0 w4) (T4.now.sets (fun j => max (c j) (d j)))
    have HTQ : Hid (Tst w WQ B n F w2.heap.size p 3 m (fun j => max (c j) (d j))) := TQ
    have q0 := TQ.e0
    have q1 := TQ.e1
    have qp := TQ.now.cell p HP.out
    have qf := TQ.now.free p
    have hk1 : max (c p) (d p) + 1 ≤ 9223372036854775807 := by have := HBD.out p HP.out; omega
    have hk0 : -9223372036854775808 ≤ max (c p) (d p) + 1 := by have := HBD.out p HP.out; omega
    obtain ⟨W', hW'⟩ : ∃ W', WQ.setCell ⟨w2.heap.size, p, none⟩ (.int .i64 (max (c p) (d p) + 1)) = W' := ⟨_, rfl⟩
    have HT' : Hid (Tst w W' B n F w2.heap.size p 3 m (up1 (fun j => max (c j) (d j)) p)) := by rw [Hid, ← hW']; exact TQ.up HP.out
    clear v0 v1 v2 v3 v4 v5 v6 v7 v8 z0 z1 z2 z3 z4 z5 z6 z7 z8 T4 T3 hb4 hg3 hl3 x0 x1 x2 x3 x4 x5 x6 x7 TQ
    rw [hWQ]
    go_wp2_with fail
    clear q0 q1 qp qf hW' hk1 hk0 hWQ
    go_region_held3 (fun X => X.cell? ⟨w.heap.size, 0, none⟩ = some (.int .i64 (p : Int)) ∧ X.cell? ⟨w.heap.size, 2, none⟩ = some (.int .i64 m) ∧ X.cell? ⟨w2.heap.size, 0, none⟩ = some (.int .i64 (up1 (fun j => max (c j) (d j)) p 0)) ∧ X.cell? ⟨w2.heap.size, 1, none⟩ = some (.int .i64 (up1 (fun j => max (c j) (d j)) p 1)) ∧ X.cell? ⟨w2.heap.size, 2, none⟩ = some (.int .i64 (up1 (fun j => max (c j) (d j)) p 2)) ∧ X.cell? ⟨w2.heap.size, 3, none⟩ = some (.int .i64 (up1 (fun j => max (c j) (d j)) p 3)) ∧ X.cell? ⟨w2.heap.size, 4, none⟩ = some (.int .i64 (up1 (fun j => max (c j) (d j)) p 4)) ∧ X.cell? ⟨w2.heap.size, 5, none⟩ = some (.int .i64 (up1 (fun j => max (c j) (d j)) p 5)) ∧ X.cell? ⟨w2.heap.size, 6, none⟩ = some (.int .i64 (up1 (fun j => max (c j) (d j)) p 6)) ∧ X.cell? ⟨w2.heap.size, 7, none⟩ = some (.int .i64 (up1 (fun j => max (c j) (d j)) p 7)))
      (first
        | exact T6.held
        | exact T5.held
        | exact (HT'.out.drewN 1).held)
      (first
        | (go_at_call 105; refine (ofNode_any _ _).mono ?_; rintro e w5 ⟨rfl, hg5⟩; have T5 := (HT'.out.drewN 1).step hg5.1; obtain ⟨w6, hr6, km6, gr6⟩ := T5.map.put hnm h1b hpr (up1 (fun j => max (c j) (d j)) p); have T6 := T5.put gr6 km6; unfold keyV ckV at hr6; unfold keyV))
    have q1 := T6.e1
    obtain ⟨z0, z1, z2, z3, z4, z5, z6, z7⟩ := T6.now.all
    obtain ⟨y0, y1, y2, y3, y4, y5, y6, y7⟩ := T6.res.all
    have y8 := T6.res.free
    have HE : Hid _ := T6.fin ((ckI (up1 (fun j => max (c j) (d j)) p)).map (Value.int .i64))
    clear T5 T6 hr6 km6 gr6 hg5
    go_wp2
    refine bodyPost_ret (v := .agg #[.int .i64 (up1 (fun j => max (c j) (d j)) p 0), .int .i64 (up1 (fun j => max (c j) (d j)) p 1), .int .i64 (up1 (fun j => max (c j) (d j)) p 2), .int .i64 (up1 (fun j => max (c j) (d j)) p 3), .int .i64 (up1 (fun j => max (c j) (d j)) p 4), .int .i64 (up1 (fun j => max (c j) (d j)) p 5), .int .i64 (up1 (fun j => max (c j) (d j)) p 6), .int .i64 (up1 (fun j => max (c j) (d j)) p 7)]) (by simp [results, Try.results100, go_sem, *]) rfl ⟨rfl, ?_⟩
    exact HE.out
end Go.Proofs.Ytacogcfdolmfpaa
