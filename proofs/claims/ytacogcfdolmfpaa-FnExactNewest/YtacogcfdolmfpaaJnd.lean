/-
  The contract of the program's joined.
-/
import Derived.Test.YtacogcfdolmfpaaCkv
namespace Go.Proofs.Ytacogcfdolmfpaa
set_option linter.unusedSimpArgs false
set_option linter.unusedVariables false
open Go.RowKit Go.Sort

theorem ckI_ok {c : Nat → Int} (h : ∀ j, j < 8 → 0 ≤ c j ∧ c j ≤ 1000000) : okB (ckI c) = true := by
  refine okB_true_of (by simp [ckI]) (by simp [ckI]) (fun j hj => ?_)
  have hj8 : j < 8 := by simpa [ckI] using hj
  rw [ckI_el c hj8]
  have := h j hj8
  simp [inB]
  omega
theorem pair_ck {c d : Nat → Int} (hc : ∀ j, j < 8 → 0 ≤ c j ∧ c j ≤ 1000000) (hd : ∀ j, j < 8 → 0 ≤ d j ∧ d j ≤ 1000000) : pairB max (ckI c) (ckI d) = ckI (fun j => max (c j) (d j)) := by
  have : twoB (ckI c) (ckI d) = true := by
    rw [twoB, ckI_ok hc, ckI_ok hd]; rfl
  unfold pairB
  rw [if_pos this]
  rfl
theorem ck_fits {c : Nat → Int} (h : ∀ j, j < 8 → 0 ≤ c j ∧ c j ≤ 1000000) : Fits (ckI c) := ckI_fits (fun j hj => by have := h j hj; omega)

/-- The cells of a clock. -/
def ckA (c : Nat → Int) : Array Value := #[.int .i64 (c 0), .int .i64 (c 1), .int .i64 (c 2), .int .i64 (c 3), .int .i64 (c 4), .int .i64 (c 5), .int .i64 (c 6), .int .i64 (c 7)]
/-- Block b is a clock that may be written. -/
structure Ck (w : World) (b : Nat) (c : Nat → Int) : Prop where
  cell : ∀ j, j < 8 → w.cell? ⟨b, j, none⟩ = some (.int .i64 (c j))
  free : ∀ j, w.frozen? ⟨b, j, none⟩ = false
  blk : b < w.heap.size
theorem ck_block {w : World} {b : Nat} {c : Nat → Int} {T : TypeId} (h : w.heap[b]? = some (.cells (ckA c) T (0, 0))) : Ck w b c :=
  ⟨fun j hj => cell8 h hj, fun j => by simp [World.frozen?, h], (Array.getElem?_eq_some_iff.1 h).1⟩
theorem Ck.of_block {w w' : World} {b : Nat} {c : Nat → Int} (h : Ck w b c) (e : w'.heap[b]? = w.heap[b]?) (hs : b < w'.heap.size) : Ck w' b c :=
  ⟨fun j hj => by rw [World.cell?_of_block (w := w) e]; exact h.cell j hj, fun j => by rw [show w'.frozen? ⟨b, j, none⟩ = w.frozen? ⟨b, j, none⟩ from by simp only [World.frozen?, e]]; exact h.free j, hs⟩
theorem Ck.below {w w' : World} {b B : Nat} {c : Nat → Int} (h : Ck w b c) (hb : Below B w w') (hB : b < B) : Ck w' b c := h.of_block (hb.block b hB) (Nat.lt_of_lt_of_le h.blk hb.size)
theorem Ck.drewN {w : World} {b : Nat} {c : Nat → Int} (h : Ck w b c) (n : Nat) : Ck (w.drewN n) b c := ⟨h.cell, h.free, h.blk⟩
theorem Ck.grown {w w' : World} {b : Nat} {c : Nat → Int} {r : Option Nat} (h : Ck w b c) (hg : w.grownBy w' r) (hr : some b ≠ r) : Ck w' b c := h.of_block (hg.block b h.blk hr) (Nat.lt_of_lt_of_le h.blk hg.size)
theorem Ck.congr {w : World} {b : Nat} {c c' : Nat → Int} (h : Ck w b c) (e : ∀ j, j < 8 → c j = c' j) : Ck w b c' := ⟨fun j hj => by rw [← e j hj]; exact h.cell j hj, h.free, h.blk⟩
theorem Ck.vec {w : World} {b : Nat} {c : Nat → Int} (h : Ck w b c) (hf : Fits (ckI c)) : Vec w (some ⟨b, 0, none⟩) 8 (ckI c) :=
  ⟨rfl, hf, .inr ⟨b, 0, rfl, fun i hi => by rw [Nat.zero_add, ckI_el c hi]; exact h.cell i hi⟩⟩
theorem Ck.sets {w : World} {b : Nat} {c : Nat → Int} (h : Ck w b c) (d : Nat → Int) : Ck (w.setCells b 0 ((ckI d).map (Value.int .i64))) b d := by
  have hin := World.cell?_setCells_in b ((ckI d).map (Value.int .i64)) 0 w (fun j hj => by rw [Nat.zero_add, h.cell j (by simpa [ckI] using hj)]; rfl)
  refine ⟨fun j hj => ?_, fun j => by rw [World.frozen?_setCells]; exact h.free j, by rw [size_setCells]; exact h.blk⟩
  have h1 := hin j (by simpa [ckI] using hj)
  rw [Nat.zero_add] at h1
  rw [h1]
  have h2 := ckI_el d hj
  have h3 : j < (ckI d).length := hj
  rw [el_eq h3] at h2
  simp [h3, h2]
theorem Ck.setsFar {w : World} {b g : Nat} {c d : Nat → Int} (h : Ck w b c) (hne : b ≠ g) : Ck (w.setCells g 0 ((ckI d).map (Value.int .i64))) b c :=
  h.of_block ((grown_setCells g _ 0 w).block b h.blk (by simpa using hne)) (by rw [size_setCells]; exact h.blk)
/-- Its cells one by one. -/
theorem Ck.all {w : World} {b : Nat} {c : Nat → Int} (h : Ck w b c) : w.cell? ⟨b, 0, none⟩ = some (.int .i64 (c 0)) ∧ w.cell? ⟨b, 1, none⟩ = some (.int .i64 (c 1)) ∧ w.cell? ⟨b, 2, none⟩ = some (.int .i64 (c 2)) ∧ w.cell? ⟨b, 3, none⟩ = some (.int .i64 (c 3)) ∧
    w.cell? ⟨b, 4, none⟩ = some (.int .i64 (c 4)) ∧ w.cell? ⟨b, 5, none⟩ = some (.int .i64 (c 5)) ∧ w.cell? ⟨b, 6, none⟩ = some (.int .i64 (c 6)) ∧ w.cell? ⟨b, 7, none⟩ = some (.int .i64 (c 7)) :=
  ⟨h.cell 0 (by omega), h.cell 1 (by omega), h.cell 2 (by omega), h.cell 3 (by omega), h.cell 4 (by omega), h.cell 5 (by omega), h.cell 6 (by omega), h.cell 7 (by omega)⟩

/-- copy of eight numbers into a clock, in a drawn region. -/
theorem step_copy8 {ops : Array Oper} {o : Oper} {a : Act} {K : Act → World → Prop} {Q : Exit → Act → World → Prop} {E : Prop} {w : World} (hgd : o.guard = none) (x y : Operand)
    (hop : o.op = .call { callee := .builtin .copy, args := #[x, y], argTypes := #[24, 24] }) (b g cap cap' : Nat) (c d : Nat → Int)
    (hx : a.eval x = .slice (some ⟨b, 0, none⟩) 8 cap) (hy : a.eval y = .slice (some ⟨g, 0, none⟩) 8 cap') (hb : Ck w b c) (hg : OwnAt w g cap' (ckI d))
    (h : K (a.put o.dst (goInt 8)) (w.setCells b 0 ((ckI d).map (Value.int .i64)))) : if Region.wanted o (yielded ops a.tmps) = true then Oper.wp Try.prog o a w K Q else E := by
  have hw : Region.wanted o (yielded ops a.tmps) = true := by simp [Region.wanted, hgd]
  rw [if_pos hw]
  have hi : (Try.prog.info? 2).map (·.size) = some 1 := by
    have := Try.info2
    cases hq : Try.prog.info? 2 with
    | none => rw [hq] at this; simp at this
    | some i => rw [hq] at this; simp at this; simp [this.2.1]
  have hr := run_copy_cells (P := Try.prog) w 24 24 o.type 2 b 0 8 cap ⟨g, 0, none⟩ 8 cap' ((ckI d).map (Value.int .i64)) Try.underlying24 hi (by simp [ckI])
    (vec_news (fun i hi => by rw [Nat.zero_add]; exact hg.cell hi)) (fun j hj => by rw [Nat.zero_add, hb.cell j (by simpa [ckI] using hj)]; rfl) (fun j hj => by rw [Nat.zero_add]; exact hb.free j) (by simp [ckI, Value.oneCell'])
  unfold Oper.wp
  simp [execOp, hop, resolve, invoke, builtin, hx, hy, hr, Result.andThen]
  exact h

/-- The world in which joined has laid its four clocks. -/
theorem four (c d : Nat → Int) (w : World) : ∃ W, (((w.alloc (.cells #[.int .i64 (c 0), .int .i64 (c 1), .int .i64 (c 2), .int .i64 (c 3), .int .i64 (c 4), .int .i64 (c 5), .int .i64 (c 6), .int .i64 (c 7)] 94)).alloc (.cells #[.int .i64 (d 0), .int .i64 (d 1), .int .i64 (d 2), .int .i64 (d 3), .int .i64 (d 4), .int .i64 (d 5), .int .i64 (d 6), .int .i64 (d 7)] 94)).alloc (.cells #[.int .i64 0, .int .i64 0, .int .i64 0, .int .i64 0, .int .i64 0, .int .i64 0, .int .i64 0, .int .i64 0] 94)).alloc (.cells #[.int .i64 0, .int .i64 0, .int .i64 0, .int .i64 0, .int .i64 0, .int .i64 0, .int .i64 0, .int .i64 0] 94) = W ∧
    Ck W w.heap.size c ∧ Ck W (w.heap.size + 1) d ∧ Ck W (w.heap.size + 1 + 1) (fun _ => 0) ∧ Ck W (w.heap.size + 1 + 1 + 1) (fun _ => 0) ∧ Below w.heap.size w W ∧ W.heap.size = w.heap.size + 4 := by
  have K1 := ck_block (c := c) (heap_alloc_new w (.cells (ckA c) 94))
  obtain ⟨W1, e1⟩ : ∃ W1, w.alloc (.cells (ckA c) 94) = W1 := ⟨_, rfl⟩
  have s1 : W1.heap.size = w.heap.size + 1 := by rw [← e1]; simp
  have B1 : Below w.heap.size w W1 := by rw [← e1]; exact (Below.refl _ _).alloc (Nat.le_refl _) _
  rw [e1] at K1
  have K2 := ck_block (c := d) (heap_alloc_new W1 (.cells (ckA d) 94))
  obtain ⟨W2, e2⟩ : ∃ W2, W1.alloc (.cells (ckA d) 94) = W2 := ⟨_, rfl⟩
  have s2 : W2.heap.size = w.heap.size + 2 := by rw [← e2]; simp [s1]
  have B2 : Below W1.heap.size W1 W2 := by rw [← e2]; exact (Below.refl _ _).alloc (Nat.le_refl _) _
  rw [e2, s1] at K2
  have K3 := ck_block (c := fun _ => 0) (heap_alloc_new W2 (.cells (ckA (fun _ => 0)) 94))
  obtain ⟨W3, e3⟩ : ∃ W3, W2.alloc (.cells (ckA (fun _ => 0)) 94) = W3 := ⟨_, rfl⟩
  have s3 : W3.heap.size = w.heap.size + 3 := by rw [← e3]; simp [s2]
  have B3 : Below W2.heap.size W2 W3 := by rw [← e3]; exact (Below.refl _ _).alloc (Nat.le_refl _) _
  rw [e3, s2] at K3
  have K4 := ck_block (c := fun _ => 0) (heap_alloc_new W3 (.cells (ckA (fun _ => 0)) 94))
  obtain ⟨W4, e4⟩ : ∃ W4, W3.alloc (.cells (ckA (fun _ => 0)) 94) = W4 := ⟨_, rfl⟩
  have s4 : W4.heap.size = w.heap.size + 4 := by rw [← e4]; simp [s3]
  have B4 : Below W3.heap.size W3 W4 := by rw [← e4]; exact (Below.refl _ _).alloc (Nat.le_refl _) _
  rw [e4, s3] at K4
  refine ⟨W4, ?_, ((K1.below B2 (by omega)).below B3 (by omega)).below B4 (by omega), (K2.below B3 (by omega)).below B4 (by omega), K3.below B4 (by omega), K4, ((B1.trans (B2.mono (by omega))).trans (B3.mono (by omega))).trans (B4.mono (by omega)), s4⟩
  rw [← e4, ← e3, ← e2, ← e1]
  rfl

set_option maxRecDepth 100000 in
set_option maxHeartbeats 1600000 in
theorem joined_any (c d : Nat → Int) (w : World) (hc : ∀ j, j < 8 → 0 ≤ c j ∧ c j ≤ 1000000) (hd : ∀ j, j < 8 → 0 ≤ d j ∧ d j ≤ 1000000) :
    Calls Try.prog 120 #[ckV c, ckV d] w fun e w' => e = .returned (ckV (fun j => max (c j) (d j))) ∧ Below w.heap.size w w' := by
  have F1 := ck_fits hc
  have F2 := ck_fits hd
  have HP : Hid (pairB max (ckI c) (ckI d) = ckI (fun j => max (c j) (d j))) := pair_ck hc hd
  obtain ⟨W, hW, K1, K2, K3, K4, hB, hs⟩ := four c d w
  unfold ckV
  go_enter Try.func120, Try.ntmps120
  go_wp2_with fail

  have HB : Hid (Below w.heap.size w W) := hB
  have HS : Hid (W.heap.size = w.heap.size + 4) := hs
  have N1 : w.heap.size < W.heap.size := by omega
  have N2 : w.heap.size + 1 < W.heap.size := by omega
  have N3 : w.heap.size + 1 + 1 < W.heap.size := by omega
  have N4 : w.heap.size + 1 + 1 + 1 < W.heap.size := by omega
  clear hW hB hs
  go_region_held3 (fun _ => True)
    (trivial)
    (first
      | (go_at_call 13; refine (implJoin_any _ _ _ _ _ _ (ckI c) (ckI d) _ ((K1.drewN _).vec F1) ((K2.drewN _).vec F2) (by omega) (by omega) (by unfold maxLen; omega) (by unfold maxLen; omega)).mono ?_; rw [HP.out]; rintro e w3 ⟨g, cp, rfl, hg, ho, hb3⟩)
      | (refine step_copy8 (by rfl) _ _ (by rfl) (w.heap.size + 1 + 1 + 1) g 8 cp (fun _ => 0) (fun j => max (c j) (d j)) (by rfl) (by rfl) (K4.drewN 1 |>.below hb3 N4) ho ?_))
  obtain ⟨W4, hW4⟩ : ∃ W4, w3.setCells (w.heap.size + 1 + 1 + 1) 0 ((ckI (fun j => max (c j) (d j))).map (Value.int .i64)) = W4 := ⟨_, rfl⟩
  have Z4 : Ck W4 (w.heap.size + 1 + 1 + 1) (fun j => max (c j) (d j)) := by rw [← hW4]; exact ((K4.drewN 1).below hb3 N4).sets _
  have Z3 : Ck W4 (w.heap.size + 1 + 1) (fun _ => 0) := by rw [← hW4]; exact ((K3.drewN 1).below hb3 N3).setsFar (by omega)
  have HB4 : Hid (Below w.heap.size w W4) := by
    rw [Hid, ← hW4]
    exact (HB.out.trans (belowN' (hb3.mono (by have := HB.out.size; exact this)))).grown (grown_setCells _ _ _ _) (by have := HB.out.size; have := hb3.size; have e : (W.drewN 1).heap.size = W.heap.size := rfl; omega) (by intro i hi; cases hi; omega)
  rw [hW4]
  obtain ⟨z0, z1, z2, z3, z4, z5, z6, z7⟩ := Z4.all
  obtain ⟨y0, y1, y2, y3, y4, y5, y6, y7⟩ := Z3.all
  have y8 := Z3.free
  clear hW4 hb3 ho hg Z4 HB K1 K2 K3 K4 F1 F2 hc hd HP
  go_wp2
  refine bodyPost_ret (v := .agg #[.int .i64 (max (c 0) (d 0)), .int .i64 (max (c 1) (d 1)), .int .i64 (max (c 2) (d 2)), .int .i64 (max (c 3) (d 3)), .int .i64 (max (c 4) (d 4)), .int .i64 (max (c 5) (d 5)), .int .i64 (max (c 6) (d 6)), .int .i64 (max (c 7) (d 7))]) (by simp [results, Try.results120, go_sem, *]) rfl ⟨rfl, ?_⟩
  exact (((((((HB4.out.setCell (by show w.heap.size ≤ w.heap.size + 1 + 1; omega) _).setCell (by show w.heap.size ≤ w.heap.size + 1 + 1; omega) _).setCell (by show w.heap.size ≤ w.heap.size + 1 + 1; omega) _).setCell (by show w.heap.size ≤ w.heap.size + 1 + 1; omega) _).setCell (by show w.heap.size ≤ w.heap.size + 1 + 1; omega) _).setCell (by show w.heap.size ≤ w.heap.size + 1 + 1; omega) _).setCell (by show w.heap.size ≤ w.heap.size + 1 + 1; omega) _).setCell (by show w.heap.size ≤ w.heap.size + 1 + 1; omega) _
end Go.Proofs.Ytacogcfdolmfpaa
