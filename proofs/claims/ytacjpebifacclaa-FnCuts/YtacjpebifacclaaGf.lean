/-
  Several texts in one: Ckv Jnd Kmp Tck Fkm Vrs Nwi.
-/
import Derived.Test.YtacjpebifacclaaGe
import Derived.Test.YtacjpebifacclaaGc
import Derived.Lib.SliceRun
import Derived.Maps.OwnSet
import Derived.DeepKeys4
import Derived.Deep.RegionWith
/-
  Clocks as values: eight numbers in a struct; the contracts of what makes a key, of told and joined.
-/
namespace Go.Proofs.Ytacjpebifacclaa
set_option linter.unusedSimpArgs false
set_option linter.unusedVariables false
open Go.RowKit Go.Sort

/-- The value of a clock. -/
def ckV (c : Nat → Int) : Value := .agg #[.int .i64 (c 0), .int .i64 (c 1), .int .i64 (c 2), .int .i64 (c 3), .int .i64 (c 4), .int .i64 (c 5), .int .i64 (c 6), .int .i64 (c 7)]
/-- The key of a node's last event (1) or of a mail's sending (2). -/
def keyV (a b : Int) : Value := .agg #[.int .i64 a, .int .i64 b]
/-- The numbers of a clock as a list. -/
def ckI (c : Nat → Int) : List Int := [c 0, c 1, c 2, c 3, c 4, c 5, c 6, c 7]
theorem ckI_el (c : Nat → Int) {j : Nat} (h : j < 8) : el (ckI c) j = c j := by
  match j, h with
  | 0, _ => rfl
  | 1, _ => rfl
  | 2, _ => rfl
  | 3, _ => rfl
  | 4, _ => rfl
  | 5, _ => rfl
  | 6, _ => rfl
  | 7, _ => rfl
theorem ckI_of {xs : List Int} (h : xs.length = 8) : ckI (el xs) = xs := by
  refine eq_of_all (by rw [h]; rfl) (fun j hj => ?_)
  exact ckI_el (el xs) hj
theorem ckI_fits {c : Nat → Int} (h : ∀ j, j < 8 → -9223372036854775808 ≤ c j ∧ c j ≤ 9223372036854775807) : Fits (ckI c) := by
  intro x hx
  simp only [ckI, List.mem_cons, List.not_mem_nil, or_false] at hx
  rcases hx with rfl | rfl | rfl | rfl | rfl | rfl | rfl | rfl <;> exact h _ (by omega)

set_option maxHeartbeats 400000 in
theorem ofNode_any (n : Int) (w : World) : Calls Try.prog 103 #[.int .i64 n] w fun r w' => r = .returned (keyV 1 n) ∧ Grew w w' := by
  unfold keyV
  go_enter Try.func103, Try.ntmps103
  go_wp2
  refine bodyPost_ret (v := .agg #[.int .i64 1, .int .i64 n]) (by simp [results, Try.results103, go_sem]) rfl ⟨rfl, ?_⟩
  exact (Grew.refl _).alloc _
set_option maxHeartbeats 400000 in
theorem ofMail_any (n : Int) (w : World) : Calls Try.prog 131 #[.int .i64 n] w fun r w' => r = .returned (keyV 2 n) ∧ Grew w w' := by
  unfold keyV
  go_enter Try.func131, Try.ntmps131
  go_wp2
  refine bodyPost_ret (v := .agg #[.int .i64 2, .int .i64 n]) (by simp [results, Try.results131, go_sem]) rfl ⟨rfl, ?_⟩
  exact (Grew.refl _).alloc _

theorem vec_news {w : World} {b off : Nat} {xs : List Int} (h : ∀ i, i < xs.length → w.cell? ⟨b, off + i, none⟩ = some (.int .i64 (el xs i))) (j : Nat) (u : Value) (hu : (xs.map (Value.int .i64))[j]? = some u) : w.cell? ((⟨b, off, none⟩ : Addr).add j) = some u := by
  have hj : j < xs.length := by
    have := (List.getElem?_eq_some_iff.1 hu).1
    simpa using this
  rw [add_lit0, h j hj]
  simp only [List.getElem?_map, List.getElem?_eq_getElem hj, Option.map_some, Option.some.injEq] at hu
  rw [el_eq hj, ← hu]

theorem eq_nil (a : Option Addr) (n c : Nat) (w : World) : (binOp .eql 24 (.slice a n c) (.slice none 0 0)).run Try.prog w = .ok (.bool (a.isNone)) w :=
  Lib.run_eql_slice_nil w 24 2 a n c 0 0 Try.underlying24
set_option maxRecDepth 100000 in
set_option maxHeartbeats 800000 in
theorem clone_any (b off cap : Nat) (xs : List Int) (w : World) (h : ∀ i, i < xs.length → w.cell? ⟨b, off + i, none⟩ = some (.int .i64 (el xs i))) (hm : xs.length ≤ 10000) (hb : b < w.heap.size) :
    Calls Try.prog 132 #[.slice (some ⟨b, off, none⟩) xs.length cap] w fun e w' => Ans w w' e xs := by
  obtain ⟨i0, hi0, hz0, hz1, hz2⟩ := info_parts Try.info2
  have HC : Hid (∀ i, i < xs.length → (w.alloc (.cells #[] 2)).cell? ⟨b, off + i, none⟩ = some (.int .i64 (el xs i))) := fun i hi => by
    rw [((Below.refl w.heap.size w).alloc (Nat.le_refl _) (.cells #[] 2)).cell (by exact hb)]; exact h i hi
  have heq := fun (X : World) => eq_nil (some ⟨b, off, none⟩) xs.length cap X
  clear h
  go_enter Try.func132, Try.ntmps132
  go_wp2_with (at_builtin; refine wpList_append_os _ rfl _ _ _ rfl 2 i0 _ 1 8 Try.underlying24 hi0 hz0 hz1 hz2 rfl (by omega) w.heap.size 0 0 0 (([] : List Int).map (Value.int .i64)) rfl (oi_empty w 2) ⟨b, off, none⟩ xs.length cap (xs.map (Value.int .i64)) rfl (by simp) (vec_news HC.out) (by simp [Value.oneCell']) (by unfold maxLen; omega) (by omega) ?_; intro g2 off2 cap2 w2 ho2 hg2 hat2)
  have R : Hid (Ans w w2 (.returned (.slice (some ⟨g2, off2, none⟩) xs.length cap2)) xs) := by
    refine ⟨g2, off2, cap2, rfl, ?_, ?_, below_grown ((Below.refl _ _).alloc (Nat.le_refl _) _) hg2 (Nat.le_refl _) (by simp)⟩
    · rcases hat2 with h | h
      · rw [h]; exact Nat.le_refl _
      · rw [h]; simp
    · have := ho2
      simp only [List.map_nil, List.nil_append, Nat.zero_add] at this
      exact this
  clear ho2 hg2 hat2
  go_wp2
  go_ret
  exact R.out

theorem cell8 {w : World} {b : Nat} {c : Nat → Int} {T : TypeId} {fr : Nat × Nat} (h : w.heap[b]? = some (.cells #[.int .i64 (c 0), .int .i64 (c 1), .int .i64 (c 2), .int .i64 (c 3), .int .i64 (c 4), .int .i64 (c 5), .int .i64 (c 6), .int .i64 (c 7)] T fr)) {i : Nat} (hi : i < 8) :
    w.cell? ⟨b, i, none⟩ = some (.int .i64 (c i)) := by
  match i, hi with
  | 0, _ => simp [World.cell?, h]
  | 1, _ => simp [World.cell?, h]
  | 2, _ => simp [World.cell?, h]
  | 3, _ => simp [World.cell?, h]
  | 4, _ => simp [World.cell?, h]
  | 5, _ => simp [World.cell?, h]
  | 6, _ => simp [World.cell?, h]
  | 7, _ => simp [World.cell?, h]

set_option maxRecDepth 100000 in
set_option maxHeartbeats 800000 in
theorem told_any (c : Nat → Int) (w : World) : Calls Try.prog 104 #[ckV c] w fun e w' => Ans w w' e (ckI c) := by
  have hC := clone_any w.heap.size 0 8 (ckI c) (w.alloc (.cells #[.int .i64 (c 0), .int .i64 (c 1), .int .i64 (c 2), .int .i64 (c 3), .int .i64 (c 4), .int .i64 (c 5), .int .i64 (c 6), .int .i64 (c 7)] 95)) (fun i hi => by
    rw [Nat.zero_add, ckI_el c hi]; exact cell8 (heap_alloc_new w _) hi) (by simp [ckI]) (by simp)
  unfold ckV
  go_enter Try.func104, Try.ntmps104
  go_wp2_with fail
  refine hC.mono ?_
  rintro e w1 ⟨g, off, c1, rfl, h1, h2, h3⟩
  have R : Hid (Ans w w1 (.returned (.slice (some ⟨g, off, none⟩) (ckI c).length c1)) (ckI c)) := ⟨g, off, c1, rfl, by simp at h1; omega, h2, ((Below.refl w.heap.size w).alloc (Nat.le_refl _) _).trans (h3.mono (by simp))⟩
  clear h1 h2 h3
  go_wp2
  go_ret
  exact R.out
end Go.Proofs.Ytacjpebifacclaa

/-
  The contract of the program's joined.
-/
namespace Go.Proofs.Ytacjpebifacclaa
set_option linter.unusedSimpArgs false
set_option linter.unusedVariables false
open Go.RowKit Go.Sort

theorem ckI_ok {c : Nat → Int} (h : ∀ j, j < 8 → 0 ≤ c j ∧ c j ≤ 1000000) : okB (ckI c) = true := by
  refine okB_true_of (by simp [ckI]) (by simp [ckI]) (fun j hj => ?_)
  have hj8 : j < 8 := by simpa [ckI] using hj
  rw [ckI_el c hj8]
  have := h j hj8
  simp [inB]
  omega
theorem pair_ck {c d : Nat → Int} (hc : ∀ j, j < 8 → 0 ≤ c j ∧ c j ≤ 1000000) (hd : ∀ j, j < 8 → 0 ≤ d j ∧ d j ≤ 1000000) : pairB max (ckI c) (ckI d) = ckI (fun j => max (c j) (d j)) := by
  have : twoB (ckI c) (ckI d) = true := by
    rw [twoB, ckI_ok hc, ckI_ok hd]; rfl
  unfold pairB
  rw [if_pos this]
  rfl
theorem ck_fits {c : Nat → Int} (h : ∀ j, j < 8 → 0 ≤ c j ∧ c j ≤ 1000000) : Fits (ckI c) := ckI_fits (fun j hj => by have := h j hj; omega)

/-- The cells of a clock. -/
def ckA (c : Nat → Int) : Array Value := #[.int .i64 (c 0), .int .i64 (c 1), .int .i64 (c 2), .int .i64 (c 3), .int .i64 (c 4), .int .i64 (c 5), .int .i64 (c 6), .int .i64 (c 7)]
/-- Block b is a clock that may be written. -/
structure Ck (w : World) (b : Nat) (c : Nat → Int) : Prop where
  cell : ∀ j, j < 8 → w.cell? ⟨b, j, none⟩ = some (.int .i64 (c j))
  free : ∀ j, w.frozen? ⟨b, j, none⟩ = false
  blk : b < w.heap.size
theorem ck_block {w : World} {b : Nat} {c : Nat → Int} {T : TypeId} (h : w.heap[b]? = some (.cells (ckA c) T (0, 0))) : Ck w b c :=
  ⟨fun j hj => cell8 h hj, fun j => by simp [World.frozen?, h], (Array.getElem?_eq_some_iff.1 h).1⟩
theorem Ck.of_block {w w' : World} {b : Nat} {c : Nat → Int} (h : Ck w b c) (e : w'.heap[b]? = w.heap[b]?) (hs : b < w'.heap.size) : Ck w' b c :=
  ⟨fun j hj => by rw [World.cell?_of_block (w := w) e]; exact h.cell j hj, fun j => by rw [show w'.frozen? ⟨b, j, none⟩ = w.frozen? ⟨b, j, none⟩ from by simp only [World.frozen?, e]]; exact h.free j, hs⟩
theorem Ck.below {w w' : World} {b B : Nat} {c : Nat → Int} (h : Ck w b c) (hb : Below B w w') (hB : b < B) : Ck w' b c := h.of_block (hb.block b hB) (Nat.lt_of_lt_of_le h.blk hb.size)
theorem Ck.drewN {w : World} {b : Nat} {c : Nat → Int} (h : Ck w b c) (n : Nat) : Ck (w.drewN n) b c := ⟨h.cell, h.free, h.blk⟩
theorem Ck.grown {w w' : World} {b : Nat} {c : Nat → Int} {r : Option Nat} (h : Ck w b c) (hg : w.grownBy w' r) (hr : some b ≠ r) : Ck w' b c := h.of_block (hg.block b h.blk hr) (Nat.lt_of_lt_of_le h.blk hg.size)
theorem Ck.congr {w : World} {b : Nat} {c c' : Nat → Int} (h : Ck w b c) (e : ∀ j, j < 8 → c j = c' j) : Ck w b c' := ⟨fun j hj => by rw [← e j hj]; exact h.cell j hj, h.free, h.blk⟩
theorem Ck.vec {w : World} {b : Nat} {c : Nat → Int} (h : Ck w b c) (hf : Fits (ckI c)) : Vec w (some ⟨b, 0, none⟩) 8 (ckI c) :=
  ⟨rfl, hf, .inr ⟨b, 0, rfl, fun i hi => by rw [Nat.zero_add, ckI_el c hi]; exact h.cell i hi⟩⟩
theorem Ck.sets {w : World} {b : Nat} {c : Nat → Int} (h : Ck w b c) (d : Nat → Int) : Ck (w.setCells b 0 ((ckI d).map (Value.int .i64))) b d := by
  have hin := World.cell?_setCells_in b ((ckI d).map (Value.int .i64)) 0 w (fun j hj => by rw [Nat.zero_add, h.cell j (by simpa [ckI] using hj)]; rfl)
  refine ⟨fun j hj => ?_, fun j => by rw [World.frozen?_setCells]; exact h.free j, by rw [size_setCells]; exact h.blk⟩
  have h1 := hin j (by simpa [ckI] using hj)
  rw [Nat.zero_add] at h1
  rw [h1]
  have h2 := ckI_el d hj
  have h3 : j < (ckI d).length := hj
  rw [el_eq h3] at h2
  simp [h3, h2]
theorem Ck.setsFar {w : World} {b g : Nat} {c d : Nat → Int} (h : Ck w b c) (hne : b ≠ g) : Ck (w.setCells g 0 ((ckI d).map (Value.int .i64))) b c :=
  h.of_block ((grown_setCells g _ 0 w).block b h.blk (by simpa using hne)) (by rw [size_setCells]; exact h.blk)
/-- Its cells one by one. -/
theorem Ck.all {w : World} {b : Nat} {c : Nat → Int} (h : Ck w b c) : w.cell? ⟨b, 0, none⟩ = some (.int .i64 (c 0)) ∧ w.cell? ⟨b, 1, none⟩ = some (.int .i64 (c 1)) ∧ w.cell? ⟨b, 2, none⟩ = some (.int .i64 (c 2)) ∧ w.cell? ⟨b, 3, none⟩ = some (.int .i64 (c 3)) ∧
    w.cell? ⟨b, 4, none⟩ = some (.int .i64 (c 4)) ∧ w.cell? ⟨b, 5, none⟩ = some (.int .i64 (c 5)) ∧ w.cell? ⟨b, 6, none⟩ = some (.int .i64 (c 6)) ∧ w.cell? ⟨b, 7, none⟩ = some (.int .i64 (c 7)) :=
  ⟨h.cell 0 (by omega), h.cell 1 (by omega), h.cell 2 (by omega), h.cell 3 (by omega), h.cell 4 (by omega), h.cell 5 (by omega), h.cell 6 (by omega), h.cell 7 (by omega)⟩

/-- copy of eight numbers into a clock, in a drawn region. -/
theorem step_copy8 {ops : Array Oper} {o : Oper} {a : Act} {K : Act → World → Prop} {Q : Exit → Act → World → Prop} {E : Prop} {w : World} (hgd : o.guard = none) (x y : Operand)
    (hop : o.op = .call { callee := .builtin .copy, args := #[x, y], argTypes := #[24, 24] }) (b g cap cap' : Nat) (c d : Nat → Int)
    (hx : a.eval x = .slice (some ⟨b, 0, none⟩) 8 cap) (hy : a.eval y = .slice (some ⟨g, 0, none⟩) 8 cap') (hb : Ck w b c) (hg : OwnAt w g cap' (ckI d))
    (h : K (a.put o.dst (goInt 8)) (w.setCells b 0 ((ckI d).map (Value.int .i64)))) : if Region.wanted o (yielded ops a.tmps) = true then Oper.wp Try.prog o a w K Q else E := by
  have hw : Region.wanted o (yielded ops a.tmps) = true := by simp [Region.wanted, hgd]
  rw [if_pos hw]
  have hi : (Try.prog.info? 2).map (·.size) = some 1 := by
    have := Try.info2
    cases hq : Try.prog.info? 2 with
    | none => rw [hq] at this; simp at this
    | some i => rw [hq] at this; simp at this; simp [this.2.1]
  have hr := run_copy_cells (P := Try.prog) w 24 24 o.type 2 b 0 8 cap ⟨g, 0, none⟩ 8 cap' ((ckI d).map (Value.int .i64)) Try.underlying24 hi (by simp [ckI])
    (vec_news (fun i hi => by rw [Nat.zero_add]; exact hg.cell hi)) (fun j hj => by rw [Nat.zero_add, hb.cell j (by simpa [ckI] using hj)]; rfl) (fun j hj => by rw [Nat.zero_add]; exact hb.free j) (by simp [ckI, Value.oneCell'])
  unfold Oper.wp
  simp [execOp, hop, resolve, invoke, builtin, hx, hy, hr, Result.andThen]
  exact h

/-- The world in which joined has laid its four clocks. -/
theorem four (c d : Nat → Int) (w : World) : ∃ W, (((w.alloc (.cells #[.int .i64 (c 0), .int .i64 (c 1), .int .i64 (c 2), .int .i64 (c 3), .int .i64 (c 4), .int .i64 (c 5), .int .i64 (c 6), .int .i64 (c 7)] 95)).alloc (.cells #[.int .i64 (d 0), .int .i64 (d 1), .int .i64 (d 2), .int .i64 (d 3), .int .i64 (d 4), .int .i64 (d 5), .int .i64 (d 6), .int .i64 (d 7)] 95)).alloc (.cells #[.int .i64 0, .int .i64 0, .int .i64 0, .int .i64 0, .int .i64 0, .int .i64 0, .int .i64 0, .int .i64 0] 95)).alloc (.cells #[.int .i64 0, .int .i64 0, .int .i64 0, .int .i64 0, .int .i64 0, .int .i64 0, .int .i64 0, .int .i64 0] 95) = W ∧
    Ck W w.heap.size c ∧ Ck W (w.heap.size + 1) d ∧ Ck W (w.heap.size + 1 + 1) (fun _ => 0) ∧ Ck W (w.heap.size + 1 + 1 + 1) (fun _ => 0) ∧ Below w.heap.size w W ∧ W.heap.size = w.heap.size + 4 := by
  have K1 := ck_block (c := c) (heap_alloc_new w (.cells (ckA c) 95))
  obtain ⟨W1, e1⟩ : ∃ W1, w.alloc (.cells (ckA c) 95) = W1 := ⟨_, rfl⟩
  have s1 : W1.heap.size = w.heap.size + 1 := by rw [← e1]; simp
  have B1 : Below w.heap.size w W1 := by rw [← e1]; exact (Below.refl _ _).alloc (Nat.le_refl _) _
  rw [e1] at K1
  have K2 := ck_block (c := d) (heap_alloc_new W1 (.cells (ckA d) 95))
  obtain ⟨W2, e2⟩ : ∃ W2, W1.alloc (.cells (ckA d) 95) = W2 := ⟨_, rfl⟩
  have s2 : W2.heap.size = w.heap.size + 2 := by rw [← e2]; simp [s1]
  have B2 : Below W1.heap.size W1 W2 := by rw [← e2]; exact (Below.refl _ _).alloc (Nat.le_refl _) _
  rw [e2, s1] at K2
  have K3 := ck_block (c := fun _ => 0) (heap_alloc_new W2 (.cells (ckA (fun _ => 0)) 95))
  obtain ⟨W3, e3⟩ : ∃ W3, W2.alloc (.cells (ckA (fun _ => 0)) 95) = W3 := ⟨_, rfl⟩
  have s3 : W3.heap.size = w.heap.size + 3 := by rw [← e3]; simp [s2]
  have B3 : Below W2.heap.size W2 W3 := by rw [← e3]; exact (Below.refl _ _).alloc (Nat.le_refl _) _
  rw [e3, s2] at K3
  have K4 := ck_block (c := fun _ => 0) (heap_alloc_new W3 (.cells (ckA (fun _ => 0)) 95))
  obtain ⟨W4, e4⟩ : ∃ W4, W3.alloc (.cells (ckA (fun _ => 0)) 95) = W4 := ⟨_, rfl⟩
  have s4 : W4.heap.size = w.heap.size + 4 := by rw [← e4]; simp [s3]
  have B4 : Below W3.heap.size W3 W4 := by rw [← e4]; exact (Below.refl _ _).alloc (Nat.le_refl _) _
  rw [e4, s3] at K4
  refine ⟨W4, ?_, ((K1.below B2 (by omega)).below B3 (by omega)).below B4 (by omega), (K2.below B3 (by omega)).below B4 (by omega), K3.below B4 (by omega), K4, ((B1.trans (B2.mono (by omega))).trans (B3.mono (by omega))).trans (B4.mono (by omega)), s4⟩
  rw [← e4, ← e3, ← e2, ← e1]
  rfl

set_option maxRecDepth 100000 in
set_option maxHeartbeats 1600000 in
theorem joined_any (c d : Nat → Int) (w : World) (hc : ∀ j, j < 8 → 0 ≤ c j ∧ c j ≤ 1000000) (hd : ∀ j, j < 8 → 0 ≤ d j ∧ d j ≤ 1000000) :
    Calls Try.prog 130 #[ckV c, ckV d] w fun e w' => e = .returned (ckV (fun j => max (c j) (d j))) ∧ Below w.heap.size w w' := by
  have F1 := ck_fits hc
  have F2 := ck_fits hd
  have HP : Hid (pairB max (ckI c) (ckI d) = ckI (fun j => max (c j) (d j))) := pair_ck hc hd
  obtain ⟨W, hW, K1, K2, K3, K4, hB, hs⟩ := four c d w
  unfold ckV
  go_enter Try.func130, Try.ntmps130
  go_wp2_with fail

  have HB : Hid (Below w.heap.size w W) := hB
  have HS : Hid (W.heap.size = w.heap.size + 4) := hs
  have N1 : w.heap.size < W.heap.size := by omega
  have N2 : w.heap.size + 1 < W.heap.size := by omega
  have N3 : w.heap.size + 1 + 1 < W.heap.size := by omega
  have N4 : w.heap.size + 1 + 1 + 1 < W.heap.size := by omega
  clear hW hB hs
  go_region_held3 (fun _ => True)
    (trivial)
    (first
      | (go_at_call 15; refine (implJoin_any _ _ _ _ _ _ (ckI c) (ckI d) _ ((K1.drewN _).vec F1) ((K2.drewN _).vec F2) (by omega) (by omega) (by unfold maxLen; omega) (by unfold maxLen; omega)).mono ?_; rw [HP.out]; rintro e w3 ⟨g, cp, rfl, hg, ho, hb3⟩)
      | (refine step_copy8 (by rfl) _ _ (by rfl) (w.heap.size + 1 + 1 + 1) g 8 cp (fun _ => 0) (fun j => max (c j) (d j)) (by rfl) (by rfl) (K4.drewN 1 |>.below hb3 N4) ho ?_))
  obtain ⟨W4, hW4⟩ : ∃ W4, w3.setCells (w.heap.size + 1 + 1 + 1) 0 ((ckI (fun j => max (c j) (d j))).map (Value.int .i64)) = W4 := ⟨_, rfl⟩
  have Z4 : Ck W4 (w.heap.size + 1 + 1 + 1) (fun j => max (c j) (d j)) := by rw [← hW4]; exact ((K4.drewN 1).below hb3 N4).sets _
  have Z3 : Ck W4 (w.heap.size + 1 + 1) (fun _ => 0) := by rw [← hW4]; exact ((K3.drewN 1).below hb3 N3).setsFar (by omega)
  have HB4 : Hid (Below w.heap.size w W4) := by
    rw [Hid, ← hW4]
    exact (HB.out.trans (belowN' (hb3.mono (by have := HB.out.size; exact this)))).grown (grown_setCells _ _ _ _) (by have := HB.out.size; have := hb3.size; have e : (W.drewN 1).heap.size = W.heap.size := rfl; omega) (by intro i hi; cases hi; omega)
  rw [hW4]
  obtain ⟨z0, z1, z2, z3, z4, z5, z6, z7⟩ := Z4.all
  obtain ⟨y0, y1, y2, y3, y4, y5, y6, y7⟩ := Z3.all
  have y8 := Z3.free
  clear hW4 hb3 ho hg Z4 HB K1 K2 K3 K4 F1 F2 hc hd HP
  go_wp2
  refine bodyPost_ret (v := .agg #[.int .i64 (max (c 0) (d 0)), .int .i64 (max (c 1) (d 1)), .int .i64 (max (c 2) (d 2)), .int .i64 (max (c 3) (d 3)), .int .i64 (max (c 4) (d 4)), .int .i64 (max (c 5) (d 5)), .int .i64 (max (c 6) (d 6)), .int .i64 (max (c 7) (d 7))]) (by simp [results, Try.results130, go_sem, *]) rfl ⟨rfl, ?_⟩
  exact (((((((HB4.out.setCell (by show w.heap.size ≤ w.heap.size + 1 + 1; omega) _).setCell (by show w.heap.size ≤ w.heap.size + 1 + 1; omega) _).setCell (by show w.heap.size ≤ w.heap.size + 1 + 1; omega) _).setCell (by show w.heap.size ≤ w.heap.size + 1 + 1; omega) _).setCell (by show w.heap.size ≤ w.heap.size + 1 + 1; omega) _).setCell (by show w.heap.size ≤ w.heap.size + 1 + 1; omega) _).setCell (by show w.heap.size ≤ w.heap.size + 1 + 1; omega) _).setCell (by show w.heap.size ≤ w.heap.size + 1 + 1; omega) _
end Go.Proofs.Ytacjpebifacclaa

/-
  A map from keys of two numbers to clocks, as a function that may tell nothing.
-/
namespace Go.Proofs.Ytacjpebifacclaa
set_option linter.unusedSimpArgs false
set_option linter.unusedVariables false
open Go.RowKit Go.Sort
open Go.Maps (Keyed)

theorem row99 : 99 < Try.prog.types.size := Nat.le_of_ble_eq_true (by kernel_rfl)
theorem law99 : Keyed Try.prog 99 :=
  Keyed.of_law (deep_law_laid (k := 99) (by kernel_rfl) (m := 5) (by omega) row99 (by kernel_rfl) (by kernel_rfl))
theorem lits2 (d : Nat) (a : Int) (wa : (Lit.int .i64 a).wf = true) : Try.prog.keyLits (d + 1) 2 [.int .i64 a] = some [.int .i64 a] := by
  simp [Program.keyLits, Try.underlying2, wa]
theorem lits99 (d : Nat) (a b : Int) (wa : (Lit.int .i64 a).wf = true) (wb : (Lit.int .i64 b).wf = true) : Try.prog.keyLits (d + 2) 99 [.int .i64 a, .int .i64 b] = some [.int .i64 a, .int .i64 b] := by
  have h2 : Try.prog.cellsOf 99 = 2 := by kernel_rfl
  have h1 : Try.prog.cellsOf 2 = 1 := by kernel_rfl
  unfold Program.keyLits
  rw [Try.underlying99]
  simp [h1, h2, lits2 d _ wa, lits2 d _ wb]
theorem key_some (a b : Int) (ha : -9223372036854775808 ≤ a ∧ a ≤ 9223372036854775807) (hb : -9223372036854775808 ≤ b ∧ b ≤ 9223372036854775807) : ∃ kl, keyOf Try.prog 99 (keyV a b) = some kl := by
  have hk : Try.prog.keyType 99 = true := by kernel_rfl
  have h2 : Try.prog.cellsOf 99 = 2 := by kernel_rfl
  have wa : (Lit.int .i64 a).wf = true := WalkArith.wf_i64 ha
  have wb : (Lit.int .i64 b).wf = true := WalkArith.wf_i64 hb
  have hf : (keyV a b).formed Try.prog 99 = true := by simp [keyV, Value.formed, Try.underlying99, h2]
  have hc : (keyV a b).cells.toList = [.int .i64 a, .int .i64 b] := rfl
  refine ⟨.string (keyBytes [.int .i64 a, .int .i64 b]), ?_⟩
  unfold keyOf
  rw [Try.underlying99]
  simp only [hk, hf, hc, Bool.and_self, if_true]
  have hs : Try.prog.types.size + 1 = (Try.prog.types.size - 1) + 2 := by have := row99; omega
  rw [hs, lits99 _ a b wa wb]
  rfl

/-- What a clock reads as. -/
def ckD (c : Nat → Int) : DataW Unit := .agg [.lit (.int .i64 (c 0)), .lit (.int .i64 (c 1)), .lit (.int .i64 (c 2)), .lit (.int .i64 (c 3)), .lit (.int .i64 (c 4)), .lit (.int .i64 (c 5)), .lit (.int .i64 (c 6)), .lit (.int .i64 (c 7))]
/-- How a map's element that is a clock reads. -/
def ckElem : Value → Option (DataW Unit × List MemPlace)
  | .agg cs => match cs.toList with
    | [.int .i64 a0, .int .i64 a1, .int .i64 a2, .int .i64 a3, .int .i64 a4, .int .i64 a5, .int .i64 a6, .int .i64 a7] =>
      some (.agg [.lit (.int .i64 a0), .lit (.int .i64 a1), .lit (.int .i64 a2), .lit (.int .i64 a3), .lit (.int .i64 a4), .lit (.int .i64 a5), .lit (.int .i64 a6), .lit (.int .i64 a7)], [])
    | _ => none
  | _ => none
theorem ckElem_mk (c : Nat → Int) : ckElem (ckV c) = some (ckD c, []) := rfl
theorem ckElem_inv {v : Value} {c : Nat → Int} {ps : List MemPlace} (h : ckElem v = some (ckD c, ps)) : v = ckV c := by
  unfold ckElem at h
  split at h
  · rename_i cs
    split at h
    · rename_i a0 a1 a2 a3 a4 a5 a6 a7 e
      simp only [ckD, Option.some.injEq, Prod.mk.injEq, DataW.agg.injEq, List.cons.injEq, DataW.lit.injEq, Lit.int.injEq, true_and, and_true] at h
      obtain ⟨⟨rfl, rfl, rfl, rfl, rfl, rfl, rfl, rfl⟩, _⟩ := h
      have : cs = cs.toList.toArray := by simp
      rw [this, e]
      rfl
    · cases h
  · cases h
theorem zero94 (w : World) : (zeroValue 95).run Try.prog w = .ok (ckV (fun _ => 0)) w := by kernel_rfl

/-- Block B is a map of at most n entries that tells F. -/
def KM (w : World) (B n : Nat) (F : Int → Int → Option (Nat → Int)) : Prop :=
  ∃ D : DataW Unit, w.ownsMap Try.prog 99 ckElem B n D ∧ ∀ a b kl, keyOf Try.prog 99 (keyV a b) = some kl →
    Go.Maps.has D kl = (F a b).isSome ∧ ∀ c, F a b = some c → ∀ z, D.atKey kl z = ckD c
theorem KM.lt {w : World} {B n : Nat} {F : Int → Int → Option (Nat → Int)} (h : KM w B n F) : B < w.heap.size := by obtain ⟨D, h, _⟩ := h; exact h.lt
theorem KM.kept {w w' : World} {B n : Nat} {F : Int → Int → Option (Nat → Int)} {r : Option Nat} (h : KM w B n F) (hg : w.grownBy w' r) (hr : some B ≠ r) : KM w' B n F := by
  obtain ⟨D, h1, h2⟩ := h
  exact ⟨D, h1.kept hg hr, h2⟩
theorem KM.below {w w' : World} {B n : Nat} {F : Int → Int → Option (Nat → Int)} (h : KM w B n F) (hb : Below w.heap.size w w') : KM w' B n F :=
  h.kept (r := none) ⟨hb.os, hb.tape, hb.output, hb.size, fun k hk _ => hb.block k hk⟩ (by simp)
theorem KM.drewN {w : World} {B n : Nat} {F : Int → Int → Option (Nat → Int)} (h : KM w B n F) (k : Nat) : KM (w.drewN k) B n F := h
theorem km_made (w : World) : KM (w.alloc (.map #[] 0)) w.heap.size 0 (fun _ _ => none) := by
  refine ⟨.map [], World.ownsMap_made w _ _ _, fun a b kl _ => ⟨rfl, fun c h => by cases h⟩⟩
theorem KM.congr {w : World} {B n : Nat} {F F' : Int → Int → Option (Nat → Int)} (h : KM w B n F) (e : ∀ a b, F a b = F' a b) : KM w B n F' := by
  have : F = F' := funext fun a => funext fun b => e a b
  rwa [← this]

theorem KM.look {w : World} {B n : Nat} {F : Int → Int → Option (Nat → Int)} (h : KM w B n F) {a b : Int} (ha : -9223372036854775808 ≤ a ∧ a ≤ 9223372036854775807) (hb : -9223372036854775808 ≤ b ∧ b ≤ 9223372036854775807) :
    (Instr.lookup 92 (.map (some B)) (keyV a b) false).run Try.prog w = .ok (ckV ((F a b).getD (fun _ => 0))) w := by
  obtain ⟨D, h1, h2⟩ := h
  obtain ⟨kl, hk⟩ := key_some a b ha hb
  obtain ⟨v, ps, hr, hv⟩ := h1.lookup law99 Try.underlying92 (zero94 w) (ckElem_mk _) hk
  obtain ⟨g1, g2⟩ := h2 a b kl hk
  rw [hr]
  cases hF : F a b with
  | none =>
    rw [hF] at g1
    rw [Go.Maps.atKey_of_not_has (by simpa using g1)] at hv
    rw [ckElem_inv hv]; rfl
  | some c =>
    rw [g2 c hF] at hv
    rw [ckElem_inv hv]; rfl
theorem KM.look_ok {w : World} {B n : Nat} {F : Int → Int → Option (Nat → Int)} (h : KM w B n F) {a b : Int} (ha : -9223372036854775808 ≤ a ∧ a ≤ 9223372036854775807) (hb : -9223372036854775808 ≤ b ∧ b ≤ 9223372036854775807) :
    (Instr.lookup 92 (.map (some B)) (keyV a b) true).run Try.prog w = .ok (.tuple #[ckV ((F a b).getD (fun _ => 0)), .bool (F a b).isSome]) w := by
  obtain ⟨D, h1, h2⟩ := h
  obtain ⟨kl, hk⟩ := key_some a b ha hb
  obtain ⟨v, ps, hr, hv⟩ := h1.look_ok law99 Try.underlying92 (zero94 w) (ckElem_mk _) hk
  obtain ⟨g1, g2⟩ := h2 a b kl hk
  rw [hr, g1]
  cases hF : F a b with
  | none =>
    rw [hF] at g1
    rw [Go.Maps.atKey_of_not_has (by simpa using g1)] at hv
    rw [ckElem_inv hv]; rfl
  | some c =>
    rw [g2 c hF] at hv
    rw [ckElem_inv hv]; rfl
/-- One more entry. -/
def put2 (F : Int → Int → Option (Nat → Int)) (a b : Int) (c : Nat → Int) : Int → Int → Option (Nat → Int) := fun x y => if x = a ∧ y = b then some c else F x y
theorem KM.put {w : World} {B n : Nat} {F : Int → Int → Option (Nat → Int)} (h : KM w B n F) (hn : n < maxLen) {a b : Int} (ha : -9223372036854775808 ≤ a ∧ a ≤ 9223372036854775807) (hb : -9223372036854775808 ≤ b ∧ b ≤ 9223372036854775807) (c : Nat → Int) :
    ∃ w', (Instr.mapUpdate 92 (.map (some B)) (keyV a b) (ckV c)).run Try.prog w = .ok () w' ∧ KM w' B (n + 1) (put2 F a b c) ∧ w.grownBy w' (some B) := by
  obtain ⟨D, h1, h2⟩ := h
  obtain ⟨kl, hk⟩ := key_some a b ha hb
  obtain ⟨w', hr, h3, h4⟩ := h1.update law99 Try.underlying92 hn hk (ckElem_mk c)
  refine ⟨w', hr, ⟨_, h3, fun x y kl' hk' => ?_⟩, h4⟩
  obtain ⟨g1, g2⟩ := h2 x y kl' hk'
  unfold put2
  by_cases e : x = a ∧ y = b
  · obtain ⟨rfl, rfl⟩ := e
    rw [hk] at hk'
    cases hk'
    rw [if_pos ⟨rfl, rfl⟩]
    refine ⟨Go.Maps.has_put_same h1.isMap (law99.key hk) _, fun c' hc' z => ?_⟩
    cases hc'
    exact Go.Maps.atKey_put_same h1.isMap (law99.key hk) _ _
  · have hne : kl' ≠ kl := by
      intro he
      subst he
      have := law99.inj hk' hk
      simp only [keyV, Value.agg.injEq, Array.mk.injEq, List.cons.injEq, Value.int.injEq, true_and, and_true] at this
      exact e this
    rw [if_neg e, Go.Maps.has_put_other hne]
    refine ⟨g1, fun c' hc' z => ?_⟩
    rw [Go.Maps.atKey_put_other hne]
    exact g2 c' hc' z
end Go.Proofs.Ytacjpebifacclaa

/-
  The contract of the program's ticked.
-/
namespace Go.Proofs.Ytacjpebifacclaa
set_option linter.unusedSimpArgs false
set_option linter.unusedVariables false
open Go.RowKit Go.Sort

/-- One more at place p. -/
def up1 (c : Nat → Int) (p : Nat) : Nat → Int := fun j => c j + (if j = p then 1 else 0)
theorem grown_of_below {w w' : World} (h : Below w.heap.size w w') (r : Option Nat) : w.grownBy w' r := ⟨h.os, h.tape, h.output, h.size, fun k hk _ => h.block k hk⟩

/-- What ticked holds as its world goes on. -/
structure Tst (w W : World) (B n : Nat) (F : Int → Int → Option (Nat → Int)) (bc : Nat) (p : Nat) (kd m : Int) (c : Nat → Int) : Prop where
  e0 : W.cell? ⟨w.heap.size, 0, none⟩ = some (.int .i64 (p : Int))
  e1 : W.cell? ⟨w.heap.size, 1, none⟩ = some (.int .i64 kd)
  e2 : W.cell? ⟨w.heap.size, 2, none⟩ = some (.int .i64 m)
  res : Ck W (w.heap.size + 1) (fun _ => 0)
  now : Ck W bc c
  map : KM W B n F
  grown : w.grownBy W (some B)
  lt : B < w.heap.size
  at_ : w.heap.size + 1 < bc
theorem Tst.step {w W W' : World} {B n : Nat} {F : Int → Int → Option (Nat → Int)} {bc p : Nat} {kd m : Int} {c : Nat → Int} (h : Tst w W B n F bc p kd m c) (hb : Below W.heap.size W W') : Tst w W' B n F bc p kd m c := by
  have hs : w.heap.size < W.heap.size := by have := h.res.blk; omega
  exact ⟨(hb.cell (by exact hs)).trans h.e0, (hb.cell (by exact hs)).trans h.e1, (hb.cell (by exact hs)).trans h.e2, h.res.below hb h.res.blk, h.now.below hb h.now.blk, h.map.below hb, h.grown.trans (grown_of_below hb _), h.lt, h.at_⟩
theorem Tst.drewN {w W : World} {B n : Nat} {F : Int → Int → Option (Nat → Int)} {bc p : Nat} {kd m : Int} {c : Nat → Int} (h : Tst w W B n F bc p kd m c) (k : Nat) : Tst w (W.drewN k) B n F bc p kd m c :=
  h.step (belowN (Below.refl _ _))
theorem Tst.put {w W W' : World} {B n n' : Nat} {F F' : Int → Int → Option (Nat → Int)} {bc p : Nat} {kd m : Int} {c : Nat → Int} (h : Tst w W B n F bc p kd m c) (hg : W.grownBy W' (some B)) (hk : KM W' B n' F') : Tst w W' B n' F' bc p kd m c := by
  have hs : w.heap.size < W.heap.size := by have := h.res.blk; omega
  have hl := h.lt
  have ha := h.at_
  have hc : ∀ j, W'.cell? ⟨w.heap.size, j, none⟩ = W.cell? ⟨w.heap.size, j, none⟩ := fun j => World.cell?_of_block (hg.block w.heap.size hs (by simp; omega))
  exact ⟨(hc 0).trans h.e0, (hc 1).trans h.e1, (hc 2).trans h.e2, h.res.grown hg (by simp; omega), h.now.grown hg (by simp; omega), hk, h.grown.trans hg, h.lt, h.at_⟩
theorem Tst.far {w W W' : World} {B n : Nat} {F : Int → Int → Option (Nat → Int)} {bc p : Nat} {kd m : Int} {c d : Nat → Int} (h : Tst w W B n F bc p kd m c) (hg : W.grownBy W' (some bc)) (hk : Ck W' bc d) : Tst w W' B n F bc p kd m d := by
  have hs : w.heap.size < W.heap.size := by have := h.res.blk; omega
  have hl := h.lt
  have ha := h.at_
  have hc : ∀ j, W'.cell? ⟨w.heap.size, j, none⟩ = W.cell? ⟨w.heap.size, j, none⟩ := fun j => World.cell?_of_block (hg.block w.heap.size hs (by simp; omega))
  refine ⟨(hc 0).trans h.e0, (hc 1).trans h.e1, (hc 2).trans h.e2, h.res.grown hg (by simp; omega), hk, h.map.kept hg (by simp; omega), ⟨hg.os.trans h.grown.os, hg.tape.trans h.grown.tape, hg.output.trans h.grown.output, Nat.le_trans h.grown.size hg.size, fun k hk hne => ?_⟩, h.lt, h.at_⟩
  exact (hg.block k (Nat.lt_of_lt_of_le hk h.grown.size) (by simp; omega)).trans (h.grown.block k hk hne)
theorem grown_setCell (W : World) (b i : Nat) (u : Value) : W.grownBy (W.setCell ⟨b, i, none⟩ u) (some b) :=
  ⟨rfl, rfl, rfl, by simp [World.setCell], fun k hk hne => Below.heap_setCell _ _ _ _ (by intro e; exact hne (by rw [e]))⟩
theorem Ck.up {w : World} {b p : Nat} {c : Nat → Int} (h : Ck w b c) (hp : p < 8) : Ck (w.setCell ⟨b, p, none⟩ (.int .i64 (c p + 1))) b (up1 c p) := by
  refine ⟨fun j hj => ?_, fun j => by rw [World.frozen?_setCell]; exact h.free j, by simp [World.setCell]; exact h.blk⟩
  unfold up1
  by_cases e : j = p
  · subst e
    rw [World.cell?_setCell_same _ _ _ (h.cell j hj), if_pos rfl]
  · rw [World.cell?_setCell_other _ _ _ _ (by intro h; have := congrArg Addr.off h; simp only at this; omega), if_neg e, Int.add_zero]; exact h.cell j hj
theorem Tst.up {w W : World} {B n : Nat} {F : Int → Int → Option (Nat → Int)} {bc p : Nat} {kd m : Int} {c : Nat → Int} (h : Tst w W B n F bc p kd m c) (hp : p < 8) : Tst w (W.setCell ⟨bc, p, none⟩ (.int .i64 (c p + 1))) B n F bc p kd m (up1 c p) :=
  h.far (grown_setCell _ _ _ _) (h.now.up hp)
theorem Tst.held {w W : World} {B n : Nat} {F : Int → Int → Option (Nat → Int)} {bc p : Nat} {kd m : Int} {c : Nat → Int} (h : Tst w W B n F bc p kd m c) :
    W.cell? ⟨w.heap.size, 0, none⟩ = some (.int .i64 (p : Int)) ∧ W.cell? ⟨w.heap.size, 2, none⟩ = some (.int .i64 m) ∧ W.cell? ⟨bc, 0, none⟩ = some (.int .i64 (c 0)) ∧ W.cell? ⟨bc, 1, none⟩ = some (.int .i64 (c 1)) ∧ W.cell? ⟨bc, 2, none⟩ = some (.int .i64 (c 2)) ∧ W.cell? ⟨bc, 3, none⟩ = some (.int .i64 (c 3)) ∧
      W.cell? ⟨bc, 4, none⟩ = some (.int .i64 (c 4)) ∧ W.cell? ⟨bc, 5, none⟩ = some (.int .i64 (c 5)) ∧ W.cell? ⟨bc, 6, none⟩ = some (.int .i64 (c 6)) ∧ W.cell? ⟨bc, 7, none⟩ = some (.int .i64 (c 7)) := ⟨h.e0, h.e2, h.now.all⟩
/-- The end of ticked: the clock is laid into the answer. -/
theorem Tst.fin {w W : World} {B n : Nat} {F : Int → Int → Option (Nat → Int)} {bc p : Nat} {kd m : Int} {c : Nat → Int} (h : Tst w W B n F bc p kd m c) (us : List Value) : KM (W.setCells (w.heap.size + 1) 0 us) B n F ∧ w.grownBy (W.setCells (w.heap.size + 1) 0 us) (some B) := by
  have hg := grown_setCells (w.heap.size + 1) us 0 W
  have hl := h.lt
  refine ⟨h.map.kept hg (by simp; omega), ⟨hg.os.trans h.grown.os, hg.tape.trans h.grown.tape, hg.output.trans h.grown.output, Nat.le_trans h.grown.size hg.size, fun k hk hne => ?_⟩⟩
  exact (hg.block k (Nat.lt_of_lt_of_le hk h.grown.size) (by simp; omega)).trans (h.grown.block k hk hne)
/-- The world in which ticked has laid its clock. -/
theorem tst_start {w w2 : World} {B n p : Nat} {F : Int → Int → Option (Nat → Int)} {kd m : Int} (c : Nat → Int) (hK : KM w B n F)
    (hg : Grew ((w.alloc (.cells #[.int .i64 (p : Int), .int .i64 kd, .int .i64 m] 47)).alloc (.cells #[.int .i64 0, .int .i64 0, .int .i64 0, .int .i64 0, .int .i64 0, .int .i64 0, .int .i64 0, .int .i64 0] 95)) w2) :
    ∃ W, w2.alloc (.cells #[.int .i64 (c 0), .int .i64 (c 1), .int .i64 (c 2), .int .i64 (c 3), .int .i64 (c 4), .int .i64 (c 5), .int .i64 (c 6), .int .i64 (c 7)] 95) = W ∧ Tst w W B n F w2.heap.size p kd m c := by
  have E1 := heap_alloc_new w (.cells #[.int .i64 (p : Int), .int .i64 kd, .int .i64 m] 47)
  obtain ⟨W1, e1⟩ : ∃ W1, w.alloc (.cells #[.int .i64 (p : Int), .int .i64 kd, .int .i64 m] 47) = W1 := ⟨_, rfl⟩
  have s1 : W1.heap.size = w.heap.size + 1 := by rw [← e1]; simp
  have B1 : Below w.heap.size w W1 := by rw [← e1]; exact (Below.refl _ _).alloc (Nat.le_refl _) _
  rw [e1] at E1 hg
  have K2 := ck_block (c := fun _ => 0) (heap_alloc_new W1 (.cells (ckA (fun _ => 0)) 95))
  obtain ⟨W2, e2⟩ : ∃ W2, W1.alloc (.cells (ckA (fun _ => 0)) 95) = W2 := ⟨_, rfl⟩
  have s2 : W2.heap.size = w.heap.size + 2 := by rw [← e2]; simp [s1]
  have B2 : Below W1.heap.size W1 W2 := by rw [← e2]; exact (Below.refl _ _).alloc (Nat.le_refl _) _
  rw [e2, s1] at K2
  have hg' : Grew W2 w2 := by rw [← e2]; exact hg
  have B3 := hg'.1
  have K4 := ck_block (c := c) (heap_alloc_new w2 (.cells (ckA c) 95))
  obtain ⟨W, e4⟩ : ∃ W, w2.alloc (.cells (ckA c) 95) = W := ⟨_, rfl⟩
  have B4 : Below w2.heap.size w2 W := by rw [← e4]; exact (Below.refl _ _).alloc (Nat.le_refl _) _
  rw [e4] at K4
  have s3 := B3.size
  have B24 : Below W1.heap.size W1 W := (B2.trans (B3.mono (by omega))).trans (B4.mono (by omega))
  have B14 : Below w.heap.size w W := B1.trans (B24.mono (by omega))
  have hE : W.heap[w.heap.size]? = some (.cells #[.int .i64 (p : Int), .int .i64 kd, .int .i64 m] 47 (0, 0)) := (B24.block _ (by omega)).trans E1
  refine ⟨W, e4, ?_, ?_, ?_, (K2.below B3 K2.blk).below B4 (by omega), K4, hK.below B14, grown_of_below B14 _, hK.lt, by omega⟩
  · simp [World.cell?, hE]
  · simp [World.cell?, hE]
  · simp [World.cell?, hE]

set_option maxRecDepth 100000 in
set_option maxHeartbeats 1600000 in
theorem tickedL (B n p : Nat) (F : Int → Int → Option (Nat → Int)) (kd m : Int) (c : Nat → Int) (w : World) (hK : KM w B n F) (hn : n ≤ 1000) (hp : p < 8)
    (hc : (F 1 p).getD (fun _ => 0) = c) (hb : ∀ j, j < 8 → 0 ≤ c j ∧ c j ≤ 999999) (h2 : kd ≠ 2) (h3 : kd ≠ 3) :
    Calls Try.prog 102 #[.map (some B), .agg #[.int .i64 (p : Int), .int .i64 kd, .int .i64 m]] w fun r w' => r = .returned (ckV (up1 c p)) ∧ KM w' B (n + 1) (put2 F 1 p (up1 c p)) ∧ w.grownBy w' (some B) := by
  have k2 : (kd == 2) = false := by simpa using h2
  have k3 : (kd == 3) = false := by simpa using h3
  have HP : Hid (p < 8) := hp
  have hp0 : (0 : Int) ≤ (p : Int) := by omega
  have hp8 : (p : Int) < 8 := by omega
  have hnm : n < maxLen := by unfold maxLen; omega
  have hnm1 : n + 1 < maxLen := by unfold maxLen; omega
  have h1b : (-9223372036854775808 : Int) ≤ 1 ∧ (1 : Int) ≤ 9223372036854775807 := by omega
  have h2b : (-9223372036854775808 : Int) ≤ 2 ∧ (2 : Int) ≤ 9223372036854775807 := by omega
  have hpr : -9223372036854775808 ≤ (p : Int) ∧ (p : Int) ≤ 9223372036854775807 := by omega
  go_enter Try.func102, Try.ntmps102
  go_wp2_with fail
  refine (ofNode_any _ _).mono ?_
  rintro e w2 ⟨rfl, hg2⟩
  have hL := (hK.below ((Below.refl _ _).alloc (Nat.le_refl _) _)).below ((Below.refl _ _).alloc (Nat.le_refl _) _) |>.below hg2.1 |>.look (a := 1) (b := p) h1b hpr
  obtain ⟨W, hW, T⟩ := tst_start c hK hg2
  rw [hc] at hL
  unfold keyV ckV at hL
  unfold keyV
  have HC : Hid ((F 1 p).getD (fun _ => 0) = c) := hc
  have HBC : Hid (∀ j, j < 8 → 0 ≤ c j ∧ c j ≤ 999999) := hb
  have HT : Hid (Tst w W B n F w2.heap.size p kd m c) := T
  have q0 := T.e0
  have q1 := T.e1
  have HBD : Hid (∀ j, j < 8 → 0 ≤ c j ∧ c j ≤ 999999) := hb
  have qp := HT.out.now.cell p HP.out
  have qf := HT.out.now.free p
  have hk1 : c p + 1 ≤ 9223372036854775807 := by have := HBD.out p HP.out; omega
  have hk0 : -9223372036854775808 ≤ c p + 1 := by have := HBD.out p HP.out; omega
  obtain ⟨W', hW'⟩ : ∃ W', W.setCell ⟨w2.heap.size, p, none⟩ (.int .i64 (c p + 1)) = W' := ⟨_, rfl⟩
  have HT' : Hid (Tst w W' B n F w2.heap.size p kd m (up1 c p)) := by rw [Hid, ← hW']; exact HT.out.up HP.out
  clear hg2 hc hb T hK h2 h3 hp
  go_wp2_with fail
  clear q0 q1 qp qf hW' hk1 hk0
  go_region_held3 (fun X => X.cell? ⟨w.heap.size, 0, none⟩ = some (.int .i64 (p : Int)) ∧ X.cell? ⟨w.heap.size, 2, none⟩ = some (.int .i64 m) ∧ X.cell? ⟨w2.heap.size, 0, none⟩ = some (.int .i64 (up1 c p 0)) ∧ X.cell? ⟨w2.heap.size, 1, none⟩ = some (.int .i64 (up1 c p 1)) ∧ X.cell? ⟨w2.heap.size, 2, none⟩ = some (.int .i64 (up1 c p 2)) ∧ X.cell? ⟨w2.heap.size, 3, none⟩ = some (.int .i64 (up1 c p 3)) ∧ X.cell? ⟨w2.heap.size, 4, none⟩ = some (.int .i64 (up1 c p 4)) ∧ X.cell? ⟨w2.heap.size, 5, none⟩ = some (.int .i64 (up1 c p 5)) ∧ X.cell? ⟨w2.heap.size, 6, none⟩ = some (.int .i64 (up1 c p 6)) ∧ X.cell? ⟨w2.heap.size, 7, none⟩ = some (.int .i64 (up1 c p 7)))
    (first
      | exact T6.held
      | exact T5.held
      | exact (HT'.out.drewN 1).held)
    (first
      | (go_at_call 103; refine (ofNode_any _ _).mono ?_; rintro e w5 ⟨rfl, hg5⟩; have T5 := (HT'.out.drewN 1).step hg5.1; obtain ⟨w6, hr6, km6, gr6⟩ := T5.map.put hnm h1b hpr (up1 c p); have T6 := T5.put gr6 km6; unfold keyV ckV at hr6; unfold keyV))
  have q1 := T6.e1
  obtain ⟨z0, z1, z2, z3, z4, z5, z6, z7⟩ := T6.now.all
  obtain ⟨y0, y1, y2, y3, y4, y5, y6, y7⟩ := T6.res.all
  have y8 := T6.res.free
  have HE : Hid _ := T6.fin ((ckI (up1 c p)).map (Value.int .i64))
  clear T5 T6 hr6 km6 gr6 hg5
  go_wp2
  refine bodyPost_ret (v := .agg #[.int .i64 (up1 (c) p 0), .int .i64 (up1 (c) p 1), .int .i64 (up1 (c) p 2), .int .i64 (up1 (c) p 3), .int .i64 (up1 (c) p 4), .int .i64 (up1 (c) p 5), .int .i64 (up1 (c) p 6), .int .i64 (up1 (c) p 7)]) (by simp [results, Try.results102, go_sem, *]) rfl ⟨rfl, ?_⟩
  exact HE.out

set_option maxRecDepth 100000 in
set_option maxHeartbeats 1600000 in
theorem tickedS (B n p : Nat) (F : Int → Int → Option (Nat → Int)) (m : Int) (c : Nat → Int) (w : World) (hK : KM w B n F) (hn : n ≤ 1000) (hp : p < 8)
    (hc : (F 1 p).getD (fun _ => 0) = c) (hb : ∀ j, j < 8 → 0 ≤ c j ∧ c j ≤ 999999) (hm : -9223372036854775808 ≤ m ∧ m ≤ 9223372036854775807) :
    Calls Try.prog 102 #[.map (some B), .agg #[.int .i64 (p : Int), .int .i64 2, .int .i64 m]] w fun r w' => r = .returned (ckV (up1 c p)) ∧ KM w' B (n + 1 + 1) (put2 (put2 F 1 p (up1 c p)) 2 m (up1 c p)) ∧ w.grownBy w' (some B) := by
  have HP : Hid (p < 8) := hp
  have hp0 : (0 : Int) ≤ (p : Int) := by omega
  have hp8 : (p : Int) < 8 := by omega
  have hnm : n < maxLen := by unfold maxLen; omega
  have hnm1 : n + 1 < maxLen := by unfold maxLen; omega
  have h1b : (-9223372036854775808 : Int) ≤ 1 ∧ (1 : Int) ≤ 9223372036854775807 := by omega
  have h2b : (-9223372036854775808 : Int) ≤ 2 ∧ (2 : Int) ≤ 9223372036854775807 := by omega
  have hpr : -9223372036854775808 ≤ (p : Int) ∧ (p : Int) ≤ 9223372036854775807 := by omega
  go_enter Try.func102, Try.ntmps102
  go_wp2_with fail
  refine (ofNode_any _ _).mono ?_
  rintro e w2 ⟨rfl, hg2⟩
  have hL := (hK.below ((Below.refl _ _).alloc (Nat.le_refl _) _)).below ((Below.refl _ _).alloc (Nat.le_refl _) _) |>.below hg2.1 |>.look (a := 1) (b := p) h1b hpr
  obtain ⟨W, hW, T⟩ := tst_start c hK hg2
  rw [hc] at hL
  unfold keyV ckV at hL
  unfold keyV
  have HC : Hid ((F 1 p).getD (fun _ => 0) = c) := hc
  have HBC : Hid (∀ j, j < 8 → 0 ≤ c j ∧ c j ≤ 999999) := hb
  have HT : Hid (Tst w W B n F w2.heap.size p 2 m c) := T
  have q0 := T.e0
  have q1 := T.e1
  have HBD : Hid (∀ j, j < 8 → 0 ≤ c j ∧ c j ≤ 999999) := hb
  have qp := HT.out.now.cell p HP.out
  have qf := HT.out.now.free p
  have hk1 : c p + 1 ≤ 9223372036854775807 := by have := HBD.out p HP.out; omega
  have hk0 : -9223372036854775808 ≤ c p + 1 := by have := HBD.out p HP.out; omega
  obtain ⟨W', hW'⟩ : ∃ W', W.setCell ⟨w2.heap.size, p, none⟩ (.int .i64 (c p + 1)) = W' := ⟨_, rfl⟩
  have HT' : Hid (Tst w W' B n F w2.heap.size p 2 m (up1 c p)) := by rw [Hid, ← hW']; exact HT.out.up HP.out
  clear hg2 hc hb T hK hp
  go_wp2_with fail
  clear q0 q1 qp qf hW' hk1 hk0
  go_region_held3 (fun X => X.cell? ⟨w.heap.size, 0, none⟩ = some (.int .i64 (p : Int)) ∧ X.cell? ⟨w.heap.size, 2, none⟩ = some (.int .i64 m) ∧ X.cell? ⟨w2.heap.size, 0, none⟩ = some (.int .i64 (up1 c p 0)) ∧ X.cell? ⟨w2.heap.size, 1, none⟩ = some (.int .i64 (up1 c p 1)) ∧ X.cell? ⟨w2.heap.size, 2, none⟩ = some (.int .i64 (up1 c p 2)) ∧ X.cell? ⟨w2.heap.size, 3, none⟩ = some (.int .i64 (up1 c p 3)) ∧ X.cell? ⟨w2.heap.size, 4, none⟩ = some (.int .i64 (up1 c p 4)) ∧ X.cell? ⟨w2.heap.size, 5, none⟩ = some (.int .i64 (up1 c p 5)) ∧ X.cell? ⟨w2.heap.size, 6, none⟩ = some (.int .i64 (up1 c p 6)) ∧ X.cell? ⟨w2.heap.size, 7, none⟩ = some (.int .i64 (up1 c p 7)))
    (first
      | exact T6.held
      | exact T5.held
      | exact (HT'.out.drewN 1).held)
    (first
      | (go_at_call 103; refine (ofNode_any _ _).mono ?_; rintro e w5 ⟨rfl, hg5⟩; have T5 := (HT'.out.drewN 1).step hg5.1; obtain ⟨w6, hr6, km6, gr6⟩ := T5.map.put hnm h1b hpr (up1 c p); have T6 := T5.put gr6 km6; unfold keyV ckV at hr6; unfold keyV))
  have HT6 : Hid (Tst w w6 B (n + 1) (put2 F 1 p (up1 c p)) w2.heap.size p 2 m (up1 c p)) := T6
  have q1 := T6.e1
  clear T5 T6 hr6 km6 gr6 hg5
  go_wp2_with fail
  clear q1
  go_region_held3 (fun X => X.cell? ⟨w.heap.size, 0, none⟩ = some (.int .i64 (p : Int)) ∧ X.cell? ⟨w.heap.size, 2, none⟩ = some (.int .i64 m) ∧ X.cell? ⟨w2.heap.size, 0, none⟩ = some (.int .i64 (up1 c p 0)) ∧ X.cell? ⟨w2.heap.size, 1, none⟩ = some (.int .i64 (up1 c p 1)) ∧ X.cell? ⟨w2.heap.size, 2, none⟩ = some (.int .i64 (up1 c p 2)) ∧ X.cell? ⟨w2.heap.size, 3, none⟩ = some (.int .i64 (up1 c p 3)) ∧ X.cell? ⟨w2.heap.size, 4, none⟩ = some (.int .i64 (up1 c p 4)) ∧ X.cell? ⟨w2.heap.size, 5, none⟩ = some (.int .i64 (up1 c p 5)) ∧ X.cell? ⟨w2.heap.size, 6, none⟩ = some (.int .i64 (up1 c p 6)) ∧ X.cell? ⟨w2.heap.size, 7, none⟩ = some (.int .i64 (up1 c p 7)))
    (first
      | exact T8.held
      | exact T7.held
      | exact (HT6.out.drewN 1).held)
    (first
      | (go_at_call 131; refine (ofMail_any _ _).mono ?_; rintro e w7 ⟨rfl, hg7⟩; have T7 := (HT6.out.drewN 1).step hg7.1; obtain ⟨w8, hr8, km8, gr8⟩ := T7.map.put hnm1 h2b hm (up1 c p); have T8 := T7.put gr8 km8; unfold keyV ckV at hr8; unfold keyV))
  have q1 := T8.e1
  obtain ⟨z0, z1, z2, z3, z4, z5, z6, z7⟩ := T8.now.all
  obtain ⟨y0, y1, y2, y3, y4, y5, y6, y7⟩ := T8.res.all
  have y8 := T8.res.free
  have HE : Hid _ := T8.fin ((ckI (up1 c p)).map (Value.int .i64))
  clear T7 T8 hr8 km8 gr8 hg7
  go_wp2
  refine bodyPost_ret (v := .agg #[.int .i64 (up1 (c) p 0), .int .i64 (up1 (c) p 1), .int .i64 (up1 (c) p 2), .int .i64 (up1 (c) p 3), .int .i64 (up1 (c) p 4), .int .i64 (up1 (c) p 5), .int .i64 (up1 (c) p 6), .int .i64 (up1 (c) p 7)]) (by simp [results, Try.results102, go_sem, *]) rfl ⟨rfl, ?_⟩
  exact HE.out

set_option maxRecDepth 100000 in
set_option maxHeartbeats 1600000 in
theorem tickedH (B n p : Nat) (F : Int → Int → Option (Nat → Int)) (m : Int) (c : Nat → Int) (w : World) (hK : KM w B n F) (hn : n ≤ 1000) (hp : p < 8)
    (hc : (F 1 p).getD (fun _ => 0) = c) (hb : ∀ j, j < 8 → 0 ≤ c j ∧ c j ≤ 999999) (hm : -9223372036854775808 ≤ m ∧ m ≤ 9223372036854775807) (d : Nat → Int) (hd : (F 2 m).getD (fun _ => 0) = d) (hbd : ∀ j, j < 8 → 0 ≤ d j ∧ d j ≤ 999999) :
    Calls Try.prog 102 #[.map (some B), .agg #[.int .i64 (p : Int), .int .i64 3, .int .i64 m]] w fun r w' => r = .returned (ckV (up1 (fun j => max (c j) (d j)) p)) ∧ KM w' B (n + 1) (put2 F 1 p (up1 (fun j => max (c j) (d j)) p)) ∧ w.grownBy w' (some B) := by
  have HP : Hid (p < 8) := hp
  have hp0 : (0 : Int) ≤ (p : Int) := by omega
  have hp8 : (p : Int) < 8 := by omega
  have hnm : n < maxLen := by unfold maxLen; omega
  have hnm1 : n + 1 < maxLen := by unfold maxLen; omega
  have h1b : (-9223372036854775808 : Int) ≤ 1 ∧ (1 : Int) ≤ 9223372036854775807 := by omega
  have h2b : (-9223372036854775808 : Int) ≤ 2 ∧ (2 : Int) ≤ 9223372036854775807 := by omega
  have hpr : -9223372036854775808 ≤ (p : Int) ∧ (p : Int) ≤ 9223372036854775807 := by omega
  go_enter Try.func102, Try.ntmps102
  go_wp2_with fail
  refine (ofNode_any _ _).mono ?_
  rintro e w2 ⟨rfl, hg2⟩
  have hL := (hK.below ((Below.refl _ _).alloc (Nat.le_refl _) _)).below ((Below.refl _ _).alloc (Nat.le_refl _) _) |>.below hg2.1 |>.look (a := 1) (b := p) h1b hpr
  obtain ⟨W, hW, T⟩ := tst_start c hK hg2
  rw [hc] at hL
  unfold keyV ckV at hL
  unfold keyV
  have HC : Hid ((F 1 p).getD (fun _ => 0) = c) := hc
  have HBC : Hid (∀ j, j < 8 → 0 ≤ c j ∧ c j ≤ 999999) := hb
  have HT : Hid (Tst w W B n F w2.heap.size p 3 m c) := T
  have q0 := T.e0
  have q1 := T.e1
  have HD : Hid ((F 2 m).getD (fun _ => 0) = d) := hd
  have HBD : Hid (∀ j, j < 8 → 0 ≤ max (c j) (d j) ∧ max (c j) (d j) ≤ 999999) := fun j hj => by have := hb j hj; have := hbd j hj; show 0 ≤ max (c j) (d j) ∧ max (c j) (d j) ≤ 999999; omega
  have hbc6 : ∀ j, j < 8 → 0 ≤ c j ∧ c j ≤ 1000000 := fun j hj => by have := hb j hj; omega
  have hbd6 : ∀ j, j < 8 → 0 ≤ d j ∧ d j ≤ 1000000 := fun j hj => by have := hbd j hj; omega
  have hnb : w.heap.size ≠ w2.heap.size := by have := T.at_; omega
  have hJ := fun (X : World) => joined_any c d X hbc6 hbd6
  unfold ckV at hJ
  have HJ : Hid _ := hJ
  clear hg2 hc hb T hK hp hd hbd hbc6 hbd6 hJ
  go_wp2_with fail
  clear q0 q1 hL hW
  obtain ⟨z0, z1, z2, z3, z4, z5, z6, z7⟩ := HT.out.now.all
  have z8 := HT.out.e2
  go_region_with
    (first
      | (go_at_call 131; refine (ofMail_any _ _).mono ?_; rintro e w3 ⟨rfl, hg3⟩; have T3 := (HT.out.drewN 1).step hg3.1; have hl3 := T3.map.look h2b hm; rw [HD.out] at hl3; unfold keyV ckV at hl3; unfold keyV; obtain ⟨x0, x1, x2, x3, x4, x5, x6, x7⟩ := T3.now.all)
      | (go_at_call 130; refine (HJ.out _).mono ?_; rintro e w4 ⟨rfl, hb4⟩; have T4 := T3.step hb4; obtain ⟨v0, v1, v2, v3, v4, v5, v6, v7⟩ := T4.now.all; have v8 := T4.now.free))
  all_goals
    obtain ⟨WQ, hWQ⟩ : ∃ WQ, ((((((((w4.setCell ⟨w2.heap.size, 0, none⟩ (.int .i64 (max (c 0) (d 0)))).setCell ⟨w2.heap.size, 1, none⟩ (.int .i64 (max (c 1) (d 1)))).setCell ⟨w2.heap.size, 2, none⟩ (.int .i64 (max (c 2) (d 2)))).setCell ⟨w2.heap.size, 3, none⟩ (.int .i64 (max (c 3) (d 3)))).setCell ⟨w2.heap.size, 4, none⟩ (.int .i64 (max (c 4) (d 4)))).setCell ⟨w2.heap.size, 5, none⟩ (.int .i64 (max (c 5) (d 5)))).setCell ⟨w2.heap.size, 6, none⟩ (.int .i64 (max (c 6) (d 6)))).setCell ⟨w2.heap.size, 7, none⟩ (.int .i64 (max (c 7) (d 7)))) = WQ := ⟨_, rfl⟩
    have TQ : Tst w WQ B n F w2.heap.size p 3 m (fun j => max (c j) (d j)) := by
      rw [← hWQ]
      exact T4.far (grown_setCells w2.heap.size ((ckI (fun j => max (c j) (d j))).map (Value.int .i64)) 0 w4) (T4.now.sets (fun j => max (c j) (d j)))
    have HTQ : Hid (Tst w WQ B n F w2.heap.size p 3 m (fun j => max (c j) (d j))) := TQ
    have q0 := TQ.e0
    have q1 := TQ.e1
    have qp := TQ.now.cell p HP.out
    have qf := TQ.now.free p
    have hk1 : max (c p) (d p) + 1 ≤ 9223372036854775807 := by have := HBD.out p HP.out; omega
    have hk0 : -9223372036854775808 ≤ max (c p) (d p) + 1 := by have := HBD.out p HP.out; omega
    obtain ⟨W', hW'⟩ : ∃ W', WQ.setCell ⟨w2.heap.size, p, none⟩ (.int .i64 (max (c p) (d p) + 1)) = W' := ⟨_, rfl⟩
    have HT' : Hid (Tst w W' B n F w2.heap.size p 3 m (up1 (fun j => max (c j) (d j)) p)) := by rw [Hid, ← hW']; exact TQ.up HP.out
    clear v0 v1 v2 v3 v4 v5 v6 v7 v8 z0 z1 z2 z3 z4 z5 z6 z7 z8 T4 T3 hb4 hg3 hl3 x0 x1 x2 x3 x4 x5 x6 x7 TQ
    rw [hWQ]
    go_wp2_with fail
    clear q0 q1 qp qf hW' hk1 hk0 hWQ
    go_region_held3 (fun X => X.cell? ⟨w.heap.size, 0, none⟩ = some (.int .i64 (p : Int)) ∧ X.cell? ⟨w.heap.size, 2, none⟩ = some (.int .i64 m) ∧ X.cell? ⟨w2.heap.size, 0, none⟩ = some (.int .i64 (up1 (fun j => max (c j) (d j)) p 0)) ∧ X.cell? ⟨w2.heap.size, 1, none⟩ = some (.int .i64 (up1 (fun j => max (c j) (d j)) p 1)) ∧ X.cell? ⟨w2.heap.size, 2, none⟩ = some (.int .i64 (up1 (fun j => max (c j) (d j)) p 2)) ∧ X.cell? ⟨w2.heap.size, 3, none⟩ = some (.int .i64 (up1 (fun j => max (c j) (d j)) p 3)) ∧ X.cell? ⟨w2.heap.size, 4, none⟩ = some (.int .i64 (up1 (fun j => max (c j) (d j)) p 4)) ∧ X.cell? ⟨w2.heap.size, 5, none⟩ = some (.int .i64 (up1 (fun j => max (c j) (d j)) p 5)) ∧ X.cell? ⟨w2.heap.size, 6, none⟩ = some (.int .i64 (up1 (fun j => max (c j) (d j)) p 6)) ∧ X.cell? ⟨w2.heap.size, 7, none⟩ = some (.int .i64 (up1 (fun j => max (c j) (d j)) p 7)))
      (first
        | exact T6.held
        | exact T5.held
        | exact (HT'.out.drewN 1).held)
      (first
        | (go_at_call 103; refine (ofNode_any _ _).mono ?_; rintro e w5 ⟨rfl, hg5⟩; have T5 := (HT'.out.drewN 1).step hg5.1; obtain ⟨w6, hr6, km6, gr6⟩ := T5.map.put hnm h1b hpr (up1 (fun j => max (c j) (d j)) p); have T6 := T5.put gr6 km6; unfold keyV ckV at hr6; unfold keyV))
    have q1 := T6.e1
    obtain ⟨z0, z1, z2, z3, z4, z5, z6, z7⟩ := T6.now.all
    obtain ⟨y0, y1, y2, y3, y4, y5, y6, y7⟩ := T6.res.all
    have y8 := T6.res.free
    have HE : Hid _ := T6.fin ((ckI (up1 (fun j => max (c j) (d j)) p)).map (Value.int .i64))
    clear T5 T6 hr6 km6 gr6 hg5
    go_wp2
    refine bodyPost_ret (v := .agg #[.int .i64 (up1 (fun j => max (c j) (d j)) p 0), .int .i64 (up1 (fun j => max (c j) (d j)) p 1), .int .i64 (up1 (fun j => max (c j) (d j)) p 2), .int .i64 (up1 (fun j => max (c j) (d j)) p 3), .int .i64 (up1 (fun j => max (c j) (d j)) p 4), .int .i64 (up1 (fun j => max (c j) (d j)) p 5), .int .i64 (up1 (fun j => max (c j) (d j)) p 6), .int .i64 (up1 (fun j => max (c j) (d j)) p 7)]) (by simp [results, Try.results102, go_sem, *]) rfl ⟨rfl, ?_⟩
    exact HE.out
end Go.Proofs.Ytacjpebifacclaa

/-
  ticked at an event of a trace: the clock of the event, and the map of the clocks that later events look for.
-/
namespace Go.Proofs.Ytacjpebifacclaa
set_option linter.unusedSimpArgs false
set_option linter.unusedVariables false
open Go.RowKit Go.Sort

theorem ckV_congr {c d : Nat → Int} (h : ∀ j, j < 8 → c j = d j) : ckV c = ckV d := by
  unfold ckV
  rw [h 0 (by omega), h 1 (by omega), h 2 (by omega), h 3 (by omega), h 4 (by omega), h 5 (by omega), h 6 (by omega), h 7 (by omega)]
theorem ckD_congr {c d : Nat → Int} (h : ∀ j, j < 8 → c j = d j) : ckD c = ckD d := by
  unfold ckD
  rw [h 0 (by omega), h 1 (by omega), h 2 (by omega), h 3 (by omega), h 4 (by omega), h 5 (by omega), h 6 (by omega), h 7 (by omega)]
/-- Alike as far as a clock goes. -/
def Like : Option (Nat → Int) → Option (Nat → Int) → Prop
  | none, none => True
  | some c, some d => ∀ j, j < 8 → c j = d j
  | _, _ => False
theorem Like.refl (o : Option (Nat → Int)) : Like o o := by
  cases o with
  | none => trivial
  | some c => exact fun j _ => rfl
theorem KM.like {w : World} {B n n' : Nat} {F F' : Int → Int → Option (Nat → Int)} (h : KM w B n F) (hn : n ≤ n') (e : ∀ a b, Like (F a b) (F' a b)) : KM w B n' F' := by
  obtain ⟨D, h1, h2⟩ := h
  refine ⟨D, h1.mono hn, fun a b kl hk => ?_⟩
  obtain ⟨g1, g2⟩ := h2 a b kl hk
  have he := e a b
  revert g1 g2 he
  cases F a b with
  | none =>
    cases F' a b with
    | none => exact fun g1 g2 _ => ⟨g1, g2⟩
    | some d => exact fun _ _ he => he.elim
  | some c =>
    cases F' a b with
    | none => exact fun _ _ he => he.elim
    | some d => exact fun g1 g2 he => ⟨g1, fun c' hc' z => by cases hc'; rw [g2 c rfl z]; exact ckD_congr he⟩
/-- What the map tells ahead of event k. -/
def Fk (es : List Ev) (k : Nat) : Int → Int → Option (Nat → Int) := fun a b =>
  if a = 1 then (lastB es b k).map (fun i => el (cl es i)) else if a = 2 then (firstS es b k).map (fun i => el (cl es i)) else none
theorem fk_zero (es : List Ev) (a b : Int) : Fk es 0 a b = none := by
  unfold Fk
  split
  · rfl
  · split <;> rfl
theorem fk_getD (es : List Ev) (o : Option Nat) (j : Nat) : ((o.map (fun i => el (cl es i))).getD (fun _ => 0)) j = el (ckO (cl es) o) j := by
  cases o with
  | none => simp [ckO, el_zer8]
  | some i => rfl
theorem ckO_bound (es : List Ev) {o : Option Nat} {k : Nat} (h : ∀ i, o = some i → i < k) {j : Nat} (hj : j < 8) : 0 ≤ el (ckO (cl es) o) j ∧ el (ckO (cl es) o) j ≤ k := by
  cases o with
  | none => simp only [ckO, el_zer8]; omega
  | some i => have := cl_bound es i j hj; have := h i rfl; simp only [ckO]; omega
theorem okE_kind {es : List Ev} {k : Nat} (h : okE es k = true) : (evAt es k).k = 1 ∨ (evAt es k).k = 2 ∨ (evAt es k).k = 3 := by
  unfold okE at h
  by_cases h1 : (evAt es k).k = 1
  · exact .inl h1
  · by_cases h2 : (evAt es k).k = 2
    · exact .inr (.inl h2)
    · by_cases h3 : (evAt es k).k = 3
      · exact .inr (.inr h3)
      · rw [if_neg h1, if_neg h2, if_neg h3] at h
        simp at h
theorem okE_sent {es : List Ev} {k : Nat} (h : okE es k = true) (h2 : (evAt es k).k = 2) : firstS es (evAt es k).m k = none := by
  unfold okE at h
  rw [if_neg (by omega), if_pos h2] at h
  simp only [Bool.and_eq_true, Option.isNone_iff_eq_none] at h
  exact h.2.2
theorem okT_mail {es : List Ev} {len k : Nat} (hok : okT es len = true) (hk : k < len) : 0 ≤ (evAt es k).m ∧ (evAt es k).m ≤ 1000 := by
  obtain ⟨h40, hall⟩ := okT_all hok
  have hE := hall k hk
  rcases okE_kind hE with h1 | h2 | h3
  · unfold okE at hE
    rw [if_pos h1] at hE
    simp only [Bool.and_eq_true, decide_eq_true_eq] at hE
    omega
  · have := okE_mail hE h2
    omega
  · obtain ⟨s, hs⟩ := Option.ne_none_iff_exists'.1 (okE_first hE h3)
    obtain ⟨a, b, c⟩ := firstS_some hs
    have := okE_mail (hall s (by omega)) b
    omega
theorem lastB_succ (es : List Ev) (b : Int) (k : Nat) : lastB es b (k + 1) = if (evAt es k).n = b then some k else lastB es b k := rfl
theorem firstS_keep {es : List Ev} {b : Int} {k : Nat} (h : (evAt es k).k ≠ 2 ∨ (evAt es k).m ≠ b) : firstS es b (k + 1) = firstS es b k := by
  have e : firstS es b (k + 1) = (match firstS es b k with | some i => some i | none => if (evAt es k).k = 2 ∧ (evAt es k).m = b then some k else none) := rfl
  rw [e]
  cases firstS es b k with
  | some i => rfl
  | none => simp only; rw [if_neg (by rintro ⟨h1, h2⟩; rcases h with h | h <;> exact h (by assumption))]

theorem fk_put1 {es : List Ev} {k : Nat} {c : Nat → Int} {p : Nat} (hp : (evAt es k).n = (p : Int)) (h2 : (evAt es k).k ≠ 2) (hc : ∀ j, j < 8 → c j = el (cl es k) j) (a b : Int) : Like (put2 (Fk es k) 1 p c a b) (Fk es (k + 1) a b) := by
  unfold put2 Fk
  by_cases ha : a = 1
  · subst ha
    simp only [if_true, lastB_succ, hp, true_and]
    by_cases hb : b = (p : Int)
    · subst hb
      rw [if_pos rfl, if_pos rfl]
      exact hc
    · rw [if_neg hb, if_neg (Ne.symm hb)]
      exact Like.refl _
  · rw [if_neg (by rintro ⟨h, _⟩; exact ha h), if_neg ha, if_neg ha]
    by_cases ha2 : a = 2
    · rw [if_pos ha2, if_pos ha2, firstS_keep (.inl h2)]
      exact Like.refl _
    · rw [if_neg ha2, if_neg ha2]; trivial
theorem fk_put2 {es : List Ev} {k : Nat} {c : Nat → Int} {p : Nat} (hp : (evAt es k).n = (p : Int)) (h2 : (evAt es k).k = 2) (hf : firstS es (evAt es k).m k = none) (hc : ∀ j, j < 8 → c j = el (cl es k) j) (a b : Int) :
    Like (put2 (put2 (Fk es k) 1 p c) 2 (evAt es k).m c a b) (Fk es (k + 1) a b) := by
  unfold put2 Fk
  by_cases ha : a = 1
  · subst ha
    simp only [if_true, lastB_succ, hp, true_and]
    rw [if_neg (by omega)]
    by_cases hb : b = (p : Int)
    · subst hb
      rw [if_pos rfl, if_pos rfl]
      exact hc
    · rw [if_neg hb, if_neg (Ne.symm hb)]
      exact Like.refl _
  · by_cases ha2 : a = 2
    · subst ha2
      simp only [if_true, true_and]
      by_cases hb : b = (evAt es k).m
      · subst hb
        rw [if_pos rfl, if_neg ha, firstS_hit hf ⟨h2, rfl⟩ (Nat.lt_succ_self k)]
        exact hc
      · rw [if_neg hb, if_neg (by omega), if_neg ha, if_neg ha, firstS_keep (.inr (Ne.symm hb))]
        exact Like.refl _
    · rw [if_neg (by omega), if_neg (by omega), if_neg ha, if_neg ha2, if_neg ha, if_neg ha2]; trivial

theorem ticked_at (es : List Ev) (k len M nn : Nat) (w : World) (hok : okT es len = true) (hk : k < len) (hK : KM w M nn (Fk es k)) (hn : nn ≤ 900) :
    Calls Try.prog 102 #[.map (some M), .agg #[.int .i64 (evAt es k).n, .int .i64 (evAt es k).k, .int .i64 (evAt es k).m]] w fun r w' => r = .returned (ckV (el (cl es k))) ∧ KM w' M (nn + 2) (Fk es (k + 1)) ∧ w.grownBy w' (some M) := by
  obtain ⟨h40, hall⟩ := okT_all hok
  have hE := hall k hk
  have hr := okE_rng hE
  have hm : -9223372036854775808 ≤ (evAt es k).m ∧ (evAt es k).m ≤ 9223372036854775807 := by
    have := okT_mail hok hk
    omega
  obtain ⟨p, hp⟩ : ∃ p : Nat, (evAt es k).n = (p : Int) := ⟨(evAt es k).n.toNat, by omega⟩
  have hp8 : p < 8 := by omega
  have hpt : (evAt es k).n.toNat = p := by omega
  have hb1 : ∀ j, j < 8 → 0 ≤ el (ckO (cl es) (lastB es (evAt es k).n k)) j ∧ el (ckO (cl es) (lastB es (evAt es k).n k)) j ≤ k := fun j hj => ckO_bound es (fun i hi => (lastB_some hi).1) hj
  have e1 : (Fk es k 1 p).getD (fun _ => 0) = fun j => el (ckO (cl es) (lastB es (evAt es k).n k)) j := by
    funext j
    rw [hp]
    exact fk_getD es _ j
  have e2 : (Fk es k 2 (evAt es k).m).getD (fun _ => 0) = fun j => el (ckO (cl es) (firstS es (evAt es k).m k)) j := by
    funext j
    exact fk_getD es _ j
  have hu : ∀ (o : Option Nat), sndO es k = o → ∀ j, j < 8 → up1 (fun j => max (el (ckO (cl es) (lastB es (evAt es k).n k)) j) (el (ckO (cl es) o) j)) p j = el (cl es k) j := by
    intro o ho j hj
    rw [cl_el hj, ho, hpt]
    unfold up1
    by_cases e : j = p
    · rw [if_pos e, if_pos e.symm]
    · rw [if_neg e, if_neg (Ne.symm e)]
  have hu0 : sndO es k = none → ∀ j, j < 8 → up1 (fun j => el (ckO (cl es) (lastB es (evAt es k).n k)) j) p j = el (cl es k) j := by
    intro ho j hj
    rw [← hu none ho j hj]
    unfold up1
    have := hb1 j hj
    have e0 : el (ckO (cl es) none) j = 0 := el_zer8 j
    dsimp only
    rw [e0]
    omega
  rcases okE_kind hE with h1 | h2 | h3
  · have hs : sndO es k = none := by unfold sndO; rw [if_neg (by omega)]
    rw [hp]
    refine (tickedL M nn p (Fk es k) (evAt es k).k (evAt es k).m _ w hK (by omega) hp8 e1 (fun j hj => by have := hb1 j hj; omega) (by omega) (by omega)).mono ?_
    rintro r w' ⟨rfl, hK', hg⟩
    exact ⟨by rw [ckV_congr (hu0 hs)], hK'.like (by omega) (fk_put1 hp (by omega) (hu0 hs)), hg⟩
  · have hs : sndO es k = none := by unfold sndO; rw [if_neg (by omega)]
    rw [hp, h2]
    refine (tickedS M nn p (Fk es k) (evAt es k).m _ w hK (by omega) hp8 e1 (fun j hj => by have := hb1 j hj; omega) hm).mono ?_
    rintro r w' ⟨rfl, hK', hg⟩
    exact ⟨by rw [ckV_congr (hu0 hs)], hK'.like (by omega) (fk_put2 hp h2 (okE_sent hE h2) (hu0 hs)), hg⟩
  · have hs : sndO es k = firstS es (evAt es k).m k := by unfold sndO; rw [if_pos h3]
    have hb2 : ∀ j, j < 8 → 0 ≤ el (ckO (cl es) (firstS es (evAt es k).m k)) j ∧ el (ckO (cl es) (firstS es (evAt es k).m k)) j ≤ k := fun j hj => ckO_bound es (fun i hi => (firstS_some hi).1) hj
    rw [hp, h3]
    refine (tickedH M nn p (Fk es k) (evAt es k).m _ w hK (by omega) hp8 e1 (fun j hj => by have := hb1 j hj; omega) hm _ e2 (fun j hj => by have := hb2 j hj; omega)).mono ?_
    rintro r w' ⟨rfl, hK', hg⟩
    exact ⟨by rw [ckV_congr (hu _ hs)], hK'.like (by omega) (fk_put1 hp (by omega) (hu _ hs)), hg⟩
end Go.Proofs.Ytacjpebifacclaa

/-
  Slices of slices of numbers, each row in memory of its own; the contract of the program's Clocks.
-/
namespace Go.Proofs.Ytacjpebifacclaa
set_option linter.unusedSimpArgs false
set_option linter.unusedVariables false
open Go.RowKit Go.Sort

theorem infoSl : (Try.prog.info? 24).map (fun i => (i.zero, i.size, i.bytes)) = some (some (.slice none 0 0), 1, 24) := by kernel_rfl
/-- The value of a row: where it lies, its numbers. -/
def rowV (r : Nat × Nat × Nat) (z : List Int) : Value := .slice (some ⟨r.1, r.2.1, none⟩) z.length r.2.2
/-- The cell of row i where the first k are laid. -/
def rowAt (k : Nat) (r : Nat → Nat × Nat × Nat) (Z : Nat → List Int) (i : Nat) : Value := if i < k then rowV (r i) (Z i) else .slice none 0 0
/-- A slice of n rows, of which the first k are laid, each in a block of its own from Bs on. -/
structure VR (w : World) (Bs g off n cap k : Nat) (r : Nat → Nat × Nat × Nat) (Z : Nat → List Int) : Prop where
  outer : OSl w 1 g off n cap ((List.range n).map (rowAt k r Z))
  row : ∀ i, i < k → OI w (r i).1 (r i).2.1 (Z i).length (r i).2.2 (Z i)
  apart : ∀ i j, i < j → j < k → (r i).1 ≠ (r j).1
  far : ∀ i, i < k → (r i).1 ≠ g
  news : ∀ i, i < k → Bs ≤ (r i).1
theorem VR.of_blocks {w w' : World} {Bs g off n cap k : Nat} {r : Nat → Nat × Nat × Nat} {Z : Nat → List Int} (h : VR w Bs g off n cap k r Z) (hs : w.heap.size ≤ w'.heap.size)
    (e : ∀ b, (b = g ∨ ∃ i, i < k ∧ (r i).1 = b) → b < w.heap.size → w'.heap[b]? = w.heap[b]?) : VR w' Bs g off n cap k r Z :=
  ⟨h.outer.of_block (e g (.inl rfl) h.outer.blk) (Nat.lt_of_lt_of_le h.outer.blk hs), fun i hi => OSl.of_block (h.row i hi) (e _ (.inr ⟨i, hi, rfl⟩) (h.row i hi).blk) (Nat.lt_of_lt_of_le (h.row i hi).blk hs), h.apart, h.far, h.news⟩
theorem VR.below {w w' : World} {Bs g off n cap k : Nat} {r : Nat → Nat × Nat × Nat} {Z : Nat → List Int} (h : VR w Bs g off n cap k r Z) (hb : Below w.heap.size w w') : VR w' Bs g off n cap k r Z :=
  h.of_blocks hb.size (fun b _ hb' => hb.block b hb')
theorem VR.drewN {w : World} {Bs g off n cap k : Nat} {r : Nat → Nat × Nat × Nat} {Z : Nat → List Int} (h : VR w Bs g off n cap k r Z) (q : Nat) : VR (w.drewN q) Bs g off n cap k r Z := h.below (belowN (Below.refl _ _))
theorem VR.grown {w w' : World} {Bs g off n cap k M : Nat} {r : Nat → Nat × Nat × Nat} {Z : Nat → List Int} (h : VR w Bs g off n cap k r Z) (hg : w.grownBy w' (some M)) (h1 : M ≠ g) (h2 : M < Bs) : VR w' Bs g off n cap k r Z :=
  h.of_blocks hg.size (fun b hb hlt => hg.block b hlt (by
    rcases hb with rfl | ⟨i, hi, rfl⟩
    · simp; omega
    · have := h.news i hi; simp; omega))
theorem VR.cell {w : World} {Bs g off n cap k : Nat} {r : Nat → Nat × Nat × Nat} {Z : Nat → List Int} (h : VR w Bs g off n cap k r Z) {i : Nat} (hi : i < k) (hn : i < n) : w.cell? ⟨g, off + i, none⟩ = some (rowV (r i) (Z i)) := by
  rw [h.outer.cell i (by omega)]
  simp [hn, rowAt, hi]
theorem VR.mono {w : World} {Bs Bs' g off n cap k : Nat} {r : Nat → Nat × Nat × Nat} {Z : Nat → List Int} (h : VR w Bs g off n cap k r Z) (hB : Bs' ≤ Bs) : VR w Bs' g off n cap k r Z :=
  ⟨h.outer, h.row, h.apart, h.far, fun i hi => Nat.le_trans hB (h.news i hi)⟩
/-- The next row is laid. -/
theorem VR.put {w w' : World} {Bs g off n cap k G o c : Nat} {r : Nat → Nat × Nat × Nat} {Z : Nat → List Int} (h : VR w Bs g off n cap k r Z) (hb : Below w.heap.size w w') (hk : k < n) (hG : w.heap.size ≤ G) (hB : Bs ≤ G) (ho : OI w' G o (Z k).length c (Z k)) :
    VR (w'.setCell ⟨g, off + k, none⟩ (rowV (G, o, c) (Z k))) Bs g off n cap (k + 1) (fun i => if i = k then (G, o, c) else r i) Z := by
  have h' := h.below hb
  have hgG : g ≠ G := by have := h.outer.blk; omega
  have hri : ∀ i, i < k → (r i).1 ≠ G := fun i hi => by have := (h.row i hi).blk; omega
  refine ⟨?_, ?_, ?_, ?_, ?_⟩
  · have hs : (w'.setCell ⟨g, off + k, none⟩ (rowV (G, o, c) (Z k))).heap.size = w'.heap.size := by simp [World.setCell]
    refine ⟨h'.outer.len |>.trans rfl |> fun _ => by simp, h'.outer.le, h'.outer.max, by rw [hs]; exact h'.outer.blk, fun i hi => ?_, fun i hi => ?_, fun i hi => by rw [World.frozen?_setCell]; exact h'.outer.free i hi⟩
    · by_cases e : i = k
      · subst e
        rw [World.cell?_setCell_same _ _ _ ((h'.outer.cell i hi).trans (by simp [show i < n by omega]; rfl))]
        simp [show i < n by omega, rowAt]
      · rw [World.cell?_setCell_other _ _ _ _ (by intro h; have := congrArg Addr.off h; simp only at this; omega), h'.outer.cell i hi]
        simp only [List.getElem?_map, List.getElem?_range (show i < n by omega), Option.map_some, rowAt, if_neg e]
        by_cases hlt : i < k
        · rw [if_pos hlt, if_pos (by omega)]
        · rw [if_neg hlt, if_neg (by omega)]
    · by_cases e : i = k
      · subst e
        rw [World.cell?_setCell_same _ _ _ ((h'.outer.cell i (by omega)).trans (by simp [show i < n by omega]; rfl))]
        rfl
      · rw [World.cell?_setCell_other _ _ _ _ (by intro h; have := congrArg Addr.off h; simp only at this; omega)]
        exact h'.outer.some i hi
  · intro i hi
    by_cases e : i = k
    · subst e
      rw [if_pos rfl]
      exact ho.setFar (Ne.symm hgG)
    · rw [if_neg e]
      exact (h'.row i (by omega)).setFar (h'.far i (by omega))
  · intro i j hij hj
    by_cases e : j = k
    · subst e
      rw [if_neg (by omega), if_pos rfl]
      exact hri i (by omega)
    · rw [if_neg (by omega), if_neg e]
      exact h.apart i j hij (by omega)
  · intro i hi
    by_cases e : i = k
    · rw [if_pos e]; exact Ne.symm hgG
    · rw [if_neg e]; exact h.far i (by omega)
  · intro i hi
    by_cases e : i = k
    · rw [if_pos e]; exact hB
    · rw [if_neg e]; exact h.news i (by omega)
/-- make([][]int64, n): no row is laid. -/
theorem vr_made (w : World) (n Bs : Nat) (hn : n ≤ maxLen) (r : Nat → Nat × Nat × Nat) (Z : Nat → List Int) : VR (w.alloc (.cells (madeCells #[.slice none 0 0] n) 24)) Bs w.heap.size 0 n n 0 r Z := by
  obtain ⟨c, hb, hs, hc⟩ := World.rowIs_made w (.slice none 0 0) n 24
  refine ⟨⟨by simp, Nat.le_refl _, hn, by simp, fun i hi => ?_, fun i hi => ?_, fun i hi => ?_⟩, fun i hi => by omega, fun i j _ hj => by omega, fun i hi => by omega, fun i hi => by omega⟩
  · simp only [World.cell?, hb, Nat.zero_add]
    have : i < n := by omega
    simp [hc i this, this, rowAt]
  · simp only [World.cell?, hb, Nat.zero_add]
    have : i < n := by omega
    simp [hc i this]
  · unfold World.frozen?
    rw [hb]
    simp
/-- An answer that is a slice of n rows, in memory of its own. -/
def AnsV (w w' : World) (e : Ending) (n : Nat) (Z : Nat → List Int) : Prop := ∃ g off cap r, e = .returned (.slice (some ⟨g, off, none⟩) n cap) ∧ w.heap.size ≤ g ∧ VR w' w.heap.size g off n cap n r Z ∧ Below w.heap.size w w'
/-- How many clocks a list has. -/
def ckN (es : List Ev) (len : Nat) : Nat := if okT es len = true then len else 0
theorem vr_none {w : World} {g T : Nat} (h : w.heap[g]? = some (.cells #[] T (0, 0))) (Bs : Nat) (r : Nat → Nat × Nat × Nat) (Z : Nat → List Int) : VR w Bs g 0 0 0 0 r Z :=
  ⟨⟨rfl, Nat.le_refl _, by unfold maxLen; omega, (Array.getElem?_eq_some_iff.1 h).1, fun i hi => by omega, fun i hi => by omega, fun i hi => by omega⟩, fun i hi => by omega, fun i j _ hj => by omega, fun i hi => by omega, fun i hi => by omega⟩

set_option maxRecDepth 100000 in
set_option maxHeartbeats 1600000 in
theorem implClocks_any (b off len cap : Nat) (es : List Ev) (w : World) (hc : EvsAt w b off len es) (hm : len ≤ maxLen) (hcap : len ≤ cap) :
    Calls Try.prog 111 #[.slice (some ⟨b, off, none⟩) len cap] w fun e w' => AnsV w w' e (ckN es len) (cl es) := by
  have hT := implTok_any b off len cap es w hc hm hcap
  cases ho : okT es len
  · rw [ho] at hT
    have HZ : Hid (ckN es len = 0) := by rw [Hid, ckN, ho]; rfl
    go_enter Try.func111, Try.ntmps111
    go_wp2_with fail
    refine hT.mono ?_
    rintro e w1 ⟨rfl, hg1⟩
    have HG : Hid (Grew w w1) := hg1
    clear hg1
    go_wp2
    go_ret
    rw [HZ.out]
    exact ⟨w1.heap.size, 0, 0, fun _ => (0, 0, 0), rfl, HG.out.1.size, vr_none (heap_alloc_new w1 _) _ _ _, (HG.out.alloc _).1⟩
  · rw [ho] at hT
    have HZ : Hid (ckN es len = len) := by rw [Hid, ckN, ho]; rfl
    have HOK : Hid (okT es len = true) := ho
    obtain ⟨h40, hall⟩ := okT_all ho
    have hmk := run_make_row' (P := Try.prog) 44 24 (.slice none 0 0) 24 Try.underlying44 infoSl rfl .i64 .i64 len (by omega) (by omega)
    have hmm := @run_makeMap Try.prog
    clear hall ho
    go_enter Try.func111, Try.ntmps111
    go_wp2_with fail
    refine hT.mono ?_
    rintro e w1 ⟨rfl, hg1⟩
    have HG : Hid (Grew w w1) := hg1
    have HC1 : Hid (EvsAt w1 b off len es) := hc.grew hg1
    have HM : Hid (VR (w1.alloc (.cells (madeCells #[.slice none 0 0] len) 24)) (w1.heap.size + 2) w1.heap.size 0 len len 0 (fun _ => (0, 0, 0)) (cl es)) := vr_made w1 len _ hm _ _
    clear hg1 hc hT
    have HK0 : Hid (KM ((w1.alloc (.cells (madeCells #[.slice none 0 0] len) 24)).alloc (.map #[] 0)) (w1.heap.size + 1) (2 * 0) (Fk es 0)) := by
      have h := km_made (w1.alloc (.cells (madeCells #[.slice none 0 0] len) 24))
      have e : (w1.alloc (.cells (madeCells #[.slice none 0 0] len) 24)).heap.size = w1.heap.size + 1 := by simp
      rw [e] at h
      exact h.like (Nat.le_refl _) (fun a b => by rw [fk_zero]; trivial)
    go_wp2
    go_loopw [17] (fun i wr => ∃ k : Nat, k ≤ len ∧ i = .int .i64 k ∧ (∃ r, VR wr (w1.heap.size + 2) w1.heap.size 0 len len k r (cl es)) ∧ KM wr (w1.heap.size + 1) (2 * k) (Fk es k) ∧ Below w1.heap.size w1 wr) (fun i _ => len - (intOf i).toNat)
    case atStart => exact ⟨0, Nat.zero_le _, rfl, ⟨_, HM.out.below ((Below.refl _ _).alloc (Nat.le_refl _) _)⟩, HK0.out, ((Below.refl _ _).alloc (Nat.le_refl _) _).alloc (by simp) _⟩
    case round =>
      obtain ⟨k, hk, rfl, ⟨r, hrow⟩, hkm, hbel⟩ := hrel
      have HV : Hid (VR wr (w1.heap.size + 2) w1.heap.size 0 len len k r (cl es)) := hrow
      have HK : Hid (KM wr (w1.heap.size + 1) (2 * k) (Fk es k)) := hkm
      have HB : Hid (Below w1.heap.size w1 wr) := hbel
      clear hrow hkm hbel
      by_cases hlt : k < len
      · have HE : Hid (EvsAt wr b off len es) := evs_below HC1.out HB.out (Nat.le_refl _)
        obtain ⟨c0, c1, c2⟩ := HE.out k hlt
        have hkl : (k : Int) < (len : Int) := by omega
        have hk0 : (0 : Int) ≤ (k : Int) := by omega
        go_wp2_with fail
        refine (ticked_at es k len (w1.heap.size + 1) (2 * k) _ HOK.out hlt (HK.out.below ((Below.refl _ _).alloc (Nat.le_refl _) _)) (by omega)).mono ?_
        rintro e w2 ⟨rfl, hK2, hg2⟩
        have V2 := (HV.out.below ((Below.refl _ _).alloc (Nat.le_refl _) (.cells #[.int .i64 (evAt es k).n, .int .i64 (evAt es k).k, .int .i64 (evAt es k).m] 47))).grown hg2 (by omega) (by omega)
        have B2 : Below w1.heap.size w1 w2 := (HB.out.alloc HB.out.size (.cells #[.int .i64 (evAt es k).n, .int .i64 (evAt es k).k, .int .i64 (evAt es k).m] 47)).grown hg2 (by have := HB.out.size; simp; omega) (by intro i hi; cases hi; omega)
        have hTold := told_any (el (cl es k)) w2
        rw [ckI_of (cl_len es k)] at hTold
        clear c0 c1 c2 hg2
        go_wp2_with fail
        refine hTold.mono ?_
        rintro e w3 ⟨G, o, c, rfl, hG, hO, hB3⟩
        have V3 := V2.below hB3
        have x4 := V3.outer.free k (by omega)
        have x5 := V3.outer.cell k (by omega)
        simp only [Nat.zero_add, List.getElem?_map, List.getElem?_range hlt, Option.map_some, rowAt, Nat.lt_irrefl, if_false] at x4 x5
        have HV4 : Hid (VR (w3.setCell ⟨w1.heap.size, k, none⟩ (.slice (some ⟨G, o, none⟩) (cl es k).length c)) (w1.heap.size + 2) w1.heap.size 0 len len (k + 1) (fun i => if i = k then (G, o, c) else r i) (cl es)) := by
          have := V2.put hB3 hlt hG (by have := hK2.lt; omega) hO
          rw [Nat.zero_add] at this
          exact this
        have HK4 : Hid (KM (w3.setCell ⟨w1.heap.size, k, none⟩ (.slice (some ⟨G, o, none⟩) (cl es k).length c)) (w1.heap.size + 1) (2 * k + 2) (Fk es (k + 1))) := (hK2.below hB3).kept (grown_setCell _ _ _ _) (by simp)
        have HB4 : Hid (Below w1.heap.size w1 (w3.setCell ⟨w1.heap.size, k, none⟩ (.slice (some ⟨G, o, none⟩) (cl es k).length c))) := (B2.trans (hB3.mono B2.size)).setCell (Nat.le_refl _) _
        clear hTold hG hO hB3 V2 V3 B2 hK2
        go_wp2
        go_roundw
        case rel => exact ⟨k + 1, by omega, by go_num, ⟨_, HV4.out⟩, HK4.out, HB4.out⟩
        case measure => simp [intOf]; omega
      · have hkl : k = len := by omega
        subst hkl
        go_wp2
        go_ret
        rw [HZ.out]
        exact ⟨w1.heap.size, 0, k, r, rfl, HG.out.1.size, HV.out.mono (by have := HG.out.1.size; omega), HG.out.1.trans (HB.out.mono HG.out.1.size)⟩
end Go.Proofs.Ytacjpebifacclaa

/-
  The contract of the program's Newest.
-/
namespace Go.Proofs.Ytacjpebifacclaa
set_option linter.unusedSimpArgs false
set_option linter.unusedVariables false
open Go.RowKit Go.Sort

/-- A node's newest clock. -/
def nwT (es : List Ev) (len : Nat) (node : Int) : List Int := if okT es len = true then (match lastB es node len with | none => [] | some i => cl es i) else []
theorem look_none {w : World} {B n : Nat} {es : List Ev} {k : Nat} {node : Int} (h : KM w B n (Fk es k)) (hn : -9223372036854775808 ≤ node ∧ node ≤ 9223372036854775807) (hl : lastB es node k = none) :
    (Instr.lookup 92 (.map (some B)) (.agg #[.int .i64 1, .int .i64 node]) true).run Try.prog w = .ok (.tuple #[.agg #[.int .i64 0, .int .i64 0, .int .i64 0, .int .i64 0, .int .i64 0, .int .i64 0, .int .i64 0, .int .i64 0], .bool false]) w := by
  have := h.look_ok (a := 1) (b := node) (by omega) hn
  have e : Fk es k 1 node = none := by unfold Fk; rw [if_pos rfl, hl]; rfl
  rw [e] at this
  exact this
theorem look_some {w : World} {B n : Nat} {es : List Ev} {k i : Nat} {node : Int} (h : KM w B n (Fk es k)) (hn : -9223372036854775808 ≤ node ∧ node ≤ 9223372036854775807) (hl : lastB es node k = some i) :
    (Instr.lookup 92 (.map (some B)) (.agg #[.int .i64 1, .int .i64 node]) true).run Try.prog w = .ok (.tuple #[.agg #[.int .i64 (el (cl es i) 0), .int .i64 (el (cl es i) 1), .int .i64 (el (cl es i) 2), .int .i64 (el (cl es i) 3), .int .i64 (el (cl es i) 4), .int .i64 (el (cl es i) 5), .int .i64 (el (cl es i) 6), .int .i64 (el (cl es i) 7)], .bool true]) w := by
  have := h.look_ok (a := 1) (b := node) (by omega) hn
  have e : Fk es k 1 node = some (el (cl es i)) := by unfold Fk; rw [if_pos rfl, hl]; rfl
  rw [e] at this
  exact this

set_option maxRecDepth 100000 in
set_option maxHeartbeats 1600000 in
theorem implNewest_any (b off len cap : Nat) (es : List Ev) (node : Int) (w : World) (hc : EvsAt w b off len es) (hm : len ≤ maxLen) (hcap : len ≤ cap) (hnode : -9223372036854775808 ≤ node ∧ node ≤ 9223372036854775807) :
    Calls Try.prog 44 #[.slice (some ⟨b, off, none⟩) len cap, .int .i64 node] w fun e w' => Ans w w' e (nwT es len node) := by
  have hT := implTok_any b off len cap es w hc hm hcap
  cases ho : okT es len
  · rw [ho] at hT
    have HZ : Hid (nwT es len node = []) := by rw [Hid, nwT, ho]; rfl
    go_enter Try.func44, Try.ntmps44
    go_wp2_with fail
    refine hT.mono ?_
    rintro e w1 ⟨rfl, hg1⟩
    have HG : Hid (Grew w w1) := hg1
    clear hg1
    go_wp2
    go_ret
    rw [HZ.out]
    exact ⟨w1.heap.size, 0, 0, rfl, HG.out.1.size, oi_empty w1 2, (HG.out.alloc _).1⟩
  · rw [ho] at hT
    have HOK : Hid (okT es len = true) := ho
    obtain ⟨h40, hall⟩ := okT_all ho
    have hmm := @run_makeMap Try.prog
    have HN : Hid (-9223372036854775808 ≤ node ∧ node ≤ 9223372036854775807) := hnode
    clear hall ho
    go_enter Try.func44, Try.ntmps44
    go_wp2_with fail
    refine hT.mono ?_
    rintro e w1 ⟨rfl, hg1⟩
    have HG : Hid (Grew w w1) := hg1
    have HC1 : Hid (EvsAt w1 b off len es) := hc.grew hg1
    have HK0 : Hid (KM (w1.alloc (.map #[] 0)) w1.heap.size (2 * 0) (Fk es 0)) := (km_made w1).like (Nat.le_refl _) (fun a b => by rw [fk_zero]; trivial)
    clear hg1 hc hT
    go_wp2
    go_loopw [17] (fun i wr => ∃ k : Nat, k ≤ len ∧ i = .int .i64 k ∧ KM wr w1.heap.size (2 * k) (Fk es k) ∧ Below w1.heap.size w1 wr) (fun i _ => len - (intOf i).toNat)
    case atStart => exact ⟨0, Nat.zero_le _, rfl, HK0.out, (Below.refl _ _).alloc (Nat.le_refl _) _⟩
    case round =>
      obtain ⟨k, hk, rfl, hkm, hbel⟩ := hrel
      have HK : Hid (KM wr w1.heap.size (2 * k) (Fk es k)) := hkm
      have HB : Hid (Below w1.heap.size w1 wr) := hbel
      clear hkm hbel
      by_cases hlt : k < len
      · have HE : Hid (EvsAt wr b off len es) := evs_below HC1.out HB.out (Nat.le_refl _)
        obtain ⟨c0, c1, c2⟩ := HE.out k hlt
        have hkl : (k : Int) < (len : Int) := by omega
        have hk0 : (0 : Int) ≤ (k : Int) := by omega
        go_wp2_with fail
        refine (ticked_at es k len w1.heap.size (2 * k) _ HOK.out hlt (HK.out.below ((Below.refl _ _).alloc (Nat.le_refl _) _)) (by omega)).mono ?_
        rintro e w2 ⟨rfl, hK2, hg2⟩
        have HK2 : Hid (KM w2 w1.heap.size (2 * k + 2) (Fk es (k + 1))) := hK2
        have HB2 : Hid (Below w1.heap.size w1 w2) := (HB.out.alloc HB.out.size (.cells #[.int .i64 (evAt es k).n, .int .i64 (evAt es k).k, .int .i64 (evAt es k).m] 47)).grown hg2 (by have := HB.out.size; simp; omega) (by intro i hi; cases hi; omega)
        clear c0 c1 c2 hg2 hK2
        go_wp2
        go_roundw
        case rel => exact ⟨k + 1, by omega, by go_num, HK2.out, HB2.out⟩
        case measure => simp [intOf]; omega
      · have hkl : k = len := by omega
        subst hkl
        cases hl : lastB es node k with
        | none =>
          have HZ : Hid (nwT es k node = []) := by rw [Hid, nwT, if_pos HOK.out, hl]
          have HL : Hid (lastB es node k = none) := hl
          clear hl
          go_wp2_with fail
          refine (ofNode_any _ _).mono ?_
          rintro e w2 ⟨rfl, hg2⟩
          have hlk := look_none (HK.out.below hg2.1) HN.out HL.out
          have HB2 : Hid (Below w1.heap.size w1 w2) := HB.out.trans (hg2.1.mono HB.out.size)
          unfold keyV
          clear hg2
          go_wp2
          go_ret
          rw [HZ.out]
          have s2 := HB2.out.size
          have s1 := HG.out.1.size
          have h := oi_empty (w2.alloc (.cells #[.int .i64 0, .int .i64 0, .int .i64 0, .int .i64 0, .int .i64 0, .int .i64 0, .int .i64 0, .int .i64 0] 95)) 2
          have e : (w2.alloc (.cells #[.int .i64 0, .int .i64 0, .int .i64 0, .int .i64 0, .int .i64 0, .int .i64 0, .int .i64 0, .int .i64 0] 95)).heap.size = w2.heap.size + 1 := by simp
          rw [e] at h
          exact ⟨w2.heap.size + 1, 0, 0, rfl, by omega, h, HG.out.1.trans (((HB2.out.alloc s2 _).alloc (by simp; omega) _).mono s1)⟩
        | some i =>
          have HZ : Hid (nwT es k node = cl es i) := by rw [Hid, nwT, if_pos HOK.out, hl]
          have HL : Hid (lastB es node k = some i) := hl
          clear hl
          go_wp2_with fail
          refine (ofNode_any _ _).mono ?_
          rintro e w2 ⟨rfl, hg2⟩
          have hlk := look_some (HK.out.below hg2.1) HN.out HL.out
          have HB2 : Hid (Below w1.heap.size w1 w2) := HB.out.trans (hg2.1.mono HB.out.size)
          have hTold := fun (X : World) => told_any (el (cl es i)) X
          rw [ckI_of (cl_len es i)] at hTold
          unfold ckV at hTold
          have HTD : Hid _ := hTold
          unfold keyV
          clear hg2 hTold
          go_wp2_with fail
          refine (HTD.out _).mono ?_
          rintro e w3 ⟨G, o, c, rfl, hG, hO, hB3⟩
          have HO : Hid (OI w3 G o (cl es i).length c (cl es i)) := hO
          have HG3 : Hid (w2.heap.size ≤ G) := by simp at hG; rw [Hid]; omega
          have HB3 : Hid (Below w1.heap.size w1 w3) := (HB2.out.alloc HB2.out.size _).trans (hB3.mono (by have := HB2.out.size; simp; omega))
          clear hO hG hB3
          go_wp2
          go_ret
          rw [HZ.out]
          have s2 := HB2.out.size
          have s1 := HG.out.1.size
          have s3 := HG3.out
          exact ⟨G, o, c, rfl, by omega, HO.out, HG.out.1.trans (HB3.out.mono s1)⟩
end Go.Proofs.Ytacjpebifacclaa
