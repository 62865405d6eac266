/-
  Several texts in one: Sdf Sen.
-/
import Derived.Test.YtbgkfiijfocgiaaHp
/-
  What the program's settle holds: rules in blocks of their own, closures over them, the list that is worked off, the readers of each number; which block is whose (tags).
-/
namespace Go.Proofs.Ytbgkfiijfocgiaa
set_option linter.unusedSimpArgs false
set_option linter.unusedVariables false
open Go.RowKit Go.Sort

/-- A rule that settle has taken up: the blocks of its mark, of the rule, of its function; the rule. -/
structure Pl where
  wt : Nat
  ru : Nat
  fi : Nat
  r : Ru
deriving DecidableEq
/-- The fixed blocks: the box of the vector, of the list, the readers; where the vector lies. -/
structure Cx where
  bv : Nat
  bw : Nat
  br : Nat
  g : Nat
  o : Nat
  c : Nat
  B : Nat
def pt (b : Nat) : Value := .pointer (some ⟨b, 0, none⟩)
def fireV (X : Cx) (e : Pl) : Value := .func (.func 84) #[] #[pt e.wt, pt e.ru, pt X.bv, pt X.br]
def enlV (X : Cx) (e : Pl) : Value := .func (.func 85) #[] #[pt e.wt, pt X.bw, pt e.fi]

/-- From one world to the next: the blocks outside T stand, the tags of elder blocks too. -/
structure Mv (T : Nat → Nat → Prop) (K K' : Nat → Nat) (w w' : World) : Prop where
  os : w'.os = w.os
  tape : w'.tape = w.tape
  output : w'.output = w.output
  size : w.heap.size ≤ w'.heap.size
  blk : ∀ b, b < w.heap.size → ¬ T b (K b) → w'.heap[b]? = w.heap[b]?
  tag : ∀ b, b < w.heap.size → K' b = K b
theorem Mv.refl (T : Nat → Nat → Prop) (K : Nat → Nat) (w : World) : Mv T K K w w := ⟨rfl, rfl, rfl, Nat.le_refl _, fun _ _ _ => rfl, fun _ _ => rfl⟩
theorem Mv.trans {T : Nat → Nat → Prop} {K K' K'' : Nat → Nat} {w w' w'' : World} (h : Mv T K K' w w') (k : Mv T K' K'' w' w'') : Mv T K K'' w w'' :=
  ⟨k.os.trans h.os, k.tape.trans h.tape, k.output.trans h.output, Nat.le_trans h.size k.size, fun b hb hT => (k.blk b (Nat.lt_of_lt_of_le hb h.size) (by rw [h.tag b hb]; exact hT)).trans (h.blk b hb hT), fun b hb => (k.tag b (Nat.lt_of_lt_of_le hb h.size)).trans (h.tag b hb)⟩
theorem Mv.mono {T T' : Nat → Nat → Prop} {K K' : Nat → Nat} {w w' : World} (h : Mv T K K' w w') (hT : ∀ b t, T b t → T' b t) : Mv T' K K' w w' :=
  ⟨h.os, h.tape, h.output, h.size, fun b hb hn => h.blk b hb (fun h' => hn (hT _ _ h')), h.tag⟩
/-- Only new blocks, or writes into block g. -/
theorem Mv.of_grown {K : Nat → Nat} {w w' : World} {g : Nat} (h : w.grownBy w' (some g)) {T : Nat → Nat → Prop} (hg : g < w.heap.size → T g (K g)) : Mv T K K w w' :=
  ⟨h.os, h.tape, h.output, h.size, fun b hb hn => h.block b hb (fun e => by simp only [Option.some.injEq] at e; subst e; exact hn (hg hb)), fun _ _ => rfl⟩
theorem Mv.of_grew {K : Nat → Nat} {w w' : World} (h : Grew w w') (T : Nat → Nat → Prop) : Mv T K K w w' :=
  ⟨h.1.os, h.1.tape, h.1.output, h.1.size, fun b hb _ => h.1.block b hb, fun _ _ => rfl⟩
theorem Mv.set {K : Nat → Nat} {w : World} (g i : Nat) (v : Value) {T : Nat → Nat → Prop} (hg : g < w.heap.size → T g (K g)) : Mv T K K w (w.setCell ⟨g, i, none⟩ v) :=
  Mv.of_grown (grown_set (grown_refl w _) i v) hg
/-- A new tag for a block that is new or bears it. -/
def tagd (K : Nat → Nat) (g t : Nat) : Nat → Nat := fun b => if b = g then t else K b
theorem tagd_same (K : Nat → Nat) (g t : Nat) : tagd K g t g = t := by simp [tagd]
theorem tagd_other {K : Nat → Nat} {g t b : Nat} (h : b ≠ g) : tagd K g t b = K b := by simp [tagd, h]
theorem Mv.tagd {T : Nat → Nat → Prop} {K K' : Nat → Nat} {w w' : World} (h : Mv T K K' w w') {g t : Nat} (hg : g < w.heap.size → K g = t) : Mv T K (tagd K' g t) w w' :=
  ⟨h.os, h.tape, h.output, h.size, h.blk, fun b hb => by
    by_cases e : b = g
    · subst e; rw [tagd_same, hg hb]
    · rw [tagd_other e]; exact h.tag b hb⟩
theorem Mv.cell {T : Nat → Nat → Prop} {K K' : Nat → Nat} {w w' : World} (h : Mv T K K' w w') {b i : Nat} {v : Value} (hc : w.cell? ⟨b, i, none⟩ = some v) (hT : ¬ T b (K b)) : w'.cell? ⟨b, i, none⟩ = some v :=
  (World.cell?_of_block (h.blk b (World.block_lt_of_cell? _ _ hc) hT)).trans hc
theorem Mv.free {T : Nat → Nat → Prop} {K K' : Nat → Nat} {w w' : World} (h : Mv T K K' w w') {b i : Nat} (hb : b < w.heap.size) (hc : w.frozen? ⟨b, i, none⟩ = false) (hT : ¬ T b (K b)) : w'.frozen? ⟨b, i, none⟩ = false :=
  (World.frozen?_of_block (h.blk b hb hT)).trans hc
theorem Mv.os1 {T : Nat → Nat → Prop} {K K' : Nat → Nat} {w w' : World} (h : Mv T K K' w w') {s g off n cap : Nat} {xs : List Value} (ho : OSl w s g off n cap xs) (hT : ¬ T g (K g)) : OSl w' s g off n cap xs :=
  OSl.of_block ho (h.blk g ho.blk hT) (Nat.lt_of_lt_of_le ho.blk h.size)

/-- The box of the vector. -/
def CV (X : Cx) (K : Nat → Nat) (w : World) : Prop := w.cell? ⟨X.bv, 0, none⟩ = some (.slice (some ⟨X.g, X.o, none⟩) 8 X.c) ∧ K X.bv = 1
/-- The vector. -/
def CN (X : Cx) (K : Nat → Nat) (w : World) (x : List Int) : Prop := OI w X.g X.o 8 X.c x ∧ K X.g = 4
/-- The list that is worked off. -/
def CW (X : Cx) (K : Nat → Nat) (w : World) (L : List Pl) : Prop := ∃ gw ow cw, w.cell? ⟨X.bw, 0, none⟩ = some (.slice (some ⟨gw, ow, none⟩) L.length cw) ∧ w.frozen? ⟨X.bw, 0, none⟩ = false ∧ OSl w 1 gw ow L.length cw (L.map (fireV X)) ∧ K gw = 5 ∧ K X.bw = 2
/-- The readers of number k. -/
def CRk (X : Cx) (K : Nat → Nat) (w : World) (k : Nat) (R : List Pl) : Prop := w.frozen? ⟨X.br, k, none⟩ = false ∧ ∃ v, w.cell? ⟨X.br, k, none⟩ = some v ∧
  ((v = .slice none 0 0 ∧ R = []) ∨ ∃ gr og cr, v = .slice (some ⟨gr, og, none⟩) R.length cr ∧ OSl w 1 gr og R.length cr (R.map (enlV X)) ∧ K gr = 10 + k)
/-- A rule that was taken up, and its mark. -/
structure CP (X : Cx) (K : Nat → Nat) (w : World) (M : Pl → Bool) (e : Pl) : Prop where
  r0 : w.cell? ⟨e.ru, 0, none⟩ = some (.int .i64 e.r.to)
  r1 : w.cell? ⟨e.ru, 1, none⟩ = some (.int .i64 e.r.fr)
  r2 : w.cell? ⟨e.ru, 2, none⟩ = some (.int .i64 e.r.pl)
  r3 : w.cell? ⟨e.ru, 3, none⟩ = some (.int .i64 e.r.mo)
  m : w.cell? ⟨e.wt, 0, none⟩ = some (.bool (M e))
  mf : w.frozen? ⟨e.wt, 0, none⟩ = false
  f : w.cell? ⟨e.fi, 0, none⟩ = some (fireV X e)
  t0 : K e.ru = 20
  t1 : K e.wt = 21
  t2 : K e.fi = 22
theorem CV.mv {X : Cx} {T : Nat → Nat → Prop} {K K' : Nat → Nat} {w w' : World} (h : CV X K w) (m : Mv T K K' w w') (hT : ¬ T X.bv 1) : CV X K' w' :=
  ⟨m.cell h.1 (by rw [h.2]; exact hT), by rw [m.tag _ (World.block_lt_of_cell? _ _ h.1)]; exact h.2⟩
theorem CN.mv {X : Cx} {T : Nat → Nat → Prop} {K K' : Nat → Nat} {w w' : World} {x : List Int} (h : CN X K w x) (m : Mv T K K' w w') (hT : ¬ T X.g 4) : CN X K' w' x :=
  ⟨m.os1 h.1 (by rw [h.2]; exact hT), by rw [m.tag _ h.1.blk]; exact h.2⟩
theorem CW.mv {X : Cx} {T : Nat → Nat → Prop} {K K' : Nat → Nat} {w w' : World} {L : List Pl} (h : CW X K w L) (m : Mv T K K' w w') (hT : ¬ T X.bw 2) (hT' : ∀ b, ¬ T b 5) : CW X K' w' L := by
  obtain ⟨gw, ow, cw, h1, h2, h3, h4, h5⟩ := h
  have hb := World.block_lt_of_cell? _ _ h1
  exact ⟨gw, ow, cw, m.cell h1 (by rw [h5]; exact hT), m.free hb h2 (by rw [h5]; exact hT), m.os1 h3 (by rw [h4]; exact hT' _), by rw [m.tag _ h3.blk]; exact h4, by rw [m.tag _ hb]; exact h5⟩
theorem CRk.mv {X : Cx} {T : Nat → Nat → Prop} {K K' : Nat → Nat} {w w' : World} {k : Nat} {R : List Pl} (h : CRk X K w k R) (hK : K X.br = 3) (m : Mv T K K' w w') (hT : ¬ T X.br 3) (hT' : ∀ b, ¬ T b (10 + k)) : CRk X K' w' k R := by
  obtain ⟨h0, v, h1, h2⟩ := h
  have hb := World.block_lt_of_cell? _ _ h1
  refine ⟨m.free hb h0 (by rw [hK]; exact hT), v, m.cell h1 (by rw [hK]; exact hT), ?_⟩
  rcases h2 with h2 | ⟨gr, og, cr, h3, h4, h5⟩
  · exact .inl h2
  · exact .inr ⟨gr, og, cr, h3, m.os1 h4 (by rw [h5]; exact hT' _), by rw [m.tag _ h4.blk]; exact h5⟩
theorem CP.mv {X : Cx} {T : Nat → Nat → Prop} {K K' : Nat → Nat} {w w' : World} {M : Pl → Bool} {e : Pl} (h : CP X K w M e) (m : Mv T K K' w w') (h0 : ¬ T e.ru 20) (h1 : ¬ T e.wt 21) (h2 : ¬ T e.fi 22) : CP X K' w' M e :=
  ⟨m.cell h.r0 (by rw [h.t0]; exact h0), m.cell h.r1 (by rw [h.t0]; exact h0), m.cell h.r2 (by rw [h.t0]; exact h0), m.cell h.r3 (by rw [h.t0]; exact h0), m.cell h.m (by rw [h.t1]; exact h1), m.free (World.block_lt_of_cell? _ _ h.m) h.mf (by rw [h.t1]; exact h1), m.cell h.f (by rw [h.t2]; exact h2),
    by rw [m.tag _ (World.block_lt_of_cell? _ _ h.r0)]; exact h.t0, by rw [m.tag _ (World.block_lt_of_cell? _ _ h.m)]; exact h.t1, by rw [m.tag _ (World.block_lt_of_cell? _ _ h.f)]; exact h.t2⟩
/-- The rule's mark is written; all else stands. -/
theorem CP.mark {X : Cx} {T : Nat → Nat → Prop} {K K' : Nat → Nat} {w w' : World} {M M' : Pl → Bool} {e : Pl} (h : CP X K w M e) (m : Mv T K K' w w') (h0 : ¬ T e.ru 20) (h2 : ¬ T e.fi 22) (hm : w'.cell? ⟨e.wt, 0, none⟩ = some (.bool (M' e))) (hf : w'.frozen? ⟨e.wt, 0, none⟩ = false) : CP X K' w' M' e :=
  ⟨m.cell h.r0 (by rw [h.t0]; exact h0), m.cell h.r1 (by rw [h.t0]; exact h0), m.cell h.r2 (by rw [h.t0]; exact h0), m.cell h.r3 (by rw [h.t0]; exact h0), hm, hf, m.cell h.f (by rw [h.t2]; exact h2),
    by rw [m.tag _ (World.block_lt_of_cell? _ _ h.r0)]; exact h.t0, by rw [m.tag _ (World.block_lt_of_cell? _ _ h.m)]; exact h.t1, by rw [m.tag _ (World.block_lt_of_cell? _ _ h.f)]; exact h.t2⟩
theorem CP.congr {X : Cx} {K : Nat → Nat} {w : World} {M M' : Pl → Bool} {e : Pl} (h : CP X K w M e) (hm : M e = M' e) : CP X K w M' e := ⟨h.r0, h.r1, h.r2, h.r3, by rw [h.m, hm], h.mf, h.f, h.t0, h.t1, h.t2⟩

/-- All that settle holds: w0 is the world that it was called in. -/
structure Sq (X : Cx) (w0 : World) (K : Nat → Nat) (w : World) (x : List Int) (L ps : List Pl) (M : Pl → Bool) : Prop where
  v : CV X K w
  n : CN X K w x
  l : CW X K w L
  rt : K X.br = 3
  r : ∀ k, k < 8 → CRk X K w k (ps.filter (fun e => decide (e.r.fr = (k : Int))))
  p : ∀ e ∈ ps, CP X K w M e
  inj : ∀ e ∈ ps, ∀ e' ∈ ps, e.wt = e'.wt → e = e'
  old : ∀ b, b < w0.heap.size → b ≠ X.g → K b = 0
  grown : w0.grownBy w (some X.g)
theorem Sq.congr {X : Cx} {w0 : World} {K : Nat → Nat} {w : World} {x : List Int} {L ps : List Pl} {M M' : Pl → Bool} (h : Sq X w0 K w x L ps M) (hm : ∀ e ∈ ps, M e = M' e) : Sq X w0 K w x L ps M' :=
  ⟨h.v, h.n, h.l, h.rt, h.r, fun e he => (h.p e he).congr (hm e he), h.inj, h.old, h.grown⟩
/-- The frame of a step that writes what it may. -/
theorem grown_mv {X : Cx} {w0 w w' : World} {K K' : Nat → Nat} {T : Nat → Nat → Prop} (hg : w0.grownBy w (some X.g)) (ho : ∀ b, b < w0.heap.size → b ≠ X.g → K b = 0) (m : Mv T K K' w w') (hT : ∀ b, ¬ T b 0) : w0.grownBy w' (some X.g) :=
  ⟨m.os.trans hg.os, m.tape.trans hg.tape, m.output.trans hg.output, Nat.le_trans hg.size m.size, fun b hb hne => (m.blk b (Nat.lt_of_lt_of_le hb hg.size) (by rw [ho b hb (fun e => hne (by rw [e]))]; exact hT b)).trans (hg.block b hb hne)⟩
theorem old_mv {X : Cx} {w0 w w' : World} {K K' : Nat → Nat} {T : Nat → Nat → Prop} (hg : w0.grownBy w (some X.g)) (ho : ∀ b, b < w0.heap.size → b ≠ X.g → K b = 0) (m : Mv T K K' w w') : ∀ b, b < w0.heap.size → b ≠ X.g → K' b = 0 :=
  fun b hb hne => by rw [m.tag b (Nat.lt_of_lt_of_le hb hg.size)]; exact ho b hb hne
theorem Try.info1f : (Try.prog.info? 1).map (fun i => (i.zero, i.size, i.bytes)) = some (some .nilFunc, 1, 8) := by kernel_rfl
end Go.Proofs.Ytbgkfiijfocgiaa

/-
  The contract of the closure that puts a rule on the list (once).
-/
namespace Go.Proofs.Ytbgkfiijfocgiaa
set_option linter.unusedSimpArgs false
set_option linter.unusedVariables false
open Go.RowKit Go.Sort

set_option maxRecDepth 100000 in
set_option maxHeartbeats 800000 in
theorem enlist_low (p q f g o n c : Nat) (fn : Fn) (cp : Array Value) (u : Value) (hue : u = .func fn #[] cp) (xs : List Value) (w : World) (hp : w.cell? ⟨p, 0, none⟩ = some (.bool false)) (fp : w.frozen? ⟨p, 0, none⟩ = false)
    (hq : w.cell? ⟨q, 0, none⟩ = some (.slice (some ⟨g, o, none⟩) n c)) (fq : w.frozen? ⟨q, 0, none⟩ = false) (ho : OSl w 1 g o n c xs) (hf : w.cell? ⟨f, 0, none⟩ = some u)
    (npq : p ≠ q) (npg : p ≠ g) (nqg : q ≠ g) (nfp : f ≠ p) (hn : n ≤ 1000) :
    Calls Try.prog 85 #[pt p, pt q, pt f] w fun e w' => e = .returned (.tuple #[]) ∧ ∃ g' o' c', OSl w' 1 g' o' (n + 1) c' (xs ++ [u]) ∧ w'.cell? ⟨q, 0, none⟩ = some (.slice (some ⟨g', o', none⟩) (n + 1) c') ∧ w'.frozen? ⟨q, 0, none⟩ = false ∧ w'.cell? ⟨p, 0, none⟩ = some (.bool true) ∧ w'.frozen? ⟨p, 0, none⟩ = false ∧ (g' = g ∨ w.heap.size ≤ g') ∧
      w'.os = w.os ∧ w'.tape = w.tape ∧ w'.output = w.output ∧ w.heap.size ≤ w'.heap.size ∧ ∀ k, k < w.heap.size → k ≠ p → k ≠ q → k ≠ g → w'.heap[k]? = w.heap[k]? := by
  obtain ⟨i0, hi0, hz0, hz1, hz2⟩ := info_parts2n Try.info1f
  subst hue
  have hpw := World.block_lt_of_cell? _ _ hp
  have hqw := World.block_lt_of_cell? _ _ hq
  have hfw := World.block_lt_of_cell? _ _ hf
  have hgw := ho.blk
  simp only [] at hpw hqw hfw
  -- the world behind the mark
  have q1 : (w.setCell ⟨p, 0, none⟩ (.bool true)).cell? ⟨q, 0, none⟩ = some (.slice (some ⟨g, o, none⟩) n c) := by
    rw [World.cell?_setCell_other _ _ _ _ (by simp [npq])]; exact hq
  have f1 : (w.setCell ⟨p, 0, none⟩ (.bool true)).cell? ⟨f, 0, none⟩ = some (.func fn #[] cp) := by
    rw [World.cell?_setCell_other _ _ _ _ (by simp [Ne.symm nfp])]; exact hf
  have p1 : (w.setCell ⟨p, 0, none⟩ (.bool true)).cell? ⟨p, 0, none⟩ = some (.bool true) := World.cell?_setCell_same _ _ _ hp
  have G1 : w.grownBy (w.setCell ⟨p, 0, none⟩ (.bool true)) (some p) := grown_set (grown_refl w _) 0 _
  have o1 : OSl (w.setCell ⟨p, 0, none⟩ (.bool true)) 1 g o n c xs := ho.grown G1 (by simp [npg])
  have Z1 : Hid ((w.setCell ⟨p, 0, none⟩ (.bool true)).heap.size = w.heap.size) := by simp [World.setCell, Hid]
  have fq1 : (w.setCell ⟨p, 0, none⟩ (.bool true)).frozen? ⟨q, 0, none⟩ = false := by rw [World.frozen?_setCell]; exact fq
  have fp1 : (w.setCell ⟨p, 0, none⟩ (.bool true)).frozen? ⟨p, 0, none⟩ = false := by rw [World.frozen?_setCell]; exact fp
  have HG1 : Hid (w.grownBy (w.setCell ⟨p, 0, none⟩ (.bool true)) (some p)) := G1
  have HO1 : Hid (OSl (w.setCell ⟨p, 0, none⟩ (.bool true)) 1 g o n c xs) := o1
  have HFQ : Hid ((w.setCell ⟨p, 0, none⟩ (.bool true)).frozen? ⟨q, 0, none⟩ = false) := fq1
  have HFP : Hid ((w.setCell ⟨p, 0, none⟩ (.bool true)).frozen? ⟨p, 0, none⟩ = false) := fp1
  have HP1 : Hid ((w.setCell ⟨p, 0, none⟩ (.bool true)).cell? ⟨p, 0, none⟩ = some (.bool true)) := p1
  have HQ1 : Hid ((w.setCell ⟨p, 0, none⟩ (.bool true)).cell? ⟨q, 0, none⟩ = some (.slice (some ⟨g, o, none⟩) n c)) := q1
  generalize hW : w.setCell ⟨p, 0, none⟩ (.bool true) = W at *
  have hnews := World.news_of_block (w := W.alloc (.cells #[.func fn #[] cp] 1)) (cs := #[.func fn #[] cp]) (t := 1) (fr := (0, 0)) (heap_alloc_new W _)
  have HN : Hid (∀ j v, [Value.func fn #[] cp][j]? = some v → (W.alloc (.cells #[.func fn #[] cp] 1)).cell? ((⟨W.heap.size, 0, none⟩ : Addr).add j) = some v) := hnews
  have h1 : ∀ v ∈ [Value.func fn #[] cp], v.oneCell' = true := by simp [Value.oneCell']
  have HO2 : Hid (OSl (W.alloc (.cells #[.func fn #[] cp] 1)) 1 g o n c xs) := OSl.below o1 ((Below.refl _ _).alloc (Nat.le_refl _) _) o1.blk
  clear ho hf hq G1 o1 fq1 fp1 fq hnews
  unfold pt
  go_enter Try.func85, Try.ntmps85
  go_wp2_with (at_builtin; refine wpList_append_os _ rfl _ _ _ rfl 1 i0 _ 1 8 Try.underlying82 hi0 hz0 hz1 hz2 rfl (by omega) g o n c xs rfl HO2.out ⟨W.heap.size, 0, none⟩ 1 1 [.func fn #[] cp] rfl rfl HN.out h1 (by unfold maxLen; omega) (by omega) ?_; intro g2 o2 c2 w2 ho2 hg2 hat2; have fz2 : w2.frozen? ⟨q, 0, none⟩ = false := (World.frozen?_of_block (hg2.block q (by have := Z1.out; simp; omega) (by simp [nqg]))).trans ((World.frozen?_of_block (((Grew.refl W).alloc _).1.block q (by show q < W.heap.size; rw [Z1.out]; exact hqw))).trans HFQ.out); have cz2 : w2.cell? ⟨q, 0, none⟩ = some (.slice (some ⟨g, o, none⟩) n c) := hg2.cell (cellB' HQ1.out _) (by simp [nqg]))
  have HR : Hid (OSl (w2.setCell ⟨q, 0, none⟩ (.slice (some ⟨g2, o2, none⟩) (n + 1) c2)) 1 g2 o2 (n + 1) c2 (xs ++ [.func fn #[] cp]) ∧ (w2.setCell ⟨q, 0, none⟩ (.slice (some ⟨g2, o2, none⟩) (n + 1) c2)).cell? ⟨q, 0, none⟩ = some (.slice (some ⟨g2, o2, none⟩) (n + 1) c2) ∧ (w2.setCell ⟨q, 0, none⟩ (.slice (some ⟨g2, o2, none⟩) (n + 1) c2)).frozen? ⟨q, 0, none⟩ = false ∧ (w2.setCell ⟨q, 0, none⟩ (.slice (some ⟨g2, o2, none⟩) (n + 1) c2)).cell? ⟨p, 0, none⟩ = some (.bool true) ∧ (w2.setCell ⟨q, 0, none⟩ (.slice (some ⟨g2, o2, none⟩) (n + 1) c2)).frozen? ⟨p, 0, none⟩ = false ∧ (g2 = g ∨ w.heap.size ≤ g2) ∧
      (w2.setCell ⟨q, 0, none⟩ (.slice (some ⟨g2, o2, none⟩) (n + 1) c2)).os = w.os ∧ (w2.setCell ⟨q, 0, none⟩ (.slice (some ⟨g2, o2, none⟩) (n + 1) c2)).tape = w.tape ∧ (w2.setCell ⟨q, 0, none⟩ (.slice (some ⟨g2, o2, none⟩) (n + 1) c2)).output = w.output ∧ w.heap.size ≤ (w2.setCell ⟨q, 0, none⟩ (.slice (some ⟨g2, o2, none⟩) (n + 1) c2)).heap.size ∧ ∀ k, k < w.heap.size → k ≠ p → k ≠ q → k ≠ g → (w2.setCell ⟨q, 0, none⟩ (.slice (some ⟨g2, o2, none⟩) (n + 1) c2)).heap[k]? = w.heap[k]?) := by
    have zz := Z1.out
    have GA : W.grownBy w2 (some g) := ⟨hg2.os, hg2.tape, hg2.output, Nat.le_trans (by simp) hg2.size, fun k hk hne => (hg2.block k (by simp; omega) hne).trans (((Grew.refl W).alloc (.cells #[.func fn #[] cp] 1)).1.block k hk)⟩
    have nq2 : g2 ≠ q := by
      rcases hat2 with h | h
      · rw [h]; exact Ne.symm nqg
      · rw [h]; simp; omega
    have GB := grown_set (grown_refl w2 (some q)) 0 (Value.slice (some ⟨g2, o2, none⟩) (n + 1) c2)
    have cp2 : w2.cell? ⟨p, 0, none⟩ = some (.bool true) := GA.cell HP1.out (by simp [npg])
    have fp2 : w2.frozen? ⟨p, 0, none⟩ = false := (World.frozen?_of_block (GA.block p (by omega) (by simp [npg]))).trans HFP.out
    refine ⟨ho2.grown GB (by simp [Ne.symm nq2]), World.cell?_setCell_same _ _ _ cz2, by rw [World.frozen?_setCell]; exact fz2, by rw [World.cell?_setCell_other _ _ _ _ (by simp [Ne.symm npq])]; exact cp2, by rw [World.frozen?_setCell]; exact fp2, ?_, GB.os.trans (GA.os.trans HG1.out.os), GB.tape.trans (GA.tape.trans HG1.out.tape), GB.output.trans (GA.output.trans HG1.out.output), Nat.le_trans HG1.out.size (Nat.le_trans GA.size GB.size), fun k hk h1 h2 h3 => ?_⟩
    · rcases hat2 with h | h
      · exact .inl h
      · right; rw [h]; simp; omega
    · have s1 := HG1.out.size
      have s2 := GA.size
      exact (GB.block k (by omega) (by simp [h2])).trans ((GA.block k (by omega) (by simp [h3])).trans (HG1.out.block k hk (by simp [h1])))
  clear ho2 hg2 hat2
  go_wp2
  go_end0
  exact ⟨rfl, g2, o2, c2, HR.out⟩

theorem ne_tag {K : Nat → Nat} {a b s t : Nat} (ha : K a = s) (hb : K b = t) (h : s ≠ t) : a ≠ b := fun e => h (by rw [← ha, ← hb, e])
/-- The list with a rule put on it, once. -/
def putL (L : List Pl) (e : Pl) : List Pl := if e ∈ L then L else L ++ [e]
theorem mem_putL {L : List Pl} {e x : Pl} : x ∈ putL L e ↔ x ∈ L ∨ x = e := by
  unfold putL
  split
  · constructor
    · exact .inl
    · rintro (h | rfl)
      · exact h
      · assumption
  · simp
theorem putL_nodup {L : List Pl} {e : Pl} (h : L.Nodup) : (putL L e).Nodup := by
  unfold putL
  split
  · exact h
  · rename_i hn
    rw [List.nodup_append]
    refine ⟨h, by simp, fun a ha b hb => ?_⟩
    simp only [List.mem_singleton] at hb
    subst hb
    intro hab
    exact hn (hab ▸ ha)
theorem putL_sub {L ps : List Pl} {e : Pl} (h : L ⊆ ps) (he : e ∈ ps) : putL L e ⊆ ps := fun x hx => by
  rcases mem_putL.1 hx with h1 | h1
  · exact h h1
  · rw [h1]; exact he
theorem nodup_le {L : List Pl} (h : L.Nodup) : ∀ {ps : List Pl}, L ⊆ ps → L.length ≤ ps.length := by
  induction L with
  | nil => intro ps _; simp
  | cons a l ih =>
    intro ps hs
    rw [List.nodup_cons] at h
    have ha : a ∈ ps := hs List.mem_cons_self
    have := ih h.2 (ps := ps.erase a) (fun x hx => (List.mem_erase_of_ne (a := x) (b := a) (fun e => h.1 (by rw [← e]; exact hx))).2 (hs (List.mem_cons_of_mem _ hx)))
    rw [List.length_erase_of_mem ha] at this
    have := List.length_pos_of_mem ha
    simp only [List.length_cons]
    omega

set_option maxRecDepth 100000 in
set_option maxHeartbeats 800000 in
theorem enl_any (X : Cx) (w0 : World) (K : Nat → Nat) (w : World) (x : List Int) (L ps : List Pl) (e : Pl) (h : Sq X w0 K w x L ps (fun a => decide (a ∈ L))) (he : e ∈ ps) (hLs : L.length ≤ 20) :
    Calls Try.prog 85 #[pt e.wt, pt X.bw, pt e.fi] w fun en w' => en = .returned (.tuple #[]) ∧ ∃ K', Mv (fun b t => t = 2 ∨ t = 5 ∨ (b = e.wt ∧ t = 21)) K K' w w' ∧ Sq X w0 K' w' x (putL L e) ps (fun a => decide (a ∈ putL L e)) := by
  have hP := h.p e he
  by_cases hm : e ∈ L
  · have hc := hP.m
    rw [show decide (e ∈ L) = true from decide_eq_true hm] at hc
    have HE : Hid (∃ K', Mv (fun b t => t = 2 ∨ t = 5 ∨ (b = e.wt ∧ t = 21)) K K' w w ∧ Sq X w0 K' w x (putL L e) ps (fun a => decide (a ∈ putL L e))) := by
      have : putL L e = L := by simp [putL, hm]
      rw [Hid, this]
      exact ⟨K, Mv.refl _ _ _, h⟩
    clear h hP hm
    unfold pt
    go_enter Try.func85, Try.ntmps85
    go_wp2
    go_end0
    exact ⟨rfl, HE.out⟩
  · obtain ⟨gw, ow, cw, c1, c2, c3, c4, c5⟩ := h.l
    have hpm := hP.m
    rw [show decide (e ∈ L) = false from decide_eq_false hm] at hpm
    refine (enlist_low e.wt X.bw e.fi gw ow L.length cw (.func 84) #[pt e.wt, pt e.ru, pt X.bv, pt X.br] (fireV X e) rfl (L.map (fireV X)) w hpm hP.mf c1 c2 c3 hP.f (ne_tag hP.t1 c5 (by decide)) (ne_tag hP.t1 c4 (by decide)) (ne_tag c5 c4 (by decide)) (ne_tag hP.t2 hP.t1 (by decide)) (by omega)).mono ?_
    rintro en w' ⟨rfl, g', o', c', ho, hb, fb, hp, fp, hat, h1, h2, h3, h4, h5⟩
    have mv : Mv (fun b t => t = 2 ∨ t = 5 ∨ (b = e.wt ∧ t = 21)) K (tagd K g' 5) w w' := by
      refine Mv.tagd ⟨h1, h2, h3, h4, fun b hb hT => h5 b hb ?_ ?_ ?_, fun _ _ => rfl⟩ ?_
      · intro e1; subst e1; exact hT (.inr (.inr ⟨rfl, hP.t1⟩))
      · intro e1; subst e1; exact hT (.inl c5)
      · intro e1; subst e1; exact hT (.inr (.inl c4))
      · intro hlt
        rcases hat with h' | h'
        · rw [h']; exact c4
        · omega
    have eL : putL L e = L ++ [e] := by simp [putL, hm]
    refine ⟨rfl, tagd K g' 5, mv, ?_⟩
    rw [eL]
    refine ⟨h.v.mv mv (by simp), h.n.mv mv (by simp), ⟨g', o', c', by simpa using hb, fb, by simpa using ho, tagd_same _ _ _, by rw [mv.tag _ (World.block_lt_of_cell? _ _ c1)]; exact c5⟩, ?_, fun k hk => (h.r k hk).mv h.rt mv (by simp) (fun b => by omega), fun a ha => ?_, h.inj, old_mv h.grown h.old mv, grown_mv h.grown h.old mv (fun b => by omega)⟩
    · obtain ⟨_, v, hv, _⟩ := h.r 0 (by omega)
      rw [mv.tag _ (World.block_lt_of_cell? _ _ hv)]
      exact h.rt
    · by_cases hae : a = e
      · subst hae
        exact (h.p a ha).mark mv (by simp) (by simp) (by rw [hp]; simp) fp
      · refine ((h.p a ha).mv mv (by simp) ?_ (by simp)).congr (by simp [hae])
        intro hT
        have : a.wt = e.wt := by simpa using hT
        exact hae (h.inj a ha e he this)
end Go.Proofs.Ytbgkfiijfocgiaa
