/-
  Several texts in one: Csp Its.
-/
import Derived.Test.YtgaibngaincahaaJm
import Derived.Lib.AppendZeros
/-
  append in a region that draws its order, out of what its run is known to do; blocks of cells that are written.
-/
namespace Go.Proofs.Ytgaibngaincahaa
set_option linter.unusedVariables false
set_option linter.unusedSimpArgs false
open Go.RowKit Go.Sort

/-- The same world but for what was drawn. -/
structure Same (X w : World) : Prop where
  heap : X.heap = w.heap
  os : X.os = w.os
  tape : X.tape = w.tape
  output : X.output = w.output
theorem Same.wrt {X w : World} (h : Same X w) (f : Fp) : Wrt f w X := ⟨h.os, h.tape, h.output, by rw [h.heap]; exact Nat.le_refl _, fun b _ _ => by rw [h.heap]⟩
theorem Same.below {X w : World} (h : Same X w) : Below w.heap.size w X := ⟨h.os, h.tape, h.output, by rw [h.heap]; exact Nat.le_refl _, fun b _ => by rw [h.heap]⟩
theorem Same.size {X w : World} (h : Same X w) : X.heap.size = w.heap.size := by rw [h.heap]
theorem Same.drewN (w : World) (n : Nat) : Same (w.drewN n) w := ⟨rfl, rfl, rfl, rfl⟩

theorem step_append_of {P : Program} {w : World} {ops : Array Oper} {o : Oper} {a : Act} {K : Act → World → Prop} {Q : Exit → Act → World → Prop} {E : Prop} (hgd : o.guard = none) (s x : Operand) (t tn : TypeId)
    (ho : o.op = .call { callee := .builtin .append, args := #[s, x], argTypes := #[t, tn] }) (vs vx : Value) (hs : a.eval s = vs) (hx : a.eval x = vx)
    {W : World} {R : Value → World → Prop} (hA : ∀ X, Same X W → ∃ v' w', (Builtin.append_ #[t, tn] o.type #[vs, vx]).run P X = .ok v' w' ∧ R v' w') (hS : Same w W) (h : ∀ v' w', R v' w' → K (a.put o.dst v') w') :
    if Region.wanted o (yielded ops a.tmps) = true then Oper.wp P o a w K Q else E := by
  have hw : Region.wanted o (yielded ops a.tmps) = true := by simp [Region.wanted, hgd]
  rw [if_pos hw]
  obtain ⟨v', w', hr, hR⟩ := hA w hS
  exact Lib.wp_append_run w s x t tn ho vs vx hs hx v' w' hr (h v' w' hR)
theorem wpList_append_of {P : Program} {w : World} {ops : Array Oper} {rest : List Oper} {o : Oper} {a : Act} {Q : Exit → Act → World → Prop} (hgd : o.guard = none) (s x : Operand) (t tn : TypeId)
    (ho : o.op = .call { callee := .builtin .append, args := #[s, x], argTypes := #[t, tn] }) (vs vx : Value) (hs : a.eval s = vs) (hx : a.eval x = vx)
    {W : World} {R : Value → World → Prop} (hA : ∀ X, Same X W → ∃ v' w', (Builtin.append_ #[t, tn] o.type #[vs, vx]).run P X = .ok v' w' ∧ R v' w') (hS : Same w W) (h : ∀ v' w', R v' w' → wpList P ops Q rest (a.put o.dst v') w') : wpList P ops Q (o :: rest) a w := by
  obtain ⟨v', w', hr, hR⟩ := hA w hS
  exact wpList_plain hgd fun _ hK => Lib.wp_append_run w s x t tn ho vs vx hs hx v' w' hr (hK _ _ (h v' w' hR))

/-- Nothing is appended. -/
theorem run_append_none {P : Program} (w : World) (t ty e : TypeId) (i : TypeInfo) (ht : P.underlying t = some (.slice e)) (hi : P.info? e = some i) (a : Option Addr) (n cap : Nat) (hle : n ≤ cap) (x : Option Addr) (c : Nat) :
    (Builtin.append_ #[t, t] ty #[.slice a n cap, .slice x 0 c]).run P w = .ok (.slice a n cap) w := by
  cases a <;> cases x <;> simp [Builtin.append_, run_underlying ht, sizeOf, typeInfo, hi, Builtin.lenOf, hle, Builtin.firstCells, loadCells, loadCellsFrom, storeCells]
theorem wpList_append_none {P : Program} (w : World) {ops : Array Oper} {rest : List Oper} {o : Oper} {act : Act} {Q : Exit → Act → World → Prop} (hgd : o.guard = none) (sl x : Operand) (t : TypeId)
    (hop : o.op = .call { callee := .builtin .append, args := #[sl, x], argTypes := #[t, t] }) (e : TypeId) (i : TypeInfo) (ht : P.underlying t = some (.slice e)) (hi : P.info? e = some i)
    (a : Option Addr) (n cap : Nat) (hs : act.eval sl = .slice a n cap) (hle : n ≤ cap) (y : Option Addr) (c : Nat) (hx : act.eval x = .slice y 0 c)
    (h : wpList P ops Q rest (act.put o.dst (.slice a n cap)) w) : wpList P ops Q (o :: rest) act w :=
  wpList_plain hgd fun _ hK => Lib.wp_append_run w sl x t t hop _ _ hs hx _ w (run_append_none w t o.type e i ht hi a n cap hle y c) (hK _ _ h)

theorem Bx.setC {w : World} {B : Nat} {T : TypeId} {cs : Array Value} (h : Bx w B T cs) (i : Nat) (v : Value) : Bx (w.setCell ⟨B, i, none⟩ v) B T (cs.setIfInBounds i v) := by
  have hh : w.heap[B]? = some (.cells cs T (0, 0)) := h
  unfold Bx
  simp only [World.setCell]
  rw [Array.getElem?_modify, hh]
  simp
theorem Bx.wrt {w w' : World} {B : Nat} {T : TypeId} {cs : Array Value} {f : Fp} (h : Bx w B T cs) (hw : Wrt f w w') (hn : ¬ f B) : Bx w' B T cs := (hw.block B h.lt hn).trans h
theorem Bx.far {w : World} {B g i : Nat} {T : TypeId} {cs : Array Value} (h : Bx w B T cs) (hne : B ≠ g) (v : Value) : Bx (w.setCell ⟨g, i, none⟩ v) B T cs := h.wrt (Wrt.set w g i v) hne
theorem OSo.set {w : World} {s : Nat} {a : Option Addr} {n c g i : Nat} {xs : List Value} {G : Option Nat} (h : OSo w s a n c xs G) (hne : G ≠ some g) (v : Value) : OSo (w.setCell ⟨g, i, none⟩ v) s a n c xs G := h.wrt (Wrt.set w g i v) (fun b hb e => hne (by rw [hb, e]))
theorem osl_far {w : World} {s g off n c p i : Nat} {xs : List Value} (h : OSl w s g off n c xs) (hne : g ≠ p) (v : Value) : OSl (w.setCell ⟨p, i, none⟩ v) s g off n c xs :=
  h.of_block ((Wrt.set w p i v).block g h.blk hne) (by simp [World.setCell]; exact h.blk)
theorem osl_wrt {w w' : World} {s g off n c : Nat} {xs : List Value} {f : Fp} (h : OSl w s g off n c xs) (hw : Wrt f w w') (hn : ¬ f g) : OSl w' s g off n c xs := h.of_block (hw.block g h.blk hn) (Nat.lt_of_lt_of_le h.blk hw.size)
/-- One element is appended to a slice of one's own: the cells of a new block. -/
theorem ow_push {P : Program} {w : World} (t ty e : TypeId) (i : TypeInfo) (z : Value) (s bytes : Nat) (ht : P.underlying t = some (.slice e)) (hi : P.info? e = some i) (hz : i.zero = some z)
    (hsize : i.size = s) (hby : i.bytes = bytes) (hzs : z.cells.size = s) (hsz : 0 < s)
    {a : Option Addr} {n c : Nat} {cs ds : List Cel} {fp fd : Fp} (hO : Cel.ow w (.sl s n cs) (.slice a n c) fp) {vals : List Value} (hd : owL w ds vals fd) (hdis : ∀ b, fp b → ¬ fd b) (hl : vals.length = s) (h1 : ∀ u ∈ vals, u.oneCell' = true)
    (nb : Nat) (T : TypeId) (hnb : w.heap[nb]? = some (.cells vals.toArray T (0, 0))) (h63 : n + 1 ≤ maxLen) (hbytes : (n + 1) * bytes ≤ 140737488355328) :
    ∃ a' c' w' fp', (Builtin.append_ #[t, t] ty #[.slice a n c, .slice (some ⟨nb, 0, none⟩) 1 1]).run P w = .ok (.slice a' (n + 1) c') w' ∧ Cel.ow w' (.sl s (n + 1) (cs ++ ds)) (.slice a' (n + 1) c') fp' ∧ Wrt fp w w' ∧ ∀ b, fp' b → fp b ∨ fd b ∨ b = w.heap.size := by
  obtain ⟨a0, c0, us, G, f, e0, ho, hcs, hn, hf⟩ := hO
  cases e0
  obtain ⟨a', c', G', w', hr, ho', hg, hat⟩ := run_append_oo (P := P) w t ty e i z s bytes ht hi hz hsize hby hzs hsz a n c us G ho (some ⟨nb, 0, none⟩) 1 1 vals (by omega) (.inr ⟨_, rfl, World.news_of_block hnb⟩) h1 h63 hbytes
  refine ⟨a', c', w', _, hr, ow_appended hcs hd hn (fun b hb => hdis b ((hf b).2 (.inl hb))) (fun b hb => hdis b ((hf b).2 (.inr hb))) ho' hg hat, (Wrt.of_grown hg).mono (fun b _ hb => (hf b).2 (.inl hb)), fun b hb => ?_⟩
  rcases hb with hb | hb | hb
  · rcases hat with h | h
    · exact .inl ((hf b).2 (.inl (h ▸ hb)))
    · rw [h] at hb; cases hb; exact .inr (.inr rfl)
  · exact .inl ((hf b).2 (.inr hb))
  · exact .inr (.inl hb)
/-- A list of numbers is copied behind a list without an element. -/
theorem ints_copied {P : Program} {w : World} (t ty e : TypeId) (i : TypeInfo) (ht : P.underlying t = some (.slice e)) (hi : P.info? e = some i) (hz : i.zero = some (.int .i64 0)) (hsize : i.size = 1) (hby : i.bytes = 8)
    {a : Option Addr} (ha : PlainA a) {x : Option Addr} {c : Nat} {xs : List Int} (hv : Vec w x xs.length xs) (hm : xs.length ≤ 1000000) :
    ∃ a' c' w' fp', (Builtin.append_ #[t, t] ty #[.slice a 0 0, .slice x xs.length c]).run P w = .ok (.slice a' xs.length c') w' ∧ Cel.ow w' (icl xs) (.slice a' xs.length c') fp' ∧ Wrt (fun _ => False) w w' ∧ ∀ b, fp' b → b = w.heap.size := by
  have hnews : xs.length = 0 ∨ ∃ ad, x = some ad ∧ ∀ j u, (xs.map (Value.int .i64))[j]? = some u → w.cell? (ad.add j) = some u := by
    rcases hv.2.2 with h | ⟨b, off, rfl, hc⟩
    · exact .inl h
    · exact .inr ⟨_, rfl, num_news hc⟩
  obtain ⟨a', c', G', w', hr, ho', hg, hat⟩ := run_append_oo (P := P) w t ty e i _ 1 8 ht hi hz hsize hby rfl (by omega) a 0 0 [] none (OSo.nil _ _ ha) x xs.length c (xs.map (Value.int .i64)) (by simp) hnews (by simp [Value.oneCell']) (by unfold maxLen; omega) (by omega)
  simp only [Nat.zero_add, List.nil_append] at hr ho'
  refine ⟨a', c', w', fun b => G' = some b, hr, ow_icl.2 ⟨a', c', G', rfl, ho', fun b => Iff.rfl⟩, (Wrt.of_grown hg).mono (fun b _ hb => by cases hb), fun b hb => ?_⟩
  rcases hat with h | h
  · rw [h] at hb; cases hb
  · rw [h] at hb; cases hb; rfl
end Go.Proofs.Ytgaibngaincahaa

/-
  Things that an exact law holds: values in memory of their own, each within a stretch of blocks.
-/
namespace Go.Proofs.Ytgaibngaincahaa
set_option linter.unusedVariables false
set_option linter.unusedSimpArgs false
open Go.RowKit Go.Sort

/-- The blocks from lo to below hi. -/
def Iv (lo hi : Nat) : Fp := fun b => lo ≤ b ∧ b < hi
/-- The values vs are the cells cs, their blocks lie from lo to below hi. -/
def It (w : World) (cs : List Cel) (vs : List Value) (lo hi : Nat) : Prop := ∃ f, owL w cs vs f ∧ ∀ b, f b → lo ≤ b ∧ b < hi
theorem It.below {w w' : World} {cs : List Cel} {vs : List Value} {lo hi : Nat} (h : It w cs vs lo hi) (hb : Below w.heap.size w w') : It w' cs vs lo hi := by
  obtain ⟨f, h1, h2⟩ := h
  exact ⟨f, owL_below h1 hb, h2⟩
theorem It.drewN {w : World} {cs : List Cel} {vs : List Value} {lo hi : Nat} (h : It w cs vs lo hi) (n : Nat) : It (w.drewN n) cs vs lo hi := h.below (belowN (Below.refl _ _))
theorem It.wrt {w w' : World} {cs : List Cel} {vs : List Value} {lo hi : Nat} {f : Fp} (h : It w cs vs lo hi) (hw : Wrt f w w') (hd : ∀ b, f b → b < lo ∨ hi ≤ b) : It w' cs vs lo hi := by
  obtain ⟨g, h1, h2⟩ := h
  refine ⟨g, owL_wrt h1 hw (fun b hb hf => ?_), h2⟩
  have := h2 b hb
  rcases hd b hf with h | h <;> omega
theorem It.far {w w' : World} {cs : List Cel} {vs : List Value} {lo hi l2 h2 : Nat} (h : It w cs vs lo hi) (hw : Wrt (Iv l2 h2) w w') (hd : h2 ≤ lo ∨ hi ≤ l2) : It w' cs vs lo hi := h.wrt hw (fun b hb => by have := hb.1; have := hb.2; omega)
theorem It.vw {w : World} {cs : List Cel} {vs : List Value} {lo hi : Nat} (h : It w cs vs lo hi) : vwL w cs vs := by
  obtain ⟨f, h1, _⟩ := h
  exact owL_vw h1
theorem It.of_new {w w' : World} {cs : List Cel} {vs : List Value} (h : NewL w w' cs vs) : It w' cs vs w.heap.size w'.heap.size := by
  obtain ⟨f, h1, h2, _⟩ := h
  exact ⟨f, h1, fun b hb => ⟨h2 b hb, owL_lt h1 b hb⟩⟩
theorem newL_one {w w' : World} {c : Cel} {v : Value} (h : NewO w w' c v) : NewL w w' [c] [v] := by
  obtain ⟨f, h1, h2, h3⟩ := h
  exact ⟨f, ⟨v, [], f, fun _ => False, rfl, h1, ⟨rfl, fun _ h => h⟩, fun _ _ h => h, fun b => by simp⟩, h2, h3⟩
theorem It.of_newO {w w' : World} {c : Cel} {v : Value} (h : NewO w w' c v) : It w' [c] [v] w.heap.size w'.heap.size := It.of_new (newL_one h)
theorem owL_one {w : World} {c : Cel} {v : Value} {f : Fp} : owL w [c] [v] f ↔ Cel.ow w c v f := by
  constructor
  · rintro ⟨u, us, f1, f2, e, h1, h2, hd, hf⟩
    cases e
    exact Cel.ow_congr h1 (fun b => (hf b).trans ⟨fun h => h.elim id (fun h => absurd h (h2.2 b)), .inl⟩)
  · intro h
    exact ⟨v, [], f, fun _ => False, rfl, h, ⟨rfl, fun _ h => h⟩, fun _ _ h => h, fun b => by simp⟩
theorem It.ow1 {w : World} {c : Cel} {v : Value} {lo hi : Nat} (h : It w [c] [v] lo hi) : ∃ f, Cel.ow w c v f ∧ ∀ b, f b → lo ≤ b ∧ b < hi := by
  obtain ⟨f, h1, h2⟩ := h
  exact ⟨f, owL_one.1 h1, h2⟩
theorem It.of1 {w : World} {c : Cel} {v : Value} {lo hi : Nat} {f : Fp} (h : Cel.ow w c v f) (hf : ∀ b, f b → lo ≤ b ∧ b < hi) : It w [c] [v] lo hi := ⟨f, owL_one.2 h, hf⟩
theorem It.vw1 {w : World} {c : Cel} {v : Value} {lo hi : Nat} (h : It w [c] [v] lo hi) : Cel.vw w c v := by
  obtain ⟨f, h1, _⟩ := h.ow1
  exact Cel.ow_vw h1
theorem Wrt.iv {f : Fp} {w w' : World} {lo hi : Nat} (h : Wrt f w w') (hf : ∀ b, f b → lo ≤ b ∧ b < hi) : Wrt (Iv lo hi) w w' := h.mono (fun b _ hb => hf b hb)
theorem Bx.iv {w w' : World} {B : Nat} {T : TypeId} {cs : Array Value} {lo hi : Nat} (h : Bx w B T cs) (hw : Wrt (Iv lo hi) w w') (hn : B < lo ∨ hi ≤ B) : Bx w' B T cs := h.wrt hw (fun k => by have := k.1; have := k.2; omega)
theorem below_iv {w w' v : World} {B lo hi : Nat} (hw : Wrt (Iv lo hi) w w') (hb : Below B v w) (hs : B ≤ w.heap.size) (hl : B ≤ lo) : Below B v w' := hw.below hb hs (fun b k => by have := k.1; omega)
end Go.Proofs.Ytgaibngaincahaa
