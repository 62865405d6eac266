/-
  Several texts in one: Oso Cel Cei.
-/
import Derived.Test.YtgaibngaincahaaIx
import Derived.Deep.AppendLies
/-
  Slices of one's own, those without an element too: append onto them in one law.
-/
namespace Go.Proofs.Ytgaibngaincahaa
set_option linter.unusedVariables false
set_option linter.unusedSimpArgs false
open Go.RowKit Go.Sort

/-- A plain address, or none. -/
def PlainA (a : Option Addr) : Prop := ∀ x, a = some x → ∃ b off, x = ⟨b, off, none⟩
theorem plainN : PlainA none := fun x h => by cases h
theorem plainS (b off : Nat) : PlainA (some ⟨b, off, none⟩) := fun x h => by cases h; exact ⟨b, off, rfl⟩
/-- The slice value (a, n, c) of elements of s cells each holds the cells xs, and G is the block of its own, if it has one. -/
def OSo (w : World) (s : Nat) (a : Option Addr) (n c : Nat) (xs : List Value) (G : Option Nat) : Prop :=
  (n = 0 ∧ c = 0 ∧ xs = [] ∧ G = none ∧ PlainA a) ∨ ∃ g off, a = some ⟨g, off, none⟩ ∧ OSl w s g off n c xs ∧ G = some g
theorem OSo.nil (w : World) (s : Nat) {a : Option Addr} (ha : PlainA a) : OSo w s a 0 0 [] none := .inl ⟨rfl, rfl, rfl, rfl, ha⟩
theorem OSo.plain {w : World} {s : Nat} {a : Option Addr} {n c : Nat} {xs : List Value} {G : Option Nat} (h : OSo w s a n c xs G) : PlainA a := by
  rcases h with ⟨_, _, _, _, h⟩ | ⟨g, off, rfl, _, _⟩
  · exact h
  · exact plainS _ _
theorem OSo.none0 {w : World} {s : Nat} {a : Option Addr} {n c : Nat} {xs : List Value} {G : Option Nat} (h : OSo w s a n c xs G) (ha : a = none) : c = 0 := by
  rcases h with ⟨_, h, _⟩ | ⟨g, off, rfl, _, _⟩
  · exact h
  · cases ha
theorem OSo.of {w : World} {s g off n c : Nat} {xs : List Value} (h : OSl w s g off n c xs) : OSo w s (some ⟨g, off, none⟩) n c xs (some g) := .inr ⟨g, off, rfl, h, rfl⟩
theorem OSo.len {w : World} {s : Nat} {a : Option Addr} {n c : Nat} {xs : List Value} {G : Option Nat} (h : OSo w s a n c xs G) : xs.length = n * s := by
  rcases h with ⟨rfl, _, rfl, _⟩ | ⟨g, off, _, h, _⟩
  · simp
  · exact h.len
theorem OSo.le {w : World} {s : Nat} {a : Option Addr} {n c : Nat} {xs : List Value} {G : Option Nat} (h : OSo w s a n c xs G) : n ≤ c ∧ c ≤ maxLen := by
  rcases h with ⟨rfl, rfl, rfl, _⟩ | ⟨g, off, _, h, _⟩
  · exact ⟨Nat.le_refl _, Nat.zero_le _⟩
  · exact ⟨h.le, h.max⟩
theorem OSo.lt {w : World} {s : Nat} {a : Option Addr} {n c : Nat} {xs : List Value} {G : Option Nat} (h : OSo w s a n c xs G) {g : Nat} (hg : G = some g) : g < w.heap.size := by
  rcases h with ⟨_, _, _, h, _⟩ | ⟨g', off, _, h, h'⟩
  · rw [h] at hg; cases hg
  · rw [h'] at hg; cases hg; exact h.blk
theorem OSo.frame {w w' : World} {s : Nat} {a : Option Addr} {n c : Nat} {xs : List Value} {G : Option Nat} (h : OSo w s a n c xs G) (hs : w.heap.size ≤ w'.heap.size) (e : ∀ g, G = some g → w'.heap[g]? = w.heap[g]?) : OSo w' s a n c xs G := by
  rcases h with h | ⟨g, off, ha, h, h'⟩
  · exact .inl h
  · exact .inr ⟨g, off, ha, h.of_block (e g h') (Nat.lt_of_lt_of_le h.blk hs), h'⟩
theorem OSo.cell {w : World} {s : Nat} {a : Option Addr} {n c : Nat} {xs : List Value} {G : Option Nat} (h : OSo w s a n c xs G) (hn : 0 < n) : ∃ g off, a = some ⟨g, off, none⟩ ∧ G = some g ∧ (∀ j, j < n * s → w.cell? ⟨g, off + j, none⟩ = xs[j]?) ∧ ∀ j, j < n * s → w.frozen? ⟨g, off + j, none⟩ = false := by
  rcases h with ⟨h0, _⟩ | ⟨g, off, ha, h, h'⟩
  · omega
  · exact ⟨g, off, ha, h', h.cell, fun j hj => h.free j (Nat.lt_of_lt_of_le hj (Nat.mul_le_mul_right _ h.le))⟩
/-- One cell is written. -/
theorem osl_put {w : World} {s g off n c : Nat} {xs : List Value} (h : OSl w s g off n c xs) {j : Nat} (hj : j < n * s) (v : Value) : OSl (w.setCell ⟨g, off + j, none⟩ v) s g off n c (xs.set j v) := by
  have hl := h.len
  have hc : w.cell? ⟨g, off + j, none⟩ = some (xs[j]'(by omega)) := by rw [h.cell j hj, List.getElem?_eq_getElem (by omega)]
  refine ⟨by simpa using hl, h.le, h.max, by simp [World.setCell]; exact h.blk, fun k hk => ?_, fun k hk => ?_, fun k hk => by rw [World.frozen?_setCell]; exact h.free k hk⟩
  · by_cases e : j = k
    · subst e
      rw [World.cell?_setCell_same _ _ _ hc]
      simp [show j < xs.length by omega]
    · rw [World.cell?_setCell_other _ _ _ _ (by simp [e]), h.cell k hk]
      simp [e]
  · by_cases e : j = k
    · subst e; rw [World.cell?_setCell_same _ _ _ hc]; rfl
    · rw [World.cell?_setCell_other _ _ _ _ (by simp [e])]; exact h.some k hk

section
variable {P : Program} (w : World)
/-- append onto such a slice. -/
theorem run_append_oo (t ty e : TypeId) (i : TypeInfo) (z : Value) (s bytes : Nat) (ht : P.underlying t = some (.slice e)) (hi : P.info? e = some i) (hz : i.zero = some z)
    (hsize : i.size = s) (hby : i.bytes = bytes) (hzs : z.cells.size = s) (hsz : 0 < s)
    (a : Option Addr) (n cap : Nat) (xs : List Value) (G : Option Nat) (ho : OSo w s a n cap xs G)
    (x : Option Addr) (m c : Nat) (news : List Value) (hl : news.length = m * s) (hnews : m = 0 ∨ ∃ ad, x = some ad ∧ ∀ j u, news[j]? = some u → w.cell? (ad.add j) = some u) (h1 : ∀ u ∈ news, u.oneCell' = true)
    (h63 : n + m ≤ maxLen) (hbytes : (n + m) * bytes ≤ 140737488355328) :
    ∃ a' cap' G' w', (Builtin.append_ #[t, t] ty #[.slice a n cap, .slice x m c]).run P w = .ok (.slice a' (n + m) cap') w' ∧
      OSo w' s a' (n + m) cap' (xs ++ news) G' ∧ w.grownBy w' G ∧ (G' = G ∨ G' = some w.heap.size) := by
  by_cases hm : m = 0
  · subst hm
    have hn0 : news = [] := List.eq_nil_of_length_eq_zero (by simpa using hl)
    subst hn0
    have hle := ho.le.1
    have hr : (Builtin.append_ #[t, t] ty #[.slice a n cap, .slice x 0 c]).run P w = .ok (.slice a n cap) w := by
      cases a <;> cases x <;> simp [Builtin.append_, run_underlying ht, sizeOf, typeInfo, hi, Builtin.lenOf, hle, Builtin.firstCells, loadCells, loadCellsFrom, storeCells]
    exact ⟨a, cap, G, w, hr, by simpa using ho, grown_refl w _, .inl rfl⟩
  · rcases hnews with h0 | ⟨ad, rfl, hnews⟩
    · exact absurd h0 hm
    · rcases ho with ⟨rfl, rfl, rfl, rfl, hpl⟩ | ⟨g, off, rfl, ho, rfl⟩
      · cases a with
        | none =>
          obtain ⟨v', w', hr, hown, hgr, hnil, hat⟩ := run_append_own_at (P := P) w 0 t ty e i z s bytes ht hi hz hsize hby hzs hsz (.slice none 0 0) 0 [] (World.ownsRow_nil w 0 e s) ad m c news hl hnews h1 h63 hbytes (Nat.zero_le _)
          obtain ⟨g', cap', rfl, _, hO⟩ := OSl.of_ownsRow hown (fun h => hm (hnil.1 h).2)
          refine ⟨some ⟨g', 0, none⟩, cap', some g', w', hr, .inr ⟨g', 0, rfl, by simpa using hO, rfl⟩, hgr, .inr ?_⟩
          rcases hat with h | h
          · simp [Value.ownBlock] at h
          · simpa [Value.ownBlock] using h
        | some b =>
          have hg := run_append_arg_grows (P := P) w t ty e i z s bytes ht hi hz hsize hby hzs hsz b 0 0 [] (by simp) (by simp) ad m c news hl hnews (by omega) h63 hbytes
          obtain ⟨v', w', hr, hown, hgr⟩ := hg
          obtain ⟨g', cap', rfl, hb, hlt⟩ := hown.form (by omega)
          obtain ⟨g2, cap2, hv2, _, hO⟩ := OSl.of_ownsRow hown (by intro h; cases h)
          cases hv2
          refine ⟨some ⟨g', 0, none⟩, cap', some g', w', hr, .inr ⟨g', 0, rfl, by simpa using hO, rfl⟩, hgr, .inr ?_⟩
          have hr2 := run_append_grow (P := P) w t ty e i z ht hi hz b 0 0 [] (by simp) (by simp) ad m c news (by rw [hsize]; exact hl) hnews (by omega) (by simp only [maxLen] at h63; omega) (growslice_fits (by omega) (by rw [hby]; exact hbytes))
          rw [hr2] at hr
          simp only [Result.ok.injEq, Value.slice.injEq, Option.some.injEq, Addr.mk.injEq] at hr
          rw [hr.1.1.1]
      · obtain ⟨g', off', cap', w', hr, h2, h3, h4⟩ := run_append_os (P := P) w t ty e i z s bytes ht hi hz hsize hby hzs hsz g off n cap xs ho ad m c news hl hnews h1 h63 hbytes
        exact ⟨_, cap', some g', w', hr, .inr ⟨g', off', rfl, h2, rfl⟩, h3, h4.imp (fun h => by rw [h]) (fun h => by rw [h])⟩
/-- At the operation. -/
theorem wp_append_oo {o : Oper} {act : Act} {K : Act → World → Prop} {Q : Exit → Act → World → Prop} (sl x : Operand) (t : TypeId)
    (hop : o.op = .call { callee := .builtin .append, args := #[sl, x], argTypes := #[t, t] })
    (e : TypeId) (i : TypeInfo) (z : Value) (s bytes : Nat) (ht : P.underlying t = some (.slice e)) (hi : P.info? e = some i) (hz : i.zero = some z)
    (hsize : i.size = s) (hby : i.bytes = bytes) (hzs : z.cells.size = s) (hsz : 0 < s)
    (a : Option Addr) (n cap : Nat) (xs : List Value) (G : Option Nat) (hs : act.eval sl = .slice a n cap) (ho : OSo w s a n cap xs G)
    (y : Option Addr) (m c : Nat) (news : List Value) (hx : act.eval x = .slice y m c) (hl : news.length = m * s) (hnews : m = 0 ∨ ∃ ad, y = some ad ∧ ∀ j u, news[j]? = some u → w.cell? (ad.add j) = some u) (h1 : ∀ u ∈ news, u.oneCell' = true)
    (h63 : n + m ≤ maxLen) (hbytes : (n + m) * bytes ≤ 140737488355328)
    (h : ∀ a' cap' G' w', OSo w' s a' (n + m) cap' (xs ++ news) G' → w.grownBy w' G → (G' = G ∨ G' = some w.heap.size) → K (act.put o.dst (.slice a' (n + m) cap')) w') : o.wp P act w K Q := by
  obtain ⟨a', cap', G', w', hr, h2, h3, h4⟩ := run_append_oo (P := P) w t o.type e i z s bytes ht hi hz hsize hby hzs hsz a n cap xs G ho y m c news hl hnews h1 h63 hbytes
  unfold Oper.wp execOp
  simp only [hop, resolve, invoke, builtin, Sem.run_bind, Sem.run_pure, Result.andThen_ok, List.map_toArray, List.map_cons, List.map_nil, hs, hx, hr]
  exact h a' cap' G' w' h2 h3 h4
theorem wpList_append_oo {ops : Array Oper} {rest : List Oper} {o : Oper} {act : Act} {Q : Exit → Act → World → Prop} (hgd : o.guard = none) (sl x : Operand) (t : TypeId)
    (hop : o.op = .call { callee := .builtin .append, args := #[sl, x], argTypes := #[t, t] })
    (e : TypeId) (i : TypeInfo) (z : Value) (s bytes : Nat) (ht : P.underlying t = some (.slice e)) (hi : P.info? e = some i) (hz : i.zero = some z)
    (hsize : i.size = s) (hby : i.bytes = bytes) (hzs : z.cells.size = s) (hsz : 0 < s)
    (a : Option Addr) (n cap : Nat) (xs : List Value) (G : Option Nat) (hs : act.eval sl = .slice a n cap) (ho : OSo w s a n cap xs G)
    (y : Option Addr) (m c : Nat) (news : List Value) (hx : act.eval x = .slice y m c) (hl : news.length = m * s) (hnews : m = 0 ∨ ∃ ad, y = some ad ∧ ∀ j u, news[j]? = some u → w.cell? (ad.add j) = some u) (h1 : ∀ u ∈ news, u.oneCell' = true)
    (h63 : n + m ≤ maxLen) (hbytes : (n + m) * bytes ≤ 140737488355328)
    (h : ∀ a' cap' G' w', OSo w' s a' (n + m) cap' (xs ++ news) G' → w.grownBy w' G → (G' = G ∨ G' = some w.heap.size) → wpList P ops Q rest (act.put o.dst (.slice a' (n + m) cap')) w') : wpList P ops Q (o :: rest) act w :=
  wpList_plain hgd fun _ hK => wp_append_oo w sl x t hop e i z s bytes ht hi hz hsize hby hzs hsz a n cap xs G hs ho y m c news hx hl hnews h1 h63 hbytes fun a' cap' G' w' h2 h3 h4 => hK _ _ (h a' cap' G' w' h2 h3 h4)
theorem step_append_oo {ops : Array Oper} {o : Oper} {act : Act} {K : Act → World → Prop} {Q : Exit → Act → World → Prop} {E : Prop} (hgd : o.guard = none) (sl x : Operand) (t : TypeId)
    (hop : o.op = .call { callee := .builtin .append, args := #[sl, x], argTypes := #[t, t] })
    (e : TypeId) (i : TypeInfo) (z : Value) (s bytes : Nat) (ht : P.underlying t = some (.slice e)) (hi : P.info? e = some i) (hz : i.zero = some z)
    (hsize : i.size = s) (hby : i.bytes = bytes) (hzs : z.cells.size = s) (hsz : 0 < s)
    (a : Option Addr) (n cap : Nat) (xs : List Value) (G : Option Nat) (hs : act.eval sl = .slice a n cap) (ho : OSo w s a n cap xs G)
    (y : Option Addr) (m c : Nat) (news : List Value) (hx : act.eval x = .slice y m c) (hl : news.length = m * s) (hnews : m = 0 ∨ ∃ ad, y = some ad ∧ ∀ j u, news[j]? = some u → w.cell? (ad.add j) = some u) (h1 : ∀ u ∈ news, u.oneCell' = true)
    (h63 : n + m ≤ maxLen) (hbytes : (n + m) * bytes ≤ 140737488355328)
    (h : ∀ a' cap' G' w', OSo w' s a' (n + m) cap' (xs ++ news) G' → w.grownBy w' G → (G' = G ∨ G' = some w.heap.size) → K (act.put o.dst (.slice a' (n + m) cap')) w') :
    if Region.wanted o (yielded ops act.tmps) = true then Oper.wp P o act w K Q else E := by
  have hw : Region.wanted o (yielded ops act.tmps) = true := by simp [Region.wanted, hgd]
  rw [if_pos hw]
  exact wp_append_oo w sl x t hop e i z s bytes ht hi hz hsize hby hzs hsz a n cap xs G hs ho y m c news hx hl hnews h1 h63 hbytes h
end
end Go.Proofs.Ytgaibngaincahaa

/-
  What a Go value is made of, as a tree of cells: plain cells and slices; who owns which blocks.
-/
namespace Go.Proofs.Ytgaibngaincahaa
set_option linter.unusedVariables false
set_option linter.unusedSimpArgs false
open Go.RowKit Go.Sort

/-- A cell: a plain value, or a slice of n elements of s cells each (its cells in one row). -/
inductive Cel where
  | v (x : Value)
  | sl (s n : Nat) (cs : List Cel)

/-- A set of blocks. -/
abbrev Fp := Nat → Prop

mutual
/-- The value u is the cell, and the blocks fp are its own. -/
def Cel.ow (w : World) : Cel → Value → Fp → Prop
  | .v x, u, fp => u = x ∧ ∀ b, ¬ fp b
  | .sl s n cs, u, fp => ∃ a c us G f, u = .slice a n c ∧ OSo w s a n c us G ∧ owL w cs us f ∧ (∀ b, G = some b → ¬ f b) ∧ ∀ b, fp b ↔ G = some b ∨ f b
def owL (w : World) : List Cel → List Value → Fp → Prop
  | [], us, fp => us = [] ∧ ∀ b, ¬ fp b
  | c :: cs, us, fp => ∃ u us' f1 f2, us = u :: us' ∧ Cel.ow w c u f1 ∧ owL w cs us' f2 ∧ (∀ b, f1 b → ¬ f2 b) ∧ ∀ b, fp b ↔ f1 b ∨ f2 b
end
mutual
/-- The value u is the cell, to be read. -/
def Cel.vw (w : World) : Cel → Value → Prop
  | .v x, u => u = x
  | .sl s n cs, u => ∃ a c us, u = .slice a n c ∧ n ≤ c ∧ c ≤ maxLen ∧ us.length = n * s ∧ (n = 0 ∨
      ∃ b off, a = some ⟨b, off, none⟩ ∧ ∀ j, j < n * s → w.cell? ⟨b, off + j, none⟩ = us[j]?) ∧ vwL w cs us
def vwL (w : World) : List Cel → List Value → Prop
  | [], us => us = []
  | c :: cs, us => ∃ u us', us = u :: us' ∧ Cel.vw w c u ∧ vwL w cs us'
end

theorem owL_len {w : World} : ∀ {cs : List Cel} {us : List Value} {fp : Fp}, owL w cs us fp → us.length = cs.length
  | [], us, fp, h => by rw [h.1]; rfl
  | c :: cs, us, fp, h => by
    obtain ⟨u, us', f1, f2, rfl, _, h2, _⟩ := h
    simp [owL_len h2]
theorem vwL_len {w : World} : ∀ {cs : List Cel} {us : List Value}, vwL w cs us → us.length = cs.length
  | [], us, h => by rw [show us = [] from h]; rfl
  | c :: cs, us, h => by
    obtain ⟨u, us', rfl, _, h2⟩ := h
    simp [vwL_len h2]

mutual
theorem Cel.ow_frame {w w' : World} (hs : w.heap.size ≤ w'.heap.size) : ∀ {c : Cel} {u : Value} {fp : Fp}, Cel.ow w c u fp → (∀ b, fp b → w'.heap[b]? = w.heap[b]?) → Cel.ow w' c u fp
  | .v x, u, fp, h, _ => h
  | .sl s n cs, u, fp, h, e => by
    obtain ⟨a, c, us, G, f, rfl, ho, hl, hn, hf⟩ := h
    exact ⟨a, c, us, G, f, rfl, ho.frame hs (fun g hg => e g ((hf g).2 (.inl hg))), owL_frame hs hl (fun b hb => e b ((hf b).2 (.inr hb))), hn, hf⟩
theorem owL_frame {w w' : World} (hs : w.heap.size ≤ w'.heap.size) : ∀ {cs : List Cel} {us : List Value} {fp : Fp}, owL w cs us fp → (∀ b, fp b → w'.heap[b]? = w.heap[b]?) → owL w' cs us fp
  | [], us, fp, h, _ => h
  | c :: cs, us, fp, h, e => by
    obtain ⟨u, us', f1, f2, rfl, h1, h2, hd, hf⟩ := h
    exact ⟨u, us', f1, f2, rfl, Cel.ow_frame hs h1 (fun b hb => e b ((hf b).2 (.inl hb))), owL_frame hs h2 (fun b hb => e b ((hf b).2 (.inr hb))), hd, hf⟩
end
mutual
theorem Cel.ow_lt {w : World} : ∀ {c : Cel} {u : Value} {fp : Fp}, Cel.ow w c u fp → ∀ b, fp b → b < w.heap.size
  | .v x, u, fp, h => fun b hb => absurd hb (h.2 b)
  | .sl s n cs, u, fp, h => fun b hb => by
    obtain ⟨a, c, us, G, f, rfl, ho, hl, hn, hf⟩ := h
    rcases (hf b).1 hb with hb | hb
    · exact ho.lt hb
    · exact owL_lt hl b hb
theorem owL_lt {w : World} : ∀ {cs : List Cel} {us : List Value} {fp : Fp}, owL w cs us fp → ∀ b, fp b → b < w.heap.size
  | [], us, fp, h => fun b hb => absurd hb (h.2 b)
  | c :: cs, us, fp, h => fun b hb => by
    obtain ⟨u, us', f1, f2, rfl, h1, h2, hd, hf⟩ := h
    rcases (hf b).1 hb with hb | hb
    · exact Cel.ow_lt h1 b hb
    · exact owL_lt h2 b hb
end
mutual
theorem Cel.ow_vw {w : World} : ∀ {c : Cel} {u : Value} {fp : Fp}, Cel.ow w c u fp → Cel.vw w c u
  | .v x, u, fp, h => h.1
  | .sl s n cs, u, fp, h => by
    obtain ⟨a, c, us, G, f, rfl, ho, hl, hn, hf⟩ := h
    refine ⟨a, c, us, rfl, ho.le.1, ho.le.2, ho.len, ?_, owL_vw hl⟩
    rcases Nat.eq_zero_or_pos n with h0 | h0
    · exact .inl h0
    · obtain ⟨g, off, ha, _, hc, _⟩ := ho.cell h0
      exact .inr ⟨g, off, ha, hc⟩
theorem owL_vw {w : World} : ∀ {cs : List Cel} {us : List Value} {fp : Fp}, owL w cs us fp → vwL w cs us
  | [], us, fp, h => h.1
  | c :: cs, us, fp, h => by
    obtain ⟨u, us', f1, f2, rfl, h1, h2, hd, hf⟩ := h
    exact ⟨u, us', rfl, Cel.ow_vw h1, owL_vw h2⟩
end
mutual
theorem Cel.vw_mono {w w' : World} (e : ∀ b, b < w.heap.size → w'.heap[b]? = w.heap[b]?) : ∀ {c : Cel} {u : Value}, Cel.vw w c u → Cel.vw w' c u
  | .v x, u, h => h
  | .sl s n cs, u, h => by
    obtain ⟨a, c, us, rfl, h1, h2, h3, h | ⟨b, off, rfl, hc⟩, hl⟩ := h
    · exact ⟨a, c, us, rfl, h1, h2, h3, .inl h, vwL_mono e hl⟩
    · refine ⟨_, c, us, rfl, h1, h2, h3, .inr ⟨b, off, rfl, fun j hj => ?_⟩, vwL_mono e hl⟩
      have hu : j < us.length := by rw [h3]; exact hj
      have h0 := hc j hj
      rw [List.getElem?_eq_getElem hu] at h0
      have hlt := World.block_lt_of_cell? _ _ h0
      rw [World.cell?_of_block (w := w) (e b hlt)]
      exact hc j hj
theorem vwL_mono {w w' : World} (e : ∀ b, b < w.heap.size → w'.heap[b]? = w.heap[b]?) : ∀ {cs : List Cel} {us : List Value}, vwL w cs us → vwL w' cs us
  | [], us, h => h
  | c :: cs, us, h => by
    obtain ⟨u, us', rfl, h1, h2⟩ := h
    exact ⟨u, us', rfl, Cel.vw_mono e h1, vwL_mono e h2⟩
end
theorem Cel.vw_below {w w' : World} {c : Cel} {u : Value} (h : Cel.vw w c u) (hb : Below w.heap.size w w') : Cel.vw w' c u := Cel.vw_mono (fun b hlt => hb.block b hlt) h
theorem vwL_below {w w' : World} {cs : List Cel} {us : List Value} (h : vwL w cs us) (hb : Below w.heap.size w w') : vwL w' cs us := vwL_mono (fun b hlt => hb.block b hlt) h
theorem Cel.ow_below {w w' : World} {c : Cel} {u : Value} {fp : Fp} (h : Cel.ow w c u fp) (hb : Below w.heap.size w w') : Cel.ow w' c u fp := Cel.ow_frame hb.size h (fun b hf => hb.block b (Cel.ow_lt h b hf))
theorem owL_below {w w' : World} {cs : List Cel} {us : List Value} {fp : Fp} (h : owL w cs us fp) (hb : Below w.heap.size w w') : owL w' cs us fp := owL_frame hb.size h (fun b hf => hb.block b (owL_lt h b hf))

/-- One cell of a row of cells, to be read. -/
theorem vwL_at {w : World} : ∀ {cs : List Cel} {us : List Value}, vwL w cs us → ∀ {j : Nat} {c : Cel}, cs[j]? = some c → ∃ u, us[j]? = some u ∧ Cel.vw w c u
  | [], us, h, j, c, hj => by simp at hj
  | c0 :: cs, us, h, 0, c, hj => by
    obtain ⟨u, us', rfl, h1, h2⟩ := h
    simp at hj
    subst hj
    exact ⟨u, by simp, h1⟩
  | c0 :: cs, us, h, j + 1, c, hj => by
    obtain ⟨u, us', rfl, h1, h2⟩ := h
    obtain ⟨u', hu, hv⟩ := vwL_at h2 (j := j) (c := c) (by simpa using hj)
    exact ⟨u', by simpa using hu, hv⟩
theorem vwL_append {w : World} : ∀ {cs ds : List Cel} {us vs : List Value}, vwL w cs us → vwL w ds vs → vwL w (cs ++ ds) (us ++ vs)
  | [], ds, us, vs, h, k => by rw [show us = [] from h]; exact k
  | c :: cs, ds, us, vs, h, k => by
    obtain ⟨u, us', rfl, h1, h2⟩ := h
    exact ⟨u, us' ++ vs, rfl, h1, vwL_append h2 k⟩

/-- Sets of blocks that are alike. -/
theorem Cel.ow_congr {w : World} : ∀ {c : Cel} {u : Value} {f g : Fp}, Cel.ow w c u f → (∀ b, g b ↔ f b) → Cel.ow w c u g
  | .v x, u, f, g, h, e => ⟨h.1, fun b hb => h.2 b ((e b).1 hb)⟩
  | .sl s n cs, u, f, g, h, e => by
    obtain ⟨a, c, us, G, f', rfl, ho, hl, hn, hf⟩ := h
    exact ⟨a, c, us, G, f', rfl, ho, hl, hn, fun b => (e b).trans (hf b)⟩
theorem owL_congr {w : World} : ∀ {cs : List Cel} {us : List Value} {f g : Fp}, owL w cs us f → (∀ b, g b ↔ f b) → owL w cs us g
  | [], us, f, g, h, e => ⟨h.1, fun b hb => h.2 b ((e b).1 hb)⟩
  | c :: cs, us, f, g, h, e => by
    obtain ⟨u, us', f1, f2, rfl, h1, h2, hd, hf⟩ := h
    exact ⟨u, us', f1, f2, rfl, h1, h2, hd, fun b => (e b).trans (hf b)⟩

/-- One cell of a row of cells: it is taken out, and another one may be put in its place (in a world in which the others' blocks are as they were). -/
theorem owL_at {w : World} : ∀ {cs : List Cel} {us : List Value} {fp : Fp}, owL w cs us fp → ∀ {j : Nat} {c : Cel}, cs[j]? = some c →
    ∃ u f, us[j]? = some u ∧ Cel.ow w c u f ∧ (∀ b, f b → fp b) ∧
      ∀ (w' : World) (c' : Cel) (u' : Value) (f' : Fp), w.heap.size ≤ w'.heap.size → Cel.ow w' c' u' f' → (∀ b, fp b → ¬ f b → w'.heap[b]? = w.heap[b]?) → (∀ b, f' b → fp b → f b) →
        owL w' (cs.set j c') (us.set j u') (fun b => f' b ∨ fp b ∧ ¬ f b)
  | [], us, fp, h, j, c, hj => by simp at hj
  | c0 :: cs, us, fp, h, 0, c, hj => by
    obtain ⟨u, us', f1, f2, rfl, h1, h2, hd, hf⟩ := h
    simp at hj
    subst hj
    refine ⟨u, f1, by simp, h1, fun b hb => (hf b).2 (.inl hb), fun w' c' u' f' hs hc' he hd' => ?_⟩
    refine ⟨u', us', f', f2, by simp, hc', owL_frame hs h2 (fun b hb => he b ((hf b).2 (.inr hb)) (fun h => hd b h hb)), fun b hb hb2 => hd b (hd' b hb ((hf b).2 (.inr hb2))) hb2, fun b => ?_⟩
    constructor
    · rintro (h | ⟨h, hn⟩)
      · exact .inl h
      · rcases (hf b).1 h with h | h
        · exact absurd h hn
        · exact .inr h
    · rintro (h | h)
      · exact .inl h
      · exact .inr ⟨(hf b).2 (.inr h), fun h1 => hd b h1 h⟩
  | c0 :: cs, us, fp, h, j + 1, c, hj => by
    obtain ⟨u0, us', f1, f2, rfl, h1, h2, hd, hf⟩ := h
    obtain ⟨u, f, hu, hc, hsub, hput⟩ := owL_at h2 (j := j) (c := c) (by simpa using hj)
    refine ⟨u, f, by simpa using hu, hc, fun b hb => (hf b).2 (.inr (hsub b hb)), fun w' c' u' f' hs hc' he hd' => ?_⟩
    have hk := hput w' c' u' f' hs hc' (fun b hb hn => he b ((hf b).2 (.inr hb)) hn) (fun b hb hb2 => hd' b hb ((hf b).2 (.inr hb2)))
    refine ⟨u0, us'.set j u', f1, _, by simp, Cel.ow_frame hs h1 (fun b hb => he b ((hf b).2 (.inl hb)) (fun h => hd b hb (hsub b h))), hk, fun b hb hb2 => ?_, fun b => ?_⟩
    · rcases hb2 with hb2 | ⟨hb2, _⟩
      · exact hd b hb (hsub b (hd' b hb2 ((hf b).2 (.inl hb))))
      · exact hd b hb hb2
    · constructor
      · rintro (h | ⟨h, hn⟩)
        · exact .inr (.inl h)
        · rcases (hf b).1 h with h | h
          · exact .inl h
          · exact .inr (.inr ⟨h, hn⟩)
      · rintro (h | h | ⟨h, hn⟩)
        · exact .inr ⟨(hf b).2 (.inl h), fun h' => hd b h (hsub b h')⟩
        · exact .inl h
        · exact .inr ⟨(hf b).2 (.inr h), hn⟩
theorem owL_append {w : World} : ∀ {cs ds : List Cel} {us vs : List Value} {f g : Fp}, owL w cs us f → owL w ds vs g → (∀ b, f b → ¬ g b) → owL w (cs ++ ds) (us ++ vs) (fun b => f b ∨ g b)
  | [], ds, us, vs, f, g, h, k, hd => by
    rw [h.1]
    exact owL_congr k (fun b => ⟨fun hb => hb.elim (fun hb => absurd hb (h.2 b)) id, .inr⟩)
  | c :: cs, ds, us, vs, f, g, h, k, hd => by
    obtain ⟨u, us', f1, f2, rfl, h1, h2, hd1, hf⟩ := h
    refine ⟨u, us' ++ vs, f1, _, rfl, h1, owL_append h2 k (fun b hb => hd b ((hf b).2 (.inr hb))), fun b hb hb2 => ?_, fun b => ?_⟩
    · rcases hb2 with hb2 | hb2
      · exact hd1 b hb hb2
      · exact hd b ((hf b).2 (.inl hb)) hb2
    · show f b ∨ g b ↔ _
      rw [hf b]
      constructor
      · rintro ((h | h) | h)
        · exact .inl h
        · exact .inr (.inl h)
        · exact .inr (.inr h)
      · rintro (h | h | h)
        · exact .inl (.inl h)
        · exact .inl (.inr h)
        · exact .inr h
theorem owL_split {w : World} : ∀ {cs ds : List Cel} {ws : List Value} {fp : Fp}, owL w (cs ++ ds) ws fp → ∃ us vs f g, ws = us ++ vs ∧ owL w cs us f ∧ owL w ds vs g ∧ (∀ b, f b → ¬ g b) ∧ ∀ b, fp b ↔ f b ∨ g b
  | [], ds, ws, fp, h => ⟨[], ws, fun _ => False, fp, rfl, ⟨rfl, fun _ h => h⟩, h, fun _ h => absurd h id, fun b => ⟨.inr, fun h => h.elim False.elim id⟩⟩
  | c :: cs, ds, ws, fp, h => by
    obtain ⟨u, us', f1, f2, rfl, h1, h2, hd, hf⟩ := h
    obtain ⟨us, vs, f, g, rfl, k1, k2, hd2, hf2⟩ := owL_split h2
    refine ⟨u :: us, vs, fun b => f1 b ∨ f b, g, rfl, ⟨u, us, f1, f, rfl, h1, k1, fun b hb hb2 => hd b hb ((hf2 b).2 (.inl hb2)), fun b => Iff.rfl⟩, k2, fun b hb hg => ?_, fun b => ?_⟩
    · rcases hb with hb | hb
      · exact hd b hb ((hf2 b).2 (.inr hg))
      · exact hd2 b hb hg
    · rw [hf b, hf2 b, or_assoc]
end Go.Proofs.Ytgaibngaincahaa

/-
  Trees of cells: plain rows, lists of numbers and lists of these; a row that is made, a stretch of cells that is written, what is appended.
-/
namespace Go.Proofs.Ytgaibngaincahaa
set_option linter.unusedVariables false
set_option linter.unusedSimpArgs false
open Go.RowKit Go.Sort

/-- Only blocks of f (and new ones) are written. -/
structure Wrt (f : Fp) (w w' : World) : Prop where
  os : w'.os = w.os
  tape : w'.tape = w.tape
  output : w'.output = w.output
  size : w.heap.size ≤ w'.heap.size
  block : ∀ b, b < w.heap.size → ¬ f b → w'.heap[b]? = w.heap[b]?
theorem Wrt.refl (f : Fp) (w : World) : Wrt f w w := ⟨rfl, rfl, rfl, Nat.le_refl _, fun _ _ _ => rfl⟩
theorem Wrt.mono {f g : Fp} {w w' : World} (h : Wrt f w w') (hs : ∀ b, b < w.heap.size → f b → g b) : Wrt g w w' := ⟨h.os, h.tape, h.output, h.size, fun b hb hn => h.block b hb (fun hf => hn (hs b hb hf))⟩
theorem Wrt.trans {f g : Fp} {w w1 w2 : World} (h : Wrt f w w1) (k : Wrt g w1 w2) (hs : ∀ b, b < w.heap.size → g b → f b) : Wrt f w w2 :=
  ⟨k.os.trans h.os, k.tape.trans h.tape, k.output.trans h.output, Nat.le_trans h.size k.size, fun b hb hn => (k.block b (Nat.lt_of_lt_of_le hb h.size) (fun hg => hn (hs b hb hg))).trans (h.block b hb hn)⟩
theorem Wrt.of_below {f : Fp} {w w' : World} (h : Below w.heap.size w w') : Wrt f w w' := ⟨h.os, h.tape, h.output, h.size, fun b hb _ => h.block b hb⟩
theorem Wrt.below {f : Fp} {w w' v : World} {B : Nat} (h : Wrt f w w') (hv : Below B v w) (hB : B ≤ w.heap.size) (hf : ∀ b, f b → B ≤ b) : Below B v w' :=
  ⟨h.os.trans hv.os, h.tape.trans hv.tape, h.output.trans hv.output, Nat.le_trans hv.size h.size, fun b hb => (h.block b (by omega) (fun k => by have := hf b k; omega)).trans (hv.block b hb)⟩
theorem Wrt.of_grown {w w' : World} {G : Option Nat} (h : w.grownBy w' G) : Wrt (fun b => G = some b) w w' := ⟨h.os, h.tape, h.output, h.size, fun b hb hn => h.block b hb (fun e => hn e.symm)⟩
theorem Wrt.set (w : World) (g o : Nat) (v : Value) : Wrt (fun b => b = g) w (w.setCell ⟨g, o, none⟩ v) := (Wrt.of_grown (grown_set (grown_refl w (some g)) o v)).mono (fun b _ h => by simpa using h.symm)
theorem Wrt.drewN {f : Fp} {w w' : World} (h : Wrt f w w') (n : Nat) : Wrt f w (w'.drewN n) := ⟨h.os, h.tape, h.output, h.size, h.block⟩
theorem Wrt.alloc {f : Fp} {w w' : World} (h : Wrt f w w') (o : Obj) : Wrt f w (w'.alloc o) := h.trans (Wrt.of_below (f := f) ((Below.refl _ _).alloc (Nat.le_refl _) o)) (fun _ _ k => k)
theorem Cel.ow_wrt {w w' : World} {c : Cel} {u : Value} {fp f : Fp} (h : Cel.ow w c u fp) (hw : Wrt f w w') (hd : ∀ b, fp b → ¬ f b) : Cel.ow w' c u fp := Cel.ow_frame hw.size h (fun b hb => hw.block b (Cel.ow_lt h b hb) (hd b hb))
theorem owL_wrt {w w' : World} {cs : List Cel} {us : List Value} {fp f : Fp} (h : owL w cs us fp) (hw : Wrt f w w') (hd : ∀ b, fp b → ¬ f b) : owL w' cs us fp := owL_frame hw.size h (fun b hb => hw.block b (owL_lt h b hb) (hd b hb))
theorem OSo.wrt {w w' : World} {s : Nat} {a : Option Addr} {n c : Nat} {xs : List Value} {G : Option Nat} {f : Fp} (h : OSo w s a n c xs G) (hw : Wrt f w w') (hd : ∀ b, G = some b → ¬ f b) : OSo w' s a n c xs G := h.frame hw.size (fun g hg => hw.block g (h.lt hg) (hd g hg))

/-- Plain cells. -/
def pl (vs : List Value) : List Cel := vs.map Cel.v
theorem owL_pl {w : World} : ∀ {vs us : List Value} {fp : Fp}, owL w (pl vs) us fp ↔ us = vs ∧ ∀ b, ¬ fp b
  | [], us, fp => Iff.rfl
  | v :: vs, us, fp => by
    constructor
    · rintro ⟨u, us', f1, f2, rfl, ⟨rfl, h1⟩, h2, hd, hf⟩
      have h3 := owL_pl.1 h2
      exact ⟨by rw [h3.1], fun b hb => ((hf b).1 hb).elim (h1 b) (h3.2 b)⟩
    · rintro ⟨rfl, h⟩
      exact ⟨v, vs, fp, fp, rfl, ⟨rfl, h⟩, owL_pl.2 ⟨rfl, h⟩, fun b hb => absurd hb (h b), fun b => ⟨.inl, fun h => h.elim id id⟩⟩
theorem vwL_pl {w : World} : ∀ {vs us : List Value}, vwL w (pl vs) us ↔ us = vs
  | [], us => Iff.rfl
  | v :: vs, us => by
    constructor
    · rintro ⟨u, us', rfl, rfl, h2⟩
      rw [vwL_pl.1 h2]
    · rintro rfl
      exact ⟨v, vs, rfl, rfl, vwL_pl.2 rfl⟩
/-- A list of numbers. -/
def icl (xs : List Int) : Cel := .sl 1 xs.length (pl (xs.map (Value.int .i64)))
theorem ow_icl {w : World} {xs : List Int} {u : Value} {fp : Fp} : Cel.ow w (icl xs) u fp ↔ ∃ a c G, u = .slice a xs.length c ∧ OSo w 1 a xs.length c (xs.map (Value.int .i64)) G ∧ ∀ b, fp b ↔ G = some b := by
  constructor
  · rintro ⟨a, c, us, G, f, rfl, ho, hl, hn, hf⟩
    obtain ⟨rfl, h0⟩ := owL_pl.1 hl
    exact ⟨a, c, G, rfl, ho, fun b => (hf b).trans ⟨fun h => h.elim id (fun h => absurd h (h0 b)), .inl⟩⟩
  · rintro ⟨a, c, G, rfl, ho, hf⟩
    exact ⟨a, c, _, G, fun _ => False, rfl, ho, owL_pl.2 ⟨rfl, fun _ h => h⟩, fun _ _ h => h, fun b => (hf b).trans ⟨.inl, fun h => h.elim id False.elim⟩⟩
theorem vw_icl {w : World} {xs : List Int} {u : Value} (h : Cel.vw w (icl xs) u) (hf : Fits xs) : ∃ a c, u = .slice a xs.length c ∧ Vec w a xs.length xs ∧ xs.length ≤ c ∧ c ≤ maxLen := by
  obtain ⟨a, c, us, rfl, h1, h2, h3, h, hl⟩ := h
  have e := vwL_pl.1 hl
  subst e
  refine ⟨a, c, rfl, ⟨rfl, hf, ?_⟩, h1, h2⟩
  rcases h with h | ⟨b, off, ha, hc⟩
  · exact .inl h
  · refine .inr ⟨b, off, ha, fun i hi => ?_⟩
    rw [hc i (by omega)]
    simp [el, hi]
theorem vw_of_vec {w : World} {a : Option Addr} {c : Nat} {xs : List Int} (h : Vec w a xs.length xs) (h1 : xs.length ≤ c) (h2 : c ≤ maxLen) : Cel.vw w (icl xs) (.slice a xs.length c) := by
  refine ⟨a, c, _, rfl, h1, h2, by simp, ?_, vwL_pl.2 rfl⟩
  rcases h.2.2 with h0 | ⟨b, off, ha, hc⟩
  · exact .inl h0
  · refine .inr ⟨b, off, ha, fun i hi => ?_⟩
    have hi' : i < xs.length := by omega
    rw [hc i hi']
    simp [el, hi']
theorem OSo.oi {w : World} {a : Option Addr} {c : Nat} {xs : List Int} {G : Option Nat} (h : OSo w 1 a xs.length c (xs.map (Value.int .i64)) G) : (xs = [] ∧ c = 0 ∧ G = none) ∨ ∃ g off, a = some ⟨g, off, none⟩ ∧ OI w g off xs.length c xs ∧ G = some g := by
  rcases h with ⟨h1, h2, h3, h4, _⟩ | h
  · exact .inl ⟨List.eq_nil_of_length_eq_zero h1, h2, h4⟩
  · exact .inr h
theorem OSo.slc {w : World} {a : Option Addr} {c : Nat} {xs : List Int} {G : Option Nat} (h : OSo w 1 a xs.length c (xs.map (Value.int .i64)) G) : SlC w a c xs := by
  rcases h.oi with ⟨h1, h2, _⟩ | ⟨g, off, h1, h2, _⟩
  · exact .inl ⟨h1, by omega⟩
  · exact .inr ⟨g, off, h1, h2⟩
/-- A list of lists of numbers. -/
def iicl (H : List (List Int)) : Cel := .sl 1 H.length (H.map icl)

/-- An answer in memory of its own. -/
def NewO (w w' : World) (c : Cel) (v : Value) : Prop := ∃ fp, Cel.ow w' c v fp ∧ (∀ b, fp b → w.heap.size ≤ b) ∧ Below w.heap.size w w'
def NewL (w w' : World) (cs : List Cel) (vs : List Value) : Prop := ∃ fp, owL w' cs vs fp ∧ (∀ b, fp b → w.heap.size ≤ b) ∧ Below w.heap.size w w'

theorem getElem?_flatten_replicate {α : Type} (l : List α) : ∀ (n i : Nat), i < n * l.length → (List.replicate n l).flatten[i]? = l[i % l.length]?
  | 0, i, h => by simp at h
  | n + 1, i, h => by
    rw [List.replicate_succ, List.flatten_cons]
    by_cases hi : i < l.length
    · rw [List.getElem?_append_left hi, Nat.mod_eq_of_lt hi]
    · have hl : l.length ≤ i := by omega
      rw [List.getElem?_append_right hl, getElem?_flatten_replicate l n (i - l.length) (by rw [Nat.add_mul] at h; omega), Nat.mod_eq_sub_mod hl]
/-- make: a row of zeros. -/
theorem osl_made (w : World) (zs : Array Value) (s n : Nat) (e : TypeId) (hz : zs.size = s) (hs : 0 < s) (hn : n ≤ maxLen) : OSl (w.alloc (.cells (madeCells zs (n * s)) e)) s w.heap.size 0 n n (List.replicate n zs.toList).flatten := by
  have hb : (w.alloc (.cells (madeCells zs (n * s)) e)).heap[w.heap.size]? = some (.cells (madeCells zs (n * s)) e (0, 0)) := heap_alloc_new w _
  have hc : ∀ i, i < n * s → (madeCells zs (n * s))[i]? = zs.toList[i % s]? := fun i hi => by
    have hm : i % s < zs.size := by rw [hz]; exact Nat.mod_lt _ hs
    have hm' : i % s < zs.toList.length := by simpa using hm
    rw [List.getElem?_eq_getElem hm']
    simp [madeCells, hi, hz]
    exact getElem!_pos zs (i % s) hm
  refine ⟨by simp [hz], Nat.le_refl _, hn, by simp, fun i hi => ?_, fun i hi => ?_, fun i hi => ?_⟩
  · rw [getElem?_flatten_replicate _ _ _ (by simp [hz]; omega)]
    simp only [World.cell?, hb, Nat.zero_add]
    rw [hc i hi]
    simp [hz]
  · simp only [World.cell?, hb, Nat.zero_add]
    have : i < (madeCells zs (n * s)).size := by rw [size_madeCells]; exact hi
    simp [this]
  · unfold World.frozen?
    rw [hb]
    simp
theorem owL_zeros {w : World} {zc : List Cel} {zs : List Value} {f0 : Fp} (h : owL w zc zs f0) (h0 : ∀ b, ¬ f0 b) : ∀ n, owL w (List.replicate n zc).flatten (List.replicate n zs).flatten (fun _ => False)
  | 0 => ⟨rfl, fun _ h => h⟩
  | n + 1 => by
    rw [List.replicate_succ, List.flatten_cons, List.replicate_succ, List.flatten_cons]
    exact owL_congr (owL_append h (owL_zeros h h0 n) (fun _ _ h => h)) (fun b => ⟨False.elim, fun h => h.elim (h0 b) id⟩)

/-- A stretch of cells is written. -/
theorem osl_seg {s g off n c : Nat} : ∀ {vs : List Value} {w : World} {us : List Value} {k : Nat}, OSl w s g off n c us → k + vs.length ≤ n * s → OSl (w.setCells g (off + k) vs) s g off n c (us.take k ++ vs ++ us.drop (k + vs.length))
  | [], w, us, k, h, hk => by
    have : us.take k ++ [] ++ us.drop (k + ([] : List Value).length) = us := by simp
    rw [this]
    exact h
  | v :: vs, w, us, k, h, hk => by
    simp only [List.length_cons] at hk
    have h1 := osl_put h (j := k) (by omega) v
    have h2 := osl_seg (vs := vs) (k := k + 1) h1 (by omega)
    have hl := h.len
    have e : (us.set k v).take (k + 1) ++ vs ++ (us.set k v).drop (k + 1 + vs.length) = us.take k ++ (v :: vs) ++ us.drop (k + (v :: vs).length) := by
      have hku : k < us.length := by omega
      rw [List.take_succ_eq_append_getElem (by simpa using hku), List.take_set_of_le (Nat.le_refl _), List.drop_set_of_lt (by omega)]
      simp only [List.getElem_set_self, List.append_assoc, List.singleton_append, List.length_cons]
      rw [show k + 1 + vs.length = k + (vs.length + 1) by omega]
    rw [e] at h2
    exact h2

/-- append at the level of trees: what was in the slice and the new cells, each with its own blocks. -/
theorem ow_appended {w w' : World} {s n m : Nat} {a' : Option Addr} {c' : Nat} {us news : List Value} {G G' : Option Nat} {cs ds : List Cel} {f fd : Fp}
    (hl : owL w cs us f) (hd : owL w ds news fd) (hG : ∀ b, G = some b → ¬ f b) (hGd : ∀ b, G = some b → ¬ fd b) (hdis : ∀ b, f b → ¬ fd b)
    (ho : OSo w' s a' (n + m) c' (us ++ news) G') (hg : w.grownBy w' G) (hat : G' = G ∨ G' = some w.heap.size) :
    Cel.ow w' (.sl s (n + m) (cs ++ ds)) (.slice a' (n + m) c') (fun b => G' = some b ∨ f b ∨ fd b) := by
  have hw := Wrt.of_grown hg
  have h1 := owL_wrt hl hw (fun b hb e => hG b e hb)
  have h2 := owL_wrt hd hw (fun b hb e => hGd b e hb)
  refine ⟨a', c', us ++ news, G', fun b => f b ∨ fd b, rfl, ho, owL_append h1 h2 hdis, fun b e hb => ?_, fun b => Iff.rfl⟩
  rcases hat with h | h
  · rw [h] at e
    exact hb.elim (hG b e) (hGd b e)
  · rw [h] at e
    cases e
    rcases hb with hb | hb
    · exact absurd (owL_lt hl _ hb) (Nat.lt_irrefl _)
    · exact absurd (owL_lt hd _ hb) (Nat.lt_irrefl _)

/-- Cell i * s + j of a row of elements of s cells each. -/
theorem flat_at {α : Type} {f : α → List Cel} {s : Nat} (hs : ∀ x, (f x).length = s) : ∀ {L : List α} {i j : Nat} {x : α}, L[i]? = some x → j < s → (L.flatMap f)[i * s + j]? = (f x)[j]?
  | [], i, j, x, h, hj => by simp at h
  | y :: L, 0, j, x, h, hj => by
    simp at h
    subst h
    rw [List.flatMap_cons, List.getElem?_append_left (by rw [hs]; omega)]
    simp
  | y :: L, i + 1, j, x, h, hj => by
    rw [List.flatMap_cons, List.getElem?_append_right (by rw [hs, Nat.add_mul]; omega), hs, show (i + 1) * s + j - s = i * s + j by rw [Nat.add_mul]; omega]
    exact flat_at hs (by simpa using h) hj
theorem flat_len {α : Type} {f : α → List Cel} {s : Nat} (hs : ∀ x, (f x).length = s) : ∀ (L : List α), (L.flatMap f).length = L.length * s
  | [] => by simp
  | y :: L => by rw [List.flatMap_cons, List.length_append, hs, flat_len hs L, List.length_cons, Nat.add_mul]; omega
end Go.Proofs.Ytgaibngaincahaa
