/-
  Slices that lie anywhere in a block of the call's own, with spare room; append onto them; worlds that have only grown.
-/
import Derived.Test.YtacogcfdolmfpaaDrawTwo
import Derived.ArgAppend
import Derived.Laws.IdiomCopy
import Derived.Shelf.SlSortCmp.QuietGrown
namespace Go.Proofs.Ytacogcfdolmfpaa
open Go.RowKit Go.Sort

/-- The slice ⟨g, off⟩ of n elements of s cells each, with room for cap, holds the cells xs; its cells may be written. -/
structure OSl (w : World) (s g off n cap : Nat) (xs : List Value) : Prop where
  len : xs.length = n * s
  le : n ≤ cap
  max : cap ≤ maxLen
  blk : g < w.heap.size
  cell : ∀ i, i < n * s → w.cell? ⟨g, off + i, none⟩ = xs[i]?
  some : ∀ i, i < cap * s → (w.cell? ⟨g, off + i, none⟩).isSome = true
  free : ∀ i, i < cap * s → w.frozen? ⟨g, off + i, none⟩ = false

theorem OSl.of_block {w w' : World} {s g off n cap : Nat} {xs : List Value} (h : OSl w s g off n cap xs) (e : w'.heap[g]? = w.heap[g]?) (hs : g < w'.heap.size) : OSl w' s g off n cap xs :=
  ⟨h.len, h.le, h.max, hs, fun i hi => by rw [World.cell?_of_block (w := w) e]; exact h.cell i hi, fun i hi => by rw [World.cell?_of_block (w := w) e]; exact h.some i hi,
    fun i hi => by rw [show w'.frozen? ⟨g, off + i, none⟩ = w.frozen? ⟨g, off + i, none⟩ from by simp only [World.frozen?, e]]; exact h.free i hi⟩
theorem OSl.below {w w' : World} {s g off n cap B : Nat} {xs : List Value} (h : OSl w s g off n cap xs) (hb : Below B w w') (hg : g < B) : OSl w' s g off n cap xs :=
  h.of_block (hb.block g hg) (Nat.lt_of_lt_of_le h.blk hb.size)
theorem OSl.drewN {w : World} {s g off n cap : Nat} {xs : List Value} (h : OSl w s g off n cap xs) (k : Nat) : OSl (w.drewN k) s g off n cap xs := ⟨h.len, h.le, h.max, h.blk, h.cell, h.some, h.free⟩
theorem OSl.grown {w w' : World} {s g off n cap : Nat} {xs : List Value} {r : Option Nat} (h : OSl w s g off n cap xs) (hg : w.grownBy w' r) (hr : r ≠ .some g) : OSl w' s g off n cap xs :=
  h.of_block (hg.block g h.blk (Ne.symm hr)) (Nat.lt_of_lt_of_le h.blk hg.size)

theorem add_lit0 (g off j : Nat) : (⟨g, off, none⟩ : Addr).add j = ⟨g, off + j, none⟩ := by unfold Addr.add; split <;> simp_all

theorem OSl.of_ownsRow {w : World} {base e s n : Nat} {v : Value} {xs : List Value} (h : w.ownsRow base e s v n xs) (hv : v ≠ .slice none 0 0) :
    ∃ g cap, v = .slice (.some ⟨g, 0, none⟩) n cap ∧ base ≤ g ∧ OSl w s g 0 n cap xs := by
  rcases h with ⟨hl, ⟨h0, _⟩ | ⟨g, cap, cur, hv', hb, hg, hle, hm, hs, ht⟩⟩
  · exact absurd h0 hv
  · refine ⟨g, cap, hv', hb, hl, hle, hm, (Array.getElem?_eq_some_iff.1 hg).1, fun i hi => ?_, fun i hi => ?_, fun i hi => ?_⟩
    · simp only [World.cell?, hg, Nat.zero_add]
      rw [← ht, List.getElem?_take, if_pos hi]
      simp
    · simp only [World.cell?, hg, Nat.zero_add]
      have : i < cur.size := by omega
      simp [this]
    · simp [World.frozen?, hg]

theorem size_setCells (b : Nat) : ∀ (vs : List Value) (o : Nat) (w : World), (w.setCells b o vs).heap.size = w.heap.size
  | [], _, _ => rfl
  | v :: vs, o, w => by
    have := size_setCells b vs (o + 1) (w.setCell ⟨b, o, none⟩ v)
    simp only [World.setCells] at this ⊢
    rw [this]; simp [World.setCell]
theorem grown_setCells (b : Nat) : ∀ (vs : List Value) (o : Nat) (w : World), w.grownBy (w.setCells b o vs) (some b)
  | [], _, w => grown_refl w _
  | v :: vs, o, w => by
    have := grown_setCells b vs (o + 1) (w.setCell ⟨b, o, none⟩ v)
    simp only [World.setCells] at this ⊢
    exact grown_trans (grown_set (grown_refl w _) o v) this

section
variable {P : Program} (w : World)

/-- append onto such a slice. -/
theorem run_append_os (t ty e : TypeId) (i : TypeInfo) (z : Value) (s bytes : Nat) (ht : P.underlying t = some (.slice e)) (hi : P.info? e = some i) (hz : i.zero = some z)
    (hsize : i.size = s) (hby : i.bytes = bytes) (hzs : z.cells.size = s) (hsz : 0 < s)
    (g off n cap : Nat) (xs : List Value) (ho : OSl w s g off n cap xs)
    (ad : Addr) (m c : Nat) (news : List Value) (hl : news.length = m * s) (hnews : ∀ j u, news[j]? = some u → w.cell? (ad.add j) = some u) (h1 : ∀ u ∈ news, u.oneCell' = true)
    (h63 : n + m ≤ maxLen) (hbytes : (n + m) * bytes ≤ 140737488355328) :
    ∃ g' off' cap' w', (Builtin.append_ #[t, t] ty #[.slice (some ⟨g, off, none⟩) n cap, .slice (some ad) m c]).run P w = .ok (.slice (some ⟨g', off', none⟩) (n + m) cap') w' ∧
      OSl w' s g' off' (n + m) cap' (xs ++ news) ∧ w.grownBy w' (some g) ∧ (g' = g ∨ g' = w.heap.size) := by
  have hms : ∀ j, j < m * s → n + m ≤ cap → n * s + j < cap * s := by
    intro j hj hr
    have : (n + m) * s ≤ cap * s := Nat.mul_le_mul_right _ hr
    rw [Nat.add_mul] at this
    omega
  have hns : n * s ≤ cap * s := Nat.mul_le_mul_right _ ho.le
  by_cases hroom : n + m ≤ cap
  · have hr := run_append_room_cells (P := P) w t ty e i ht hi g off n cap ad m c news (by rw [hl, hsize]) hnews h1 hroom
      (fun j hj => by rw [hsize, Nat.add_assoc]; exact ho.some _ (hms j (by omega) hroom)) (fun j hj => by rw [hsize, Nat.add_assoc]; exact ho.free _ (hms j (by omega) hroom))
    rw [hsize] at hr
    have hcs : ∀ j, j < news.length → (w.cell? ⟨g, off + n * s + j, none⟩).isSome = true := fun j hj => by rw [Nat.add_assoc]; exact ho.some _ (hms j (by omega) hroom)
    have hin := World.cell?_setCells_in g news (off + n * s) w hcs
    refine ⟨g, off, cap, _, hr, ⟨by rw [List.length_append, ho.len, hl, Nat.add_mul], hroom, ho.max, by rw [size_setCells]; exact ho.blk, fun k hk => ?_, fun k hk => ?_, fun k hk => ?_⟩, grown_setCells _ _ _ _, .inl rfl⟩
    · by_cases hlt : k < n * s
      · rw [World.cell?_setCells_out _ _ _ _ _ (fun _ _ => .inl (by simp; omega)), ho.cell k hlt, List.getElem?_append_left (by rw [ho.len]; exact hlt)]
      · have e1 : off + k = off + n * s + (k - n * s) := by omega
        rw [Nat.add_mul] at hk
        rw [e1, hin (k - n * s) (by omega), List.getElem?_append_right (by rw [ho.len]; omega), ho.len]
        simp
    · by_cases hin' : n * s ≤ k ∧ k < n * s + m * s
      · have e1 : off + k = off + n * s + (k - n * s) := by omega
        rw [e1, hin (k - n * s) (by omega)]; simp
      · rw [World.cell?_setCells_out _ _ _ _ _ (fun _ _ => by simp; omega)]; exact ho.some k hk
    · rw [World.frozen?_setCells]; exact ho.free k hk
  · have hg := run_append_arg_grows (P := P) w t ty e i z s bytes ht hi hz hsize hby hzs hsz ⟨g, off, none⟩ n cap xs ho.len (fun j u hu => by
      rw [add_lit0]
      have hj : j < xs.length := by
        rcases Nat.lt_or_ge j xs.length with h | h
        · exact h
        · rw [List.getElem?_eq_none h] at hu; cases hu
      rw [ho.cell j (by rw [← ho.len]; exact hj)]; exact hu) ad m c news hl hnews (by omega) h63 hbytes
    obtain ⟨v', w', hr, hown, hgr⟩ := hg
    have hm : 0 < n + m := by omega
    obtain ⟨g', cap', rfl, hb, hlt⟩ := hown.form hm
    obtain ⟨g2, cap2, hv2, _, hO⟩ := OSl.of_ownsRow hown (by intro h; cases h)
    cases hv2
    rcases hown.2 with ⟨h0, _⟩ | ⟨g3, cap3, cur, hv3, hb3, hg3, _⟩
    · cases h0
    · cases hv3
      refine ⟨g', 0, cap', w', hr, hO, ⟨hgr.os, hgr.tape, hgr.output, hgr.size, fun k hk _ => hgr.block k hk (by simp)⟩, ?_⟩
      right
      have hr2 := run_append_grow (P := P) w t ty e i z ht hi hz ⟨g, off, none⟩ n cap xs (by rw [hsize]; exact ho.len) (fun j u hu => by
        rw [add_lit0]
        have hj : j < xs.length := by
          rcases Nat.lt_or_ge j xs.length with h | h
          · exact h
          · rw [List.getElem?_eq_none h] at hu; cases hu
        rw [ho.cell j (by rw [← ho.len]; exact hj)]; exact hu) ad m c news (by rw [hsize]; exact hl) hnews (by omega) (by simp only [maxLen] at h63; omega) (growslice_fits (by omega) (by rw [hby]; exact hbytes))
      rw [hr2] at hr
      simp only [Result.ok.injEq, Value.slice.injEq, Option.some.injEq, Addr.mk.injEq] at hr
      exact hr.1.1.1.symm

/-- At the operation. -/
theorem wp_append_os {o : Oper} {a : Act} {K : Act → World → Prop} {Q : Exit → Act → World → Prop} (sl x : Operand) (t : TypeId)
    (hop : o.op = .call { callee := .builtin .append, args := #[sl, x], argTypes := #[t, t] })
    (e : TypeId) (i : TypeInfo) (z : Value) (s bytes : Nat) (ht : P.underlying t = some (.slice e)) (hi : P.info? e = some i) (hz : i.zero = some z)
    (hsize : i.size = s) (hby : i.bytes = bytes) (hzs : z.cells.size = s) (hsz : 0 < s)
    (g off n cap : Nat) (xs : List Value) (hs : a.eval sl = .slice (some ⟨g, off, none⟩) n cap) (ho : OSl w s g off n cap xs)
    (ad : Addr) (m c : Nat) (news : List Value) (hx : a.eval x = .slice (some ad) m c) (hl : news.length = m * s) (hnews : ∀ j u, news[j]? = some u → w.cell? (ad.add j) = some u) (h1 : ∀ u ∈ news, u.oneCell' = true)
    (h63 : n + m ≤ maxLen) (hbytes : (n + m) * bytes ≤ 140737488355328)
    (h : ∀ g' off' cap' w', OSl w' s g' off' (n + m) cap' (xs ++ news) → w.grownBy w' (some g) → (g' = g ∨ g' = w.heap.size) → K (a.put o.dst (.slice (some ⟨g', off', none⟩) (n + m) cap')) w') : o.wp P a w K Q := by
  obtain ⟨g', off', cap', w', hr, h2, h3, h4⟩ := run_append_os (P := P) w t o.type e i z s bytes ht hi hz hsize hby hzs hsz g off n cap xs ho ad m c news hl hnews h1 h63 hbytes
  unfold Oper.wp execOp
  simp only [hop, resolve, invoke, builtin, Sem.run_bind, Sem.run_pure, Result.andThen_ok, List.map_toArray, List.map_cons, List.map_nil, hs, hx, hr]
  exact h g' off' cap' w' h2 h3 h4
theorem wpList_append_os {ops : Array Oper} {rest : List Oper} {o : Oper} {a : Act} {Q : Exit → Act → World → Prop} (hgd : o.guard = none) (sl x : Operand) (t : TypeId)
    (hop : o.op = .call { callee := .builtin .append, args := #[sl, x], argTypes := #[t, t] })
    (e : TypeId) (i : TypeInfo) (z : Value) (s bytes : Nat) (ht : P.underlying t = some (.slice e)) (hi : P.info? e = some i) (hz : i.zero = some z)
    (hsize : i.size = s) (hby : i.bytes = bytes) (hzs : z.cells.size = s) (hsz : 0 < s)
    (g off n cap : Nat) (xs : List Value) (hs : a.eval sl = .slice (some ⟨g, off, none⟩) n cap) (ho : OSl w s g off n cap xs)
    (ad : Addr) (m c : Nat) (news : List Value) (hx : a.eval x = .slice (some ad) m c) (hl : news.length = m * s) (hnews : ∀ j u, news[j]? = some u → w.cell? (ad.add j) = some u) (h1 : ∀ u ∈ news, u.oneCell' = true)
    (h63 : n + m ≤ maxLen) (hbytes : (n + m) * bytes ≤ 140737488355328)
    (h : ∀ g' off' cap' w', OSl w' s g' off' (n + m) cap' (xs ++ news) → w.grownBy w' (some g) → (g' = g ∨ g' = w.heap.size) → wpList P ops Q rest (a.put o.dst (.slice (some ⟨g', off', none⟩) (n + m) cap')) w') : wpList P ops Q (o :: rest) a w :=
  wpList_plain hgd fun _ hK => wp_append_os w sl x t hop e i z s bytes ht hi hz hsize hby hzs hsz g off n cap xs hs ho ad m c news hx hl hnews h1 h63 hbytes fun g' off' cap' w' h2 h3 h4 => hK _ _ (h g' off' cap' w' h2 h3 h4)
theorem step_append_os {ops : Array Oper} {o : Oper} {a : Act} {K : Act → World → Prop} {Q : Exit → Act → World → Prop} {E : Prop} (hgd : o.guard = none) (sl x : Operand) (t : TypeId)
    (hop : o.op = .call { callee := .builtin .append, args := #[sl, x], argTypes := #[t, t] })
    (e : TypeId) (i : TypeInfo) (z : Value) (s bytes : Nat) (ht : P.underlying t = some (.slice e)) (hi : P.info? e = some i) (hz : i.zero = some z)
    (hsize : i.size = s) (hby : i.bytes = bytes) (hzs : z.cells.size = s) (hsz : 0 < s)
    (g off n cap : Nat) (xs : List Value) (hs : a.eval sl = .slice (some ⟨g, off, none⟩) n cap) (ho : OSl w s g off n cap xs)
    (ad : Addr) (m c : Nat) (news : List Value) (hx : a.eval x = .slice (some ad) m c) (hl : news.length = m * s) (hnews : ∀ j u, news[j]? = some u → w.cell? (ad.add j) = some u) (h1 : ∀ u ∈ news, u.oneCell' = true)
    (h63 : n + m ≤ maxLen) (hbytes : (n + m) * bytes ≤ 140737488355328)
    (h : ∀ g' off' cap' w', OSl w' s g' off' (n + m) cap' (xs ++ news) → w.grownBy w' (some g) → (g' = g ∨ g' = w.heap.size) → K (a.put o.dst (.slice (some ⟨g', off', none⟩) (n + m) cap')) w') :
    if Region.wanted o (yielded ops a.tmps) = true then Oper.wp P o a w K Q else E := by
  have hw : Region.wanted o (yielded ops a.tmps) = true := by simp [Region.wanted, hgd]
  rw [if_pos hw]
  exact wp_append_os w sl x t hop e i z s bytes ht hi hz hsize hby hzs hsz g off n cap xs hs ho ad m c news hx hl hnews h1 h63 hbytes h
end

/-- The same of int64 or int numbers. -/
def OI (w : World) (g off n cap : Nat) (zs : List Int) : Prop := OSl w 1 g off n cap (zs.map (Value.int .i64))
theorem OI.length {w : World} {g off n cap : Nat} {zs : List Int} (h : OI w g off n cap zs) : zs.length = n := by have := h.len; simpa using this
theorem OI.cellAt {w : World} {g off n cap : Nat} {zs : List Int} (h : OI w g off n cap zs) {i : Nat} (hi : i < n) : w.cell? ⟨g, off + i, none⟩ = some (.int .i64 (el zs i)) := by
  have hl := h.length
  rw [h.cell i (by omega)]
  simp [el, show i < zs.length by omega]
theorem OI.vec {w : World} {g off n cap : Nat} {zs : List Int} (h : OI w g off n cap zs) (hf : Fits zs) : Vec w (some ⟨g, off, none⟩) n zs :=
  ⟨h.length, hf, .inr ⟨g, off, rfl, fun _ hi => h.cellAt hi⟩⟩
theorem OI.below {w w' : World} {g off n cap B : Nat} {zs : List Int} (h : OI w g off n cap zs) (hb : Below B w w') (hg : g < B) : OI w' g off n cap zs := OSl.below h hb hg
theorem OI.drewN {w : World} {g off n cap : Nat} {zs : List Int} (h : OI w g off n cap zs) (k : Nat) : OI (w.drewN k) g off n cap zs := OSl.drewN h k
theorem OI.own {w : World} {g cap : Nat} {zs : List Int} (h : OwnAt w g cap zs) : OI w g 0 zs.length cap zs := by
  have hlt := h.lt
  obtain ⟨h1, h2, cur, hb, hs, hc⟩ := h
  refine ⟨by simp, h1, h2, hlt, fun i hi => ?_, fun i hi => ?_, fun i hi => ?_⟩
  · simp only [World.cell?, hb, Nat.zero_add]
    have : i < zs.length := by omega
    simp [hc i this, el, this]
  · simp only [World.cell?, hb, Nat.zero_add]
    have : i < cur.size := by omega
    simp [this]
  · simp [World.frozen?, hb]

/-- w' is w after some draws, with some blocks laid behind. -/
def Grew (w w' : World) : Prop := Below w.heap.size w w' ∧ w.drawn ≤ w'.drawn
theorem Grew.refl (w : World) : Grew w w := ⟨Below.refl _ _, Nat.le_refl _⟩
theorem Grew.trans {a b c : World} (h : Grew a b) (k : Grew b c) : Grew a c := ⟨h.1.trans (k.1.mono h.1.size), Nat.le_trans h.2 k.2⟩
theorem Grew.alloc {a b : World} (h : Grew a b) (o : Obj) : Grew a (b.alloc o) := ⟨h.1.alloc h.1.size o, h.2⟩
theorem Grew.drewN {a b : World} (h : Grew a b) (n : Nat) : Grew a (b.drewN n) := ⟨⟨h.1.os, h.1.tape, h.1.output, h.1.size, h.1.block⟩, Nat.le_trans h.2 (Nat.le_add_right _ _)⟩
theorem Grew.set {a b : World} (h : Grew a b) {g : Nat} (hg : a.heap.size ≤ g) (i : Nat) (u : Value) : Grew a (b.setCell ⟨g, i, none⟩ u) := ⟨h.1.setCell hg _, h.2⟩
theorem Grew.out {a b : World} (h : Grew a b) : ∃ q os, b = grow (a.drewN q) os := by
  obtain ⟨⟨ho, ht, hu, hs, hb⟩, hd⟩ := h
  refine ⟨b.drawn - a.drawn, b.heap.extract a.heap.size b.heap.size, ?_⟩
  have hh : b.heap = a.heap ++ b.heap.extract a.heap.size b.heap.size := by
    apply Array.ext_getElem?
    intro i
    rw [Array.getElem?_append]
    by_cases h : i < a.heap.size
    · rw [if_pos h]; exact hb i h
    · rw [if_neg h, Array.getElem?_extract]
      by_cases h2 : i < b.heap.size
      · rw [if_pos (by omega), show a.heap.size + (i - a.heap.size) = i from by omega]
      · rw [if_neg (by omega), Array.getElem?_eq_none (by omega)]
  cases b with
  | mk hp tp dr os ou =>
    simp only at ho ht hu hs hb hd hh
    subst ho ht hu
    simp only [grow, World.drewN]
    congr 1
    omega
theorem Grew.of_grow (w : World) (n : Nat) (os : Array Obj) : Grew w (grow (w.drewN n) os) :=
  ⟨⟨rfl, rfl, rfl, by simp [size_grow], fun k hk => heap_grow_old (w.drewN n) os hk⟩, Nat.le_add_right _ _⟩
theorem Grew.cell {a b : World} (h : Grew a b) {x : Addr} {v : Value} (hc : a.cell? x = some v) : b.cell? x = some v := (h.1.cell (World.block_lt_of_cell? _ _ hc)).trans hc
/-- A contract that only grows, as a step of a region that reads. -/
theorem grown_at {P : Program} {f : FuncId} {args : Array Value} {w : World} {n : Nat} {os : Array Obj} {v : Value}
    (h : Calls P f args (grow (w.drewN n) os) fun e w' => e = .returned v ∧ Grew (grow (w.drewN n) os) w') : Calls P f args (grow (w.drewN n) os) fun e w'' => e = .returned v ∧ ∃ p : GrownBy, w'' = grow (w.drewN p.n) p.os :=
  Calls.grown_of (h.mono fun _ _ ⟨he, hg⟩ => ⟨he, hg.out⟩)
end Go.Proofs.Ytacogcfdolmfpaa
