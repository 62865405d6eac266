/-
  The contract of the specification's l2Draw: some list of events in memory of its own.
-/
import Derived.Test.YtacogcfdolmfpaaDr2
namespace Go.Proofs.Ytacogcfdolmfpaa
set_option linter.unusedSimpArgs false
set_option linter.unusedVariables false
open Go.RowKit Go.Sort

/-- The cells of a list of events. -/
def evC (es : List Ev) : List Value := es.flatMap (fun e => [Value.int .i64 e.n, .int .i64 e.k, .int .i64 e.m])
theorem evC_cons (e : Ev) (es : List Ev) : evC (e :: es) = .int .i64 e.n :: .int .i64 e.k :: .int .i64 e.m :: evC es := rfl
theorem evC_snoc (es : List Ev) (e : Ev) : evC (es ++ [e]) = evC es ++ [.int .i64 e.n, .int .i64 e.k, .int .i64 e.m] := by simp [evC]
theorem evC_len (es : List Ev) : (evC es).length = es.length * 3 := by
  induction es with
  | nil => rfl
  | cons e es ih => rw [evC_cons]; simp [ih]; omega
theorem evC_get : ∀ (es : List Ev) (i : Nat), i < es.length → (evC es)[i * 3]? = some (.int .i64 (evAt es i).n) ∧ (evC es)[i * 3 + 1]? = some (.int .i64 (evAt es i).k) ∧ (evC es)[i * 3 + 2]? = some (.int .i64 (evAt es i).m)
  | [], i, h => by simp at h
  | e :: es, 0, h => by rw [evC_cons]; simp [evAt]
  | e :: es, i + 1, h => by
    have := evC_get es i (by simpa using h)
    rw [evC_cons, show (i + 1) * 3 = i * 3 + 1 + 1 + 1 by omega, show i * 3 + 1 + 1 + 1 + 1 = i * 3 + 1 + 1 + 1 + 1 from rfl]
    simpa [evAt] using this
theorem evC_one (es : List Ev) : ∀ u ∈ evC es, u.oneCell' = true := by
  intro u hu
  simp only [evC, List.mem_flatMap] at hu
  obtain ⟨e, _, h⟩ := hu
  simp at h
  rcases h with rfl | rfl | rfl <;> rfl
def OE (w : World) (g off cap : Nat) (es : List Ev) : Prop := OSl w 3 g off es.length cap (evC es)
theorem OE.at {w : World} {g off cap : Nat} {es : List Ev} (h : OE w g off cap es) : EvsAt w g off es.length es := fun i hi => by
  obtain ⟨a, b, c⟩ := evC_get es i hi
  refine ⟨?_, ?_, ?_⟩
  · rw [h.cell (i * 3) (by omega)]; exact a
  · rw [Nat.add_assoc, h.cell (i * 3 + 1) (by omega)]; exact b
  · rw [Nat.add_assoc, h.cell (i * 3 + 2) (by omega)]; exact c
theorem OE.news {w : World} {g off cap : Nat} {es : List Ev} (h : OE w g off cap es) (j : Nat) (u : Value) (hu : (evC es)[j]? = some u) : w.cell? ((⟨g, off, none⟩ : Addr).add j) = some u := by
  rw [add_lit0]
  have hj : j < (evC es).length := by
    rcases Nat.lt_or_ge j (evC es).length with h | h
    · exact h
    · rw [List.getElem?_eq_none h] at hu; cases hu
  rw [evC_len] at hj
  rw [h.cell j hj]; exact hu
theorem oe_empty (w : World) (T : TypeId) : OE (w.alloc (.cells #[] T)) w.heap.size 0 0 [] :=
  ⟨rfl, Nat.le_refl _, Nat.zero_le _, by simp, fun i hi => by simp at hi, fun i hi => by simp at hi, fun i hi => by simp at hi⟩
theorem oe_snoc {w : World} {g off cap : Nat} {es : List Ev} {e : Ev} (h : OSl w 3 g off (es.length + 1) cap (evC es ++ [.int .i64 e.n, .int .i64 e.k, .int .i64 e.m])) : OE w g off cap (es ++ [e]) := by
  unfold OE; rw [evC_snoc, List.length_append]; exact h
theorem oe_first {w : World} {g off cap : Nat} {es : List Ev} (h : OSl w 3 g off (0 + es.length) cap ([] ++ evC es)) : OE w g off cap es := by
  unfold OE; rw [Nat.zero_add, List.nil_append] at h; exact h

/-- What the draw holds as the world goes on. -/
structure Ld (w wr : World) (p : Nat) (a : Option Addr) (len cap g f c : Nat) (es : List Ev) : Prop where
  out : OE wr g f c es
  new : w.heap.size ≤ g
  cur : CurAt wr p a len cap
  grown : w.grownBy wr (some p)
theorem Ld.step {w wr wx : World} {p : Nat} {a : Option Addr} {len cap g f c : Nat} {es : List Ev} (h : Ld w wr p a len cap g f c es) (hpl : p < w.heap.size) (hc : CurAt wx p a len cap) (hg : wr.grownBy wx (some p)) : Ld w wx p a len cap g f c es :=
  ⟨OSl.grown h.out hg (by have := h.new; simp; omega), h.new, hc, grown_trans h.grown hg⟩

/-- What the region that asks TraceOk wants, whatever order it takes: the event e lies in block B of W; V are its cells. -/
structure Ask (W : World) (B g f c : Nat) (es : List Ev) (e : Ev) : Prop where
  out : OE W g f c es
  ne : B ≠ W.heap.size
  lt : B < W.heap.size
  small : es.length ≤ 20
theorem OSl.of_heap {w w' : World} {s g off n cap : Nat} {xs : List Value} (h : OSl w s g off n cap xs) (e : w'.heap = w.heap) : OSl w' s g off n cap xs :=
  h.of_block (by rw [e]) (by rw [e]; exact h.blk)
theorem size1 (W : World) (o : Obj) : (W.alloc o).heap.size = W.heap.size + 1 := by simp
theorem Ask.d1 {W : World} {B g f c : Nat} {es : List Ev} {e : Ev} (_ : Ask W B g f c es e) (X : World) (hX : X.heap = (W.alloc (.cells #[] 48)).heap) : OSl X 3 W.heap.size 0 0 0 [] := OSl.of_heap (oe_empty W 48) hX
theorem Ask.n1 {W : World} {B g f c : Nat} {es : List Ev} {e : Ev} (h : Ask W B g f c es e) (X : World) (o : Obj) (hX : X.heap = (W.alloc o).heap) : ∀ j u, (evC es)[j]? = some u → X.cell? ((⟨g, f, none⟩ : Addr).add j) = some u :=
  OE.news (OSl.of_heap (OSl.below h.out ((Below.refl _ _).alloc (Nat.le_refl _) o) h.out.blk) hX)
theorem Ask.d2 {W : World} {B g f c : Nat} {es : List Ev} {e : Ev} (_ : Ask W B g f c es e) (X : World) (V : Obj) (hX : X.heap = ((W.alloc (.cells #[] 48)).alloc V).heap) : OSl X 3 W.heap.size 0 0 0 [] :=
  OSl.of_heap (OSl.below (oe_empty W 48) ((Below.refl _ _).alloc (Nat.le_refl _) V) (by simp)) hX
theorem Ask.n2 {W : World} {B g f c : Nat} {es : List Ev} {e : Ev} (h : Ask W B g f c es e) (X : World) (o V : Obj) (hX : X.heap = ((W.alloc o).alloc V).heap) : ∀ j u, (evC es)[j]? = some u → X.cell? ((⟨g, f, none⟩ : Addr).add j) = some u :=
  OE.news (OSl.of_heap (OSl.below h.out (((Below.refl _ _).alloc (Nat.le_refl _) o).alloc (by simp) V) h.out.blk) hX)
theorem Ask.v2 {W X : World} {V : Array Value} {w5 : World} (hg : X.grownBy w5 (some W.heap.size)) (hX : X.heap = ((W.alloc (.cells #[] 48)).alloc (.cells V 48)).heap) : w5.heap[W.heap.size + 1]? = some (.cells V 48 (0, 0)) := by
  have h0 := heap_alloc_new (W.alloc (.cells #[] 48)) (.cells V 48)
  rw [size1] at h0
  rw [hg.block (W.heap.size + 1) (by rw [hX, size1, size1]; omega) (by simp), hX]; exact h0
theorem Ask.d3 {W : World} {B g f c : Nat} {es : List Ev} {e : Ev} (_ : Ask W B g f c es e) (X : World) (V : Obj) (hX : X.heap = ((W.alloc V).alloc (.cells #[] 48)).heap) : OSl X 3 (W.heap.size + 1) 0 0 0 [] := by
  have := oe_empty (W.alloc V) 48
  rw [size1] at this
  exact OSl.of_heap this hX
theorem Ask.v3 {W X : World} {V : Array Value} {w5 : World} (hg : X.grownBy w5 (some (W.heap.size + 1))) (hX : X.heap = ((W.alloc (.cells V 48)).alloc (.cells #[] 48)).heap) : w5.heap[W.heap.size]? = some (.cells V 48 (0, 0)) := by
  have h0 := heap_alloc_new W (.cells V 48)
  rw [hg.block W.heap.size (by rw [hX, size1, size1]; omega) (by simp), hX]
  have hb : Below (W.alloc (.cells V 48)).heap.size (W.alloc (.cells V 48)) ((W.alloc (.cells V 48)).alloc (.cells #[] 48)) := (Below.refl _ _).alloc (Nat.le_refl _) _
  rw [hb.block W.heap.size (by rw [size1]; omega)]; exact h0
theorem Ask.nb2 {W X : World} {b g5 d : Nat} (hat : g5 = d ∨ g5 = X.heap.size) (hW : b < W.heap.size) (hd : W.heap.size ≤ d) (hXs : W.heap.size ≤ X.heap.size) : b ≠ g5 := by
  rcases hat with h | h <;> omega
theorem le1 (W X : World) (o : Obj) (hX : X.heap = (W.alloc o).heap) : W.heap.size ≤ X.heap.size := by rw [hX, size1]; omega
theorem le2 (W X : World) (o V : Obj) (hX : X.heap = ((W.alloc o).alloc V).heap) : W.heap.size ≤ X.heap.size := by rw [hX, size1, size1]; omega
theorem Ask.e1 {w5 : World} {g5 f5 c5 : Nat} {es : List Ev} (o5 : OSl w5 3 g5 f5 (0 + es.length) c5 ([] ++ evC es)) (X : World) (V : Obj) (hX : X.heap = (w5.alloc V).heap) : OSl X 3 g5 f5 es.length c5 (evC es) :=
  OSl.of_heap (OSl.below (oe_first o5) ((Below.refl _ _).alloc (Nat.le_refl _) V) o5.blk) hX
theorem Ask.e2 {w5 : World} {g5 f5 c5 : Nat} {es : List Ev} (o5 : OSl w5 3 g5 f5 (0 + es.length) c5 ([] ++ evC es)) (X : World) (hX : X.heap = w5.heap) : OSl X 3 g5 f5 es.length c5 (evC es) := OSl.of_heap (oe_first o5) hX
theorem Ask.e3 {w5 : World} {g5 f5 c5 : Nat} {es : List Ev} (o5 : OSl w5 3 g5 f5 (0 + es.length) c5 ([] ++ evC es)) (X : World) (hX : X.heap = w5.heap) : OSl X 3 g5 f5 (0 + es.length) c5 (evC es) := by rw [List.nil_append] at o5; exact OSl.of_heap o5 hX
theorem Ask.m1 (w5 X : World) (V : Array Value) (hX : X.heap = (w5.alloc (.cells V 48)).heap) : ∀ j u, V.toList[j]? = some u → X.cell? ((⟨w5.heap.size, 0, none⟩ : Addr).add j) = some u :=
  World.news_of_block (t := 48) (fr := (0, 0)) (by rw [hX]; exact heap_alloc_new w5 _)
theorem Ask.m2 (w5 X : World) (B : Nat) (V : Array Value) (hb : w5.heap[B]? = some (.cells V 48 (0, 0))) (hX : X.heap = w5.heap) : ∀ j u, V.toList[j]? = some u → X.cell? ((⟨B, 0, none⟩ : Addr).add j) = some u :=
  World.news_of_block (t := 48) (fr := (0, 0)) (by rw [hX]; exact hb)
theorem bx1 {W X : World} (o : Obj) (h1 : X.heap = (W.alloc o).heap) (h2 : X.os = W.os) (h3 : X.tape = W.tape) (h4 : X.output = W.output) : Below W.heap.size W X := by
  have hb : Below W.heap.size W (W.alloc o) := (Below.refl _ _).alloc (Nat.le_refl _) o
  exact ⟨h2, h3, h4, by rw [h1]; exact hb.size, fun k hk => by rw [h1]; exact hb.block k hk⟩
theorem bx2 {W X : World} (o o' : Obj) (h1 : X.heap = ((W.alloc o).alloc o').heap) (h2 : X.os = W.os) (h3 : X.tape = W.tape) (h4 : X.output = W.output) : Below W.heap.size W X := by
  have hb : Below W.heap.size W ((W.alloc o).alloc o') := ((Below.refl _ _).alloc (Nat.le_refl _) o).alloc (by simp) o'
  exact ⟨h2, h3, h4, by rw [h1]; exact hb.size, fun k hk => by rw [h1]; exact hb.block k hk⟩
theorem hb5a {W X w5 : World} {d : Nat} (hg : X.grownBy w5 (some d)) (hd : W.heap.size ≤ d) (o : Obj) (h1 : X.heap = (W.alloc o).heap) (h2 : X.os = W.os) (h3 : X.tape = W.tape) (h4 : X.output = W.output) : Below W.heap.size W w5 :=
  below_grown (bx1 o h1 h2 h3 h4) hg hd (le1 W X o h1)
theorem hb5b {W X w5 : World} {d : Nat} (hg : X.grownBy w5 (some d)) (hd : W.heap.size ≤ d) (o o' : Obj) (h1 : X.heap = ((W.alloc o).alloc o').heap) (h2 : X.os = W.os) (h3 : X.tape = W.tape) (h4 : X.output = W.output) : Below W.heap.size W w5 :=
  below_grown (bx2 o o' h1 h2 h3 h4) hg hd (le2 W X o o' h1)
theorem hb6a {W w5 X w6 : World} {d : Nat} (hg : X.grownBy w6 (some d)) (hb5 : Below W.heap.size W w5) (hd : W.heap.size ≤ d) (o : Obj) (h1 : X.heap = (w5.alloc o).heap) (h2 : X.os = w5.os) (h3 : X.tape = w5.tape) (h4 : X.output = w5.output) : Below W.heap.size W w6 :=
  below_grown (hb5.trans ((bx1 o h1 h2 h3 h4).mono hb5.size)) hg hd (Nat.le_trans hb5.size (le1 w5 X o h1))
theorem hb6b {W w5 X w6 : World} {d : Nat} (hg : X.grownBy w6 (some d)) (hb5 : Below W.heap.size W w5) (hd : W.heap.size ≤ d) (h1 : X.heap = w5.heap) (h2 : X.os = w5.os) (h3 : X.tape = w5.tape) (h4 : X.output = w5.output) : Below W.heap.size W w6 :=
  below_grown (⟨h2.trans hb5.os, h3.trans hb5.tape, h4.trans hb5.output, by rw [h1]; exact hb5.size, fun k hk => by rw [h1]; exact hb5.block k hk⟩ : Below W.heap.size W X) hg hd (by rw [h1]; exact hb5.size)
theorem Ld.fresh {w W w7 : World} {p : Nat} {a : Option Addr} {len cap g f c : Nat} {es : List Ev} (h : Ld w W p a len cap g f c es) (hb : Below W.heap.size W w7) : Ld w w7 p a len cap g f c es :=
  ⟨OSl.below h.out hb h.out.blk, h.new, h.cur.below hb h.cur.lt, ⟨hb.os.trans h.grown.os, hb.tape.trans h.grown.tape, hb.output.trans h.grown.output, Nat.le_trans h.grown.size hb.size, fun k hk hr => (hb.block k (Nat.lt_of_lt_of_le hk h.grown.size)).trans (h.grown.block k hk hr)⟩⟩
theorem Ld.push {w w7 w8 : World} {p : Nat} {a : Option Addr} {len cap g f c g8 f8 c8 : Nat} {es : List Ev} {e : Ev} {o : Obj} (h : Ld w w7 p a len cap g f c es) (hpl : p < w.heap.size) (hg : (w7.alloc o).grownBy w8 (some g)) (hat : g8 = g ∨ g8 = (w7.alloc o).heap.size)
    (ho : OSl w8 3 g8 f8 (es.length + 1) c8 (evC es ++ [.int .i64 e.n, .int .i64 e.k, .int .i64 e.m])) : Ld w w8 p a len cap g8 f8 c8 (es ++ [e]) := by
  have hs := h.grown.size
  refine ⟨oe_snoc ho, at_ge hat h.new (by simp; omega), (h.cur.alloc o).grown hg (by have := h.new; simp; omega), ?_⟩
  exact grown_more (grown_trans h.grown (World.grownBy_alloc _ _ _)) hg (fun k hk => by simp at hk; have := h.new; omega)
theorem Ask.tok {w6 : World} {g6 f6 c6 : Nat} {es : List Ev} {e : Ev} (h : OSl w6 3 g6 f6 (es.length + 1) c6 (evC es ++ [.int .i64 e.n, .int .i64 e.k, .int .i64 e.m])) :
    Calls Try.prog 38 #[.slice (some ⟨g6, f6, none⟩) (es.length + 1) c6] w6 fun r w' => r = .returned (.bool (okT (es ++ [e]) (es.length + 1))) ∧ Grew w6 w' := by
  have ho := oe_snoc h
  have := ho.at
  rw [List.length_append] at this
  exact specTok_any g6 f6 (es.length + 1) c6 (es ++ [e]) w6 this (Nat.le_trans h.le h.max) h.le

set_option maxRecDepth 100000 in
set_option maxHeartbeats 3200000 in
theorem l2Draw_any (p : Nat) (a : Option Addr) (len cap : Nat) (bs : Nat → Int) (w : World) (hcur : CurAt w p a len cap) (hv : BVec w a len bs) (hp : OffB a len p) (hl : len ≤ 4096) :
    Calls Try.prog 115 #[.pointer (some ⟨p, 0, none⟩)] w fun e w' => ∃ g f c es, e = .returned (.slice (some ⟨g, f, none⟩) es.length c) ∧ es.length ≤ 14 ∧ Ld w w' p a len cap g f c es := by
  have hpl := hcur.lt
  obtain ⟨i0, hi0, hz0, hz1, hz2⟩ := info_parts Try.info74
  have gA : w.grownBy (w.alloc (.cells #[] 48)) (some p) := World.grownBy_alloc _ _ _
  have hB := below_any p a len cap bs 14 _ (hcur.alloc (.cells #[] 48)) (hv.grown gA hp) hp hl (by omega)
  have O0 := oe_empty w 48
  go_enter Try.func115, Try.ntmps115
  go_wp2_with fail
  refine hB.mono ?_
  rintro e w1 ⟨x, rfl, hx0, hx1, hx2, hc1, hg1⟩
  have hx3 := hx1 (by omega)
  have H1 : Hid (Ld w w1 p a len cap w.heap.size 0 0 []) := ⟨OSl.grown O0 hg1 (by simp; omega), Nat.le_refl _, hc1, grown_trans gA hg1⟩
  clear hx1 hx2 hc1 hg1 hB O0 gA
  go_wp2
  go_loopw [3, 4, 5] (fun v m n wr => ∃ (es : List Ev) (g f c : Nat) (M K : Nat), v = .slice (some ⟨g, f, none⟩) es.length c ∧ m = .int .i64 M ∧ n = .int .i64 K ∧ es.length + K ≤ 14 ∧ M + K ≤ 15 ∧ Ld w wr p a len cap g f c es) (fun _ _ n _ => (intOf n).toNat)
  case atStart => exact ⟨[], w.heap.size, 0, 0, 1, x.toNat, rfl, rfl, by rw [show ((x.toNat : Nat) : Int) = x by omega], by simp; omega, by omega, H1.out⟩
  case round =>
    obtain ⟨es, g, f, c, M, K, rfl, rfl, rfl, hE, hM, hL⟩ := hrel
    have HL : Hid (Ld w wr p a len cap g f c es) := hL
    have hg0 := hL.new
    clear hL H1
    by_cases hK : 0 < K
    · have hK1 : (0 : Int) < (K : Int) := by omega
      go_wp2_with fail
      refine (below_any p a len cap bs 3 wr HL.out.cur (hv.grown HL.out.grown hp) hp hl (by omega)).mono ?_
      rintro e w2 ⟨y, rfl, hy0, hy1, hy2, hc2, hg2⟩
      have hy3 := hy1 (by omega)
      have L2 := HL.out.step hpl hc2 hg2
      clear hy1 hy2 hc2 hg2
      go_wp2_with fail
      refine (below_any p a len cap bs 3 w2 L2.cur (hv.grown L2.grown hp) hp hl (by omega)).mono ?_
      rintro e w3 ⟨z, rfl, hz0', hz1', hz2', hc3, hg3⟩
      have hz3 := hz1' (by omega)
      have L3 := L2.step hpl hc3 hg3
      have HL3 : Hid (Ld w w3 p a len cap g f c es) := L3
      clear hz1' hz2' hc3 hg3 L2 L3
      have hz : z = 0 ∨ z = 1 ∨ z = 2 := by omega
      rcases hz with rfl | rfl | rfl
      · go_wp2
        have hb3 : Below w3.heap.size w3 (w3.alloc (.cells #[.int .i64 y, .int .i64 1, .int .i64 0] 48)) := (Below.refl _ _).alloc (Nat.le_refl _) _
        obtain ⟨W, hW⟩ : ∃ W, w3.alloc (.cells #[.int .i64 y, .int .i64 1, .int .i64 0] 48) = W := ⟨_, rfl⟩
        have q0 : W.cell? ⟨w3.heap.size, 0, none⟩ = some (.int .i64 y) := by rw [← hW]; simp
        have q1 : W.cell? ⟨w3.heap.size, 1, none⟩ = some (.int .i64 1) := by rw [← hW]; simp
        have q2 : W.cell? ⟨w3.heap.size, 2, none⟩ = some (.int .i64 0) := by rw [← hW]; simp
        have LW : Ld w W p a len cap g f c es := by
          rw [← hW]
          exact HL3.out.step hpl (HL3.out.cur.alloc _) (World.grownBy_alloc _ _ _)
        have hWs : W.heap.size = w3.heap.size + 1 := by rw [← hW]; simp
        rw [hW]
        have HWW : Hid (w3.alloc (.cells #[.int .i64 y, .int .i64 1, .int .i64 0] 48) = W) := hW
        clear hW hb3
        have AK : Ask W w3.heap.size g f c es ⟨y, 1, 0⟩ := ⟨LW.out, by omega, by omega, by omega⟩
        have KAK : Hid (Ask W w3.heap.size g f c es ⟨y, 1, 0⟩) := AK
        have KL1 : Hid ((evC es).length = es.length * 3) := evC_len es
        have KLW : Hid (Ld w W p a len cap g f c es) := LW
        have HWs : Hid (w3.heap.size < W.heap.size) := by rw [Hid]; omega
        have hB1 : w3.heap.size ≠ W.heap.size := by omega
        have hB2 : w3.heap.size ≠ W.heap.size + 1 := by omega
        clear AK LW hWs
        go_region_held3 (fun w' => w'.cell? ⟨w3.heap.size, 0, none⟩ = some (.int .i64 y) ∧ w'.cell? ⟨w3.heap.size, 1, none⟩ = some (.int .i64 1) ∧ w'.cell? ⟨w3.heap.size, 2, none⟩ = some (.int .i64 0))
          (first
            | go_keep
            | (go_split_ands; exact ⟨hg7.cell (by assumption), hg7.cell (by assumption), hg7.cell (by assumption)⟩)
            | (go_split_ands; exact ⟨grown_cell hg6 (by assumption) hB5, grown_cell hg6 (by assumption) hB5, grown_cell hg6 (by assumption) hB5⟩)
            | (go_split_ands; exact ⟨grown_cell hg5 (by assumption) hB1, grown_cell hg5 (by assumption) hB1, grown_cell hg5 (by assumption) hB1⟩)
            | (go_split_ands; exact ⟨grown_cell hg5 (by assumption) hB2, grown_cell hg5 (by assumption) hB2, grown_cell hg5 (by assumption) hB2⟩))
          (first
            | (go_at_call 38; refine (Ask.tok (e := ⟨y, 1, 0⟩) o6).mono ?_; rintro e w7 ⟨rfl, hg7⟩; have hb7 : Below W.heap.size W w7 := hb6.trans (hg7.1.mono hb6.size))
            | (refine step_append_os _ (by rfl) _ _ _ (by rfl) 48 i0 _ 3 24 Try.underlying33 hi0 hz0 hz1 hz2 rfl (by omega) g5 f5 es.length c5 (evC es) (by rfl) (Ask.e1 o5 _ (.cells #[.int .i64 y, .int .i64 1, .int .i64 0] 48) rfl) ⟨w5.heap.size, 0, none⟩ 1 1 [.int .i64 y, .int .i64 1, .int .i64 0] (by rfl) (by rfl) (Ask.m1 w5 _ #[.int .i64 y, .int .i64 1, .int .i64 0] rfl) (by simp [Value.oneCell']) (by unfold maxLen; omega) (by omega) ?_; intro g6 f6 c6 w6 o6 hg6 hat6; have hb6 : Below W.heap.size W w6 := hb6a hg6 hb5 hG5 (.cells #[.int .i64 y, .int .i64 1, .int .i64 0] 48) rfl rfl rfl rfl)
            | (refine step_append_os _ (by rfl) _ _ _ (by rfl) 48 i0 _ 3 24 Try.underlying33 hi0 hz0 hz1 hz2 rfl (by omega) g5 f5 (0 + es.length) c5 (evC es) (by rfl) (Ask.e3 o5 _ rfl) ⟨W.heap.size + 1, 0, none⟩ 1 1 [.int .i64 y, .int .i64 1, .int .i64 0] (by rfl) (by rfl) (Ask.m2 w5 _ (W.heap.size + 1) #[.int .i64 y, .int .i64 1, .int .i64 0] hv5 rfl) (by simp [Value.oneCell']) (by unfold maxLen; omega) (by omega) ?_; intro g6 f6 c6 w6 o6 hg6 hat6; have hb6 : Below W.heap.size W w6 := hb6b hg6 hb5 hG5 rfl rfl rfl rfl; simp only [Nat.zero_add] at o6 ⊢)
            | (refine step_append_os _ (by rfl) _ _ _ (by rfl) 48 i0 _ 3 24 Try.underlying33 hi0 hz0 hz1 hz2 rfl (by omega) g5 f5 (0 + es.length) c5 (evC es) (by rfl) (Ask.e3 o5 _ rfl) ⟨W.heap.size, 0, none⟩ 1 1 [.int .i64 y, .int .i64 1, .int .i64 0] (by rfl) (by rfl) (Ask.m2 w5 _ W.heap.size #[.int .i64 y, .int .i64 1, .int .i64 0] hv5 rfl) (by simp [Value.oneCell']) (by unfold maxLen; omega) (by omega) ?_; intro g6 f6 c6 w6 o6 hg6 hat6; have hb6 : Below W.heap.size W w6 := hb6b hg6 hb5 hG5 rfl rfl rfl rfl; simp only [Nat.zero_add] at o6 ⊢)
            | (refine step_append_os _ (by rfl) _ _ _ (by rfl) 48 i0 _ 3 24 Try.underlying33 hi0 hz0 hz1 hz2 rfl (by omega) W.heap.size 0 0 0 [] (by rfl) (KAK.out.d1 _ rfl) ⟨g, f, none⟩ es.length c (evC es) (by rfl) KL1.out (KAK.out.n1 _ (.cells #[] 48) rfl) (evC_one es) (by unfold maxLen; omega) (by omega) ?_; intro g5 f5 c5 w5 o5 hg5 hat5; have hB5 : w3.heap.size ≠ g5 := Ask.nb2 hat5 HWs.out (Nat.le_refl _) (le1 W _ (.cells #[] 48) rfl); have hG5 : W.heap.size ≤ g5 := at_ge hat5 (Nat.le_refl _) (le1 W _ (.cells #[] 48) rfl); have hb5 : Below W.heap.size W w5 := hb5a hg5 (Nat.le_refl _) (.cells #[] 48) rfl rfl rfl rfl)
            | (refine step_append_os _ (by rfl) _ _ _ (by rfl) 48 i0 _ 3 24 Try.underlying33 hi0 hz0 hz1 hz2 rfl (by omega) W.heap.size 0 0 0 [] (by rfl) (KAK.out.d2 _ (.cells #[.int .i64 y, .int .i64 1, .int .i64 0] 48) rfl) ⟨g, f, none⟩ es.length c (evC es) (by rfl) KL1.out (KAK.out.n2 _ (.cells #[] 48) (.cells #[.int .i64 y, .int .i64 1, .int .i64 0] 48) rfl) (evC_one es) (by unfold maxLen; omega) (by omega) ?_; intro g5 f5 c5 w5 o5 hg5 hat5; have hB5 : w3.heap.size ≠ g5 := Ask.nb2 hat5 HWs.out (Nat.le_refl _) (le2 W _ (.cells #[] 48) (.cells #[.int .i64 y, .int .i64 1, .int .i64 0] 48) rfl); have hG5 : W.heap.size ≤ g5 := at_ge hat5 (Nat.le_refl _) (le2 W _ (.cells #[] 48) (.cells #[.int .i64 y, .int .i64 1, .int .i64 0] 48) rfl); have hb5 : Below W.heap.size W w5 := hb5b hg5 (Nat.le_refl _) (.cells #[] 48) (.cells #[.int .i64 y, .int .i64 1, .int .i64 0] 48) rfl rfl rfl rfl; have hv5 := Ask.v2 (W := W) (V := #[.int .i64 y, .int .i64 1, .int .i64 0]) hg5 rfl)
            | (refine step_append_os _ (by rfl) _ _ _ (by rfl) 48 i0 _ 3 24 Try.underlying33 hi0 hz0 hz1 hz2 rfl (by omega) (W.heap.size + 1) 0 0 0 [] (by rfl) (KAK.out.d3 _ (.cells #[.int .i64 y, .int .i64 1, .int .i64 0] 48) rfl) ⟨g, f, none⟩ es.length c (evC es) (by rfl) KL1.out (KAK.out.n2 _ (.cells #[.int .i64 y, .int .i64 1, .int .i64 0] 48) (.cells #[] 48) rfl) (evC_one es) (by unfold maxLen; omega) (by omega) ?_; intro g5 f5 c5 w5 o5 hg5 hat5; have hB5 : w3.heap.size ≠ g5 := Ask.nb2 hat5 HWs.out (Nat.le_succ _) (le2 W _ (.cells #[.int .i64 y, .int .i64 1, .int .i64 0] 48) (.cells #[] 48) rfl); have hG5 : W.heap.size ≤ g5 := at_ge hat5 (Nat.le_succ _) (le2 W _ (.cells #[.int .i64 y, .int .i64 1, .int .i64 0] 48) (.cells #[] 48) rfl); have hb5 : Below W.heap.size W w5 := hb5b hg5 (Nat.le_succ _) (.cells #[.int .i64 y, .int .i64 1, .int .i64 0] 48) (.cells #[] 48) rfl rfl rfl rfl; have hv5 := Ask.v3 (W := W) (V := #[.int .i64 y, .int .i64 1, .int .i64 0]) hg5 rfl))
        all_goals
          have L7 : Hid (Ld w w7 p a len cap g f c es) := KLW.out.fresh hb7
          clear hb7 hg7 o6 hg6 hat6 hb6 o5 hg5 hat5 hb5 hB5 hG5
          try clear hv5
          generalize okT (es ++ [(⟨y, 1, 0⟩ : Ev)]) (es.length + 1) = bb
          cases bb
          · go_wp2
            go_roundw
            case rel => exact ⟨es, g, f, c, M, K - 1, rfl, rfl, by rw [show ((K - 1 : Nat) : Int) = (K : Int) - 1 by omega], by omega, by omega, L7.out⟩
            case measure => simp [intOf]; omega
          · go_wp2_with (at_builtin; refine wpList_append_os _ rfl _ _ _ rfl 48 i0 _ 3 24 Try.underlying33 hi0 hz0 hz1 hz2 rfl (by omega) g f es.length c (evC es) rfl (OSl.below L7.out.out ((Below.refl _ _).alloc (Nat.le_refl _) _) L7.out.out.blk) ⟨w7.heap.size, 0, none⟩ 1 1 [.int .i64 y, .int .i64 1, .int .i64 0] rfl rfl (World.news_of_block (cs := #[.int .i64 y, .int .i64 1, .int .i64 0]) (t := 48) (fr := (0, 0)) (heap_alloc_new w7 _)) (by simp [Value.oneCell']) (by unfold maxLen; omega) (by omega) ?_; intro g8 f8 c8 w8 o8 hg8 hat8)
            have L8 : Hid (Ld w w8 p a len cap g8 f8 c8 (es ++ [(⟨y, 1, 0⟩ : Ev)])) := L7.out.push hpl hg8 hat8 o8
            have HLE : Hid ((es ++ [(⟨y, 1, 0⟩ : Ev)]).length = es.length + 1) := by simp [Hid]
            clear o8 hg8 hat8
            go_wp2
            go_roundw
            case rel => exact ⟨es ++ [(⟨y, 1, 0⟩ : Ev)], g8, f8, c8, M, K - 1, by rw [HLE.out], rfl, by rw [show ((K - 1 : Nat) : Int) = (K : Int) - 1 by omega], by rw [HLE.out]; omega, by omega, L8.out⟩
            case measure => simp [intOf]; omega
      · go_wp2
        have hb3 : Below w3.heap.size w3 (w3.alloc (.cells #[.int .i64 y, .int .i64 2, .int .i64 (M : Int)] 48)) := (Below.refl _ _).alloc (Nat.le_refl _) _
        obtain ⟨W, hW⟩ : ∃ W, w3.alloc (.cells #[.int .i64 y, .int .i64 2, .int .i64 (M : Int)] 48) = W := ⟨_, rfl⟩
        have q0 : W.cell? ⟨w3.heap.size, 0, none⟩ = some (.int .i64 y) := by rw [← hW]; simp
        have q1 : W.cell? ⟨w3.heap.size, 1, none⟩ = some (.int .i64 2) := by rw [← hW]; simp
        have q2 : W.cell? ⟨w3.heap.size, 2, none⟩ = some (.int .i64 (M : Int)) := by rw [← hW]; simp
        have LW : Ld w W p a len cap g f c es := by
          rw [← hW]
          exact HL3.out.step hpl (HL3.out.cur.alloc _) (World.grownBy_alloc _ _ _)
        have hWs : W.heap.size = w3.heap.size + 1 := by rw [← hW]; simp
        rw [hW]
        have HWW : Hid (w3.alloc (.cells #[.int .i64 y, .int .i64 2, .int .i64 (M : Int)] 48) = W) := hW
        clear hW hb3
        have AK : Ask W w3.heap.size g f c es ⟨y, 2, (M : Int)⟩ := ⟨LW.out, by omega, by omega, by omega⟩
        have KAK : Hid (Ask W w3.heap.size g f c es ⟨y, 2, (M : Int)⟩) := AK
        have KL1 : Hid ((evC es).length = es.length * 3) := evC_len es
        have KLW : Hid (Ld w W p a len cap g f c es) := LW
        have HWs : Hid (w3.heap.size < W.heap.size) := by rw [Hid]; omega
        have hB1 : w3.heap.size ≠ W.heap.size := by omega
        have hB2 : w3.heap.size ≠ W.heap.size + 1 := by omega
        clear AK LW hWs
        go_region_held3 (fun w' => w'.cell? ⟨w3.heap.size, 0, none⟩ = some (.int .i64 y) ∧ w'.cell? ⟨w3.heap.size, 1, none⟩ = some (.int .i64 2) ∧ w'.cell? ⟨w3.heap.size, 2, none⟩ = some (.int .i64 (M : Int)))
          (first
            | go_keep
            | (go_split_ands; exact ⟨hg7.cell (by assumption), hg7.cell (by assumption), hg7.cell (by assumption)⟩)
            | (go_split_ands; exact ⟨grown_cell hg6 (by assumption) hB5, grown_cell hg6 (by assumption) hB5, grown_cell hg6 (by assumption) hB5⟩)
            | (go_split_ands; exact ⟨grown_cell hg5 (by assumption) hB1, grown_cell hg5 (by assumption) hB1, grown_cell hg5 (by assumption) hB1⟩)
            | (go_split_ands; exact ⟨grown_cell hg5 (by assumption) hB2, grown_cell hg5 (by assumption) hB2, grown_cell hg5 (by assumption) hB2⟩))
          (first
            | (go_at_call 38; refine (Ask.tok (e := ⟨y, 2, (M : Int)⟩) o6).mono ?_; rintro e w7 ⟨rfl, hg7⟩; have hb7 : Below W.heap.size W w7 := hb6.trans (hg7.1.mono hb6.size))
            | (refine step_append_os _ (by rfl) _ _ _ (by rfl) 48 i0 _ 3 24 Try.underlying33 hi0 hz0 hz1 hz2 rfl (by omega) g5 f5 es.length c5 (evC es) (by rfl) (Ask.e1 o5 _ (.cells #[.int .i64 y, .int .i64 2, .int .i64 (M : Int)] 48) rfl) ⟨w5.heap.size, 0, none⟩ 1 1 [.int .i64 y, .int .i64 2, .int .i64 (M : Int)] (by rfl) (by rfl) (Ask.m1 w5 _ #[.int .i64 y, .int .i64 2, .int .i64 (M : Int)] rfl) (by simp [Value.oneCell']) (by unfold maxLen; omega) (by omega) ?_; intro g6 f6 c6 w6 o6 hg6 hat6; have hb6 : Below W.heap.size W w6 := hb6a hg6 hb5 hG5 (.cells #[.int .i64 y, .int .i64 2, .int .i64 (M : Int)] 48) rfl rfl rfl rfl)
            | (refine step_append_os _ (by rfl) _ _ _ (by rfl) 48 i0 _ 3 24 Try.underlying33 hi0 hz0 hz1 hz2 rfl (by omega) g5 f5 (0 + es.length) c5 (evC es) (by rfl) (Ask.e3 o5 _ rfl) ⟨W.heap.size + 1, 0, none⟩ 1 1 [.int .i64 y, .int .i64 2, .int .i64 (M : Int)] (by rfl) (by rfl) (Ask.m2 w5 _ (W.heap.size + 1) #[.int .i64 y, .int .i64 2, .int .i64 (M : Int)] hv5 rfl) (by simp [Value.oneCell']) (by unfold maxLen; omega) (by omega) ?_; intro g6 f6 c6 w6 o6 hg6 hat6; have hb6 : Below W.heap.size W w6 := hb6b hg6 hb5 hG5 rfl rfl rfl rfl; simp only [Nat.zero_add] at o6 ⊢)
            | (refine step_append_os _ (by rfl) _ _ _ (by rfl) 48 i0 _ 3 24 Try.underlying33 hi0 hz0 hz1 hz2 rfl (by omega) g5 f5 (0 + es.length) c5 (evC es) (by rfl) (Ask.e3 o5 _ rfl) ⟨W.heap.size, 0, none⟩ 1 1 [.int .i64 y, .int .i64 2, .int .i64 (M : Int)] (by rfl) (by rfl) (Ask.m2 w5 _ W.heap.size #[.int .i64 y, .int .i64 2, .int .i64 (M : Int)] hv5 rfl) (by simp [Value.oneCell']) (by unfold maxLen; omega) (by omega) ?_; intro g6 f6 c6 w6 o6 hg6 hat6; have hb6 : Below W.heap.size W w6 := hb6b hg6 hb5 hG5 rfl rfl rfl rfl; simp only [Nat.zero_add] at o6 ⊢)
            | (refine step_append_os _ (by rfl) _ _ _ (by rfl) 48 i0 _ 3 24 Try.underlying33 hi0 hz0 hz1 hz2 rfl (by omega) W.heap.size 0 0 0 [] (by rfl) (KAK.out.d1 _ rfl) ⟨g, f, none⟩ es.length c (evC es) (by rfl) KL1.out (KAK.out.n1 _ (.cells #[] 48) rfl) (evC_one es) (by unfold maxLen; omega) (by omega) ?_; intro g5 f5 c5 w5 o5 hg5 hat5; have hB5 : w3.heap.size ≠ g5 := Ask.nb2 hat5 HWs.out (Nat.le_refl _) (le1 W _ (.cells #[] 48) rfl); have hG5 : W.heap.size ≤ g5 := at_ge hat5 (Nat.le_refl _) (le1 W _ (.cells #[] 48) rfl); have hb5 : Below W.heap.size W w5 := hb5a hg5 (Nat.le_refl _) (.cells #[] 48) rfl rfl rfl rfl)
            | (refine step_append_os _ (by rfl) _ _ _ (by rfl) 48 i0 _ 3 24 Try.underlying33 hi0 hz0 hz1 hz2 rfl (by omega) W.heap.size 0 0 0 [] (by rfl) (KAK.out.d2 _ (.cells #[.int .i64 y, .int .i64 2, .int .i64 (M : Int)] 48) rfl) ⟨g, f, none⟩ es.length c (evC es) (by rfl) KL1.out (KAK.out.n2 _ (.cells #[] 48) (.cells #[.int .i64 y, .int .i64 2, .int .i64 (M : Int)] 48) rfl) (evC_one es) (by unfold maxLen; omega) (by omega) ?_; intro g5 f5 c5 w5 o5 hg5 hat5; have hB5 : w3.heap.size ≠ g5 := Ask.nb2 hat5 HWs.out (Nat.le_refl _) (le2 W _ (.cells #[] 48) (.cells #[.int .i64 y, .int .i64 2, .int .i64 (M : Int)] 48) rfl); have hG5 : W.heap.size ≤ g5 := at_ge hat5 (Nat.le_refl _) (le2 W _ (.cells #[] 48) (.cells #[.int .i64 y, .int .i64 2, .int .i64 (M : Int)] 48) rfl); have hb5 : Below W.heap.size W w5 := hb5b hg5 (Nat.le_refl _) (.cells #[] 48) (.cells #[.int .i64 y, .int .i64 2, .int .i64 (M : Int)] 48) rfl rfl rfl rfl; have hv5 := Ask.v2 (W := W) (V := #[.int .i64 y, .int .i64 2, .int .i64 (M : Int)]) hg5 rfl)
            | (refine step_append_os _ (by rfl) _ _ _ (by rfl) 48 i0 _ 3 24 Try.underlying33 hi0 hz0 hz1 hz2 rfl (by omega) (W.heap.size + 1) 0 0 0 [] (by rfl) (KAK.out.d3 _ (.cells #[.int .i64 y, .int .i64 2, .int .i64 (M : Int)] 48) rfl) ⟨g, f, none⟩ es.length c (evC es) (by rfl) KL1.out (KAK.out.n2 _ (.cells #[.int .i64 y, .int .i64 2, .int .i64 (M : Int)] 48) (.cells #[] 48) rfl) (evC_one es) (by unfold maxLen; omega) (by omega) ?_; intro g5 f5 c5 w5 o5 hg5 hat5; have hB5 : w3.heap.size ≠ g5 := Ask.nb2 hat5 HWs.out (Nat.le_succ _) (le2 W _ (.cells #[.int .i64 y, .int .i64 2, .int .i64 (M : Int)] 48) (.cells #[] 48) rfl); have hG5 : W.heap.size ≤ g5 := at_ge hat5 (Nat.le_succ _) (le2 W _ (.cells #[.int .i64 y, .int .i64 2, .int .i64 (M : Int)] 48) (.cells #[] 48) rfl); have hb5 : Below W.heap.size W w5 := hb5b hg5 (Nat.le_succ _) (.cells #[.int .i64 y, .int .i64 2, .int .i64 (M : Int)] 48) (.cells #[] 48) rfl rfl rfl rfl; have hv5 := Ask.v3 (W := W) (V := #[.int .i64 y, .int .i64 2, .int .i64 (M : Int)]) hg5 rfl))
        all_goals
          have L7 : Hid (Ld w w7 p a len cap g f c es) := KLW.out.fresh hb7
          clear hb7 hg7 o6 hg6 hat6 hb6 o5 hg5 hat5 hb5 hB5 hG5
          try clear hv5
          generalize okT (es ++ [(⟨y, 2, (M : Int)⟩ : Ev)]) (es.length + 1) = bb
          cases bb
          · go_wp2
            go_roundw
            case rel => exact ⟨es, g, f, c, M + 1, K - 1, rfl, by go_num, by rw [show ((K - 1 : Nat) : Int) = (K : Int) - 1 by omega], by omega, by omega, L7.out⟩
            case measure => simp [intOf]; omega
          · go_wp2_with (at_builtin; refine wpList_append_os _ rfl _ _ _ rfl 48 i0 _ 3 24 Try.underlying33 hi0 hz0 hz1 hz2 rfl (by omega) g f es.length c (evC es) rfl (OSl.below L7.out.out ((Below.refl _ _).alloc (Nat.le_refl _) _) L7.out.out.blk) ⟨w7.heap.size, 0, none⟩ 1 1 [.int .i64 y, .int .i64 2, .int .i64 (M : Int)] rfl rfl (World.news_of_block (cs := #[.int .i64 y, .int .i64 2, .int .i64 (M : Int)]) (t := 48) (fr := (0, 0)) (heap_alloc_new w7 _)) (by simp [Value.oneCell']) (by unfold maxLen; omega) (by omega) ?_; intro g8 f8 c8 w8 o8 hg8 hat8)
            have L8 : Hid (Ld w w8 p a len cap g8 f8 c8 (es ++ [(⟨y, 2, (M : Int)⟩ : Ev)])) := L7.out.push hpl hg8 hat8 o8
            have HLE : Hid ((es ++ [(⟨y, 2, (M : Int)⟩ : Ev)]).length = es.length + 1) := by simp [Hid]
            clear o8 hg8 hat8
            go_wp2
            go_roundw
            case rel => exact ⟨es ++ [(⟨y, 2, (M : Int)⟩ : Ev)], g8, f8, c8, M + 1, K - 1, by rw [HLE.out], by go_num, by rw [show ((K - 1 : Nat) : Int) = (K : Int) - 1 by omega], by rw [HLE.out]; omega, by omega, L8.out⟩
            case measure => simp [intOf]; omega
      · have L3 := HL3.out
        have A0 : (w3.alloc (.cells #[.int .i64 y, .int .i64 3, .int .i64 0] 48)).heap[w3.heap.size]? = some (.cells #[.int .i64 y, .int .i64 3, .int .i64 0] 48 (0, 0)) := heap_alloc_new w3 _
        have LA : Ld w (w3.alloc (.cells #[.int .i64 y, .int .i64 3, .int .i64 0] 48)) p a len cap g f c es := L3.step hpl (L3.cur.alloc _) (World.grownBy_alloc _ _ _)
        have hw3 : w.heap.size ≤ w3.heap.size := L3.grown.size
        have hBl : w3.heap.size < (w3.alloc (.cells #[.int .i64 y, .int .i64 3, .int .i64 0] 48)).heap.size := by simp
        go_wp2_with fail
        refine (below_any p a len cap bs (M : Int) _ LA.cur (hv.grown LA.grown hp) hp hl (by omega)).mono ?_
        rintro e wa ⟨u, rfl, hu0, hu1, hu2, hca, hga⟩
        have LB := LA.step hpl hca hga
        have A1 : wa.heap[w3.heap.size]? = some (.cells #[.int .i64 y, .int .i64 3, .int .i64 0] 48 (0, 0)) := (hga.block _ hBl (by simp; omega)).trans A0
        have hBa : w3.heap.size < wa.heap.size := Nat.lt_of_lt_of_le hBl hga.size
        have hub : u ≤ 20 := by
          by_cases hM0 : 0 < (M : Int)
          · have := hu1 hM0; omega
          · have := hu2 (by omega); omega
        clear hca hga LA A0 hu1 hu2
        go_wp2_with fail
        refine (below_any p a len cap bs 2 wa LB.cur (hv.grown LB.grown hp) hp hl (by omega)).mono ?_
        rintro e wb ⟨v, rfl, hv0, hv1, hv2, hcb, hgb⟩
        have LC := LB.step hpl hcb hgb
        have A2 : wb.heap[w3.heap.size]? = some (.cells #[.int .i64 y, .int .i64 3, .int .i64 0] 48 (0, 0)) := (hgb.block _ hBa (by simp; omega)).trans A1
        have hvb := hv1 (by omega)
        have c0 : wb.cell? ⟨w3.heap.size, 0, none⟩ = some (.int .i64 y) := by simp [World.cell?, A2]
        have c1 : wb.cell? ⟨w3.heap.size, 1, none⟩ = some (.int .i64 3) := by simp [World.cell?, A2]
        have c2 : wb.cell? ⟨w3.heap.size, 2, none⟩ = some (.int .i64 0) := by simp [World.cell?, A2]
        have f2 : wb.frozen? ⟨w3.heap.size, 2, none⟩ = false := by simp [World.frozen?, A2]
        have hBb : w3.heap.size < wb.heap.size := Nat.lt_of_lt_of_le hBa hgb.size
        have hgne : g ≠ w3.heap.size := Nat.ne_of_lt L3.out.blk
        have KC : Hid (Ld w wb p a len cap g f c es) := LC
        have Kc0 : Hid (wb.cell? ⟨w3.heap.size, 0, none⟩ = some (.int .i64 y)) := c0
        have Kc1 : Hid (wb.cell? ⟨w3.heap.size, 1, none⟩ = some (.int .i64 3)) := c1
        have Kc2 : Hid (wb.cell? ⟨w3.heap.size, 2, none⟩ = some (.int .i64 0)) := c2
        clear hcb hgb LB LC A1 A2 hv1 hv2 L3
        go_wp2
        obtain ⟨W, hW⟩ : ∃ W, wb.setCell ⟨w3.heap.size, 2, none⟩ (.int .i64 (u + v)) = W := ⟨_, rfl⟩
        have q0 : W.cell? ⟨w3.heap.size, 0, none⟩ = some (.int .i64 y) := by rw [← hW, World.cell?_setCell_other _ _ _ _ (by simp)]; exact Kc0.out
        have q1 : W.cell? ⟨w3.heap.size, 1, none⟩ = some (.int .i64 3) := by rw [← hW, World.cell?_setCell_other _ _ _ _ (by simp)]; exact Kc1.out
        have q2 : W.cell? ⟨w3.heap.size, 2, none⟩ = some (.int .i64 (u + v)) := by rw [← hW]; exact World.cell?_setCell_same _ _ _ Kc2.out
        have LW : Ld w W p a len cap g f c es := by
          rw [← hW]
          exact ⟨OSl.of_block KC.out.out (Below.heap_setCell _ _ _ _ (by exact hgne)) (by simp [World.setCell]; exact KC.out.out.blk), KC.out.new, KC.out.cur.set (by omega) _ _, grown_setOwn KC.out.grown (by omega) _ _⟩
        have hWs : w3.heap.size < W.heap.size := by rw [← hW]; simp [World.setCell]; exact hBb
        clear c0 c1 c2 f2
        rw [hW]
        have HWW : Hid (wb.setCell ⟨w3.heap.size, 2, none⟩ (.int .i64 (u + v)) = W) := hW
        clear hW
        have AK : Ask W w3.heap.size g f c es ⟨y, 3, u + v⟩ := ⟨LW.out, by omega, by omega, by omega⟩
        have KAK : Hid (Ask W w3.heap.size g f c es ⟨y, 3, u + v⟩) := AK
        have KL1 : Hid ((evC es).length = es.length * 3) := evC_len es
        have KLW : Hid (Ld w W p a len cap g f c es) := LW
        have HWs : Hid (w3.heap.size < W.heap.size) := by rw [Hid]; omega
        have hB1 : w3.heap.size ≠ W.heap.size := by omega
        have hB2 : w3.heap.size ≠ W.heap.size + 1 := by omega
        clear AK LW hWs
        go_region_held3 (fun w' => w'.cell? ⟨w3.heap.size, 0, none⟩ = some (.int .i64 y) ∧ w'.cell? ⟨w3.heap.size, 1, none⟩ = some (.int .i64 3) ∧ w'.cell? ⟨w3.heap.size, 2, none⟩ = some (.int .i64 (u + v)))
          (first
            | go_keep
            | (go_split_ands; exact ⟨hg7.cell (by assumption), hg7.cell (by assumption), hg7.cell (by assumption)⟩)
            | (go_split_ands; exact ⟨grown_cell hg6 (by assumption) hB5, grown_cell hg6 (by assumption) hB5, grown_cell hg6 (by assumption) hB5⟩)
            | (go_split_ands; exact ⟨grown_cell hg5 (by assumption) hB1, grown_cell hg5 (by assumption) hB1, grown_cell hg5 (by assumption) hB1⟩)
            | (go_split_ands; exact ⟨grown_cell hg5 (by assumption) hB2, grown_cell hg5 (by assumption) hB2, grown_cell hg5 (by assumption) hB2⟩))
          (first
            | (go_at_call 38; refine (Ask.tok (e := ⟨y, 3, u + v⟩) o6).mono ?_; rintro e w7 ⟨rfl, hg7⟩; have hb7 : Below W.heap.size W w7 := hb6.trans (hg7.1.mono hb6.size))
            | (refine step_append_os _ (by rfl) _ _ _ (by rfl) 48 i0 _ 3 24 Try.underlying33 hi0 hz0 hz1 hz2 rfl (by omega) g5 f5 es.length c5 (evC es) (by rfl) (Ask.e1 o5 _ (.cells #[.int .i64 y, .int .i64 3, .int .i64 (u + v)] 48) rfl) ⟨w5.heap.size, 0, none⟩ 1 1 [.int .i64 y, .int .i64 3, .int .i64 (u + v)] (by rfl) (by rfl) (Ask.m1 w5 _ #[.int .i64 y, .int .i64 3, .int .i64 (u + v)] rfl) (by simp [Value.oneCell']) (by unfold maxLen; omega) (by omega) ?_; intro g6 f6 c6 w6 o6 hg6 hat6; have hb6 : Below W.heap.size W w6 := hb6a hg6 hb5 hG5 (.cells #[.int .i64 y, .int .i64 3, .int .i64 (u + v)] 48) rfl rfl rfl rfl)
            | (refine step_append_os _ (by rfl) _ _ _ (by rfl) 48 i0 _ 3 24 Try.underlying33 hi0 hz0 hz1 hz2 rfl (by omega) g5 f5 (0 + es.length) c5 (evC es) (by rfl) (Ask.e3 o5 _ rfl) ⟨W.heap.size + 1, 0, none⟩ 1 1 [.int .i64 y, .int .i64 3, .int .i64 (u + v)] (by rfl) (by rfl) (Ask.m2 w5 _ (W.heap.size + 1) #[.int .i64 y, .int .i64 3, .int .i64 (u + v)] hv5 rfl) (by simp [Value.oneCell']) (by unfold maxLen; omega) (by omega) ?_; intro g6 f6 c6 w6 o6 hg6 hat6; have hb6 : Below W.heap.size W w6 := hb6b hg6 hb5 hG5 rfl rfl rfl rfl; simp only [Nat.zero_add] at o6 ⊢)
            | (refine step_append_os _ (by rfl) _ _ _ (by rfl) 48 i0 _ 3 24 Try.underlying33 hi0 hz0 hz1 hz2 rfl (by omega) g5 f5 (0 + es.length) c5 (evC es) (by rfl) (Ask.e3 o5 _ rfl) ⟨W.heap.size, 0, none⟩ 1 1 [.int .i64 y, .int .i64 3, .int .i64 (u + v)] (by rfl) (by rfl) (Ask.m2 w5 _ W.heap.size #[.int .i64 y, .int .i64 3, .int .i64 (u + v)] hv5 rfl) (by simp [Value.oneCell']) (by unfold maxLen; omega) (by omega) ?_; intro g6 f6 c6 w6 o6 hg6 hat6; have hb6 : Below W.heap.size W w6 := hb6b hg6 hb5 hG5 rfl rfl rfl rfl; simp only [Nat.zero_add] at o6 ⊢)
            | (refine step_append_os _ (by rfl) _ _ _ (by rfl) 48 i0 _ 3 24 Try.underlying33 hi0 hz0 hz1 hz2 rfl (by omega) W.heap.size 0 0 0 [] (by rfl) (KAK.out.d1 _ rfl) ⟨g, f, none⟩ es.length c (evC es) (by rfl) KL1.out (KAK.out.n1 _ (.cells #[] 48) rfl) (evC_one es) (by unfold maxLen; omega) (by omega) ?_; intro g5 f5 c5 w5 o5 hg5 hat5; have hB5 : w3.heap.size ≠ g5 := Ask.nb2 hat5 HWs.out (Nat.le_refl _) (le1 W _ (.cells #[] 48) rfl); have hG5 : W.heap.size ≤ g5 := at_ge hat5 (Nat.le_refl _) (le1 W _ (.cells #[] 48) rfl); have hb5 : Below W.heap.size W w5 := hb5a hg5 (Nat.le_refl _) (.cells #[] 48) rfl rfl rfl rfl)
            | (refine step_append_os _ (by rfl) _ _ _ (by rfl) 48 i0 _ 3 24 Try.underlying33 hi0 hz0 hz1 hz2 rfl (by omega) W.heap.size 0 0 0 [] (by rfl) (KAK.out.d2 _ (.cells #[.int .i64 y, .int .i64 3, .int .i64 (u + v)] 48) rfl) ⟨g, f, none⟩ es.length c (evC es) (by rfl) KL1.out (KAK.out.n2 _ (.cells #[] 48) (.cells #[.int .i64 y, .int .i64 3, .int .i64 (u + v)] 48) rfl) (evC_one es) (by unfold maxLen; omega) (by omega) ?_; intro g5 f5 c5 w5 o5 hg5 hat5; have hB5 : w3.heap.size ≠ g5 := Ask.nb2 hat5 HWs.out (Nat.le_refl _) (le2 W _ (.cells #[] 48) (.cells #[.int .i64 y, .int .i64 3, .int .i64 (u + v)] 48) rfl); have hG5 : W.heap.size ≤ g5 := at_ge hat5 (Nat.le_refl _) (le2 W _ (.cells #[] 48) (.cells #[.int .i64 y, .int .i64 3, .int .i64 (u + v)] 48) rfl); have hb5 : Below W.heap.size W w5 := hb5b hg5 (Nat.le_refl _) (.cells #[] 48) (.cells #[.int .i64 y, .int .i64 3, .int .i64 (u + v)] 48) rfl rfl rfl rfl; have hv5 := Ask.v2 (W := W) (V := #[.int .i64 y, .int .i64 3, .int .i64 (u + v)]) hg5 rfl)
            | (refine step_append_os _ (by rfl) _ _ _ (by rfl) 48 i0 _ 3 24 Try.underlying33 hi0 hz0 hz1 hz2 rfl (by omega) (W.heap.size + 1) 0 0 0 [] (by rfl) (KAK.out.d3 _ (.cells #[.int .i64 y, .int .i64 3, .int .i64 (u + v)] 48) rfl) ⟨g, f, none⟩ es.length c (evC es) (by rfl) KL1.out (KAK.out.n2 _ (.cells #[.int .i64 y, .int .i64 3, .int .i64 (u + v)] 48) (.cells #[] 48) rfl) (evC_one es) (by unfold maxLen; omega) (by omega) ?_; intro g5 f5 c5 w5 o5 hg5 hat5; have hB5 : w3.heap.size ≠ g5 := Ask.nb2 hat5 HWs.out (Nat.le_succ _) (le2 W _ (.cells #[.int .i64 y, .int .i64 3, .int .i64 (u + v)] 48) (.cells #[] 48) rfl); have hG5 : W.heap.size ≤ g5 := at_ge hat5 (Nat.le_succ _) (le2 W _ (.cells #[.int .i64 y, .int .i64 3, .int .i64 (u + v)] 48) (.cells #[] 48) rfl); have hb5 : Below W.heap.size W w5 := hb5b hg5 (Nat.le_succ _) (.cells #[.int .i64 y, .int .i64 3, .int .i64 (u + v)] 48) (.cells #[] 48) rfl rfl rfl rfl; have hv5 := Ask.v3 (W := W) (V := #[.int .i64 y, .int .i64 3, .int .i64 (u + v)]) hg5 rfl))
        all_goals
          have L7 : Hid (Ld w w7 p a len cap g f c es) := KLW.out.fresh hb7
          clear hb7 hg7 o6 hg6 hat6 hb6 o5 hg5 hat5 hb5 hB5 hG5
          try clear hv5
          generalize okT (es ++ [(⟨y, 3, u + v⟩ : Ev)]) (es.length + 1) = bb
          cases bb
          · go_wp2
            go_roundw
            case rel => exact ⟨es, g, f, c, M, K - 1, rfl, rfl, by rw [show ((K - 1 : Nat) : Int) = (K : Int) - 1 by omega], by omega, by omega, L7.out⟩
            case measure => simp [intOf]; omega
          · go_wp2_with (at_builtin; refine wpList_append_os _ rfl _ _ _ rfl 48 i0 _ 3 24 Try.underlying33 hi0 hz0 hz1 hz2 rfl (by omega) g f es.length c (evC es) rfl (OSl.below L7.out.out ((Below.refl _ _).alloc (Nat.le_refl _) _) L7.out.out.blk) ⟨w7.heap.size, 0, none⟩ 1 1 [.int .i64 y, .int .i64 3, .int .i64 (u + v)] rfl rfl (World.news_of_block (cs := #[.int .i64 y, .int .i64 3, .int .i64 (u + v)]) (t := 48) (fr := (0, 0)) (heap_alloc_new w7 _)) (by simp [Value.oneCell']) (by unfold maxLen; omega) (by omega) ?_; intro g8 f8 c8 w8 o8 hg8 hat8)
            have L8 : Hid (Ld w w8 p a len cap g8 f8 c8 (es ++ [(⟨y, 3, u + v⟩ : Ev)])) := L7.out.push hpl hg8 hat8 o8
            have HLE : Hid ((es ++ [(⟨y, 3, u + v⟩ : Ev)]).length = es.length + 1) := by simp [Hid]
            clear o8 hg8 hat8
            go_wp2
            go_roundw
            case rel => exact ⟨es ++ [(⟨y, 3, u + v⟩ : Ev)], g8, f8, c8, M, K - 1, by rw [HLE.out], rfl, by rw [show ((K - 1 : Nat) : Int) = (K : Int) - 1 by omega], by rw [HLE.out]; omega, by omega, L8.out⟩
            case measure => simp [intOf]; omega
    · have hK0 : K = 0 := by omega
      subst hK0
      go_wp2
      go_ret
      exact ⟨g, f, c, es, rfl, by omega, HL.out⟩
end Go.Proofs.Ytacogcfdolmfpaa
