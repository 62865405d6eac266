/-
  Several texts in one: Dr2 Dr3 Dr4 Dr5.
-/
import Derived.Test.YtacjpebifacclaaGe
/-
  The contracts of the laws' has and rises, and of the specification's l1From and l2Draw.
-/
namespace Go.Proofs.Ytacjpebifacclaa
set_option linter.unusedSimpArgs false
set_option linter.unusedVariables false
open Go.RowKit Go.Sort

set_option maxHeartbeats 400000 in
theorem has_any (b off len cap : Nat) (x : Int) (xs : List Int) (w : World) (hlen : xs.length = len) (hc : ∀ i, i < len → w.cell? ⟨b, off + i, none⟩ = some (.int .i64 (el xs i))) (hm : len ≤ maxLen) :
    Calls Try.prog 42 #[.slice (some ⟨b, off, none⟩) len cap, .int .i64 x] w fun e w' => e = .returned (.bool (decide (x ∈ xs))) ∧ w' = w := by
  unfold maxLen at hm
  have HL : Hid (xs.length = len) := hlen
  clear hlen
  go_enter Try.func42, Try.ntmps42
  go_wp2
  go_loop [5] (fun i => ∃ k : Nat, k ≤ len ∧ i = .int .i64 k ∧ ∀ j, j < k → el xs j ≠ x) (fun i => len - (intOf i).toNat)
  case atStart => exact ⟨0, Nat.zero_le _, rfl, fun j hj => by omega⟩
  case round =>
    obtain ⟨k, hk, rfl, hno⟩ := hrel
    have HN : Hid (∀ j, j < k → el xs j ≠ x) := hno
    clear hno
    by_cases hlt : k < len
    · have hck := hc k hlt
      by_cases he : el xs k = x
      · have hb : (el xs k == x) = true := by simpa using he
        have HF : Hid (decide (x ∈ xs) = true) := by rw [Hid, decide_eq_true_eq]; exact el_mem_iff.2 ⟨k, by rw [HL.out]; exact hlt, he⟩
        clear he
        go_wp2
        go_ret
        exact ⟨ret_bool (by rw [HF.out]), rfl⟩
      · have hb : (el xs k == x) = false := by simpa using he
        have HE : Hid (el xs k ≠ x) := he
        clear he
        go_wp2
        go_round
        case rel => exact ⟨k + 1, by omega, by go_num, fun j hj => by
          rcases Nat.lt_succ_iff_lt_or_eq.1 hj with h | h
          · exact HN.out j h
          · rw [h]; exact HE.out⟩
        case measure => simp [intOf]; omega
    · have HF : Hid (decide (x ∈ xs) = false) := by
        rw [Hid, decide_eq_false_iff_not, el_mem_iff]
        rintro ⟨j, hj, e⟩
        exact HN.out j (by rw [HL.out] at hj; omega) e
      go_wp2
      go_ret
      exact ⟨ret_bool (by rw [HF.out]), rfl⟩

set_option maxHeartbeats 400000 in
theorem rises_any (b off len cap : Nat) (xs : List Int) (w : World) (hlen : xs.length = len) (hc : ∀ i, i < len → w.cell? ⟨b, off + i, none⟩ = some (.int .i64 (el xs i))) (hm : len ≤ 1000000) (hr : ∀ j, j + 1 < len → el xs j < el xs (j + 1)) :
    Calls Try.prog 59 #[.slice (some ⟨b, off, none⟩) len cap] w fun e w' => e = .returned (.bool true) ∧ ∃ n, w' = w.drewN n := by
  have HR : Hid (∀ j, j + 1 < len → el xs j < el xs (j + 1)) := hr
  clear hr hlen
  go_enter Try.func59, Try.ntmps59
  go_wp2
  go_loopw [3] (fun i wr => ∃ k n : Nat, k ≤ len ∧ i = .int .i64 ((k : Int) + 1) ∧ wr = w.drewN n) (fun i _ => (len + 1) - (intOf i).toNat)
  case atStart => exact ⟨0, 0, Nat.zero_le _, rfl, rfl⟩
  case round =>
    obtain ⟨k, n, hk, rfl, rfl⟩ := hrel
    by_cases hlt : k + 1 < len
    · have c1 := hc (k + 1) hlt
      have c0 := hc k (by omega)
      have hd : decide (el xs (k + 1) ≤ el xs k) = false := by have := HR.out k hlt; simp; omega
      have h1 : (k : Int) + 1 < (len : Int) := by omega
      have h2 : (k : Int) < (len : Int) := by omega
      have h0 : (0 : Int) ≤ (k : Int) + 1 := by omega
      have h3 : (0 : Int) ≤ (k : Int) := by omega
      have e1 : ((k : Int) + 1).toNat = k + 1 := by omega
      go_wp2_with fail
      go_quiet (fail)
      go_wp2
      go_roundw
      case rel => exact ⟨k + 1, _, by omega, by go_num, rfl⟩
      case measure => simp [intOf]; omega
    · have hd : decide ((k : Int) + 1 < (len : Int)) = false := by simp; omega
      go_wp2
      go_ret
      exact ⟨rfl, _, rfl⟩

set_option maxHeartbeats 400000 in
theorem from_any (p : Nat) (a : Option Addr) (len cap : Nat) (bs : Nat → Int) (lo hi : Int) (w : World) (hcur : CurAt w p a len cap) (hv : BVec w a len bs) (hp : OffB a len p) (hl : len ≤ 4096) (h0 : -1000 ≤ lo) (h1 : lo ≤ hi) (h2 : hi ≤ 100000) :
    Calls Try.prog 93 #[.pointer (some ⟨p, 0, none⟩), .int .i64 lo, .int .i64 hi] w fun e w' => ∃ x : Int, e = .returned (.int .i64 x) ∧ lo ≤ x ∧ x ≤ hi ∧ CurAt w' p a len cap ∧ w.grownBy w' (some p) := by
  have hB := below_any p a len cap bs (hi - lo + 1) w hcur hv hp hl (by omega)
  go_enter Try.func93, Try.ntmps93
  go_wp2_with fail
  refine hB.mono ?_
  rintro e w1 ⟨x, rfl, hx0, hx1, hx2, hc1, hg1⟩
  have hx3 := hx1 (by omega)
  have hb1 : lo + x ≤ 9223372036854775807 := by omega
  have hb2 : -9223372036854775808 ≤ lo + x := by omega
  clear hx1 hx2
  go_wp2
  go_ret
  exact ⟨lo + x, rfl, by omega, by omega, hc1, hg1⟩
end Go.Proofs.Ytacjpebifacclaa

/-
  The contract of the specification's l2Draw: some list of events in memory of its own.
-/
namespace Go.Proofs.Ytacjpebifacclaa
set_option linter.unusedSimpArgs false
set_option linter.unusedVariables false
open Go.RowKit Go.Sort

/-- The cells of a list of events. -/
def evC (es : List Ev) : List Value := es.flatMap (fun e => [Value.int .i64 e.n, .int .i64 e.k, .int .i64 e.m])
theorem evC_cons (e : Ev) (es : List Ev) : evC (e :: es) = .int .i64 e.n :: .int .i64 e.k :: .int .i64 e.m :: evC es := rfl
theorem evC_snoc (es : List Ev) (e : Ev) : evC (es ++ [e]) = evC es ++ [.int .i64 e.n, .int .i64 e.k, .int .i64 e.m] := by simp [evC]
theorem evC_len (es : List Ev) : (evC es).length = es.length * 3 := by
  induction es with
  | nil => rfl
  | cons e es ih => rw [evC_cons]; simp [ih]; omega
theorem evC_get : ∀ (es : List Ev) (i : Nat), i < es.length → (evC es)[i * 3]? = some (.int .i64 (evAt es i).n) ∧ (evC es)[i * 3 + 1]? = some (.int .i64 (evAt es i).k) ∧ (evC es)[i * 3 + 2]? = some (.int .i64 (evAt es i).m)
  | [], i, h => by simp at h
  | e :: es, 0, h => by rw [evC_cons]; simp [evAt]
  | e :: es, i + 1, h => by
    have := evC_get es i (by simpa using h)
    rw [evC_cons, show (i + 1) * 3 = i * 3 + 1 + 1 + 1 by omega, show i * 3 + 1 + 1 + 1 + 1 = i * 3 + 1 + 1 + 1 + 1 from rfl]
    simpa [evAt] using this
theorem evC_one (es : List Ev) : ∀ u ∈ evC es, u.oneCell' = true := by
  intro u hu
  simp only [evC, List.mem_flatMap] at hu
  obtain ⟨e, _, h⟩ := hu
  simp at h
  rcases h with rfl | rfl | rfl <;> rfl
def OE (w : World) (g off cap : Nat) (es : List Ev) : Prop := OSl w 3 g off es.length cap (evC es)
theorem OE.at {w : World} {g off cap : Nat} {es : List Ev} (h : OE w g off cap es) : EvsAt w g off es.length es := fun i hi => by
  obtain ⟨a, b, c⟩ := evC_get es i hi
  refine ⟨?_, ?_, ?_⟩
  · rw [h.cell (i * 3) (by omega)]; exact a
  · rw [Nat.add_assoc, h.cell (i * 3 + 1) (by omega)]; exact b
  · rw [Nat.add_assoc, h.cell (i * 3 + 2) (by omega)]; exact c
theorem OE.news {w : World} {g off cap : Nat} {es : List Ev} (h : OE w g off cap es) (j : Nat) (u : Value) (hu : (evC es)[j]? = some u) : w.cell? ((⟨g, off, none⟩ : Addr).add j) = some u := by
  rw [add_lit0]
  have hj : j < (evC es).length := by
    rcases Nat.lt_or_ge j (evC es).length with h | h
    · exact h
    · rw [List.getElem?_eq_none h] at hu; cases hu
  rw [evC_len] at hj
  rw [h.cell j hj]; exact hu
theorem oe_empty (w : World) (T : TypeId) : OE (w.alloc (.cells #[] T)) w.heap.size 0 0 [] :=
  ⟨rfl, Nat.le_refl _, Nat.zero_le _, by simp, fun i hi => by simp at hi, fun i hi => by simp at hi, fun i hi => by simp at hi⟩
theorem oe_snoc {w : World} {g off cap : Nat} {es : List Ev} {e : Ev} (h : OSl w 3 g off (es.length + 1) cap (evC es ++ [.int .i64 e.n, .int .i64 e.k, .int .i64 e.m])) : OE w g off cap (es ++ [e]) := by
  unfold OE; rw [evC_snoc, List.length_append]; exact h
theorem oe_first {w : World} {g off cap : Nat} {es : List Ev} (h : OSl w 3 g off (0 + es.length) cap ([] ++ evC es)) : OE w g off cap es := by
  unfold OE; rw [Nat.zero_add, List.nil_append] at h; exact h

/-- What the draw holds as the world goes on. -/
structure Ld (w wr : World) (p : Nat) (a : Option Addr) (len cap g f c : Nat) (es : List Ev) : Prop where
  out : OE wr g f c es
  new : w.heap.size ≤ g
  cur : CurAt wr p a len cap
  grown : w.grownBy wr (some p)
theorem Ld.step {w wr wx : World} {p : Nat} {a : Option Addr} {len cap g f c : Nat} {es : List Ev} (h : Ld w wr p a len cap g f c es) (hpl : p < w.heap.size) (hc : CurAt wx p a len cap) (hg : wr.grownBy wx (some p)) : Ld w wx p a len cap g f c es :=
  ⟨OSl.grown h.out hg (by have := h.new; simp; omega), h.new, hc, grown_trans h.grown hg⟩

/-- What the region that asks TraceOk wants, whatever order it takes: the event e lies in block B of W; V are its cells. -/
structure Ask (W : World) (B g f c : Nat) (es : List Ev) (e : Ev) : Prop where
  out : OE W g f c es
  ne : B ≠ W.heap.size
  lt : B < W.heap.size
  small : es.length ≤ 20
theorem OSl.of_heap {w w' : World} {s g off n cap : Nat} {xs : List Value} (h : OSl w s g off n cap xs) (e : w'.heap = w.heap) : OSl w' s g off n cap xs :=
  h.of_block (by rw [e]) (by rw [e]; exact h.blk)
theorem size1 (W : World) (o : Obj) : (W.alloc o).heap.size = W.heap.size + 1 := by simp
theorem Ask.d1 {W : World} {B g f c : Nat} {es : List Ev} {e : Ev} (_ : Ask W B g f c es e) (X : World) (hX : X.heap = (W.alloc (.cells #[] 47)).heap) : OSl X 3 W.heap.size 0 0 0 [] := OSl.of_heap (oe_empty W 47) hX
theorem Ask.n1 {W : World} {B g f c : Nat} {es : List Ev} {e : Ev} (h : Ask W B g f c es e) (X : World) (o : Obj) (hX : X.heap = (W.alloc o).heap) : ∀ j u, (evC es)[j]? = some u → X.cell? ((⟨g, f, none⟩ : Addr).add j) = some u :=
  OE.news (OSl.of_heap (OSl.below h.out ((Below.refl _ _).alloc (Nat.le_refl _) o) h.out.blk) hX)
theorem Ask.d2 {W : World} {B g f c : Nat} {es : List Ev} {e : Ev} (_ : Ask W B g f c es e) (X : World) (V : Obj) (hX : X.heap = ((W.alloc (.cells #[] 47)).alloc V).heap) : OSl X 3 W.heap.size 0 0 0 [] :=
  OSl.of_heap (OSl.below (oe_empty W 47) ((Below.refl _ _).alloc (Nat.le_refl _) V) (by simp)) hX
theorem Ask.n2 {W : World} {B g f c : Nat} {es : List Ev} {e : Ev} (h : Ask W B g f c es e) (X : World) (o V : Obj) (hX : X.heap = ((W.alloc o).alloc V).heap) : ∀ j u, (evC es)[j]? = some u → X.cell? ((⟨g, f, none⟩ : Addr).add j) = some u :=
  OE.news (OSl.of_heap (OSl.below h.out (((Below.refl _ _).alloc (Nat.le_refl _) o).alloc (by simp) V) h.out.blk) hX)
theorem Ask.v2 {W X : World} {V : Array Value} {w5 : World} (hg : X.grownBy w5 (some W.heap.size)) (hX : X.heap = ((W.alloc (.cells #[] 47)).alloc (.cells V 47)).heap) : w5.heap[W.heap.size + 1]? = some (.cells V 47 (0, 0)) := by
  have h0 := heap_alloc_new (W.alloc (.cells #[] 47)) (.cells V 47)
  rw [size1] at h0
  rw [hg.block (W.heap.size + 1) (by rw [hX, size1, size1]; omega) (by simp), hX]; exact h0
theorem Ask.d3 {W : World} {B g f c : Nat} {es : List Ev} {e : Ev} (_ : Ask W B g f c es e) (X : World) (V : Obj) (hX : X.heap = ((W.alloc V).alloc (.cells #[] 47)).heap) : OSl X 3 (W.heap.size + 1) 0 0 0 [] := by
  have := oe_empty (W.alloc V) 47
  rw [size1] at this
  exact OSl.of_heap this hX
theorem Ask.v3 {W X : World} {V : Array Value} {w5 : World} (hg : X.grownBy w5 (some (W.heap.size + 1))) (hX : X.heap = ((W.alloc (.cells V 47)).alloc (.cells #[] 47)).heap) : w5.heap[W.heap.size]? = some (.cells V 47 (0, 0)) := by
  have h0 := heap_alloc_new W (.cells V 47)
  rw [hg.block W.heap.size (by rw [hX, size1, size1]; omega) (by simp), hX]
  have hb : Below (W.alloc (.cells V 47)).heap.size (W.alloc (.cells V 47)) ((W.alloc (.cells V 47)).alloc (.cells #[] 47)) := (Below.refl _ _).alloc (Nat.le_refl _) _
  rw [hb.block W.heap.size (by rw [size1]; omega)]; exact h0
theorem Ask.nb2 {W X : World} {b g5 d : Nat} (hat : g5 = d ∨ g5 = X.heap.size) (hW : b < W.heap.size) (hd : W.heap.size ≤ d) (hXs : W.heap.size ≤ X.heap.size) : b ≠ g5 := by
  rcases hat with h | h <;> omega
theorem le1 (W X : World) (o : Obj) (hX : X.heap = (W.alloc o).heap) : W.heap.size ≤ X.heap.size := by rw [hX, size1]; omega
theorem le2 (W X : World) (o V : Obj) (hX : X.heap = ((W.alloc o).alloc V).heap) : W.heap.size ≤ X.heap.size := by rw [hX, size1, size1]; omega
theorem Ask.e1 {w5 : World} {g5 f5 c5 : Nat} {es : List Ev} (o5 : OSl w5 3 g5 f5 (0 + es.length) c5 ([] ++ evC es)) (X : World) (V : Obj) (hX : X.heap = (w5.alloc V).heap) : OSl X 3 g5 f5 es.length c5 (evC es) :=
  OSl.of_heap (OSl.below (oe_first o5) ((Below.refl _ _).alloc (Nat.le_refl _) V) o5.blk) hX
theorem Ask.e2 {w5 : World} {g5 f5 c5 : Nat} {es : List Ev} (o5 : OSl w5 3 g5 f5 (0 + es.length) c5 ([] ++ evC es)) (X : World) (hX : X.heap = w5.heap) : OSl X 3 g5 f5 es.length c5 (evC es) := OSl.of_heap (oe_first o5) hX
theorem Ask.e3 {w5 : World} {g5 f5 c5 : Nat} {es : List Ev} (o5 : OSl w5 3 g5 f5 (0 + es.length) c5 ([] ++ evC es)) (X : World) (hX : X.heap = w5.heap) : OSl X 3 g5 f5 (0 + es.length) c5 (evC es) := by rw [List.nil_append] at o5; exact OSl.of_heap o5 hX
theorem Ask.m1 (w5 X : World) (V : Array Value) (hX : X.heap = (w5.alloc (.cells V 47)).heap) : ∀ j u, V.toList[j]? = some u → X.cell? ((⟨w5.heap.size, 0, none⟩ : Addr).add j) = some u :=
  World.news_of_block (t := 47) (fr := (0, 0)) (by rw [hX]; exact heap_alloc_new w5 _)
theorem Ask.m2 (w5 X : World) (B : Nat) (V : Array Value) (hb : w5.heap[B]? = some (.cells V 47 (0, 0))) (hX : X.heap = w5.heap) : ∀ j u, V.toList[j]? = some u → X.cell? ((⟨B, 0, none⟩ : Addr).add j) = some u :=
  World.news_of_block (t := 47) (fr := (0, 0)) (by rw [hX]; exact hb)
theorem bx1 {W X : World} (o : Obj) (h1 : X.heap = (W.alloc o).heap) (h2 : X.os = W.os) (h3 : X.tape = W.tape) (h4 : X.output = W.output) : Below W.heap.size W X := by
  have hb : Below W.heap.size W (W.alloc o) := (Below.refl _ _).alloc (Nat.le_refl _) o
  exact ⟨h2, h3, h4, by rw [h1]; exact hb.size, fun k hk => by rw [h1]; exact hb.block k hk⟩
theorem bx2 {W X : World} (o o' : Obj) (h1 : X.heap = ((W.alloc o).alloc o').heap) (h2 : X.os = W.os) (h3 : X.tape = W.tape) (h4 : X.output = W.output) : Below W.heap.size W X := by
  have hb : Below W.heap.size W ((W.alloc o).alloc o') := ((Below.refl _ _).alloc (Nat.le_refl _) o).alloc (by simp) o'
  exact ⟨h2, h3, h4, by rw [h1]; exact hb.size, fun k hk => by rw [h1]; exact hb.block k hk⟩
theorem hb5a {W X w5 : World} {d : Nat} (hg : X.grownBy w5 (some d)) (hd : W.heap.size ≤ d) (o : Obj) (h1 : X.heap = (W.alloc o).heap) (h2 : X.os = W.os) (h3 : X.tape = W.tape) (h4 : X.output = W.output) : Below W.heap.size W w5 :=
  below_grown (bx1 o h1 h2 h3 h4) hg hd (le1 W X o h1)
theorem hb5b {W X w5 : World} {d : Nat} (hg : X.grownBy w5 (some d)) (hd : W.heap.size ≤ d) (o o' : Obj) (h1 : X.heap = ((W.alloc o).alloc o').heap) (h2 : X.os = W.os) (h3 : X.tape = W.tape) (h4 : X.output = W.output) : Below W.heap.size W w5 :=
  below_grown (bx2 o o' h1 h2 h3 h4) hg hd (le2 W X o o' h1)
theorem hb6a {W w5 X w6 : World} {d : Nat} (hg : X.grownBy w6 (some d)) (hb5 : Below W.heap.size W w5) (hd : W.heap.size ≤ d) (o : Obj) (h1 : X.heap = (w5.alloc o).heap) (h2 : X.os = w5.os) (h3 : X.tape = w5.tape) (h4 : X.output = w5.output) : Below W.heap.size W w6 :=
  below_grown (hb5.trans ((bx1 o h1 h2 h3 h4).mono hb5.size)) hg hd (Nat.le_trans hb5.size (le1 w5 X o h1))
theorem hb6b {W w5 X w6 : World} {d : Nat} (hg : X.grownBy w6 (some d)) (hb5 : Below W.heap.size W w5) (hd : W.heap.size ≤ d) (h1 : X.heap = w5.heap) (h2 : X.os = w5.os) (h3 : X.tape = w5.tape) (h4 : X.output = w5.output) : Below W.heap.size W w6 :=
  below_grown (⟨h2.trans hb5.os, h3.trans hb5.tape, h4.trans hb5.output, by rw [h1]; exact hb5.size, fun k hk => by rw [h1]; exact hb5.block k hk⟩ : Below W.heap.size W X) hg hd (by rw [h1]; exact hb5.size)
theorem Ld.fresh {w W w7 : World} {p : Nat} {a : Option Addr} {len cap g f c : Nat} {es : List Ev} (h : Ld w W p a len cap g f c es) (hb : Below W.heap.size W w7) : Ld w w7 p a len cap g f c es :=
  ⟨OSl.below h.out hb h.out.blk, h.new, h.cur.below hb h.cur.lt, ⟨hb.os.trans h.grown.os, hb.tape.trans h.grown.tape, hb.output.trans h.grown.output, Nat.le_trans h.grown.size hb.size, fun k hk hr => (hb.block k (Nat.lt_of_lt_of_le hk h.grown.size)).trans (h.grown.block k hk hr)⟩⟩
theorem Ld.push {w w7 w8 : World} {p : Nat} {a : Option Addr} {len cap g f c g8 f8 c8 : Nat} {es : List Ev} {e : Ev} {o : Obj} (h : Ld w w7 p a len cap g f c es) (hpl : p < w.heap.size) (hg : (w7.alloc o).grownBy w8 (some g)) (hat : g8 = g ∨ g8 = (w7.alloc o).heap.size)
    (ho : OSl w8 3 g8 f8 (es.length + 1) c8 (evC es ++ [.int .i64 e.n, .int .i64 e.k, .int .i64 e.m])) : Ld w w8 p a len cap g8 f8 c8 (es ++ [e]) := by
  have hs := h.grown.size
  refine ⟨oe_snoc ho, at_ge hat h.new (by simp; omega), (h.cur.alloc o).grown hg (by have := h.new; simp; omega), ?_⟩
  exact grown_more (grown_trans h.grown (World.grownBy_alloc _ _ _)) hg (fun k hk => by simp at hk; have := h.new; omega)
theorem Ask.tok {w6 : World} {g6 f6 c6 : Nat} {es : List Ev} {e : Ev} (h : OSl w6 3 g6 f6 (es.length + 1) c6 (evC es ++ [.int .i64 e.n, .int .i64 e.k, .int .i64 e.m])) :
    Calls Try.prog 40 #[.slice (some ⟨g6, f6, none⟩) (es.length + 1) c6] w6 fun r w' => r = .returned (.bool (okT (es ++ [e]) (es.length + 1))) ∧ Grew w6 w' := by
  have ho := oe_snoc h
  have := ho.at
  rw [List.length_append] at this
  exact specTok_any g6 f6 (es.length + 1) c6 (es ++ [e]) w6 this (Nat.le_trans h.le h.max) h.le

set_option maxRecDepth 100000 in
set_option maxHeartbeats 3200000 in
theorem l2Draw_any (p : Nat) (a : Option Addr) (len cap : Nat) (bs : Nat → Int) (w : World) (hcur : CurAt w p a len cap) (hv : BVec w a len bs) (hp : OffB a len p) (hl : len ≤ 4096) :
    Calls Try.prog 126 #[.pointer (some ⟨p, 0, none⟩)] w fun e w' => ∃ g f c es, e = .returned (.slice (some ⟨g, f, none⟩) es.length c) ∧ es.length ≤ 14 ∧ Ld w w' p a len cap g f c es := by
  have hpl := hcur.lt
  obtain ⟨i0, hi0, hz0, hz1, hz2⟩ := info_parts Try.info74
  have gA : w.grownBy (w.alloc (.cells #[] 47)) (some p) := World.grownBy_alloc _ _ _
  have hB := below_any p a len cap bs 14 _ (hcur.alloc (.cells #[] 47)) (hv.grown gA hp) hp hl (by omega)
  have O0 := oe_empty w 47
  go_enter Try.func126, Try.ntmps126
  go_wp2_with fail
  refine hB.mono ?_
  rintro e w1 ⟨x, rfl, hx0, hx1, hx2, hc1, hg1⟩
  have hx3 := hx1 (by omega)
  have H1 : Hid (Ld w w1 p a len cap w.heap.size 0 0 []) := ⟨OSl.grown O0 hg1 (by simp; omega), Nat.le_refl _, hc1, grown_trans gA hg1⟩
  clear hx1 hx2 hc1 hg1 hB O0 gA
  go_wp2
  go_loopw [3, 4, 5] (fun v m n wr => ∃ (es : List Ev) (g f c : Nat) (M K : Nat), v = .slice (some ⟨g, f, none⟩) es.length c ∧ m = .int .i64 M ∧ n = .int .i64 K ∧ es.length + K ≤ 14 ∧ M + K ≤ 15 ∧ Ld w wr p a len cap g f c es) (fun _ _ n _ => (intOf n).toNat)
  case atStart => exact ⟨[], w.heap.size, 0, 0, 1, x.toNat, rfl, rfl, by rw [show ((x.toNat : Nat) : Int) = x by omega], by simp; omega, by omega, H1.out⟩
  case round =>
    obtain ⟨es, g, f, c, M, K, rfl, rfl, rfl, hE, hM, hL⟩ := hrel
    have HL : Hid (Ld w wr p a len cap g f c es) := hL
    have hg0 := hL.new
    clear hL H1
    by_cases hK : 0 < K
    · have hK1 : (0 : Int) < (K : Int) := by omega
      go_wp2_with fail
      refine (below_any p a len cap bs 3 wr HL.out.cur (hv.grown HL.out.grown hp) hp hl (by omega)).mono ?_
      rintro e w2 ⟨y, rfl, hy0, hy1, hy2, hc2, hg2⟩
      have hy3 := hy1 (by omega)
      have L2 := HL.out.step hpl hc2 hg2
      clear hy1 hy2 hc2 hg2
      go_wp2_with fail
      refine (below_any p a len cap bs 3 w2 L2.cur (hv.grown L2.grown hp) hp hl (by omega)).mono ?_
      rintro e w3 ⟨z, rfl, hz0', hz1', hz2', hc3, hg3⟩
      have hz3 := hz1' (by omega)
      have L3 := L2.step hpl hc3 hg3
      have HL3 : Hid (Ld w w3 p a len cap g f c es) := L3
      clear hz1' hz2' hc3 hg3 L2 L3
      have hz : z = 0 ∨ z = 1 ∨ z = 2 := by omega
      rcases hz with rfl | rfl | rfl
      · go_wp2
        have hb3 : Below w3.heap.size w3 (w3.alloc (.cells #[.int .i64 y, .int .i64 1, .int .i64 0] 47)) := (Below.refl _ _).alloc (Nat.le_refl _) _
        obtain ⟨W, hW⟩ : ∃ W, w3.alloc (.cells #[.int .i64 y, .int .i64 1, .int .i64 0] 47) = W := ⟨_, rfl⟩
        have q0 : W.cell? ⟨w3.heap.size, 0, none⟩ = some (.int .i64 y) := by rw [← hW]; simp
        have q1 : W.cell? ⟨w3.heap.size, 1, none⟩ = some (.int .i64 1) := by rw [← hW]; simp
        have q2 : W.cell? ⟨w3.heap.size, 2, none⟩ = some (.int .i64 0) := by rw [← hW]; simp
        have LW : Ld w W p a len cap g f c es := by
          rw [← hW]
          exact HL3.out.step hpl (HL3.out.cur.alloc _) (World.grownBy_alloc _ _ _)
        have hWs : W.heap.size = w3.heap.size + 1 := by rw [← hW]; simp
        rw [hW]
        have HWW : Hid (w3.alloc (.cells #[.int .i64 y, .int .i64 1, .int .i64 0] 47) = W) := hW
        clear hW hb3
        have AK : Ask W w3.heap.size g f c es ⟨y, 1, 0⟩ := ⟨LW.out, by omega, by omega, by omega⟩
        have KAK : Hid (Ask W w3.heap.size g f c es ⟨y, 1, 0⟩) := AK
        have KL1 : Hid ((evC es).length = es.length * 3) := evC_len es
        have KLW : Hid (Ld w W p a len cap g f c es) := LW
        have HWs : Hid (w3.heap.size < W.heap.size) := by rw [Hid]; omega
        have hB1 : w3.heap.size ≠ W.heap.size := by omega
        have hB2 : w3.heap.size ≠ W.heap.size + 1 := by omega
        clear AK LW hWs
        go_region_held3 (fun w' => w'.cell? ⟨w3.heap.size, 0, none⟩ = some (.int .i64 y) ∧ w'.cell? ⟨w3.heap.size, 1, none⟩ = some (.int .i64 1) ∧ w'.cell? ⟨w3.heap.size, 2, none⟩ = some (.int .i64 0))
          (first
            | go_keep
            | (go_split_ands; exact ⟨hg7.cell (by assumption), hg7.cell (by assumption), hg7.cell (by assumption)⟩)
            | (go_split_ands; exact ⟨grown_cell hg6 (by assumption) hB5, grown_cell hg6 (by assumption) hB5, grown_cell hg6 (by assumption) hB5⟩)
            | (go_split_ands; exact ⟨grown_cell hg5 (by assumption) hB1, grown_cell hg5 (by assumption) hB1, grown_cell hg5 (by assumption) hB1⟩)
            | (go_split_ands; exact ⟨grown_cell hg5 (by assumption) hB2, grown_cell hg5 (by assumption) hB2, grown_cell hg5 (by assumption) hB2⟩))
          (first
            | (go_at_call 40; refine (Ask.tok (e := ⟨y, 1, 0⟩) o6).mono ?_; rintro e w7 ⟨rfl, hg7⟩; have hb7 : Below W.heap.size W w7 := hb6.trans (hg7.1.mono hb6.size))
            | (refine step_append_os _ (by rfl) _ _ _ (by rfl) 47 i0 _ 3 24 Try.underlying33 hi0 hz0 hz1 hz2 rfl (by omega) g5 f5 es.length c5 (evC es) (by rfl) (Ask.e1 o5 _ (.cells #[.int .i64 y, .int .i64 1, .int .i64 0] 47) rfl) ⟨w5.heap.size, 0, none⟩ 1 1 [.int .i64 y, .int .i64 1, .int .i64 0] (by rfl) (by rfl) (Ask.m1 w5 _ #[.int .i64 y, .int .i64 1, .int .i64 0] rfl) (by simp [Value.oneCell']) (by unfold maxLen; omega) (by omega) ?_; intro g6 f6 c6 w6 o6 hg6 hat6; have hb6 : Below W.heap.size W w6 := hb6a hg6 hb5 hG5 (.cells #[.int .i64 y, .int .i64 1, .int .i64 0] 47) rfl rfl rfl rfl)
            | (refine step_append_os _ (by rfl) _ _ _ (by rfl) 47 i0 _ 3 24 Try.underlying33 hi0 hz0 hz1 hz2 rfl (by omega) g5 f5 (0 + es.length) c5 (evC es) (by rfl) (Ask.e3 o5 _ rfl) ⟨W.heap.size + 1, 0, none⟩ 1 1 [.int .i64 y, .int .i64 1, .int .i64 0] (by rfl) (by rfl) (Ask.m2 w5 _ (W.heap.size + 1) #[.int .i64 y, .int .i64 1, .int .i64 0] hv5 rfl) (by simp [Value.oneCell']) (by unfold maxLen; omega) (by omega) ?_; intro g6 f6 c6 w6 o6 hg6 hat6; have hb6 : Below W.heap.size W w6 := hb6b hg6 hb5 hG5 rfl rfl rfl rfl; simp only [Nat.zero_add] at o6 ⊢)
            | (refine step_append_os _ (by rfl) _ _ _ (by rfl) 47 i0 _ 3 24 Try.underlying33 hi0 hz0 hz1 hz2 rfl (by omega) g5 f5 (0 + es.length) c5 (evC es) (by rfl) (Ask.e3 o5 _ rfl) ⟨W.heap.size, 0, none⟩ 1 1 [.int .i64 y, .int .i64 1, .int .i64 0] (by rfl) (by rfl) (Ask.m2 w5 _ W.heap.size #[.int .i64 y, .int .i64 1, .int .i64 0] hv5 rfl) (by simp [Value.oneCell']) (by unfold maxLen; omega) (by omega) ?_; intro g6 f6 c6 w6 o6 hg6 hat6; have hb6 : Below W.heap.size W w6 := hb6b hg6 hb5 hG5 rfl rfl rfl rfl; simp only [Nat.zero_add] at o6 ⊢)
            | (refine step_append_os _ (by rfl) _ _ _ (by rfl) 47 i0 _ 3 24 Try.underlying33 hi0 hz0 hz1 hz2 rfl (by omega) W.heap.size 0 0 0 [] (by rfl) (KAK.out.d1 _ rfl) ⟨g, f, none⟩ es.length c (evC es) (by rfl) KL1.out (KAK.out.n1 _ (.cells #[] 47) rfl) (evC_one es) (by unfold maxLen; omega) (by omega) ?_; intro g5 f5 c5 w5 o5 hg5 hat5; have hB5 : w3.heap.size ≠ g5 := Ask.nb2 hat5 HWs.out (Nat.le_refl _) (le1 W _ (.cells #[] 47) rfl); have hG5 : W.heap.size ≤ g5 := at_ge hat5 (Nat.le_refl _) (le1 W _ (.cells #[] 47) rfl); have hb5 : Below W.heap.size W w5 := hb5a hg5 (Nat.le_refl _) (.cells #[] 47) rfl rfl rfl rfl)
            | (refine step_append_os _ (by rfl) _ _ _ (by rfl) 47 i0 _ 3 24 Try.underlying33 hi0 hz0 hz1 hz2 rfl (by omega) W.heap.size 0 0 0 [] (by rfl) (KAK.out.d2 _ (.cells #[.int .i64 y, .int .i64 1, .int .i64 0] 47) rfl) ⟨g, f, none⟩ es.length c (evC es) (by rfl) KL1.out (KAK.out.n2 _ (.cells #[] 47) (.cells #[.int .i64 y, .int .i64 1, .int .i64 0] 47) rfl) (evC_one es) (by unfold maxLen; omega) (by omega) ?_; intro g5 f5 c5 w5 o5 hg5 hat5; have hB5 : w3.heap.size ≠ g5 := Ask.nb2 hat5 HWs.out (Nat.le_refl _) (le2 W _ (.cells #[] 47) (.cells #[.int .i64 y, .int .i64 1, .int .i64 0] 47) rfl); have hG5 : W.heap.size ≤ g5 := at_ge hat5 (Nat.le_refl _) (le2 W _ (.cells #[] 47) (.cells #[.int .i64 y, .int .i64 1, .int .i64 0] 47) rfl); have hb5 : Below W.heap.size W w5 := hb5b hg5 (Nat.le_refl _) (.cells #[] 47) (.cells #[.int .i64 y, .int .i64 1, .int .i64 0] 47) rfl rfl rfl rfl; have hv5 := Ask.v2 (W := W) (V := #[.int .i64 y, .int .i64 1, .int .i64 0]) hg5 rfl)
            | (refine step_append_os _ (by rfl) _ _ _ (by rfl) 47 i0 _ 3 24 Try.underlying33 hi0 hz0 hz1 hz2 rfl (by omega) (W.heap.size + 1) 0 0 0 [] (by rfl) (KAK.out.d3 _ (.cells #[.int .i64 y, .int .i64 1, .int .i64 0] 47) rfl) ⟨g, f, none⟩ es.length c (evC es) (by rfl) KL1.out (KAK.out.n2 _ (.cells #[.int .i64 y, .int .i64 1, .int .i64 0] 47) (.cells #[] 47) rfl) (evC_one es) (by unfold maxLen; omega) (by omega) ?_; intro g5 f5 c5 w5 o5 hg5 hat5; have hB5 : w3.heap.size ≠ g5 := Ask.nb2 hat5 HWs.out (Nat.le_succ _) (le2 W _ (.cells #[.int .i64 y, .int .i64 1, .int .i64 0] 47) (.cells #[] 47) rfl); have hG5 : W.heap.size ≤ g5 := at_ge hat5 (Nat.le_succ _) (le2 W _ (.cells #[.int .i64 y, .int .i64 1, .int .i64 0] 47) (.cells #[] 47) rfl); have hb5 : Below W.heap.size W w5 := hb5b hg5 (Nat.le_succ _) (.cells #[.int .i64 y, .int .i64 1, .int .i64 0] 47) (.cells #[] 47) rfl rfl rfl rfl; have hv5 := Ask.v3 (W := W) (V := #[.int .i64 y, .int .i64 1, .int .i64 0]) hg5 rfl))
        all_goals
          have L7 : Hid (Ld w w7 p a len cap g f c es) := KLW.out.fresh hb7
          clear hb7 hg7 o6 hg6 hat6 hb6 o5 hg5 hat5 hb5 hB5 hG5
          try clear hv5
          generalize okT (es ++ [(⟨y, 1, 0⟩ : Ev)]) (es.length + 1) = bb
          cases bb
          · go_wp2
            go_roundw
            case rel => exact ⟨es, g, f, c, M, K - 1, rfl, rfl, by rw [show ((K - 1 : Nat) : Int) = (K : Int) - 1 by omega], by omega, by omega, L7.out⟩
            case measure => simp [intOf]; omega
          · go_wp2_with (at_builtin; refine wpList_append_os _ rfl _ _ _ rfl 47 i0 _ 3 24 Try.underlying33 hi0 hz0 hz1 hz2 rfl (by omega) g f es.length c (evC es) rfl (OSl.below L7.out.out ((Below.refl _ _).alloc (Nat.le_refl _) _) L7.out.out.blk) ⟨w7.heap.size, 0, none⟩ 1 1 [.int .i64 y, .int .i64 1, .int .i64 0] rfl rfl (World.news_of_block (cs := #[.int .i64 y, .int .i64 1, .int .i64 0]) (t := 47) (fr := (0, 0)) (heap_alloc_new w7 _)) (by simp [Value.oneCell']) (by unfold maxLen; omega) (by omega) ?_; intro g8 f8 c8 w8 o8 hg8 hat8)
            have L8 : Hid (Ld w w8 p a len cap g8 f8 c8 (es ++ [(⟨y, 1, 0⟩ : Ev)])) := L7.out.push hpl hg8 hat8 o8
            have HLE : Hid ((es ++ [(⟨y, 1, 0⟩ : Ev)]).length = es.length + 1) := by simp [Hid]
            clear o8 hg8 hat8
            go_wp2
            go_roundw
            case rel => exact ⟨es ++ [(⟨y, 1, 0⟩ : Ev)], g8, f8, c8, M, K - 1, by rw [HLE.out], rfl, by rw [show ((K - 1 : Nat) : Int) = (K : Int) - 1 by omega], by rw [HLE.out]; omega, by omega, L8.out⟩
            case measure => simp [intOf]; omega
      · go_wp2
        have hb3 : Below w3.heap.size w3 (w3.alloc (.cells #[.int .i64 y, .int .i64 2, .int .i64 (M : Int)] 47)) := (Below.refl _ _).alloc (Nat.le_refl _) _
        obtain ⟨W, hW⟩ : ∃ W, w3.alloc (.cells #[.int .i64 y, .int .i64 2, .int .i64 (M : Int)] 47) = W := ⟨_, rfl⟩
        have q0 : W.cell? ⟨w3.heap.size, 0, none⟩ = some (.int .i64 y) := by rw [← hW]; simp
        have q1 : W.cell? ⟨w3.heap.size, 1, none⟩ = some (.int .i64 2) := by rw [← hW]; simp
        have q2 : W.cell? ⟨w3.heap.size, 2, none⟩ = some (.int .i64 (M : Int)) := by rw [← hW]; simp
        have LW : Ld w W p a len cap g f c es := by
          rw [← hW]
          exact HL3.out.step hpl (HL3.out.cur.alloc _) (World.grownBy_alloc _ _ _)
        have hWs : W.heap.size = w3.heap.size + 1 := by rw [← hW]; simp
        rw [hW]
        have HWW : Hid (w3.alloc (.cells #[.int .i64 y, .int .i64 2, .int .i64 (M : Int)] 47) = W) := hW
        clear hW hb3
        have AK : Ask W w3.heap.size g f c es ⟨y, 2, (M : Int)⟩ := ⟨LW.out, by omega, by omega, by omega⟩
        have KAK : Hid (Ask W w3.heap.size g f c es ⟨y, 2, (M : Int)⟩) := AK
        have KL1 : Hid ((evC es).length = es.length * 3) := evC_len es
        have KLW : Hid (Ld w W p a len cap g f c es) := LW
        have HWs : Hid (w3.heap.size < W.heap.size) := by rw [Hid]; omega
        have hB1 : w3.heap.size ≠ W.heap.size := by omega
        have hB2 : w3.heap.size ≠ W.heap.size + 1 := by omega
        clear AK LW hWs
        go_region_held3 (fun w' => w'.cell? ⟨w3.heap.size, 0, none⟩ = some (.int .i64 y) ∧ w'.cell? ⟨w3.heap.size, 1, none⟩ = some (.int .i64 2) ∧ w'.cell? ⟨w3.heap.size, 2, none⟩ = some (.int .i64 (M : Int)))
          (first
            | go_keep
            | (go_split_ands; exact ⟨hg7.cell (by assumption), hg7.cell (by assumption), hg7.cell (by assumption)⟩)
            | (go_split_ands; exact ⟨grown_cell hg6 (by assumption) hB5, grown_cell hg6 (by assumption) hB5, grown_cell hg6 (by assumption) hB5⟩)
            | (go_split_ands; exact ⟨grown_cell hg5 (by assumption) hB1, grown_cell hg5 (by assumption) hB1, grown_cell hg5 (by assumption) hB1⟩)
            | (go_split_ands; exact ⟨grown_cell hg5 (by assumption) hB2, grown_cell hg5 (by assumption) hB2, grown_cell hg5 (by assumption) hB2⟩))
          (first
            | (go_at_call 40; refine (Ask.tok (e := ⟨y, 2, (M : Int)⟩) o6).mono ?_; rintro e w7 ⟨rfl, hg7⟩; have hb7 : Below W.heap.size W w7 := hb6.trans (hg7.1.mono hb6.size))
            | (refine step_append_os _ (by rfl) _ _ _ (by rfl) 47 i0 _ 3 24 Try.underlying33 hi0 hz0 hz1 hz2 rfl (by omega) g5 f5 es.length c5 (evC es) (by rfl) (Ask.e1 o5 _ (.cells #[.int .i64 y, .int .i64 2, .int .i64 (M : Int)] 47) rfl) ⟨w5.heap.size, 0, none⟩ 1 1 [.int .i64 y, .int .i64 2, .int .i64 (M : Int)] (by rfl) (by rfl) (Ask.m1 w5 _ #[.int .i64 y, .int .i64 2, .int .i64 (M : Int)] rfl) (by simp [Value.oneCell']) (by unfold maxLen; omega) (by omega) ?_; intro g6 f6 c6 w6 o6 hg6 hat6; have hb6 : Below W.heap.size W w6 := hb6a hg6 hb5 hG5 (.cells #[.int .i64 y, .int .i64 2, .int .i64 (M : Int)] 47) rfl rfl rfl rfl)
            | (refine step_append_os _ (by rfl) _ _ _ (by rfl) 47 i0 _ 3 24 Try.underlying33 hi0 hz0 hz1 hz2 rfl (by omega) g5 f5 (0 + es.length) c5 (evC es) (by rfl) (Ask.e3 o5 _ rfl) ⟨W.heap.size + 1, 0, none⟩ 1 1 [.int .i64 y, .int .i64 2, .int .i64 (M : Int)] (by rfl) (by rfl) (Ask.m2 w5 _ (W.heap.size + 1) #[.int .i64 y, .int .i64 2, .int .i64 (M : Int)] hv5 rfl) (by simp [Value.oneCell']) (by unfold maxLen; omega) (by omega) ?_; intro g6 f6 c6 w6 o6 hg6 hat6; have hb6 : Below W.heap.size W w6 := hb6b hg6 hb5 hG5 rfl rfl rfl rfl; simp only [Nat.zero_add] at o6 ⊢)
            | (refine step_append_os _ (by rfl) _ _ _ (by rfl) 47 i0 _ 3 24 Try.underlying33 hi0 hz0 hz1 hz2 rfl (by omega) g5 f5 (0 + es.length) c5 (evC es) (by rfl) (Ask.e3 o5 _ rfl) ⟨W.heap.size, 0, none⟩ 1 1 [.int .i64 y, .int .i64 2, .int .i64 (M : Int)] (by rfl) (by rfl) (Ask.m2 w5 _ W.heap.size #[.int .i64 y, .int .i64 2, .int .i64 (M : Int)] hv5 rfl) (by simp [Value.oneCell']) (by unfold maxLen; omega) (by omega) ?_; intro g6 f6 c6 w6 o6 hg6 hat6; have hb6 : Below W.heap.size W w6 := hb6b hg6 hb5 hG5 rfl rfl rfl rfl; simp only [Nat.zero_add] at o6 ⊢)
            | (refine step_append_os _ (by rfl) _ _ _ (by rfl) 47 i0 _ 3 24 Try.underlying33 hi0 hz0 hz1 hz2 rfl (by omega) W.heap.size 0 0 0 [] (by rfl) (KAK.out.d1 _ rfl) ⟨g, f, none⟩ es.length c (evC es) (by rfl) KL1.out (KAK.out.n1 _ (.cells #[] 47) rfl) (evC_one es) (by unfold maxLen; omega) (by omega) ?_; intro g5 f5 c5 w5 o5 hg5 hat5; have hB5 : w3.heap.size ≠ g5 := Ask.nb2 hat5 HWs.out (Nat.le_refl _) (le1 W _ (.cells #[] 47) rfl); have hG5 : W.heap.size ≤ g5 := at_ge hat5 (Nat.le_refl _) (le1 W _ (.cells #[] 47) rfl); have hb5 : Below W.heap.size W w5 := hb5a hg5 (Nat.le_refl _) (.cells #[] 47) rfl rfl rfl rfl)
            | (refine step_append_os _ (by rfl) _ _ _ (by rfl) 47 i0 _ 3 24 Try.underlying33 hi0 hz0 hz1 hz2 rfl (by omega) W.heap.size 0 0 0 [] (by rfl) (KAK.out.d2 _ (.cells #[.int .i64 y, .int .i64 2, .int .i64 (M : Int)] 47) rfl) ⟨g, f, none⟩ es.length c (evC es) (by rfl) KL1.out (KAK.out.n2 _ (.cells #[] 47) (.cells #[.int .i64 y, .int .i64 2, .int .i64 (M : Int)] 47) rfl) (evC_one es) (by unfold maxLen; omega) (by omega) ?_; intro g5 f5 c5 w5 o5 hg5 hat5; have hB5 : w3.heap.size ≠ g5 := Ask.nb2 hat5 HWs.out (Nat.le_refl _) (le2 W _ (.cells #[] 47) (.cells #[.int .i64 y, .int .i64 2, .int .i64 (M : Int)] 47) rfl); have hG5 : W.heap.size ≤ g5 := at_ge hat5 (Nat.le_refl _) (le2 W _ (.cells #[] 47) (.cells #[.int .i64 y, .int .i64 2, .int .i64 (M : Int)] 47) rfl); have hb5 : Below W.heap.size W w5 := hb5b hg5 (Nat.le_refl _) (.cells #[] 47) (.cells #[.int .i64 y, .int .i64 2, .int .i64 (M : Int)] 47) rfl rfl rfl rfl; have hv5 := Ask.v2 (W := W) (V := #[.int .i64 y, .int .i64 2, .int .i64 (M : Int)]) hg5 rfl)
            | (refine step_append_os _ (by rfl) _ _ _ (by rfl) 47 i0 _ 3 24 Try.underlying33 hi0 hz0 hz1 hz2 rfl (by omega) (W.heap.size + 1) 0 0 0 [] (by rfl) (KAK.out.d3 _ (.cells #[.int .i64 y, .int .i64 2, .int .i64 (M : Int)] 47) rfl) ⟨g, f, none⟩ es.length c (evC es) (by rfl) KL1.out (KAK.out.n2 _ (.cells #[.int .i64 y, .int .i64 2, .int .i64 (M : Int)] 47) (.cells #[] 47) rfl) (evC_one es) (by unfold maxLen; omega) (by omega) ?_; intro g5 f5 c5 w5 o5 hg5 hat5; have hB5 : w3.heap.size ≠ g5 := Ask.nb2 hat5 HWs.out (Nat.le_succ _) (le2 W _ (.cells #[.int .i64 y, .int .i64 2, .int .i64 (M : Int)] 47) (.cells #[] 47) rfl); have hG5 : W.heap.size ≤ g5 := at_ge hat5 (Nat.le_succ _) (le2 W _ (.cells #[.int .i64 y, .int .i64 2, .int .i64 (M : Int)] 47) (.cells #[] 47) rfl); have hb5 : Below W.heap.size W w5 := hb5b hg5 (Nat.le_succ _) (.cells #[.int .i64 y, .int .i64 2, .int .i64 (M : Int)] 47) (.cells #[] 47) rfl rfl rfl rfl; have hv5 := Ask.v3 (W := W) (V := #[.int .i64 y, .int .i64 2, .int .i64 (M : Int)]) hg5 rfl))
        all_goals
          have L7 : Hid (Ld w w7 p a len cap g f c es) := KLW.out.fresh hb7
          clear hb7 hg7 o6 hg6 hat6 hb6 o5 hg5 hat5 hb5 hB5 hG5
          try clear hv5
          generalize okT (es ++ [(⟨y, 2, (M : Int)⟩ : Ev)]) (es.length + 1) = bb
          cases bb
          · go_wp2
            go_roundw
            case rel => exact ⟨es, g, f, c, M + 1, K - 1, rfl, by go_num, by rw [show ((K - 1 : Nat) : Int) = (K : Int) - 1 by omega], by omega, by omega, L7.out⟩
            case measure => simp [intOf]; omega
          · go_wp2_with (at_builtin; refine wpList_append_os _ rfl _ _ _ rfl 47 i0 _ 3 24 Try.underlying33 hi0 hz0 hz1 hz2 rfl (by omega) g f es.length c (evC es) rfl (OSl.below L7.out.out ((Below.refl _ _).alloc (Nat.le_refl _) _) L7.out.out.blk) ⟨w7.heap.size, 0, none⟩ 1 1 [.int .i64 y, .int .i64 2, .int .i64 (M : Int)] rfl rfl (World.news_of_block (cs := #[.int .i64 y, .int .i64 2, .int .i64 (M : Int)]) (t := 47) (fr := (0, 0)) (heap_alloc_new w7 _)) (by simp [Value.oneCell']) (by unfold maxLen; omega) (by omega) ?_; intro g8 f8 c8 w8 o8 hg8 hat8)
            have L8 : Hid (Ld w w8 p a len cap g8 f8 c8 (es ++ [(⟨y, 2, (M : Int)⟩ : Ev)])) := L7.out.push hpl hg8 hat8 o8
            have HLE : Hid ((es ++ [(⟨y, 2, (M : Int)⟩ : Ev)]).length = es.length + 1) := by simp [Hid]
            clear o8 hg8 hat8
            go_wp2
            go_roundw
            case rel => exact ⟨es ++ [(⟨y, 2, (M : Int)⟩ : Ev)], g8, f8, c8, M + 1, K - 1, by rw [HLE.out], by go_num, by rw [show ((K - 1 : Nat) : Int) = (K : Int) - 1 by omega], by rw [HLE.out]; omega, by omega, L8.out⟩
            case measure => simp [intOf]; omega
      · have L3 := HL3.out
        have A0 : (w3.alloc (.cells #[.int .i64 y, .int .i64 3, .int .i64 0] 47)).heap[w3.heap.size]? = some (.cells #[.int .i64 y, .int .i64 3, .int .i64 0] 47 (0, 0)) := heap_alloc_new w3 _
        have LA : Ld w (w3.alloc (.cells #[.int .i64 y, .int .i64 3, .int .i64 0] 47)) p a len cap g f c es := L3.step hpl (L3.cur.alloc _) (World.grownBy_alloc _ _ _)
        have hw3 : w.heap.size ≤ w3.heap.size := L3.grown.size
        have hBl : w3.heap.size < (w3.alloc (.cells #[.int .i64 y, .int .i64 3, .int .i64 0] 47)).heap.size := by simp
        go_wp2_with fail
        refine (below_any p a len cap bs (M : Int) _ LA.cur (hv.grown LA.grown hp) hp hl (by omega)).mono ?_
        rintro e wa ⟨u, rfl, hu0, hu1, hu2, hca, hga⟩
        have LB := LA.step hpl hca hga
        have A1 : wa.heap[w3.heap.size]? = some (.cells #[.int .i64 y, .int .i64 3, .int .i64 0] 47 (0, 0)) := (hga.block _ hBl (by simp; omega)).trans A0
        have hBa : w3.heap.size < wa.heap.size := Nat.lt_of_lt_of_le hBl hga.size
        have hub : u ≤ 20 := by
          by_cases hM0 : 0 < (M : Int)
          · have := hu1 hM0; omega
          · have := hu2 (by omega); omega
        clear hca hga LA A0 hu1 hu2
        go_wp2_with fail
        refine (below_any p a len cap bs 2 wa LB.cur (hv.grown LB.grown hp) hp hl (by omega)).mono ?_
        rintro e wb ⟨v, rfl, hv0, hv1, hv2, hcb, hgb⟩
        have LC := LB.step hpl hcb hgb
        have A2 : wb.heap[w3.heap.size]? = some (.cells #[.int .i64 y, .int .i64 3, .int .i64 0] 47 (0, 0)) := (hgb.block _ hBa (by simp; omega)).trans A1
        have hvb := hv1 (by omega)
        have c0 : wb.cell? ⟨w3.heap.size, 0, none⟩ = some (.int .i64 y) := by simp [World.cell?, A2]
        have c1 : wb.cell? ⟨w3.heap.size, 1, none⟩ = some (.int .i64 3) := by simp [World.cell?, A2]
        have c2 : wb.cell? ⟨w3.heap.size, 2, none⟩ = some (.int .i64 0) := by simp [World.cell?, A2]
        have f2 : wb.frozen? ⟨w3.heap.size, 2, none⟩ = false := by simp [World.frozen?, A2]
        have hBb : w3.heap.size < wb.heap.size := Nat.lt_of_lt_of_le hBa hgb.size
        have hgne : g ≠ w3.heap.size := Nat.ne_of_lt L3.out.blk
        have KC : Hid (Ld w wb p a len cap g f c es) := LC
        have Kc0 : Hid (wb.cell? ⟨w3.heap.size, 0, none⟩ = some (.int .i64 y)) := c0
        have Kc1 : Hid (wb.cell? ⟨w3.heap.size, 1, none⟩ = some (.int .i64 3)) := c1
        have Kc2 : Hid (wb.cell? ⟨w3.heap.size, 2, none⟩ = some (.int .i64 0)) := c2
        clear hcb hgb LB LC A1 A2 hv1 hv2 L3
        go_wp2
        obtain ⟨W, hW⟩ : ∃ W, wb.setCell ⟨w3.heap.size, 2, none⟩ (.int .i64 (u + v)) = W := ⟨_, rfl⟩
        have q0 : W.cell? ⟨w3.heap.size, 0, none⟩ = some (.int .i64 y) := by rw [← hW, World.cell?_setCell_other _ _ _ _ (by simp)]; exact Kc0.out
        have q1 : W.cell? ⟨w3.heap.size, 1, none⟩ = some (.int .i64 3) := by rw [← hW, World.cell?_setCell_other _ _ _ _ (by simp)]; exact Kc1.out
        have q2 : W.cell? ⟨w3.heap.size, 2, none⟩ = some (.int .i64 (u + v)) := by rw [← hW]; exact World.cell?_setCell_same _ _ _ Kc2.out
        have LW : Ld w W p a len cap g f c es := by
          rw [← hW]
          exact ⟨OSl.of_block KC.out.out (Below.heap_setCell _ _ _ _ (by exact hgne)) (by simp [World.setCell]; exact KC.out.out.blk), KC.out.new, KC.out.cur.set (by omega) _ _, grown_setOwn KC.out.grown (by omega) _ _⟩
        have hWs : w3.heap.size < W.heap.size := by rw [← hW]; simp [World.setCell]; exact hBb
        clear c0 c1 c2 f2
        rw [hW]
        have HWW : Hid (wb.setCell ⟨w3.heap.size, 2, none⟩ (.int .i64 (u + v)) = W) := hW
        clear hW
        have AK : Ask W w3.heap.size g f c es ⟨y, 3, u + v⟩ := ⟨LW.out, by omega, by omega, by omega⟩
        have KAK : Hid (Ask W w3.heap.size g f c es ⟨y, 3, u + v⟩) := AK
        have KL1 : Hid ((evC es).length = es.length * 3) := evC_len es
        have KLW : Hid (Ld w W p a len cap g f c es) := LW
        have HWs : Hid (w3.heap.size < W.heap.size) := by rw [Hid]; omega
        have hB1 : w3.heap.size ≠ W.heap.size := by omega
        have hB2 : w3.heap.size ≠ W.heap.size + 1 := by omega
        clear AK LW hWs
        go_region_held3 (fun w' => w'.cell? ⟨w3.heap.size, 0, none⟩ = some (.int .i64 y) ∧ w'.cell? ⟨w3.heap.size, 1, none⟩ = some (.int .i64 3) ∧ w'.cell? ⟨w3.heap.size, 2, none⟩ = some (.int .i64 (u + v)))
          (first
            | go_keep
            | (go_split_ands; exact ⟨hg7.cell (by assumption), hg7.cell (by assumption), hg7.cell (by assumption)⟩)
            | (go_split_ands; exact ⟨grown_cell hg6 (by assumption) hB5, grown_cell hg6 (by assumption) hB5, grown_cell hg6 (by assumption) hB5⟩)
            | (go_split_ands; exact ⟨grown_cell hg5 (by assumption) hB1, grown_cell hg5 (by assumption) hB1, grown_cell hg5 (by assumption) hB1⟩)
            | (go_split_ands; exact ⟨grown_cell hg5 (by assumption) hB2, grown_cell hg5 (by assumption) hB2, grown_cell hg5 (by assumption) hB2⟩))
          (first
            | (go_at_call 40; refine (Ask.tok (e := ⟨y, 3, u + v⟩) o6).mono ?_; rintro e w7 ⟨rfl, hg7⟩; have hb7 : Below W.heap.size W w7 := hb6.trans (hg7.1.mono hb6.size))
            | (refine step_append_os _ (by rfl) _ _ _ (by rfl) 47 i0 _ 3 24 Try.underlying33 hi0 hz0 hz1 hz2 rfl (by omega) g5 f5 es.length c5 (evC es) (by rfl) (Ask.e1 o5 _ (.cells #[.int .i64 y, .int .i64 3, .int .i64 (u + v)] 47) rfl) ⟨w5.heap.size, 0, none⟩ 1 1 [.int .i64 y, .int .i64 3, .int .i64 (u + v)] (by rfl) (by rfl) (Ask.m1 w5 _ #[.int .i64 y, .int .i64 3, .int .i64 (u + v)] rfl) (by simp [Value.oneCell']) (by unfold maxLen; omega) (by omega) ?_; intro g6 f6 c6 w6 o6 hg6 hat6; have hb6 : Below W.heap.size W w6 := hb6a hg6 hb5 hG5 (.cells #[.int .i64 y, .int .i64 3, .int .i64 (u + v)] 47) rfl rfl rfl rfl)
            | (refine step_append_os _ (by rfl) _ _ _ (by rfl) 47 i0 _ 3 24 Try.underlying33 hi0 hz0 hz1 hz2 rfl (by omega) g5 f5 (0 + es.length) c5 (evC es) (by rfl) (Ask.e3 o5 _ rfl) ⟨W.heap.size + 1, 0, none⟩ 1 1 [.int .i64 y, .int .i64 3, .int .i64 (u + v)] (by rfl) (by rfl) (Ask.m2 w5 _ (W.heap.size + 1) #[.int .i64 y, .int .i64 3, .int .i64 (u + v)] hv5 rfl) (by simp [Value.oneCell']) (by unfold maxLen; omega) (by omega) ?_; intro g6 f6 c6 w6 o6 hg6 hat6; have hb6 : Below W.heap.size W w6 := hb6b hg6 hb5 hG5 rfl rfl rfl rfl; simp only [Nat.zero_add] at o6 ⊢)
            | (refine step_append_os _ (by rfl) _ _ _ (by rfl) 47 i0 _ 3 24 Try.underlying33 hi0 hz0 hz1 hz2 rfl (by omega) g5 f5 (0 + es.length) c5 (evC es) (by rfl) (Ask.e3 o5 _ rfl) ⟨W.heap.size, 0, none⟩ 1 1 [.int .i64 y, .int .i64 3, .int .i64 (u + v)] (by rfl) (by rfl) (Ask.m2 w5 _ W.heap.size #[.int .i64 y, .int .i64 3, .int .i64 (u + v)] hv5 rfl) (by simp [Value.oneCell']) (by unfold maxLen; omega) (by omega) ?_; intro g6 f6 c6 w6 o6 hg6 hat6; have hb6 : Below W.heap.size W w6 := hb6b hg6 hb5 hG5 rfl rfl rfl rfl; simp only [Nat.zero_add] at o6 ⊢)
            | (refine step_append_os _ (by rfl) _ _ _ (by rfl) 47 i0 _ 3 24 Try.underlying33 hi0 hz0 hz1 hz2 rfl (by omega) W.heap.size 0 0 0 [] (by rfl) (KAK.out.d1 _ rfl) ⟨g, f, none⟩ es.length c (evC es) (by rfl) KL1.out (KAK.out.n1 _ (.cells #[] 47) rfl) (evC_one es) (by unfold maxLen; omega) (by omega) ?_; intro g5 f5 c5 w5 o5 hg5 hat5; have hB5 : w3.heap.size ≠ g5 := Ask.nb2 hat5 HWs.out (Nat.le_refl _) (le1 W _ (.cells #[] 47) rfl); have hG5 : W.heap.size ≤ g5 := at_ge hat5 (Nat.le_refl _) (le1 W _ (.cells #[] 47) rfl); have hb5 : Below W.heap.size W w5 := hb5a hg5 (Nat.le_refl _) (.cells #[] 47) rfl rfl rfl rfl)
            | (refine step_append_os _ (by rfl) _ _ _ (by rfl) 47 i0 _ 3 24 Try.underlying33 hi0 hz0 hz1 hz2 rfl (by omega) W.heap.size 0 0 0 [] (by rfl) (KAK.out.d2 _ (.cells #[.int .i64 y, .int .i64 3, .int .i64 (u + v)] 47) rfl) ⟨g, f, none⟩ es.length c (evC es) (by rfl) KL1.out (KAK.out.n2 _ (.cells #[] 47) (.cells #[.int .i64 y, .int .i64 3, .int .i64 (u + v)] 47) rfl) (evC_one es) (by unfold maxLen; omega) (by omega) ?_; intro g5 f5 c5 w5 o5 hg5 hat5; have hB5 : w3.heap.size ≠ g5 := Ask.nb2 hat5 HWs.out (Nat.le_refl _) (le2 W _ (.cells #[] 47) (.cells #[.int .i64 y, .int .i64 3, .int .i64 (u + v)] 47) rfl); have hG5 : W.heap.size ≤ g5 := at_ge hat5 (Nat.le_refl _) (le2 W _ (.cells #[] 47) (.cells #[.int .i64 y, .int .i64 3, .int .i64 (u + v)] 47) rfl); have hb5 : Below W.heap.size W w5 := hb5b hg5 (Nat.le_refl _) (.cells #[] 47) (.cells #[.int .i64 y, .int .i64 3, .int .i64 (u + v)] 47) rfl rfl rfl rfl; have hv5 := Ask.v2 (W := W) (V := #[.int .i64 y, .int .i64 3, .int .i64 (u + v)]) hg5 rfl)
            | (refine step_append_os _ (by rfl) _ _ _ (by rfl) 47 i0 _ 3 24 Try.underlying33 hi0 hz0 hz1 hz2 rfl (by omega) (W.heap.size + 1) 0 0 0 [] (by rfl) (KAK.out.d3 _ (.cells #[.int .i64 y, .int .i64 3, .int .i64 (u + v)] 47) rfl) ⟨g, f, none⟩ es.length c (evC es) (by rfl) KL1.out (KAK.out.n2 _ (.cells #[.int .i64 y, .int .i64 3, .int .i64 (u + v)] 47) (.cells #[] 47) rfl) (evC_one es) (by unfold maxLen; omega) (by omega) ?_; intro g5 f5 c5 w5 o5 hg5 hat5; have hB5 : w3.heap.size ≠ g5 := Ask.nb2 hat5 HWs.out (Nat.le_succ _) (le2 W _ (.cells #[.int .i64 y, .int .i64 3, .int .i64 (u + v)] 47) (.cells #[] 47) rfl); have hG5 : W.heap.size ≤ g5 := at_ge hat5 (Nat.le_succ _) (le2 W _ (.cells #[.int .i64 y, .int .i64 3, .int .i64 (u + v)] 47) (.cells #[] 47) rfl); have hb5 : Below W.heap.size W w5 := hb5b hg5 (Nat.le_succ _) (.cells #[.int .i64 y, .int .i64 3, .int .i64 (u + v)] 47) (.cells #[] 47) rfl rfl rfl rfl; have hv5 := Ask.v3 (W := W) (V := #[.int .i64 y, .int .i64 3, .int .i64 (u + v)]) hg5 rfl))
        all_goals
          have L7 : Hid (Ld w w7 p a len cap g f c es) := KLW.out.fresh hb7
          clear hb7 hg7 o6 hg6 hat6 hb6 o5 hg5 hat5 hb5 hB5 hG5
          try clear hv5
          generalize okT (es ++ [(⟨y, 3, u + v⟩ : Ev)]) (es.length + 1) = bb
          cases bb
          · go_wp2
            go_roundw
            case rel => exact ⟨es, g, f, c, M, K - 1, rfl, rfl, by rw [show ((K - 1 : Nat) : Int) = (K : Int) - 1 by omega], by omega, by omega, L7.out⟩
            case measure => simp [intOf]; omega
          · go_wp2_with (at_builtin; refine wpList_append_os _ rfl _ _ _ rfl 47 i0 _ 3 24 Try.underlying33 hi0 hz0 hz1 hz2 rfl (by omega) g f es.length c (evC es) rfl (OSl.below L7.out.out ((Below.refl _ _).alloc (Nat.le_refl _) _) L7.out.out.blk) ⟨w7.heap.size, 0, none⟩ 1 1 [.int .i64 y, .int .i64 3, .int .i64 (u + v)] rfl rfl (World.news_of_block (cs := #[.int .i64 y, .int .i64 3, .int .i64 (u + v)]) (t := 47) (fr := (0, 0)) (heap_alloc_new w7 _)) (by simp [Value.oneCell']) (by unfold maxLen; omega) (by omega) ?_; intro g8 f8 c8 w8 o8 hg8 hat8)
            have L8 : Hid (Ld w w8 p a len cap g8 f8 c8 (es ++ [(⟨y, 3, u + v⟩ : Ev)])) := L7.out.push hpl hg8 hat8 o8
            have HLE : Hid ((es ++ [(⟨y, 3, u + v⟩ : Ev)]).length = es.length + 1) := by simp [Hid]
            clear o8 hg8 hat8
            go_wp2
            go_roundw
            case rel => exact ⟨es ++ [(⟨y, 3, u + v⟩ : Ev)], g8, f8, c8, M, K - 1, by rw [HLE.out], rfl, by rw [show ((K - 1 : Nat) : Int) = (K : Int) - 1 by omega], by rw [HLE.out]; omega, by omega, L8.out⟩
            case measure => simp [intOf]; omega
    · have hK0 : K = 0 := by omega
      subst hK0
      go_wp2
      go_ret
      exact ⟨g, f, c, es, rfl, by omega, HL.out⟩
end Go.Proofs.Ytacjpebifacclaa

/-
  The contracts of the specification's l2DrawAny and DrawPast.
-/
namespace Go.Proofs.Ytacjpebifacclaa
set_option linter.unusedSimpArgs false
set_option linter.unusedVariables false
open Go.RowKit Go.Sort

theorem OSl.setAt {w : World} {s g off n cap : Nat} {xs : List Value} (h : OSl w s g off n cap xs) {i : Nat} (hi : i < n * s) (u : Value) : OSl (w.setCell ⟨g, off + i, none⟩ u) s g off n cap (xs.set i u) := by
  have hlen := h.len
  obtain ⟨v, hv⟩ := Option.isSome_iff_exists.1 (h.some i (Nat.lt_of_lt_of_le hi (Nat.mul_le_mul_right _ h.le)))
  refine ⟨by simp [hlen], h.le, h.max, by simp [World.setCell]; exact h.blk, fun j hj => ?_, fun j hj => ?_, fun j hj => by rw [World.frozen?_setCell]; exact h.free j hj⟩
  · by_cases e : i = j
    · subst e
      rw [World.cell?_setCell_same _ _ _ hv]
      simp [show i < xs.length by omega]
    · rw [World.cell?_setCell_other _ _ _ _ (by intro h; have := congrArg Addr.off h; simp only at this; omega), h.cell j hj]
      simp [e]
  · by_cases e : i = j
    · subst e
      rw [World.cell?_setCell_same _ _ _ hv]; rfl
    · rw [World.cell?_setCell_other _ _ _ _ (by intro h; have := congrArg Addr.off h; simp only at this; omega)]; exact h.some j hj
theorem evC_set : ∀ (es : List Ev) (i : Nat) (v : Int), i < es.length * 3 → ∃ es' : List Ev, es'.length = es.length ∧ evC es' = (evC es).set i (.int .i64 v)
  | [], i, v, h => by simp at h
  | e :: es, 0, v, h => ⟨⟨v, e.k, e.m⟩ :: es, by simp, by rw [evC_cons, evC_cons]; rfl⟩
  | e :: es, 1, v, h => ⟨⟨e.n, v, e.m⟩ :: es, by simp, by rw [evC_cons, evC_cons]; rfl⟩
  | e :: es, 2, v, h => ⟨⟨e.n, e.k, v⟩ :: es, by simp, by rw [evC_cons, evC_cons]; rfl⟩
  | e :: es, i + 3, v, h => by
    obtain ⟨es', h1, h2⟩ := evC_set es i v (by simp at h; omega)
    exact ⟨e :: es', by simp [h1], by rw [evC_cons, evC_cons, h2]; rfl⟩
theorem Ld.put {w wr : World} {p : Nat} {a : Option Addr} {len cap g f c : Nat} {es : List Ev} (h : Ld w wr p a len cap g f c es) (hpl : p < w.heap.size) {i : Nat} (hi : i < es.length * 3) (v : Int) :
    ∃ es' : List Ev, es'.length = es.length ∧ Ld w (wr.setCell ⟨g, f + i, none⟩ (.int .i64 v)) p a len cap g f c es' := by
  obtain ⟨es', h1, h2⟩ := evC_set es i v hi
  refine ⟨es', h1, ?_, h.new, h.cur.set (by have := h.new; omega) _ _, grown_setOwn h.grown h.new _ _⟩
  unfold OE
  rw [h1, h2]
  exact OSl.setAt h.out hi _

set_option maxRecDepth 100000 in
set_option maxHeartbeats 3200000 in
theorem l2DrawAny_any (p : Nat) (a : Option Addr) (len cap : Nat) (bs : Nat → Int) (w : World) (hcur : CurAt w p a len cap) (hv : BVec w a len bs) (hp : OffB a len p) (hl : len ≤ 4096) :
    Calls Try.prog 92 #[.pointer (some ⟨p, 0, none⟩)] w fun e w' => ∃ g f c es, e = .returned (.slice (some ⟨g, f, none⟩) es.length c) ∧ es.length ≤ 14 ∧ Ld w w' p a len cap g f c es := by
  have hpl := hcur.lt
  go_enter Try.func92, Try.ntmps92
  go_wp2_with fail
  refine (l2Draw_any p a len cap bs w hcur hv hp hl).mono ?_
  rintro e w1 ⟨g, f, c, es, rfl, hes, L1⟩
  have hg0 := L1.new
  go_wp2_with fail
  refine (once_any p a len cap bs 12 w1 L1.cur (hv.grown L1.grown hp) hp hl (by omega)).mono ?_
  rintro e w2 ⟨x, rfl, hc2, hg2⟩
  have L2 : Hid (Ld w w2 p a len cap g f c es) := L1.step hpl hc2 hg2
  clear L1 hc2 hg2
  cases x
  · go_wp2
    go_ret
    exact ⟨g, f, c, es, rfl, hes, L2.out⟩
  · by_cases h0 : 0 < es.length
    · have h0i : (0 : Int) < (es.length : Int) := by omega
      go_wp2_with fail
      refine (below_any p a len cap bs (es.length : Int) w2 L2.out.cur (hv.grown L2.out.grown hp) hp hl (by omega)).mono ?_
      rintro e w3 ⟨x, rfl, hx0, hx1, hx2, hc3, hg3⟩
      have hx3 := hx1 h0i
      obtain ⟨j, rfl⟩ : ∃ j : Nat, x = (j : Int) := ⟨x.toNat, by omega⟩
      have L3 := L2.out.step hpl hc3 hg3
      clear hx1 hx2 hc3 hg3
      have hji : (j : Int) < (es.length : Int) := hx3
      have hjn : j < es.length := by omega
      go_wp2_with fail
      refine (below_any p a len cap bs 3 w3 L3.cur (hv.grown L3.grown hp) hp hl (by omega)).mono ?_
      rintro e w4 ⟨t, rfl, ht0, ht1, ht2, hc4, hg4⟩
      have ht3 := ht1 (by omega)
      have L4 := L3.step hpl hc4 hg4
      have K4 : Hid (Ld w w4 p a len cap g f c es) := L4
      have ht : t = 0 ∨ t = 1 ∨ t = 2 := by omega
      clear ht1 ht2 hc4 hg4 L3 ht0 ht3
      rcases ht with rfl | rfl | rfl
      · have A0 : (w4.alloc (.cells #[.int .i64 (-1), .int .i64 7, .int .i64 8] 2)).heap[w4.heap.size]? = some (.cells #[.int .i64 (-1), .int .i64 7, .int .i64 8] 2 (0, 0)) := heap_alloc_new w4 _
        have LA : Ld w (w4.alloc (.cells #[.int .i64 (-1), .int .i64 7, .int .i64 8] 2)) p a len cap g f c es := L4.step hpl (L4.cur.alloc _) (World.grownBy_alloc _ _ _)
        have hBl : w4.heap.size < (w4.alloc (.cells #[.int .i64 (-1), .int .i64 7, .int .i64 8] 2)).heap.size := by simp
        have hw4 : w.heap.size ≤ w4.heap.size := L4.grown.size
        clear L4
        go_wp2_with fail
        refine (below_any p a len cap bs 3 _ LA.cur (hv.grown LA.grown hp) hp hl (by omega)).mono ?_
        rintro e w5 ⟨z, rfl, hz0, hz1, hz2, hc5, hg5⟩
        have hz3 := hz1 (by omega)
        have L5 := LA.step hpl hc5 hg5
        have A5 : w5.heap[w4.heap.size]? = some (.cells #[.int .i64 (-1), .int .i64 7, .int .i64 8] 2 (0, 0)) := (hg5.block _ hBl (by simp; omega)).trans A0
        have d0 : w5.cell? ⟨w4.heap.size, 0, none⟩ = some (.int .i64 (-1)) := by simp [World.cell?, A5]
        have d1 : w5.cell? ⟨w4.heap.size, 1, none⟩ = some (.int .i64 7) := by simp [World.cell?, A5]
        have d2 : w5.cell? ⟨w4.heap.size, 2, none⟩ = some (.int .i64 8) := by simp [World.cell?, A5]
        have K5 : Hid (Ld w w5 p a len cap g f c es) := L5
        have hcj := (L5.out.at j hjn).1
        have hfj := L5.out.free (j * 3) (by have := L5.out.le; omega)
        have hz : z = 0 ∨ z = 1 ∨ z = 2 := by omega
        clear hz1 hz2 hc5 hg5 L5 LA A0 A5 hz0 hz3
        rcases hz with rfl | rfl | rfl
        all_goals
          go_wp2
          go_ret
          obtain ⟨es', h1, h2⟩ := K5.out.put hpl (i := j * 3) (by omega) _
          exact ⟨g, f, c, es', by rw [h1]; rfl, by omega, h2⟩
      · go_wp2_with fail
        refine (from_any p a len cap bs 0 5 w4 L4.cur (hv.grown L4.grown hp) hp hl (by omega) (by omega) (by omega)).mono ?_
        rintro e w5 ⟨z, rfl, hz0, hz1, hc5, hg5⟩
        have L5 := L4.step hpl hc5 hg5
        have K5 : Hid (Ld w w5 p a len cap g f c es) := L5
        have hcj := (L5.out.at j hjn).2.1
        have hfj := L5.out.free (j * 3 + 1) (by have := L5.out.le; omega)
        rw [← Nat.add_assoc] at hfj
        clear hc5 hg5 L5 L4
        go_wp2
        go_ret
        obtain ⟨es', h1, h2⟩ := K5.out.put hpl (i := j * 3 + 1) (by omega) z
        rw [← Nat.add_assoc] at h2
        exact ⟨g, f, c, es', by rw [h1]; rfl, by omega, h2⟩
      · have A0 : (w4.alloc (.cells #[.int .i64 0, .int .i64 1, .int .i64 1000, .int .i64 1001] 2)).heap[w4.heap.size]? = some (.cells #[.int .i64 0, .int .i64 1, .int .i64 1000, .int .i64 1001] 2 (0, 0)) := heap_alloc_new w4 _
        have LA : Ld w (w4.alloc (.cells #[.int .i64 0, .int .i64 1, .int .i64 1000, .int .i64 1001] 2)) p a len cap g f c es := L4.step hpl (L4.cur.alloc _) (World.grownBy_alloc _ _ _)
        have hBl : w4.heap.size < (w4.alloc (.cells #[.int .i64 0, .int .i64 1, .int .i64 1000, .int .i64 1001] 2)).heap.size := by simp
        have hw4 : w.heap.size ≤ w4.heap.size := L4.grown.size
        clear L4
        go_wp2_with fail
        refine (below_any p a len cap bs 4 _ LA.cur (hv.grown LA.grown hp) hp hl (by omega)).mono ?_
        rintro e w5 ⟨z, rfl, hz0, hz1, hz2, hc5, hg5⟩
        have hz3 := hz1 (by omega)
        have L5 := LA.step hpl hc5 hg5
        have A5 : w5.heap[w4.heap.size]? = some (.cells #[.int .i64 0, .int .i64 1, .int .i64 1000, .int .i64 1001] 2 (0, 0)) := (hg5.block _ hBl (by simp; omega)).trans A0
        have d0 : w5.cell? ⟨w4.heap.size, 0, none⟩ = some (.int .i64 0) := by simp [World.cell?, A5]
        have d1 : w5.cell? ⟨w4.heap.size, 1, none⟩ = some (.int .i64 1) := by simp [World.cell?, A5]
        have d2 : w5.cell? ⟨w4.heap.size, 2, none⟩ = some (.int .i64 1000) := by simp [World.cell?, A5]
        have d3 : w5.cell? ⟨w4.heap.size, 3, none⟩ = some (.int .i64 1001) := by simp [World.cell?, A5]
        have K5 : Hid (Ld w w5 p a len cap g f c es) := L5
        have hcj := (L5.out.at j hjn).2.2
        have hfj := L5.out.free (j * 3 + 2) (by have := L5.out.le; omega)
        rw [← Nat.add_assoc] at hfj
        have hz : z = 0 ∨ z = 1 ∨ z = 2 ∨ z = 3 := by omega
        clear hz1 hz2 hc5 hg5 L5 LA A0 A5 hz0 hz3
        rcases hz with rfl | rfl | rfl | rfl
        all_goals
          go_wp2
          go_ret
          obtain ⟨es', h1, h2⟩ := K5.out.put hpl (i := j * 3 + 2) (by omega) _
          rw [← Nat.add_assoc] at h2
          exact ⟨g, f, c, es', by rw [h1]; rfl, by omega, h2⟩
    · have h0b : decide ((0 : Int) < (es.length : Int)) = false := decide_eq_false (by omega)
      go_wp2
      go_ret
      exact ⟨g, f, c, es, rfl, hes, L2.out⟩
theorem IsRow.bvec {w : World} {a : Option Addr} {len cap : Nat} {zs : List Int} (h : IsRow .u8 w a len cap zs) : BVec w a len (fun i => zs.getD i 0) := by
  rcases h with ⟨rfl, rfl, rfl, rfl⟩ | ⟨x, rfl, hl, hm, hz, hcell, hwz⟩
  · exact ⟨fun i hi => by omega, .inl rfl⟩
  · refine ⟨fun i hi => ?_, ?_⟩
    · have := bounds_u8 (hwz (zs.getD i 0) (by
        have hi' : i < zs.length := by omega
        simp [hi']))
      omega
    · by_cases h0 : len = 0
      · exact .inl h0
      · obtain ⟨b, off, spot⟩ := x
        have hc := hcell 0 (by omega)
        have hspot : spot = none := by simpa [Addr.add] using World.cell?_spot hc
        subst hspot
        refine .inr ⟨b, off, rfl, fun i hi => ?_⟩
        have := hcell i (by omega)
        rwa [add_lit0] at this
end Go.Proofs.Ytacjpebifacclaa

/-
  The contracts of the specification's DrawTraceOk, DrawStamps and DrawAhead.
-/
namespace Go.Proofs.Ytacjpebifacclaa
set_option linter.unusedSimpArgs false
set_option linter.unusedVariables false
open Go.RowKit Go.Sort

/-- A list of events that a draw has handed out. -/
def Got (w w' : World) (v : Value) (g f n c : Nat) (es : List Ev) : Prop := v = .slice (some ⟨g, f, none⟩) n c ∧ n ≤ 41 ∧ n ≤ c ∧ c ≤ maxLen ∧ EvsAt w' g f n es ∧ Below w.heap.size w w'

set_option maxRecDepth 100000 in
set_option maxHeartbeats 1600000 in
theorem drawTok_any (a : Option Addr) (len cap : Nat) (bs : Nat → Int) (w : World) (hv : BVec w a len bs) (hl : len ≤ 4096) :
    Calls Try.prog 86 #[.slice a len cap] w fun e w' => ∃ v g f n c es, e = .returned v ∧ Got w w' v g f n c es := by
  go_enter Try.func86, Try.ntmps86
  go_wp2_with fail
  refine (new_any a len cap bs w hv hl).mono ?_
  rintro e w1 ⟨p, rfl, hp, hc1, hb1⟩
  have hv1 := hv.below hb1 (Nat.le_refl _)
  have hoff : OffB a len p := fun h b off e => by have := hv.inB h b off e; omega
  have hs1 := hb1.size
  go_wp2_with fail
  refine (once_any p a len cap bs 30 w1 hc1 hv1 hoff hl (by omega)).mono ?_
  rintro e w2 ⟨x, rfl, hc2, hg2⟩
  have hv2 := hv1.grown hg2 hoff
  have hb2 : Below w.heap.size w w2 := below_grown hb1 hg2 (by omega) hs1
  have hs2 := hb2.size
  clear hc1 hg2
  cases x
  · go_wp2_with fail
    refine (l2DrawAny_any p a len cap bs w2 hc2 hv2 hoff hl).mono ?_
    rintro e w3 ⟨g, f, c, es, rfl, hes, L3⟩
    have K : Hid (Got w w3 (.slice (some ⟨g, f, none⟩) es.length c) g f es.length c es) := ⟨rfl, by omega, L3.out.le, L3.out.max, L3.out.at, below_grown hb2 L3.grown (by omega) hs2⟩
    clear L3
    go_wp2
    go_ret
    exact ⟨_, g, f, es.length, c, es, rfl, K.out⟩
  · go_wp2_with fail
    refine (below_any p a len cap bs 2 w2 hc2 hv2 hoff hl (by omega)).mono ?_
    rintro e w3 ⟨x, rfl, hx0, hx1, hx2, hc3, hg3⟩
    have hx3 := hx1 (by omega)
    have hb3 : Below w.heap.size w w3 := below_grown hb2 hg3 (by omega) hs2
    obtain ⟨n, hn⟩ : ∃ n : Nat, (40 : Int) + x = (n : Int) := ⟨(40 + x).toNat, by omega⟩
    have hmk := make_ev n (by omega)
    have hrow := part3_start (w := w3) (n := n) (es := [])
    have K : Hid (Got w (w3.alloc (.cells (madeCells #[.int .i64 0, .int .i64 0, .int .i64 0] (n * 3)) 47)) (.slice (some ⟨w3.heap.size, 0, none⟩) n n) w3.heap.size 0 n n []) := by
      refine ⟨rfl, by omega, Nat.le_refl _, by unfold maxLen; omega, fun i hi => ?_, hb3.alloc hb3.size _⟩
      refine ⟨?_, ?_, ?_⟩
      · rw [Nat.zero_add, hrow.cell (by omega)]; rfl
      · rw [Nat.zero_add, hrow.cell (by omega)]; rfl
      · rw [Nat.zero_add, hrow.cell (by omega)]; rfl
    clear hx1 hx2 hc3 hg3 hrow
    go_wp2
    go_ret
    exact ⟨_, w3.heap.size, 0, n, n, [], rfl, K.out⟩

set_option maxHeartbeats 400000 in
theorem drawStamps_any (a : Option Addr) (len cap : Nat) (bs : Nat → Int) (w : World) (hv : BVec w a len bs) (hl : len ≤ 4096) :
    Calls Try.prog 31 #[.slice a len cap] w fun e w' => ∃ v g f n c es, e = .returned v ∧ Got w w' v g f n c es := by
  go_enter Try.func31, Try.ntmps31
  go_wp2_with fail
  refine (drawTok_any a len cap bs w hv hl).mono ?_
  rintro e w1 ⟨v, g, f, n, c, es, rfl, h⟩
  have K : Hid (Got w w1 v g f n c es) := h
  clear h
  go_wp2
  go_ret
  exact ⟨v, g, f, n, c, es, rfl, K.out⟩

set_option maxRecDepth 100000 in
set_option maxHeartbeats 1600000 in
theorem drawAhead_any (a : Option Addr) (len cap : Nat) (bs : Nat → Int) (w : World) (hv : BVec w a len bs) (hl : len ≤ 4096) :
    Calls Try.prog 34 #[.slice a len cap] w fun e w' => ∃ g f c es i k, e = .returned (.tuple #[.slice (some ⟨g, f, none⟩) es.length c, .int .i64 i, .int .i64 k]) ∧ es.length ≤ 14 ∧ -1 ≤ k ∧ k ≤ 20 ∧ OE w' g f c es ∧ Below w.heap.size w w' := by
  go_enter Try.func34, Try.ntmps34
  go_wp2_with fail
  refine (new_any a len cap bs w hv hl).mono ?_
  rintro e w1 ⟨p, rfl, hp, hc1, hb1⟩
  have hv1 := hv.below hb1 (Nat.le_refl _)
  have hoff : OffB a len p := fun h b off e => by have := hv.inB h b off e; omega
  go_wp2_with fail
  refine (l2DrawAny_any p a len cap bs w1 hc1 hv1 hoff hl).mono ?_
  rintro e w2 ⟨g, f, c, es, rfl, hes, L2⟩
  have hs1 := hb1.size
  go_wp2_with fail
  refine (from_any p a len cap bs (-1) ((es.length : Int) + 1) w2 L2.cur (hv1.grown L2.grown hoff) hoff hl (by omega) (by omega) (by omega)).mono ?_
  rintro e w3 ⟨i, rfl, hi0, hi1, hc3, hg3⟩
  have L3 := L2.step hc1.lt hc3 hg3
  go_wp2_with fail
  refine (from_any p a len cap bs (-1) ((es.length : Int) + 1) w3 L3.cur (hv1.grown L3.grown hoff) hoff hl (by omega) (by omega) (by omega)).mono ?_
  rintro e w4 ⟨k, rfl, hk0, hk1, hc4, hg4⟩
  have L4 := L3.step hc1.lt hc4 hg4
  have K1 : Hid (OE w4 g f c es) := L4.out
  have K2 : Hid (Below w.heap.size w w4) := below_grown hb1 L4.grown (by omega) hs1
  clear hc3 hg3 L3 L2 L4 hv1 hc1 hc4 hg4
  go_wp2
  go_ret3
  exact ⟨g, f, c, es, i, k, rfl, hes, hk0, by omega, K1.out, K2.out⟩
end Go.Proofs.Ytacjpebifacclaa
