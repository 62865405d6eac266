/-
  The contracts of the specification's l2DrawAny and DrawPast.
-/
import Derived.Test.YtacogcfdolmfpaaDr3
namespace Go.Proofs.Ytacogcfdolmfpaa
set_option linter.unusedSimpArgs false
set_option linter.unusedVariables false
open Go.RowKit Go.Sort

theorem OSl.setAt {w : World} {s g off n cap : Nat} {xs : List Value} (h : OSl w s g off n cap xs) {i : Nat} (hi : i < n * s) (u : Value) : OSl (w.setCell ⟨g, off + i, none⟩ u) s g off n cap (xs.set i u) := by
  have hlen := h.len
  obtain ⟨v, hv⟩ := Option.isSome_iff_exists.1 (h.some i (Nat.lt_of_lt_of_le hi (Nat.mul_le_mul_right _ h.le)))
  refine ⟨by simp [hlen], h.le, h.max, by simp [World.setCell]; exact h.blk, fun j hj => ?_, fun j hj => ?_, fun j hj => by rw [World.frozen?_setCell]; exact h.free j hj⟩
  · by_cases e : i = j
    · subst e
      rw [World.cell?_setCell_same _ _ _ hv]
      simp [show i < xs.length by omega]
    · rw [World.cell?_setCell_other _ _ _ _ (by intro h; have := congrArg Addr.off h; simp only at this; omega), h.cell j hj]
      simp [e]
  · by_cases e : i = j
    · subst e
      rw [World.cell?_setCell_same _ _ _ hv]; rfl
    · rw [World.cell?_setCell_other _ _ _ _ (by intro h; have := congrArg Addr.off h; simp only at this; omega)]; exact h.some j hj
theorem evC_set : ∀ (es : List Ev) (i : Nat) (v : Int), i < es.length * 3 → ∃ es' : List Ev, es'.length = es.length ∧ evC es' = (evC es).set i (.int .i64 v)
  | [], i, v, h => by simp at h
  | e :: es, 0, v, h => ⟨⟨v, e.k, e.m⟩ :: es, by simp, by rw [evC_cons, evC_cons]; rfl⟩
  | e :: es, 1, v, h => ⟨⟨e.n, v, e.m⟩ :: es, by simp, by rw [evC_cons, evC_cons]; rfl⟩
  | e :: es, 2, v, h => ⟨⟨e.n, e.k, v⟩ :: es, by simp, by rw [evC_cons, evC_cons]; rfl⟩
  | e :: es, i + 3, v, h => by
    obtain ⟨es', h1, h2⟩ := evC_set es i v (by simp at h; omega)
    exact ⟨e :: es', by simp [h1], by rw [evC_cons, evC_cons, h2]; rfl⟩
theorem Ld.put {w wr : World} {p : Nat} {a : Option Addr} {len cap g f c : Nat} {es : List Ev} (h : Ld w wr p a len cap g f c es) (hpl : p < w.heap.size) {i : Nat} (hi : i < es.length * 3) (v : Int) :
    ∃ es' : List Ev, es'.length = es.length ∧ Ld w (wr.setCell ⟨g, f + i, none⟩ (.int .i64 v)) p a len cap g f c es' := by
  obtain ⟨es', h1, h2⟩ := evC_set es i v hi
  refine ⟨es', h1, ?_, h.new, h.cur.set (by have := h.new; omega) _ _, grown_setOwn h.grown h.new _ _⟩
  unfold OE
  rw [h1, h2]
  exact OSl.setAt h.out hi _

set_option maxRecDepth 100000 in
set_option maxHeartbeats 3200000 in
theorem l2DrawAny_any (p : Nat) (a : Option Addr) (len cap : Nat) (bs : Nat → Int) (w : World) (hcur : CurAt w p a len cap) (hv : BVec w a len bs) (hp : OffB a len p) (hl : len ≤ 4096) :
    Calls Try.prog 90 #[.pointer (some ⟨p, 0, none⟩)] w fun e w' => ∃ g f c es, e = .returned (.slice (some ⟨g, f, none⟩) es.length c) ∧ es.length ≤ 14 ∧ Ld w w' p a len cap g f c es := by
  have hpl := hcur.lt
  go_enter Try.func90, Try.ntmps90
  go_wp2_with fail
  refine (l2Draw_any p a len cap bs w hcur hv hp hl).mono ?_
  rintro e w1 ⟨g, f, c, es, rfl, hes, L1⟩
  have hg0 := L1.new
  go_wp2_with fail
  refine (once_any p a len cap bs 12 w1 L1.cur (hv.grown L1.grown hp) hp hl (by omega)).mono ?_
  rintro e w2 ⟨x, rfl, hc2, hg2⟩
  have L2 : Hid (Ld w w2 p a len cap g f c es) := L1.step hpl hc2 hg2
  clear L1 hc2 hg2
  cases x
  · go_wp2
    go_ret
    exact ⟨g, f, c, es, rfl, hes, L2.out⟩
  · by_cases h0 : 0 < es.length
    · have h0i : (0 : Int) < (es.length : Int) := by omega
      go_wp2_with fail
      refine (below_any p a len cap bs (es.length : Int) w2 L2.out.cur (hv.grown L2.out.grown hp) hp hl (by omega)).mono ?_
      rintro e w3 ⟨x, rfl, hx0, hx1, hx2, hc3, hg3⟩
      have hx3 := hx1 h0i
      obtain ⟨j, rfl⟩ : ∃ j : Nat, x = (j : Int) := ⟨x.toNat, by omega⟩
      have L3 := L2.out.step hpl hc3 hg3
      clear hx1 hx2 hc3 hg3
      have hji : (j : Int) < (es.length : Int) := hx3
      have hjn : j < es.length := by omega
      go_wp2_with fail
      refine (below_any p a len cap bs 3 w3 L3.cur (hv.grown L3.grown hp) hp hl (by omega)).mono ?_
      rintro e w4 ⟨t, rfl, ht0, ht1, ht2, hc4, hg4⟩
      have ht3 := ht1 (by omega)
      have L4 := L3.step hpl hc4 hg4
      have K4 : Hid (Ld w w4 p a len cap g f c es) := L4
      have ht : t = 0 ∨ t = 1 ∨ t = 2 := by omega
      clear ht1 ht2 hc4 hg4 L3 ht0 ht3
      rcases ht with rfl | rfl | rfl
      · have A0 : (w4.alloc (.cells #[.int .i64 (-1), .int .i64 7, .int .i64 8] 2)).heap[w4.heap.size]? = some (.cells #[.int .i64 (-1), .int .i64 7, .int .i64 8] 2 (0, 0)) := heap_alloc_new w4 _
        have LA : Ld w (w4.alloc (.cells #[.int .i64 (-1), .int .i64 7, .int .i64 8] 2)) p a len cap g f c es := L4.step hpl (L4.cur.alloc _) (World.grownBy_alloc _ _ _)
        have hBl : w4.heap.size < (w4.alloc (.cells #[.int .i64 (-1), .int .i64 7, .int .i64 8] 2)).heap.size := by simp
        have hw4 : w.heap.size ≤ w4.heap.size := L4.grown.size
        clear L4
        go_wp2_with fail
        refine (below_any p a len cap bs 3 _ LA.cur (hv.grown LA.grown hp) hp hl (by omega)).mono ?_
        rintro e w5 ⟨z, rfl, hz0, hz1, hz2, hc5, hg5⟩
        have hz3 := hz1 (by omega)
        have L5 := LA.step hpl hc5 hg5
        have A5 : w5.heap[w4.heap.size]? = some (.cells #[.int .i64 (-1), .int .i64 7, .int .i64 8] 2 (0, 0)) := (hg5.block _ hBl (by simp; omega)).trans A0
        have d0 : w5.cell? ⟨w4.heap.size, 0, none⟩ = some (.int .i64 (-1)) := by simp [World.cell?, A5]
        have d1 : w5.cell? ⟨w4.heap.size, 1, none⟩ = some (.int .i64 7) := by simp [World.cell?, A5]
        have d2 : w5.cell? ⟨w4.heap.size, 2, none⟩ = some (.int .i64 8) := by simp [World.cell?, A5]
        have K5 : Hid (Ld w w5 p a len cap g f c es) := L5
        have hcj := (L5.out.at j hjn).1
        have hfj := L5.out.free (j * 3) (by have := L5.out.le; omega)
        have hz : z = 0 ∨ z = 1 ∨ z = 2 := by omega
        clear hz1 hz2 hc5 hg5 L5 LA A0 A5 hz0 hz3
        rcases hz with rfl | rfl | rfl
        all_goals
          go_wp2
          go_ret
          obtain ⟨es', h1, h2⟩ := K5.out.put hpl (i := j * 3) (by omega) _
          exact ⟨g, f, c, es', by rw [h1]; rfl, by omega, h2⟩
      · go_wp2_with fail
        refine (from_any p a len cap bs 0 5 w4 L4.cur (hv.grown L4.grown hp) hp hl (by omega) (by omega) (by omega)).mono ?_
        rintro e w5 ⟨z, rfl, hz0, hz1, hc5, hg5⟩
        have L5 := L4.step hpl hc5 hg5
        have K5 : Hid (Ld w w5 p a len cap g f c es) := L5
        have hcj := (L5.out.at j hjn).2.1
        have hfj := L5.out.free (j * 3 + 1) (by have := L5.out.le; omega)
        rw [← Nat.add_assoc] at hfj
        clear hc5 hg5 L5 L4
        go_wp2
        go_ret
        obtain ⟨es', h1, h2⟩ := K5.out.put hpl (i := j * 3 + 1) (by omega) z
        rw [← Nat.add_assoc] at h2
        exact ⟨g, f, c, es', by rw [h1]; rfl, by omega, h2⟩
      · have A0 : (w4.alloc (.cells #[.int .i64 0, .int .i64 1, .int .i64 1000, .int .i64 1001] 2)).heap[w4.heap.size]? = some (.cells #[.int .i64 0, .int .i64 1, .int .i64 1000, .int .i64 1001] 2 (0, 0)) := heap_alloc_new w4 _
        have LA : Ld w (w4.alloc (.cells #[.int .i64 0, .int .i64 1, .int .i64 1000, .int .i64 1001] 2)) p a len cap g f c es := L4.step hpl (L4.cur.alloc _) (World.grownBy_alloc _ _ _)
        have hBl : w4.heap.size < (w4.alloc (.cells #[.int .i64 0, .int .i64 1, .int .i64 1000, .int .i64 1001] 2)).heap.size := by simp
        have hw4 : w.heap.size ≤ w4.heap.size := L4.grown.size
        clear L4
        go_wp2_with fail
        refine (below_any p a len cap bs 4 _ LA.cur (hv.grown LA.grown hp) hp hl (by omega)).mono ?_
        rintro e w5 ⟨z, rfl, hz0, hz1, hz2, hc5, hg5⟩
        have hz3 := hz1 (by omega)
        have L5 := LA.step hpl hc5 hg5
        have A5 : w5.heap[w4.heap.size]? = some (.cells #[.int .i64 0, .int .i64 1, .int .i64 1000, .int .i64 1001] 2 (0, 0)) := (hg5.block _ hBl (by simp; omega)).trans A0
        have d0 : w5.cell? ⟨w4.heap.size, 0, none⟩ = some (.int .i64 0) := by simp [World.cell?, A5]
        have d1 : w5.cell? ⟨w4.heap.size, 1, none⟩ = some (.int .i64 1) := by simp [World.cell?, A5]
        have d2 : w5.cell? ⟨w4.heap.size, 2, none⟩ = some (.int .i64 1000) := by simp [World.cell?, A5]
        have d3 : w5.cell? ⟨w4.heap.size, 3, none⟩ = some (.int .i64 1001) := by simp [World.cell?, A5]
        have K5 : Hid (Ld w w5 p a len cap g f c es) := L5
        have hcj := (L5.out.at j hjn).2.2
        have hfj := L5.out.free (j * 3 + 2) (by have := L5.out.le; omega)
        rw [← Nat.add_assoc] at hfj
        have hz : z = 0 ∨ z = 1 ∨ z = 2 ∨ z = 3 := by omega
        clear hz1 hz2 hc5 hg5 L5 LA A0 A5 hz0 hz3
        rcases hz with rfl | rfl | rfl | rfl
        all_goals
          go_wp2
          go_ret
          obtain ⟨es', h1, h2⟩ := K5.out.put hpl (i := j * 3 + 2) (by omega) _
          rw [← Nat.add_assoc] at h2
          exact ⟨g, f, c, es', by rw [h1]; rfl, by omega, h2⟩
    · have h0b : decide ((0 : Int) < (es.length : Int)) = false := decide_eq_false (by omega)
      go_wp2
      go_ret
      exact ⟨g, f, c, es, rfl, hes, L2.out⟩
end Go.Proofs.Ytacogcfdolmfpaa
