/-
  Several texts in one: Drx Dra.
-/
import Derived.Test.YtkompamocpnefaaIk
import Derived.Test.YtkompamocpnefaaIw
/-
  The contract of the specification's l8Draw: some window.
-/
namespace Go.Proofs.Ytkompamocpnefaa
set_option linter.unusedVariables false
set_option linter.unusedSimpArgs false
open Go.RowKit Go.Sort

theorem Bx.set3 {w : World} {B : Nat} {T : TypeId} {x y z : Value} (h : Bx w B T #[x, y, z]) (x' y' z' : Value) : Bx (((w.setCell ⟨B, 0, none⟩ x').setCell ⟨B, 1, none⟩ y').setCell ⟨B, 2, none⟩ z') B T #[x', y', z'] := by
  have h1 := heap_set (i := 0) (u := x') h
  have h2 := heap_set (i := 1) (u := y') h1
  have h3 := heap_set (i := 2) (u := z') h2
  rw [Bx, h3]
  simp
theorem Bx.set1 {w : World} {B : Nat} {T : TypeId} {cs : Array Value} (h : Bx w B T cs) (i : Nat) (v : Value) : Bx (w.setCell ⟨B, i, none⟩ v) B T (cs.setIfInBounds i v) := heap_set (i := i) (u := v) h
theorem grown_set3 (w : World) (B : Nat) (x y z : Value) : w.grownBy (((w.setCell ⟨B, 0, none⟩ x).setCell ⟨B, 1, none⟩ y).setCell ⟨B, 2, none⟩ z) (some B) := grown_set (grown_set (grown_set (grown_refl w (some B)) 0 x) 1 y) 2 z
/-- What l8Draw holds: the cursor, the box of the answer, the window that is drawn. -/
structure Dw (w X : World) (p B2 B3 : Nat) (a : Option Addr) (len cap : Nat) (bs : Nat → Int) (sz st : Int) (a' : Option Addr) (c : Nat) (xs : List Int) : Prop where
  cc : Cc w X p a len cap bs
  res : Bx X B2 34 #[.int .i64 0, .int .i64 0, .slice none 0 0]
  box : Bx X B3 34 #[.int .i64 sz, .int .i64 st, .slice a' xs.length c]
  vec : Vec X a' xs.length xs
  cp : xs.length ≤ c ∧ c ≤ maxLen
  n16 : xs.length ≤ 16
  own : ∀ k off, xs ≠ [] → a' = some ⟨k, off, none⟩ → k ≠ p ∧ k ≠ B2 ∧ k ≠ B3 ∧ B2 ≤ k
  bd : (-1 ≤ sz ∧ sz ≤ 21) ∧ (-1 ≤ st ∧ st ≤ 1000001)
  n2 : w.heap.size ≤ B2 ∧ B2 ≠ p
  n3 : w.heap.size ≤ B3 ∧ B3 ≠ p ∧ B3 ≠ B2
theorem Dw.step {w X X' : World} {p B2 B3 : Nat} {a : Option Addr} {len cap : Nat} {bs : Nat → Int} {sz st : Int} {a' : Option Addr} {c : Nat} {xs : List Int} (h : Dw w X p B2 B3 a len cap bs sz st a' c xs) (hb : Below X.heap.size X X') : Dw w X' p B2 B3 a len cap bs sz st a' c xs :=
  ⟨h.cc.step hb, h.res.below hb, h.box.below hb, h.vec.below hb (Nat.le_refl _), h.cp, h.n16, h.own, h.bd, h.n2, h.n3⟩
theorem Dw.drawn {w X X' : World} {p B2 B3 : Nat} {a : Option Addr} {len cap : Nat} {bs : Nat → Int} {sz st : Int} {a' : Option Addr} {c : Nat} {xs : List Int} (h : Dw w X p B2 B3 a len cap bs sz st a' c xs) (hg : X.grownBy X' (some p)) (hc : Cc w X' p a len cap bs) : Dw w X' p B2 B3 a len cap bs sz st a' c xs :=
  ⟨hc, h.res.grown hg (by simpa using h.n2.2), h.box.grown hg (by simpa using h.n3.2.1), h.vec.other hg (fun k off hz e => (h.own k off hz e).1), h.cp, h.n16, h.own, h.bd, h.n2, h.n3⟩
/-- Another window is put into the box. -/
theorem Dw.put {w X : World} {p B2 B3 : Nat} {a : Option Addr} {len cap : Nat} {bs : Nat → Int} {sz st : Int} {a' : Option Addr} {c : Nat} {xs : List Int} (h : Dw w X p B2 B3 a len cap bs sz st a' c xs)
    {sz' st' : Int} {a2 : Option Addr} {c2 : Nat} {ys : List Int} (hv : Vec X a2 ys.length ys) (hcp : ys.length ≤ c2 ∧ c2 ≤ maxLen) (h16 : ys.length ≤ 16) (ho : ∀ k off, ys ≠ [] → a2 = some ⟨k, off, none⟩ → k ≠ p ∧ k ≠ B2 ∧ k ≠ B3 ∧ B2 ≤ k) (hbd : (-1 ≤ sz' ∧ sz' ≤ 21) ∧ (-1 ≤ st' ∧ st' ≤ 1000001)) :
    Dw w (((X.setCell ⟨B3, 0, none⟩ (.int .i64 sz')).setCell ⟨B3, 1, none⟩ (.int .i64 st')).setCell ⟨B3, 2, none⟩ (.slice a2 ys.length c2)) p B2 B3 a len cap bs sz' st' a2 c2 ys :=
  ⟨h.cc.grown (grown_set3 _ _ _ _ _) h.n3.2.1 h.n3.1, h.res.grown (grown_set3 _ _ _ _ _) (by simpa using h.n3.2.2.symm), h.box.set3 _ _ _, hv.other (grown_set3 _ _ _ _ _) (fun k off hz e => (ho k off hz e).2.2.1), hcp, h16, ho, hbd, h.n2, h.n3⟩
/-- Another block is written. -/
theorem Dw.other {w X X' : World} {p B2 B3 g : Nat} {a : Option Addr} {len cap : Nat} {bs : Nat → Int} {sz st : Int} {a' : Option Addr} {c : Nat} {xs : List Int} (h : Dw w X p B2 B3 a len cap bs sz st a' c xs) (hg : X.grownBy X' (some g)) (hgw : w.heap.size ≤ g) (n1 : g ≠ p) (n2 : g ≠ B2) (n3 : g ≠ B3)
    (ho : ∀ k off, xs ≠ [] → a' = some ⟨k, off, none⟩ → k ≠ g) : Dw w X' p B2 B3 a len cap bs sz st a' c xs :=
  ⟨h.cc.grown hg n1 hgw, h.res.grown hg (by simpa using n2.symm), h.box.grown hg (by simpa using n3.symm), h.vec.other hg ho, h.cp, h.n16, h.own, h.bd, h.n2, h.n3⟩
theorem Dw.cells {w X : World} {p B2 B3 : Nat} {a : Option Addr} {len cap : Nat} {bs : Nat → Int} {sz st : Int} {a' : Option Addr} {c : Nat} {xs : List Int} (h : Dw w X p B2 B3 a len cap bs sz st a' c xs) : W3c X B3 sz st (.slice a' xs.length c) := h.box.w3
theorem Dw.put0 {w X : World} {p B2 B3 : Nat} {a : Option Addr} {len cap : Nat} {bs : Nat → Int} {sz st : Int} {a' : Option Addr} {c : Nat} {xs : List Int} (h : Dw w X p B2 B3 a len cap bs sz st a' c xs) {z : Int} (hz : -1 ≤ z ∧ z ≤ 21) : Dw w (X.setCell ⟨B3, 0, none⟩ (.int .i64 z)) p B2 B3 a len cap bs z st a' c xs :=
  ⟨h.cc.set h.n3.2.1 h.n3.1 _ _, h.res.grown (grown_set (grown_refl X (some B3)) _ _) (by simpa using h.n3.2.2.symm), by simpa using h.box.set1 0 (.int .i64 z), h.vec.other (grown_set (grown_refl X (some B3)) _ _) (fun k off hz e => (h.own k off hz e).2.2.1), h.cp, h.n16, h.own, ⟨hz, h.bd.2⟩, h.n2, h.n3⟩
theorem Dw.put1 {w X : World} {p B2 B3 : Nat} {a : Option Addr} {len cap : Nat} {bs : Nat → Int} {sz st : Int} {a' : Option Addr} {c : Nat} {xs : List Int} (h : Dw w X p B2 B3 a len cap bs sz st a' c xs) {z : Int} (hz : -1 ≤ z ∧ z ≤ 1000001) : Dw w (X.setCell ⟨B3, 1, none⟩ (.int .i64 z)) p B2 B3 a len cap bs sz z a' c xs :=
  ⟨h.cc.set h.n3.2.1 h.n3.1 _ _, h.res.grown (grown_set (grown_refl X (some B3)) _ _) (by simpa using h.n3.2.2.symm), by simpa using h.box.set1 1 (.int .i64 z), h.vec.other (grown_set (grown_refl X (some B3)) _ _) (fun k off hz e => (h.own k off hz e).2.2.1), h.cp, h.n16, h.own, ⟨h.bd.1, hz⟩, h.n2, h.n3⟩
theorem Dw.put2 {w X : World} {p B2 B3 : Nat} {a : Option Addr} {len cap : Nat} {bs : Nat → Int} {sz st : Int} {a' : Option Addr} {c : Nat} {xs : List Int} (h : Dw w X p B2 B3 a len cap bs sz st a' c xs) {a2 : Option Addr} {c2 : Nat} {ys : List Int} (hv : Vec X a2 ys.length ys) (hcp : ys.length ≤ c2 ∧ c2 ≤ maxLen) (h16 : ys.length ≤ 16) (ho : ∀ k off, ys ≠ [] → a2 = some ⟨k, off, none⟩ → k ≠ p ∧ k ≠ B2 ∧ k ≠ B3 ∧ B2 ≤ k) : Dw w (X.setCell ⟨B3, 2, none⟩ (.slice a2 ys.length c2)) p B2 B3 a len cap bs sz st a2 c2 ys :=
  ⟨h.cc.set h.n3.2.1 h.n3.1 _ _, h.res.grown (grown_set (grown_refl X (some B3)) _ _) (by simpa using h.n3.2.2.symm), by simpa using h.box.set1 2 (.slice a2 ys.length c2), hv.other (grown_set (grown_refl X (some B3)) _ _) (fun k off hz e => (ho k off hz e).2.2.1), hcp, h16, ho, h.bd, h.n2, h.n3⟩
theorem el4 {L : List Int} {lo hi : Int} (hl : L.length = 4) (h : ∀ x ∈ L, lo ≤ x ∧ x ≤ hi) {i : Nat} (hi4 : i < 4) : lo ≤ el L i ∧ el L i ≤ hi := h _ (el_mem (by omega))
/-- l1Below at whatever number. -/
theorem belowG (n : Int) (hn : n ≤ 10000) {w X : World} {p : Nat} {a : Option Addr} {len cap : Nat} {bs : Nat → Int} (h : Cc w X p a len cap bs) :
    Calls Try.prog 44 #[.pointer (some ⟨p, 0, none⟩), .int .i64 n] X fun e w' => ∃ Y : Nat, e = .returned (.int .i64 (Y : Int)) ∧ Y ≤ 10000 ∧ Cc w w' p a len cap bs ∧ X.grownBy w' (some p) := by
  refine (below_any p a len cap bs n X h.cur h.bvec h.off h.hl (by omega)).mono ?_
  rintro e w' ⟨x, rfl, h0, h3, h4, hc, hg⟩
  refine ⟨x.toNat, by rw [show ((x.toNat : Nat) : Int) = x by omega], ?_, h.drawn hg hc, hg⟩
  by_cases h5 : 0 < n
  · have := h3 h5; omega
  · have := h4 (by omega); omega
/-- What Sent and Acked make of a window that may be drawn. -/
theorem sentL_bd {sz st : Int} {xs : List Int} (h : (sentL sz st xs).ok = true) : (-1 ≤ (sentL sz st xs).sz ∧ (sentL sz st xs).sz ≤ 21) ∧ (-1 ≤ (sentL sz st xs).st ∧ (sentL sz st xs).st ≤ 1000001) := by
  cases hb : wokB sz st xs with
  | false => rw [sentL_no hb] at h; cases h
  | true =>
    obtain ⟨h1, h2, _⟩ := wokB_iff.1 hb
    cases ho : op1B sz st xs with
    | false => rw [sentL_full hb ho] at h; cases h
    | true =>
      rw [sentL_ok hb ho]
      dsimp only
      omega
theorem ackL_bd {sz st : Int} {xs : List Int} {who n : Int} (h : (ackL sz st xs who n).ok = true) : (-1 ≤ (ackL sz st xs who n).sz ∧ (ackL sz st xs who n).sz ≤ 21) ∧ (-1 ≤ (ackL sz st xs who n).st ∧ (ackL sz st xs who n).st ≤ 1000001) := by
  cases hb : wokB sz st xs with
  | false => rw [ackL_no hb] at h; cases h
  | true =>
    obtain ⟨h1, h2, _⟩ := wokB_iff.1 hb
    cases ho : ackB st xs who n with
    | false => rw [ackL_not hb ho] at h; cases h
    | true =>
      rw [ackL_ok hb ho]
      dsimp only
      omega

theorem Vec.blt {w : World} {a : Option Addr} {n : Nat} {xs : List Int} (h : Vec w a n xs) : ∀ k off, xs ≠ [] → a = some ⟨k, off, none⟩ → k < w.heap.size := by
  intro k off hz e
  obtain ⟨h1, _, h3⟩ := h
  rcases h3 with h0 | ⟨b, o, e2, hc⟩
  · rw [h0] at h1
    exact absurd (List.eq_nil_of_length_eq_zero h1) hz
  · have hl : 0 < n := by
      rcases Nat.eq_zero_or_pos n with h | h
      · rw [h] at h1; exact absurd (List.eq_nil_of_length_eq_zero h1) hz
      · exact h
    have : b < w.heap.size := World.block_lt_of_cell? _ _ (hc 0 hl)
    rw [e] at e2
    simp only [Option.some.injEq, Addr.mk.injEq] at e2
    omega
theorem ackL_fits' (sz st : Int) (xs : List Int) (who n : Int) : Fits (ackL sz st xs who n).xs ∧ (ackL sz st xs who n).xs.length ≤ 8 := by
  by_cases hn : I64w n
  · exact ackL_fits sz st xs who n hn
  · cases hb : wokB sz st xs with
    | false => rw [ackL_no hb]; exact ⟨fun x hx => absurd hx (List.not_mem_nil), Nat.zero_le _⟩
    | true =>
      obtain ⟨_, hst, hok, _, _⟩ := wokB_iff.1 hb
      have h8 := (okB_len hok).2
      cases ho : ackB st xs who n with
      | false => rw [ackL_not hb ho]; exact ⟨okB_fits hok, h8⟩
      | true =>
        simp only [ackB, inB, Bool.and_eq_true, decide_eq_true_eq] at ho
        have he := okB_el hok (i := who.toNat) (by omega)
        exact absurd ⟨by omega, by omega⟩ hn
theorem ackD (sz st : Int) (a : Option Addr) (len cap : Nat) (xs : List Int) (who n : Int) (w : World) (hv : Vec w a len xs) (hm : len ≤ maxLen) :
    Calls Try.prog 37 #[.agg #[.int .i64 sz, .int .i64 st, .slice a len cap], .int .i64 who, .int .i64 n] w fun e w' => ∃ Qz Qt Y ko ay cy, e = .returned (.tuple #[.agg #[.int .i64 Qz, .int .i64 Qt, .slice ay (List.length Y) cy], .bool ko]) ∧ SlN w w' ay cy Y ∧ Below w.heap.size w w' ∧
      (ko = true → (-1 ≤ Qz ∧ Qz ≤ 21) ∧ (-1 ≤ Qt ∧ Qt ≤ 1000001)) ∧ Fits Y ∧ Y.length ≤ 8 := by
  have hf := ackL_fits' sz st xs who n
  refine (ackS_any sz st a len cap xs who n w hv hm).mono ?_
  rintro e w' ⟨ay, cy, rfl, h1, h2⟩
  exact ⟨_, _, _, _, ay, cy, rfl, h1, h2, fun h => ackL_bd h, hf.1, hf.2⟩

theorem vec_two (w : World) : Vec (w.alloc (.cells #[.int .i64 1000000, .int .i64 999999] 2)) (some ⟨w.heap.size, 0, none⟩) [1000000, 999999].length [1000000, 999999] := by
  have h := Bx.new w 2 #[.int .i64 1000000, .int .i64 999999]
  refine ⟨rfl, fun x hx => by simp at hx; omega, .inr ⟨w.heap.size, 0, rfl, fun i hi => ?_⟩⟩
  rw [Nat.zero_add, h.cell]
  match i, hi with
  | 0, _ => rfl
  | 1, _ => rfl
theorem fin8 {w X W : World} {p B2 B3 : Nat} {a : Option Addr} {len cap : Nat} {bs : Nat → Int} {sz st : Int} {a' : Option Addr} {c : Nat} {xs : List Int} (h : Dw w W p B2 B3 a len cap bs sz st a' c xs) (hg : X.grownBy W (some p)) (hB : X.heap.size ≤ B2) {x y z : Value} :
    ∃ sz1 st1 a1 c1 xs1, Ending.returned (.agg #[.int .i64 sz, .int .i64 st, .slice a' xs.length c]) = .returned (wiV sz1 st1 a1 (List.length xs1) c1) ∧ Vec (((W.setCell ⟨B2, 0, none⟩ x).setCell ⟨B2, 1, none⟩ y).setCell ⟨B2, 2, none⟩ z) a1 xs1.length xs1 ∧ (xs1.length ≤ c1 ∧ c1 ≤ maxLen) ∧ ((-1 ≤ sz1 ∧ sz1 ≤ 21) ∧ (-1 ≤ st1 ∧ st1 ≤ 1000001)) ∧ (∀ k off, xs1 ≠ [] → a1 = some ⟨k, off, none⟩ → k ≠ p ∧ X.heap.size ≤ k) ∧ Cc w (((W.setCell ⟨B2, 0, none⟩ x).setCell ⟨B2, 1, none⟩ y).setCell ⟨B2, 2, none⟩ z) p a len cap bs ∧ X.grownBy (((W.setCell ⟨B2, 0, none⟩ x).setCell ⟨B2, 1, none⟩ y).setCell ⟨B2, 2, none⟩ z) (some p) :=
  ⟨sz, st, a', c, xs, rfl, h.vec.other (grown_set3 _ _ _ _ _) (fun k off hz e => (h.own k off hz e).2.1), h.cp, h.bd, fun k off hz e => ⟨(h.own k off hz e).1, Nat.le_trans hB (h.own k off hz e).2.2.2⟩, h.cc.grown (grown_set3 _ _ _ _ _) h.n2.2 h.n2.1, grown_more hg (grown_set3 _ _ _ _ _) (fun k e => by cases e; exact hB)⟩

set_option maxRecDepth 100000 in
set_option maxHeartbeats 3200000 in
theorem l8Draw_any (p : Nat) (a : Option Addr) (len cap : Nat) (bs : Nat → Int) (w X : World) (hC : Cc w X p a len cap bs) :
    Calls Try.prog 66 #[.pointer (some ⟨p, 0, none⟩)] X fun e w' => ∃ sz st a' c xs, e = .returned (wiV sz st a' xs.length c) ∧ Vec w' a' xs.length xs ∧ (xs.length ≤ c ∧ c ≤ maxLen) ∧ ((-1 ≤ sz ∧ sz ≤ 21) ∧ (-1 ≤ st ∧ st ≤ 1000001)) ∧ (∀ k off, xs ≠ [] → a' = some ⟨k, off, none⟩ → k ≠ p ∧ X.heap.size ≤ k) ∧ Cc w w' p a len cap bs ∧ X.grownBy w' (some p) := by
  have hpX := hC.lt
  have hb1 := one_alloc X (.cells #[.int .i64 0, .int .i64 0, .slice none 0 0] 34)
  have R1 := Bx.new X 34 #[.int .i64 0, .int .i64 0, .slice none 0 0]
  have C1 := hC.step hb1
  have HG1 : Hid (X.grownBy (X.alloc (.cells #[.int .i64 0, .int .i64 0, .slice none 0 0] 34)) (some p)) := World.grownBy_alloc _ _ _
  have hws := hC.below.size
  have hmk := fun n (h : n ≤ 4) => run_make_row' (P := Try.prog) 24 2 (.int .i64 0) 8 Try.underlying24 Try.info2 rfl .i64 .i64 n (by omega) (by omega)
  generalize hW1 : X.alloc (.cells #[.int .i64 0, .int .i64 0, .slice none 0 0] 34) = X1 at *
  go_enter Try.func66, Try.ntmps66
  go_wp2_with fail
  refine (belowC 4 4 rfl C1 (by omega) (by omega)).mono ?_
  rintro e X2 ⟨Y1, rfl, hY1, C2, hg2⟩
  have R2 := R1.grown hg2 (by simp; omega)
  have w1 : (1 : Int) + (Y1 : Int) ≤ 9223372036854775807 := by omega
  go_wp2_with fail
  refine (belowC 4 4 rfl C2 (by omega) (by omega)).mono ?_
  rintro e X3 ⟨Y2, rfl, hY2, C3, hg3⟩
  have R3 := R2.grown hg3 (by simp; omega)
  have w2 : (1 : Int) + (Y2 : Int) ≤ 9223372036854775807 := by omega
  have hmk2 := hmk (1 + Y2) (by omega)
  rw [show ((1 + Y2 : Nat) : Int) = 1 + (Y2 : Int) by omega] at hmk2
  obtain ⟨zs, hzl, hzr, hzf⟩ : ∃ zs : List Int, zs.length = 1 + Y2 ∧ RowOf (X3.alloc (.cells (madeCells #[.int .i64 0] (1 + Y2)) 2)) X3.heap.size zs ∧ Fits zs := by
    refine ⟨List.replicate (1 + Y2) 0, by simp, ?_, fun x hx => by have := List.eq_of_mem_replicate hx; omega⟩
    have := part_start (w := X3) (xs := List.replicate (1 + Y2) 0)
    simp only [List.length_replicate] at this
    refine World.rowIs.congr (by simpa using this) (fun j hj => ?_)
    simp only [List.length_replicate] at hj
    simp [part, el, hj]
  have hz8 : zs.length ≤ 4 := by omega
  rw [← hzl] at hmk2 hzr
  clear hzl
  have hb4 := one_alloc X3 (.cells (madeCells #[.int .i64 0] zs.length) 2)
  have C4 := C3.step hb4
  have R4 := R3.below hb4
  have s4 : (X3.alloc (.cells (madeCells #[.int .i64 0] zs.length) 2)).heap.size = X3.heap.size + 1 := by simp
  generalize hW4 : X3.alloc (.cells (madeCells #[.int .i64 0] zs.length) 2) = X4 at *
  have hb5 := one_alloc X4 (.cells #[.int .i64 (1 + (Y1 : Int)), .int .i64 0, .slice (some ⟨X3.heap.size, 0, none⟩) zs.length zs.length] 34)
  have G5 := Bx.new X4 34 #[.int .i64 (1 + (Y1 : Int)), .int .i64 0, .slice (some ⟨X3.heap.size, 0, none⟩) zs.length zs.length]
  have hzlt := hzr.lt
  have g12 := hg2.size
  have g23 := hg3.size
  have r1 := R1.lt
  have HG4 : Hid (X.grownBy X4 (some p)) := grown_more (grown_trans (grown_trans HG1.out hg2) hg3) (hW4 ▸ World.grownBy_alloc X3 _ none) (fun k e => by cases e)
  have D5 : Dw w (X4.alloc (.cells #[.int .i64 (1 + (Y1 : Int)), .int .i64 0, .slice (some ⟨X3.heap.size, 0, none⟩) zs.length zs.length] 34)) p X.heap.size X4.heap.size a len cap bs (1 + (Y1 : Int)) 0 (some ⟨X3.heap.size, 0, none⟩) zs.length zs :=
    ⟨C4.step hb5, R4.below hb5, G5, (hzr.vec hzf).below hb5 (Nat.le_refl _), ⟨Nat.le_refl _, by unfold maxLen; omega⟩, by omega, fun k off _ e => by
      simp only [Option.some.injEq, Addr.mk.injEq] at e
      omega, ⟨⟨by omega, by omega⟩, by omega, by omega⟩, ⟨by omega, by omega⟩, by omega, by omega, by omega⟩
  have HG5 : Hid (X.grownBy (X4.alloc (.cells #[.int .i64 (1 + (Y1 : Int)), .int .i64 0, .slice (some ⟨X3.heap.size, 0, none⟩) zs.length zs.length] 34)) (some p)) := grown_more HG4.out (World.grownBy_alloc X4 _ none) (fun k e => by cases e)
  generalize hW5 : X4.alloc (.cells #[.int .i64 (1 + (Y1 : Int)), .int .i64 0, .slice (some ⟨X3.heap.size, 0, none⟩) zs.length zs.length] 34) = X5 at *
  have hXB : X.heap.size ≤ X4.heap.size := by omega
  clear hb4 hb5 C1 C2 C3 C4 R1 R2 R3 R4 G5 hzr hzlt hg2 hg3 HG4 HG1 hmk hb1
  rw [s4] at D5
  go_wp2_with fail
  refine (belowC 16 16 rfl D5.cc (by omega) (by omega)).mono ?_
  rintro e X6 ⟨N, rfl, hN, C6, hg6⟩
  have D6 := D5.drawn hg6 C6
  have HG6 : Hid (X.grownBy X6 (some p)) := grown_trans HG5.out hg6
  clear D5 HG5 hg6 C6
  have hXB3 : X.heap.size ≤ X3.heap.size + 1 := by omega
  clear hXB s4 hW5 hW4 hmk2
  generalize hB3 : X3.heap.size + 1 = B3 at *
  generalize hB2 : X.heap.size = B2 at *
  have hN15 : N ≤ 15 := by omega
  go_wp2_with fail
  go_loopw [4] (fun n wr => ∃ (k : Nat) (sz st : Int) (a' : Option Addr) (c : Nat) (xs : List Int), k ≤ 15 ∧ n = .int .i64 (k : Int) ∧ Dw w wr p B2 B3 a len cap bs sz st a' c xs ∧ X.grownBy wr (some p)) (fun n _ => (intOf n).toNat)
  case atStart => exact ⟨N, _, _, _, _, _, hN15, rfl, D6, HG6.out⟩
  case round =>
    obtain ⟨k1, sz, st, a', c, xs, hk, rfl, hD, hG⟩ := hrel
    cases k1 with
    | zero =>
      have D : Hid (Dw w wr p B2 B3 a len cap bs sz st a' c xs) := hD
      have G : Hid (X.grownBy wr (some p)) := hG
      clear hD hG D6 HG6
      go_wp2_with fail
      refine (onceC 12 D.out.cc (by omega)).mono ?_
      rintro e W1 ⟨t1, rfl, C1, g1⟩
      have D1 : Hid (Dw w W1 p B2 B3 a len cap bs sz st a' c xs) := D.out.drawn g1 C1
      have G1 : Hid (X.grownBy W1 (some p)) := grown_trans G.out g1
      clear C1 g1 D G
      cases t1
      · skip
        go_wp2_with fail
        refine (onceC 20 D1.out.cc (by omega)).mono ?_
        rintro e V1 ⟨t2, rfl, CV, gV⟩
        have D8 : Hid (Dw w V1 p B2 B3 a len cap bs sz st a' c xs) := D1.out.drawn gV CV
        have G8 : Hid (X.grownBy V1 (some p)) := grown_trans G1.out gV
        clear CV gV D1 G1
        cases t2
        · skip
          obtain ⟨c0, c1, c2⟩ := D8.out.cells
          have u0 := D8.out.res.at 0 rfl
          have u1 := D8.out.res.at 1 rfl
          have u2 := D8.out.res.at 2 rfl
          have uf0 := D8.out.res.f 0
          have uf1 := D8.out.res.f 1
          have uf2 := D8.out.res.f 2
          go_wp2
          refine bodyPost_ret (v := .agg #[.int .i64 sz, .int .i64 st, .slice a' xs.length c]) (by simp [results, Try.results66, go_sem, u0, u1, u2]) rfl ?_
          exact fin8 D8.out G8.out (by omega)
        · have hbV := one_alloc V1 (.cells #[.int .i64 1000000, .int .i64 999999] 2)
          have lV3 := D8.out.box.lt
          have lV2 := D8.out.res.lt
          have lVp := D8.out.cc.lt
          have hvV : Vec (V1.alloc (.cells #[.int .i64 1000000, .int .i64 999999] 2)) (some ⟨V1.heap.size, 0, none⟩) [1000000, 999999].length [1000000, 999999] := vec_two V1
          have DV := D8.out.step hbV
          have GV : X.grownBy (V1.alloc (.cells #[.int .i64 1000000, .int .i64 999999] 2)) (some p) := grown_more G8.out (World.grownBy_alloc V1 _ none) (fun k e => by cases e)
          generalize hV2 : V1.alloc (.cells #[.int .i64 1000000, .int .i64 999999] 2) = V2 at *
          have t30 := DV.box.f 0
          have t31 := DV.box.f 1
          have t32 := DV.box.f 2
          obtain ⟨s0, s1, s2⟩ := DV.cells
          have D9 : Hid (Dw w (((V2.setCell ⟨B3, 0, none⟩ (.int .i64 3)).setCell ⟨B3, 1, none⟩ (.int .i64 1000000)).setCell ⟨B3, 2, none⟩ (.slice (some ⟨V1.heap.size, 0, none⟩) 2 2)) p B2 B3 a len cap bs 3 1000000 (some ⟨V1.heap.size, 0, none⟩) 2 [1000000, 999999]) := DV.put hvV ⟨by decide, by unfold maxLen; omega⟩ (by decide) (fun k off _ e => by simp only [Option.some.injEq, Addr.mk.injEq] at e; omega) ⟨⟨by omega, by omega⟩, by omega, by omega⟩
          have G9 : Hid (X.grownBy (((V2.setCell ⟨B3, 0, none⟩ (.int .i64 3)).setCell ⟨B3, 1, none⟩ (.int .i64 1000000)).setCell ⟨B3, 2, none⟩ (.slice (some ⟨V1.heap.size, 0, none⟩) 2 2)) (some p)) := grown_more GV (grown_set3 _ _ _ _ _) (fun k e => by cases e; omega)
          obtain ⟨c0, c1, c2⟩ := D9.out.cells
          have u0 := D9.out.res.at 0 rfl
          have u1 := D9.out.res.at 1 rfl
          have u2 := D9.out.res.at 2 rfl
          have uf0 := D9.out.res.f 0
          have uf1 := D9.out.res.f 1
          have uf2 := D9.out.res.f 2
          go_wp2
          refine bodyPost_ret (v := .agg #[.int .i64 3, .int .i64 1000000, .slice (some ⟨V1.heap.size, 0, none⟩) 2 2]) (by simp [results, Try.results66, go_sem, u0, u1, u2]) rfl ?_
          exact fin8 D9.out G9.out (by omega)
      · go_wp2_with fail
        refine (belowC 3 3 rfl D1.out.cc (by omega) (by omega)).mono ?_
        rintro e W2 ⟨Yn, rfl, hYn, C2, g2⟩
        have D2 : Hid (Dw w W2 p B2 B3 a len cap bs sz st a' c xs) := D1.out.drawn g2 C2
        have G2 : Hid (X.grownBy W2 (some p)) := grown_trans G1.out g2
        clear C2 g2 D1 G1
        rcases (show Yn = 0 ∨ Yn = 1 ∨ Yn = 2 by omega) with rfl | rfl | rfl
        · have hb3 := one_alloc W2 (.cells #[.int .i64 0, .int .i64 20, .int .i64 21, .int .i64 1] 2)
          have L3 : Bx (W2.alloc (.cells #[.int .i64 0, .int .i64 20, .int .i64 21, .int .i64 1] 2)) W2.heap.size 2 (arC [0, 20, 21, 1]) := Bx.new W2 2 _
          have D3 := D2.out.step hb3
          have GA : X.grownBy (W2.alloc (.cells #[.int .i64 0, .int .i64 20, .int .i64 21, .int .i64 1] 2)) (some p) := grown_more G2.out (World.grownBy_alloc W2 _ none) (fun k e => by cases e)
          have lp2 := D2.out.cc.lt
          generalize hW3 : W2.alloc (.cells #[.int .i64 0, .int .i64 20, .int .i64 21, .int .i64 1] 2) = W3 at *
          clear D2 G2
          go_wp2_with fail
          refine (belowC 4 4 rfl D3.cc (by omega) (by omega)).mono ?_
          rintro e W4 ⟨I, rfl, hI, C4, g4⟩
          have m1 := cell_arC (L3.grown g4 (by simp; omega)) (i := I) hI
          have hz := el4 (L := [0, 20, 21, 1]) (lo := -1) (hi := 21) rfl (by decide) hI
          have D4 := D3.drawn g4 C4
          have G4 := grown_trans GA g4
          have i1 : (I : Int) < 4 := by omega
          have i0 : (0 : Int) ≤ (I : Int) := by omega
          generalize el [0, 20, 21, 1] I = z at *
          have D5 : Hid (Dw w (W4.setCell ⟨B3, 0, none⟩ (.int .i64 z)) p B2 B3 a len cap bs z st a' c xs) := D4.put0 hz
          have G5 : Hid (X.grownBy (W4.setCell ⟨B3, 0, none⟩ (.int .i64 z)) (some p)) := grown_more G4 (grown_set (grown_refl W4 (some B3)) _ _) (fun k e => by cases e; omega)
          obtain ⟨c0, c1, c2⟩ := D4.cells
          have tf := D4.box.f 0
          clear C4 g4 L3 D3 GA D4 G4 hb3
          go_wp2_with fail
          refine (onceC 20 D5.out.cc (by omega)).mono ?_
          rintro e V1 ⟨t2, rfl, CV, gV⟩
          have D8 : Hid (Dw w V1 p B2 B3 a len cap bs z st a' c xs) := D5.out.drawn gV CV
          have G8 : Hid (X.grownBy V1 (some p)) := grown_trans G5.out gV
          clear CV gV D5 G5
          cases t2
          · skip
            obtain ⟨c0, c1, c2⟩ := D8.out.cells
            have u0 := D8.out.res.at 0 rfl
            have u1 := D8.out.res.at 1 rfl
            have u2 := D8.out.res.at 2 rfl
            have uf0 := D8.out.res.f 0
            have uf1 := D8.out.res.f 1
            have uf2 := D8.out.res.f 2
            go_wp2
            refine bodyPost_ret (v := .agg #[.int .i64 z, .int .i64 st, .slice a' xs.length c]) (by simp [results, Try.results66, go_sem, u0, u1, u2]) rfl ?_
            exact fin8 D8.out G8.out (by omega)
          · have hbV := one_alloc V1 (.cells #[.int .i64 1000000, .int .i64 999999] 2)
            have lV3 := D8.out.box.lt
            have lV2 := D8.out.res.lt
            have lVp := D8.out.cc.lt
            have hvV : Vec (V1.alloc (.cells #[.int .i64 1000000, .int .i64 999999] 2)) (some ⟨V1.heap.size, 0, none⟩) [1000000, 999999].length [1000000, 999999] := vec_two V1
            have DV := D8.out.step hbV
            have GV : X.grownBy (V1.alloc (.cells #[.int .i64 1000000, .int .i64 999999] 2)) (some p) := grown_more G8.out (World.grownBy_alloc V1 _ none) (fun k e => by cases e)
            generalize hV2 : V1.alloc (.cells #[.int .i64 1000000, .int .i64 999999] 2) = V2 at *
            have t30 := DV.box.f 0
            have t31 := DV.box.f 1
            have t32 := DV.box.f 2
            obtain ⟨s0, s1, s2⟩ := DV.cells
            have D9 : Hid (Dw w (((V2.setCell ⟨B3, 0, none⟩ (.int .i64 3)).setCell ⟨B3, 1, none⟩ (.int .i64 1000000)).setCell ⟨B3, 2, none⟩ (.slice (some ⟨V1.heap.size, 0, none⟩) 2 2)) p B2 B3 a len cap bs 3 1000000 (some ⟨V1.heap.size, 0, none⟩) 2 [1000000, 999999]) := DV.put hvV ⟨by decide, by unfold maxLen; omega⟩ (by decide) (fun k off _ e => by simp only [Option.some.injEq, Addr.mk.injEq] at e; omega) ⟨⟨by omega, by omega⟩, by omega, by omega⟩
            have G9 : Hid (X.grownBy (((V2.setCell ⟨B3, 0, none⟩ (.int .i64 3)).setCell ⟨B3, 1, none⟩ (.int .i64 1000000)).setCell ⟨B3, 2, none⟩ (.slice (some ⟨V1.heap.size, 0, none⟩) 2 2)) (some p)) := grown_more GV (grown_set3 _ _ _ _ _) (fun k e => by cases e; omega)
            obtain ⟨c0, c1, c2⟩ := D9.out.cells
            have u0 := D9.out.res.at 0 rfl
            have u1 := D9.out.res.at 1 rfl
            have u2 := D9.out.res.at 2 rfl
            have uf0 := D9.out.res.f 0
            have uf1 := D9.out.res.f 1
            have uf2 := D9.out.res.f 2
            go_wp2
            refine bodyPost_ret (v := .agg #[.int .i64 3, .int .i64 1000000, .slice (some ⟨V1.heap.size, 0, none⟩) 2 2]) (by simp [results, Try.results66, go_sem, u0, u1, u2]) rfl ?_
            exact fin8 D9.out G9.out (by omega)
        · have hb3 := one_alloc W2 (.cells #[.int .i64 (-1), .int .i64 0, .int .i64 1000000, .int .i64 1000001] 2)
          have L3 : Bx (W2.alloc (.cells #[.int .i64 (-1), .int .i64 0, .int .i64 1000000, .int .i64 1000001] 2)) W2.heap.size 2 (arC [-1, 0, 1000000, 1000001]) := Bx.new W2 2 _
          have D3 := D2.out.step hb3
          have GA : X.grownBy (W2.alloc (.cells #[.int .i64 (-1), .int .i64 0, .int .i64 1000000, .int .i64 1000001] 2)) (some p) := grown_more G2.out (World.grownBy_alloc W2 _ none) (fun k e => by cases e)
          have lp2 := D2.out.cc.lt
          generalize hW3 : W2.alloc (.cells #[.int .i64 (-1), .int .i64 0, .int .i64 1000000, .int .i64 1000001] 2) = W3 at *
          clear D2 G2
          go_wp2_with fail
          refine (belowC 4 4 rfl D3.cc (by omega) (by omega)).mono ?_
          rintro e W4 ⟨I, rfl, hI, C4, g4⟩
          have m1 := cell_arC (L3.grown g4 (by simp; omega)) (i := I) hI
          have hz := el4 (L := [-1, 0, 1000000, 1000001]) (lo := -1) (hi := 1000001) rfl (by decide) hI
          have D4 := D3.drawn g4 C4
          have G4 := grown_trans GA g4
          have i1 : (I : Int) < 4 := by omega
          have i0 : (0 : Int) ≤ (I : Int) := by omega
          generalize el [-1, 0, 1000000, 1000001] I = z at *
          have D5 : Hid (Dw w (W4.setCell ⟨B3, 1, none⟩ (.int .i64 z)) p B2 B3 a len cap bs sz z a' c xs) := D4.put1 hz
          have G5 : Hid (X.grownBy (W4.setCell ⟨B3, 1, none⟩ (.int .i64 z)) (some p)) := grown_more G4 (grown_set (grown_refl W4 (some B3)) _ _) (fun k e => by cases e; omega)
          obtain ⟨c0, c1, c2⟩ := D4.cells
          have tf := D4.box.f 1
          clear C4 g4 L3 D3 GA D4 G4 hb3
          go_wp2_with fail
          refine (onceC 20 D5.out.cc (by omega)).mono ?_
          rintro e V1 ⟨t2, rfl, CV, gV⟩
          have D8 : Hid (Dw w V1 p B2 B3 a len cap bs sz z a' c xs) := D5.out.drawn gV CV
          have G8 : Hid (X.grownBy V1 (some p)) := grown_trans G5.out gV
          clear CV gV D5 G5
          cases t2
          · skip
            obtain ⟨c0, c1, c2⟩ := D8.out.cells
            have u0 := D8.out.res.at 0 rfl
            have u1 := D8.out.res.at 1 rfl
            have u2 := D8.out.res.at 2 rfl
            have uf0 := D8.out.res.f 0
            have uf1 := D8.out.res.f 1
            have uf2 := D8.out.res.f 2
            go_wp2
            refine bodyPost_ret (v := .agg #[.int .i64 sz, .int .i64 z, .slice a' xs.length c]) (by simp [results, Try.results66, go_sem, u0, u1, u2]) rfl ?_
            exact fin8 D8.out G8.out (by omega)
          · have hbV := one_alloc V1 (.cells #[.int .i64 1000000, .int .i64 999999] 2)
            have lV3 := D8.out.box.lt
            have lV2 := D8.out.res.lt
            have lVp := D8.out.cc.lt
            have hvV : Vec (V1.alloc (.cells #[.int .i64 1000000, .int .i64 999999] 2)) (some ⟨V1.heap.size, 0, none⟩) [1000000, 999999].length [1000000, 999999] := vec_two V1
            have DV := D8.out.step hbV
            have GV : X.grownBy (V1.alloc (.cells #[.int .i64 1000000, .int .i64 999999] 2)) (some p) := grown_more G8.out (World.grownBy_alloc V1 _ none) (fun k e => by cases e)
            generalize hV2 : V1.alloc (.cells #[.int .i64 1000000, .int .i64 999999] 2) = V2 at *
            have t30 := DV.box.f 0
            have t31 := DV.box.f 1
            have t32 := DV.box.f 2
            obtain ⟨s0, s1, s2⟩ := DV.cells
            have D9 : Hid (Dw w (((V2.setCell ⟨B3, 0, none⟩ (.int .i64 3)).setCell ⟨B3, 1, none⟩ (.int .i64 1000000)).setCell ⟨B3, 2, none⟩ (.slice (some ⟨V1.heap.size, 0, none⟩) 2 2)) p B2 B3 a len cap bs 3 1000000 (some ⟨V1.heap.size, 0, none⟩) 2 [1000000, 999999]) := DV.put hvV ⟨by decide, by unfold maxLen; omega⟩ (by decide) (fun k off _ e => by simp only [Option.some.injEq, Addr.mk.injEq] at e; omega) ⟨⟨by omega, by omega⟩, by omega, by omega⟩
            have G9 : Hid (X.grownBy (((V2.setCell ⟨B3, 0, none⟩ (.int .i64 3)).setCell ⟨B3, 1, none⟩ (.int .i64 1000000)).setCell ⟨B3, 2, none⟩ (.slice (some ⟨V1.heap.size, 0, none⟩) 2 2)) (some p)) := grown_more GV (grown_set3 _ _ _ _ _) (fun k e => by cases e; omega)
            obtain ⟨c0, c1, c2⟩ := D9.out.cells
            have u0 := D9.out.res.at 0 rfl
            have u1 := D9.out.res.at 1 rfl
            have u2 := D9.out.res.at 2 rfl
            have uf0 := D9.out.res.f 0
            have uf1 := D9.out.res.f 1
            have uf2 := D9.out.res.f 2
            go_wp2
            refine bodyPost_ret (v := .agg #[.int .i64 3, .int .i64 1000000, .slice (some ⟨V1.heap.size, 0, none⟩) 2 2]) (by simp [results, Try.results66, go_sem, u0, u1, u2]) rfl ?_
            exact fin8 D9.out G9.out (by omega)
        · go_wp2_with fail
          refine (vecC 3 3 rfl (by omega) D2.out.cc).mono ?_
          rintro e W4 ⟨a2, c2', ys, rfl, hV, hyc, hcm, hy16, hFr, C4, g4⟩
          have l22 := D2.out.res.lt
          have l23 := D2.out.box.lt
          have lp2 := D2.out.cc.lt
          have D4 := D2.out.drawn g4 C4
          have G4 := grown_trans G2.out g4
          have D5 : Hid (Dw w (W4.setCell ⟨B3, 2, none⟩ (.slice a2 ys.length c2')) p B2 B3 a len cap bs sz st a2 c2' ys) := D4.put2 hV ⟨hyc, hcm⟩ hy16 (fun k off _ e => by have := hFr k off e; omega)
          have G5 : Hid (X.grownBy (W4.setCell ⟨B3, 2, none⟩ (.slice a2 ys.length c2')) (some p)) := grown_more G4 (grown_set (grown_refl W4 (some B3)) _ _) (fun k e => by cases e; omega)
          obtain ⟨c0, c1, c2⟩ := D4.cells
          have tf := D4.box.f 2
          clear C4 g4 D4 G4 D2 G2 hV
          go_wp2_with fail
          refine (onceC 20 D5.out.cc (by omega)).mono ?_
          rintro e V1 ⟨t2, rfl, CV, gV⟩
          have D8 : Hid (Dw w V1 p B2 B3 a len cap bs sz st a2 c2' ys) := D5.out.drawn gV CV
          have G8 : Hid (X.grownBy V1 (some p)) := grown_trans G5.out gV
          clear CV gV D5 G5
          cases t2
          · skip
            obtain ⟨c0, c1, c2⟩ := D8.out.cells
            have u0 := D8.out.res.at 0 rfl
            have u1 := D8.out.res.at 1 rfl
            have u2 := D8.out.res.at 2 rfl
            have uf0 := D8.out.res.f 0
            have uf1 := D8.out.res.f 1
            have uf2 := D8.out.res.f 2
            go_wp2
            refine bodyPost_ret (v := .agg #[.int .i64 sz, .int .i64 st, .slice a2 ys.length c2']) (by simp [results, Try.results66, go_sem, u0, u1, u2]) rfl ?_
            exact fin8 D8.out G8.out (by omega)
          · have hbV := one_alloc V1 (.cells #[.int .i64 1000000, .int .i64 999999] 2)
            have lV3 := D8.out.box.lt
            have lV2 := D8.out.res.lt
            have lVp := D8.out.cc.lt
            have hvV : Vec (V1.alloc (.cells #[.int .i64 1000000, .int .i64 999999] 2)) (some ⟨V1.heap.size, 0, none⟩) [1000000, 999999].length [1000000, 999999] := vec_two V1
            have DV := D8.out.step hbV
            have GV : X.grownBy (V1.alloc (.cells #[.int .i64 1000000, .int .i64 999999] 2)) (some p) := grown_more G8.out (World.grownBy_alloc V1 _ none) (fun k e => by cases e)
            generalize hV2 : V1.alloc (.cells #[.int .i64 1000000, .int .i64 999999] 2) = V2 at *
            have t30 := DV.box.f 0
            have t31 := DV.box.f 1
            have t32 := DV.box.f 2
            obtain ⟨s0, s1, s2⟩ := DV.cells
            have D9 : Hid (Dw w (((V2.setCell ⟨B3, 0, none⟩ (.int .i64 3)).setCell ⟨B3, 1, none⟩ (.int .i64 1000000)).setCell ⟨B3, 2, none⟩ (.slice (some ⟨V1.heap.size, 0, none⟩) 2 2)) p B2 B3 a len cap bs 3 1000000 (some ⟨V1.heap.size, 0, none⟩) 2 [1000000, 999999]) := DV.put hvV ⟨by decide, by unfold maxLen; omega⟩ (by decide) (fun k off _ e => by simp only [Option.some.injEq, Addr.mk.injEq] at e; omega) ⟨⟨by omega, by omega⟩, by omega, by omega⟩
            have G9 : Hid (X.grownBy (((V2.setCell ⟨B3, 0, none⟩ (.int .i64 3)).setCell ⟨B3, 1, none⟩ (.int .i64 1000000)).setCell ⟨B3, 2, none⟩ (.slice (some ⟨V1.heap.size, 0, none⟩) 2 2)) (some p)) := grown_more GV (grown_set3 _ _ _ _ _) (fun k e => by cases e; omega)
            obtain ⟨c0, c1, c2⟩ := D9.out.cells
            have u0 := D9.out.res.at 0 rfl
            have u1 := D9.out.res.at 1 rfl
            have u2 := D9.out.res.at 2 rfl
            have uf0 := D9.out.res.f 0
            have uf1 := D9.out.res.f 1
            have uf2 := D9.out.res.f 2
            go_wp2
            refine bodyPost_ret (v := .agg #[.int .i64 3, .int .i64 1000000, .slice (some ⟨V1.heap.size, 0, none⟩) 2 2]) (by simp [results, Try.results66, go_sem, u0, u1, u2]) rfl ?_
            exact fin8 D9.out G9.out (by omega)
    | succ k =>
      have hS := sentS_any sz st a' xs.length c xs wr hD.vec (Nat.le_trans hD.cp.1 hD.cp.2)
      have hbd : (sentL sz st xs).ok = true → _ := sentL_bd
      obtain ⟨hfR, h8R⟩ := sentL_fits sz st xs
      unfold AnsW at hS
      generalize hR : sentL sz st xs = R at *
      obtain ⟨Rz, Rt, Z, ok⟩ := R
      clear hR
      simp only [] at hbd hfR h8R hS
      unfold wiV at hS
      obtain ⟨c0, c1, c2⟩ := hD.cells
      have HD0 : Hid (Dw w wr p B2 B3 a len cap bs sz st a' c xs) := hD
      have HG0 : Hid (X.grownBy wr (some p)) := hG
      have k0 : (0 : Int) < ((k + 1 : Nat) : Int) := by omega
      have l3 := hD.box.lt
      have l2 := hD.res.lt
      have lp := hD.cc.lt
      have hoW := hD.vec.blt
      have hwB := hD.cc.below.size
      clear hD hG D6 HG6
      go_wp2_with fail
      refine hS.mono ?_
      rintro e X7 ⟨ax, cx, rfl, hx7, hb7⟩
      have hab := hx7.abv
      have S7 := hx7.slc
      have b7 := S7.blt
      have hb8 := one_alloc X7 (.cells #[.int .i64 Rz, .int .i64 Rt, .slice ax Z.length cx] 34)
      have A8 : Bx (X7.alloc (.cells #[.int .i64 Rz, .int .i64 Rt, .slice ax Z.length cx] 34)) X7.heap.size 34 #[.int .i64 Rz, .int .i64 Rt, .slice ax Z.length cx] ∧ SlC (X7.alloc (.cells #[.int .i64 Rz, .int .i64 Rt, .slice ax Z.length cx] 34)) ax cx Z := ⟨Bx.new _ _ _, S7.below hb8⟩
      have l7 := hb7.size
      have D8 := (HD0.out.step hb7).step hb8
      have G8 : X.grownBy (X7.alloc (.cells #[.int .i64 Rz, .int .i64 Rt, .slice ax Z.length cx] 34)) (some p) := grown_more (grown_more HG0.out ⟨hb7.os, hb7.tape, hb7.output, hb7.size, fun k hk _ => hb7.block k hk⟩ (fun k (e : (none : Option Nat) = some k) => by cases e)) (World.grownBy_alloc X7 _ none) (fun k e => by cases e)
      have hown : ∀ k off, Z ≠ [] → ax = some ⟨k, off, none⟩ → k ≠ p ∧ k ≠ B2 ∧ k ≠ B3 ∧ k ≠ X7.heap.size ∧ B2 ≤ k := fun k off hz e => by
        have := hab k off hz e
        have := b7 k off hz e
        omega
      generalize hW8 : X7.alloc (.cells #[.int .i64 Rz, .int .i64 Rt, .slice ax Z.length cx] 34) = X8 at *
      have HD8 : Hid (Dw w X8 p B2 B3 a len cap bs sz st a' c xs) := D8
      have HG8 : Hid (X.grownBy X8 (some p)) := G8
      clear hx7 hb7 hb8 S7 hab b7 c0 c1 c2 D8 G8 hS HD0 HG0
      go_wp2_with fail
      refine (onceC 2 HD8.out.cc (by omega)).mono ?_
      rintro e X9 ⟨t, rfl, C9, hg9⟩
      have D : Hid (Dw w X9 p B2 B3 a len cap bs sz st a' c xs) := HD8.out.drawn hg9 C9
      have G : Hid (X.grownBy X9 (some p)) := grown_trans HG8.out hg9
      have A : Hid (Bx X9 X7.heap.size 34 #[.int .i64 Rz, .int .i64 Rt, .slice ax Z.length cx] ∧ SlC X9 ax cx Z) := ⟨A8.1.grown hg9 (by simp; omega), A8.2.grown hg9 (fun g off e hz => by have := hown g off hz e; simp; omega)⟩
      clear C9 hg9 A8 HD8 HG8
      cases t
      · -- no ack is tried
        cases ok
        · go_wp2
          go_roundw
          case rel => exact ⟨k, sz, st, a', c, xs, by omega, by go_num, D.out, G.out⟩
          case measure => simp [intOf]
        · have hbR := hbd rfl
          have DP : Hid (Dw w _ p B2 B3 a len cap bs Rz Rt ax cx Z) := D.out.put (A.out.2.vec hfR) A.out.2.le (by omega) (fun k off hz e => by have := hown k off hz e; omega) hbR
          have GP : Hid (X.grownBy _ (some p)) := grown_more G.out (grown_set3 X9 B3 (.int .i64 Rz) (.int .i64 Rt) (.slice ax Z.length cx)) (fun k e => by cases e; omega)
          obtain ⟨x0, x1, x2⟩ := A.out.1.w3
          have tf0 := D.out.box.f 0
          have tf1 := D.out.box.f 1
          have tf2 := D.out.box.f 2
          obtain ⟨c0, c1, c2⟩ := D.out.cells
          go_wp2
          go_roundw
          case rel => exact ⟨k, Rz, Rt, ax, cx, Z, by omega, by go_num, DP.out, GP.out⟩
          case measure => simp [intOf]
      · have hAk := fun (wh n : Int) (W : World) (h : Dw w W p B2 B3 a len cap bs sz st a' c xs) => ackD sz st a' xs.length c xs wh n W h.vec (Nat.le_trans h.cp.1 h.cp.2)
        have KS : ∀ W, Dw w W p B2 B3 a len cap bs sz st a' c xs → W3c W B3 sz st (.slice a' xs.length c) := fun W h => h.cells
        unfold W3c at KS
        have D0 : Dw w X9.drew p B2 B3 a len cap bs sz st a' c xs := D.out.step (Below.refl _ _).drew
        have A0 : Bx X9.drew X7.heap.size 34 #[.int .i64 Rz, .int .i64 Rt, .slice ax Z.length cx] := A.out.1
        have F0 : X.grownBy X9.drew (some p) := grown_drewN G.out 1
        have CA := D0.cc
        have h16 := D0.n16
        have hst := D0.bd.2
        have h16i : (xs.length : Int) ≤ 10000 := by omega
        have hmix := mixedW
        have l7p : X7.heap.size ≠ p := by omega
        have l72 : X7.heap.size ≠ B2 := by omega
        have l73 : X7.heap.size ≠ B3 := by omega
        have hgw : w.heap.size ≤ X7.heap.size := by omega
        have lA := A0.lt
        have lD := D0.box.lt
        have lR := D0.res.lt
        clear D G A
        go_wp2_with fail
        go_region_held3 (fun W => W.cell? ⟨B3, 0, none⟩ = some (.int .i64 sz) ∧ W.cell? ⟨B3, 1, none⟩ = some (.int .i64 st) ∧ W.cell? ⟨B3, 2, none⟩ = some (.slice a' xs.length c))
          (first
            | (with_reducible exact KS _ DD)
            | (with_reducible exact KS _ DC)
            | (with_reducible exact KS _ DB)
            | (with_reducible exact KS _ DA)
            | (with_reducible exact KS _ D0))
          (first
            | (go_at_call 37; refine (hAk _ _ XB DB).mono ?_; rintro e XC ⟨Qz, Qt, Y, ko, ay, cy, rfl, hxC, hbC, hbq, hfQ, h8Q⟩; have DC := DB.step hbC; have AC := ((A0.grown hgA (by simpa using l7p)).grown hgB (by simpa using l7p)).below hbC; have f0 := AC.f 0; have f1 := AC.f 1; have f2 := AC.f 2; have y0 := AC.at 0 rfl; have y1 := AC.at 1 rfl; have y2 := AC.at 2 rfl; have DD : Dw w (((XC.setCell ⟨X7.heap.size, 0, none⟩ (.int .i64 Qz)).setCell ⟨X7.heap.size, 1, none⟩ (.int .i64 Qt)).setCell ⟨X7.heap.size, 2, none⟩ (.slice ay Y.length cy)) p B2 B3 a len cap bs sz st a' c xs := DC.other (grown_set3 _ _ _ _ _) hgw l7p l72 l73 (fun k off hz e => (by have := hoW k off hz e; omega)); have l72' := l72.symm; have l73' := l73.symm)
            | (go_at_call 44; refine (belowG _ (by omega) CB).mono ?_; rintro e XB ⟨YB, rfl, hYB, CD, hgB⟩; have DB := DA.drawn hgB CD; have bB : -10002 ≤ st - (YB : Int) ∧ st - (YB : Int) ≤ 1000001 := (by omega); have hI64 : I64w (st - (YB : Int)) := ⟨(by omega), (by omega)⟩)
            | (go_at_call 44; refine (belowG _ (by omega) CA).mono ?_; rintro e XA ⟨YA, rfl, hYA, CB, hgA⟩; have DA := D0.drawn hgA CB))
        have E : Hid (Dw w (((XC.setCell ⟨X7.heap.size, 0, none⟩ (.int .i64 Qz)).setCell ⟨X7.heap.size, 1, none⟩ (.int .i64 Qt)).setCell ⟨X7.heap.size, 2, none⟩ (.slice ay Y.length cy)) p B2 B3 a len cap bs sz st a' c xs) := DD
        have hgC : XB.grownBy XC none := ⟨hbC.os, hbC.tape, hbC.output, hbC.size, fun k hk _ => hbC.block k hk⟩
        have F : Hid (X.grownBy (((XC.setCell ⟨X7.heap.size, 0, none⟩ (.int .i64 Qz)).setCell ⟨X7.heap.size, 1, none⟩ (.int .i64 Qt)).setCell ⟨X7.heap.size, 2, none⟩ (.slice ay Y.length cy)) (some p)) := grown_more (grown_more (grown_trans (grown_trans F0 hgA) hgB) hgC (fun k e => by cases e)) (grown_set3 _ _ _ _ _) (fun k e => by cases e; omega)
        have habY := hxC.abv
        have sA := hgA.size
        have sB := hgB.size
        have hown2 : ∀ k off, Y ≠ [] → ay = some ⟨k, off, none⟩ → k ≠ p ∧ k ≠ B2 ∧ k ≠ B3 ∧ k ≠ X7.heap.size ∧ B2 ≤ k := fun k off hz e => by
          have := habY k off hz e
          have e1 : X9.drew.heap.size = X9.heap.size := rfl
          omega
        have Q : Hid (Bx (((XC.setCell ⟨X7.heap.size, 0, none⟩ (.int .i64 Qz)).setCell ⟨X7.heap.size, 1, none⟩ (.int .i64 Qt)).setCell ⟨X7.heap.size, 2, none⟩ (.slice ay Y.length cy)) X7.heap.size 34 #[.int .i64 Qz, .int .i64 Qt, .slice ay Y.length cy] ∧ SlC (((XC.setCell ⟨X7.heap.size, 0, none⟩ (.int .i64 Qz)).setCell ⟨X7.heap.size, 1, none⟩ (.int .i64 Qt)).setCell ⟨X7.heap.size, 2, none⟩ (.slice ay Y.length cy)) ay cy Y) := ⟨AC.set3 _ _ _, hxC.slc.grown (grown_set3 _ _ _ _ _) (fun g off e hz => by have := hown2 g off hz e; simp; omega)⟩
        generalize (((XC.setCell ⟨X7.heap.size, 0, none⟩ (.int .i64 Qz)).setCell ⟨X7.heap.size, 1, none⟩ (.int .i64 Qt)).setCell ⟨X7.heap.size, 2, none⟩ (.slice ay Y.length cy)) = X13 at *
        clear DD DC DB DA D0 A0 F0 AC CA CB CD hgA hgB hgC hbC hxC habY KS hAk f0 f1 f2 y0 y1 y2 hmix
        cases ko
        · go_wp2
          go_roundw
          case rel => exact ⟨k, sz, st, a', c, xs, by omega, by go_num, E.out, F.out⟩
          case measure => simp [intOf]
        · have hbR := hbq rfl
          have DP : Hid (Dw w _ p B2 B3 a len cap bs Qz Qt ay cy Y) := E.out.put (Q.out.2.vec hfQ) Q.out.2.le (by omega) (fun k off hz e => by have := hown2 k off hz e; omega) hbR
          have GP : Hid (X.grownBy _ (some p)) := grown_more F.out (grown_set3 X13 B3 (.int .i64 Qz) (.int .i64 Qt) (.slice ay Y.length cy)) (fun k e => by cases e; omega)
          obtain ⟨x0, x1, x2⟩ := Q.out.1.w3
          have tf0 := E.out.box.f 0
          have tf1 := E.out.box.f 1
          have tf2 := E.out.box.f 2
          obtain ⟨c0, c1, c2⟩ := E.out.cells
          go_wp2
          go_roundw
          case rel => exact ⟨k, Qz, Qt, ay, cy, Y, by omega, by go_num, DP.out, GP.out⟩
          case measure => simp [intOf]
end Go.Proofs.Ytkompamocpnefaa

/-
  The contracts of the specification's DrawWindowOk, DrawSent and DrawAcked.
-/
namespace Go.Proofs.Ytkompamocpnefaa
set_option linter.unusedVariables false
set_option linter.unusedSimpArgs false
open Go.RowKit Go.Sort

/-- A window that was drawn. -/
structure Wd (w' : World) (sz st : Int) (a : Option Addr) (c : Nat) (xs : List Int) : Prop where
  vec : Vec w' a xs.length xs
  cp : xs.length ≤ c ∧ c ≤ maxLen
  bd : (-1 ≤ sz ∧ sz ≤ 21) ∧ (-1 ≤ st ∧ st ≤ 1000001)
theorem Wd.below {w w' : World} {sz st : Int} {a : Option Addr} {c : Nat} {xs : List Int} (h : Wd w sz st a c xs) (hb : Below w.heap.size w w') : Wd w' sz st a c xs := ⟨h.vec.below hb (Nat.le_refl _), h.cp, h.bd⟩
theorem below_set3 {B g : Nat} {w w' : World} (h : Below B w w') (hg : B ≤ g) {x y z : Value} : Below B w (((w'.setCell ⟨g, 0, none⟩ x).setCell ⟨g, 1, none⟩ y).setCell ⟨g, 2, none⟩ z) := set3 h hg

set_option maxRecDepth 100000 in
set_option maxHeartbeats 800000 in
theorem drawWin_any (a : Option Addr) (len cap : Nat) (bs : Nat → Int) (w : World) (hv : BVec w a len bs) (hl : len ≤ 4096) :
    Calls Try.prog 62 #[.slice a len cap] w fun e w' => ∃ sz st a' c xs, e = .returned (wiV sz st a' (List.length xs) c) ∧ Wd w' sz st a' c xs ∧ (∀ k off, xs ≠ [] → a' = some ⟨k, off, none⟩ → w.heap.size < k) ∧ Below w.heap.size w w' := by
  have hb1 := one_alloc w (.cells #[.int .i64 0, .int .i64 0, .slice none 0 0] 34)
  have R1 := Bx.new w 34 #[.int .i64 0, .int .i64 0, .slice none 0 0]
  generalize hW1 : w.alloc (.cells #[.int .i64 0, .int .i64 0, .slice none 0 0] 34) = X1 at *
  go_enter Try.func62, Try.ntmps62
  go_wp2_with fail
  refine (newC a len cap bs w X1 hb1 hv hl).mono ?_
  rintro e X2 ⟨p, rfl, hp, C2, hb2⟩
  have R2 := R1.below hb2
  have l1 := R1.lt
  go_wp2_with fail
  refine (l8Draw_any p a len cap bs w X2 C2).mono ?_
  rintro e X3 ⟨sz, st, a', c, xs, rfl, hV, hcp, hbd, hown, C3, hg3⟩
  have R3 := R2.grown hg3 (by simp; omega)
  have r0 := R3.at 0 rfl
  have r1 := R3.at 1 rfl
  have r2 := R3.at 2 rfl
  have f0 := R3.f 0
  have f1 := R3.f 1
  have f2 := R3.f 2
  have s2 := hb2.size
  have HW : Hid (Wd (((X3.setCell ⟨w.heap.size, 0, none⟩ (.int .i64 sz)).setCell ⟨w.heap.size, 1, none⟩ (.int .i64 st)).setCell ⟨w.heap.size, 2, none⟩ (.slice a' xs.length c)) sz st a' c xs) :=
    ⟨hV.other (grown_set3 _ _ _ _ _) (fun k off hz e => by have := hown k off hz e; omega), hcp, hbd⟩
  have HO : Hid (∀ k off, xs ≠ [] → a' = some ⟨k, off, none⟩ → w.heap.size < k) := fun k off hz e => by have := hown k off hz e; omega
  have HB : Hid (Below w.heap.size w (((X3.setCell ⟨w.heap.size, 0, none⟩ (.int .i64 sz)).setCell ⟨w.heap.size, 1, none⟩ (.int .i64 st)).setCell ⟨w.heap.size, 2, none⟩ (.slice a' xs.length c))) := set3 C3.below (Nat.le_refl _)
  clear hV hcp hbd hown C3 hg3 R1 R2 hb1 hb2 C2
  unfold wiV
  go_wp2
  refine bodyPost_ret (v := .agg #[.int .i64 sz, .int .i64 st, .slice a' xs.length c]) (by simp [results, Try.results62, go_sem, r0, r1, r2]) rfl ?_
  exact ⟨sz, st, a', c, xs, rfl, HW.out, HO.out, HB.out⟩

set_option maxRecDepth 100000 in
set_option maxHeartbeats 800000 in
theorem drawSent_any (a : Option Addr) (len cap : Nat) (bs : Nat → Int) (w : World) (hv : BVec w a len bs) (hl : len ≤ 4096) :
    Calls Try.prog 27 #[.slice a len cap] w fun e w' => ∃ sz st a' c xs, e = .returned (wiV sz st a' (List.length xs) c) ∧ Wd w' sz st a' c xs ∧ Below w.heap.size w w' := by
  have hb1 := one_alloc w (.cells #[.int .i64 0, .int .i64 0, .slice none 0 0] 34)
  have R1 := Bx.new w 34 #[.int .i64 0, .int .i64 0, .slice none 0 0]
  have l1 := R1.lt
  generalize hW1 : w.alloc (.cells #[.int .i64 0, .int .i64 0, .slice none 0 0] 34) = X1 at *
  go_enter Try.func27, Try.ntmps27
  go_wp2_with fail
  refine (drawWin_any a len cap bs X1 (hv.below hb1 (Nat.le_refl _)) hl).mono ?_
  rintro e X3 ⟨sz, st, a', c, xs, rfl, hV, hown, hb3⟩
  have R3 := R1.below hb3
  have r0 := R3.at 0 rfl
  have r1 := R3.at 1 rfl
  have r2 := R3.at 2 rfl
  have f0 := R3.f 0
  have f1 := R3.f 1
  have f2 := R3.f 2
  have HW : Hid (Wd (((X3.setCell ⟨w.heap.size, 0, none⟩ (.int .i64 sz)).setCell ⟨w.heap.size, 1, none⟩ (.int .i64 st)).setCell ⟨w.heap.size, 2, none⟩ (.slice a' xs.length c)) sz st a' c xs) :=
    ⟨hV.vec.other (grown_set3 _ _ _ _ _) (fun k off hz e => by have := hown k off hz e; omega), hV.cp, hV.bd⟩
  have HB : Hid (Below w.heap.size w (((X3.setCell ⟨w.heap.size, 0, none⟩ (.int .i64 sz)).setCell ⟨w.heap.size, 1, none⟩ (.int .i64 st)).setCell ⟨w.heap.size, 2, none⟩ (.slice a' xs.length c))) := set3 (hb1.trans (hb3.mono hb1.size)) (Nat.le_refl _)
  clear hV hown hb3 R1 hb1
  unfold wiV
  go_wp2
  refine bodyPost_ret (v := .agg #[.int .i64 sz, .int .i64 st, .slice a' xs.length c]) (by simp [results, Try.results27, go_sem, r0, r1, r2]) rfl ?_
  exact ⟨sz, st, a', c, xs, rfl, HW.out, HB.out⟩

set_option maxRecDepth 100000 in
set_option maxHeartbeats 1600000 in
theorem drawAcked_any (a : Option Addr) (len cap : Nat) (bs : Nat → Int) (w : World) (hv : BVec w a len bs) (hl : len ≤ 4096) :
    Calls Try.prog 29 #[.slice a len cap] w fun e w' => ∃ sz st a' c xs who n, e = .returned (.tuple #[wiV sz st a' (List.length xs) c, .int .i64 who, .int .i64 n]) ∧ Wd w' sz st a' c xs ∧ (-1 ≤ who ∧ who ≤ 6) ∧ (-10 ≤ n ∧ n ≤ 1010) ∧ Below w.heap.size w w' := by
  have hb1 := one_alloc w (.cells #[.int .i64 0, .int .i64 0, .slice none 0 0] 34)
  have R1 := Bx.new w 34 #[.int .i64 0, .int .i64 0, .slice none 0 0]
  have l1 := R1.lt
  generalize hW1 : w.alloc (.cells #[.int .i64 0, .int .i64 0, .slice none 0 0] 34) = X1 at *
  go_enter Try.func29, Try.ntmps29
  go_wp2_with fail
  refine (newC a len cap bs w X1 hb1 hv hl).mono ?_
  rintro e X2 ⟨p, rfl, hp, C2, hb2⟩
  have R2 := R1.below hb2
  have s2 := hb2.size
  go_wp2_with fail
  refine (l8Draw_any p a len cap bs w X2 C2).mono ?_
  rintro e X3 ⟨sz, st, a', c, xs, rfl, hV, hcp, hbd, hown, C3, hg3⟩
  have R3 := R2.grown hg3 (by simp; omega)
  have hb4 := one_alloc X3 (.cells #[.int .i64 sz, .int .i64 st, .slice a' xs.length c] 34)
  have B4 := Bx.new X3 34 #[.int .i64 sz, .int .i64 st, .slice a' xs.length c]
  have hV4 := hV.below hb4 (Nat.le_refl _)
  have C4 := C3.step hb4
  have R4 := R3.below hb4
  have lp3 := C3.lt
  generalize hW4 : X3.alloc (.cells #[.int .i64 sz, .int .i64 st, .slice a' xs.length c] 34) = X4 at *
  -- what is held through the region
  have KP : ∀ W, X4.grownBy W (some p) → Bx W w.heap.size 34 #[.int .i64 0, .int .i64 0, .slice none 0 0] ∧ Bx W X3.heap.size 34 #[.int .i64 sz, .int .i64 st, .slice a' xs.length c] ∧ Vec W a' xs.length xs := fun W hW =>
    ⟨R4.grown hW (by simp; omega), B4.grown hW (by simp; omega), hV4.other hW (fun k off hz e => (hown k off hz e).1)⟩
  have KS : ∀ W, X4.grownBy W (some p) → W.cell? ⟨X3.heap.size, 0, none⟩ = some (.int .i64 sz) ∧ W.cell? ⟨X3.heap.size, 1, none⟩ = some (.int .i64 st) ∧ W.cell? ⟨X3.heap.size, 2, none⟩ = some (.slice a' xs.length c) := fun W hW => (KP W hW).2.1.w3
  have g0 : X4.grownBy X4.drew (some p) := grown_drewN (grown_refl X4 (some p)) 1
  have CA : Cc w X4.drew p a len cap bs := C4.step (Below.refl _ _).drew
  have hmix := mixedW
  have s3 := hg3.size
  have hw3 : w.heap.size ≠ X3.heap.size := by omega
  have hw3' : X3.heap.size ≠ w.heap.size := by omega
  unfold wiV
  have hmx : -1 ≤ max (-1) (min 1000 st) ∧ max (-1) (min 1000 st) ≤ 1000 := by omega
  clear hV4 R3 R1 R2 hb1 hb2 hb4 C2 C3 hV B4
  go_wp2_with fail
  go_region_held3 (fun W => W.cell? ⟨X3.heap.size, 0, none⟩ = some (.int .i64 sz) ∧ W.cell? ⟨X3.heap.size, 1, none⟩ = some (.int .i64 st) ∧ W.cell? ⟨X3.heap.size, 2, none⟩ = some (.slice a' xs.length c))
    (first
      | (with_reducible exact SD)
      | (with_reducible exact KS _ gB)
      | (with_reducible exact KS _ gA)
      | (with_reducible exact KS _ g0))
    (first
      | (go_at_call 67; refine (fromC (-1) 4 (by omega) (by omega) (by omega) CB).mono ?_; rintro e WB ⟨yB, rfl, hB0, hB1, CD, hgB⟩; have gB := grown_trans gA hgB; have RB := (KP WB gB).1; have f0 := RB.f 0; have f1 := RB.f 1; have f2 := RB.f 2; have u0 := RB.at 0 rfl; have u1 := RB.at 1 rfl; have u2 := RB.at 2 rfl; have SD : W3c (((WB.setCell ⟨w.heap.size, 0, none⟩ (.int .i64 sz)).setCell ⟨w.heap.size, 1, none⟩ (.int .i64 st)).setCell ⟨w.heap.size, 2, none⟩ (.slice a' xs.length c)) X3.heap.size sz st (.slice a' xs.length c) := ((KP WB gB).2.1.grown (grown_set3 _ _ _ _ _) (by simpa using hw3')).w3; unfold W3c at SD)
      | (go_at_call 67; refine (fromC (-1) 6 (by omega) (by omega) (by omega) CA).mono ?_; rintro e WA ⟨yA, rfl, hA0, hA1, CB, hgA⟩; have gA := grown_trans g0 hgA)
      | (go_at_call 53; refine (l1Min_any _ _ _).mono ?_; rintro e w' ⟨rfl, hw'⟩; rw [hw']; clear hw')
      | (go_at_call 52; refine (l1Max_any _ _ _).mono ?_; rintro e w' ⟨rfl, hw'⟩; rw [hw']; clear hw'))
  have hwr : IntKind.i64.wrap (max (-1) (min 1000 st) - yB) = max (-1) (min 1000 st) - yB := by rw [IntKind.wrap_i64]; omega
  rw [hwr]
  have HW : Hid (Wd (((WB.setCell ⟨w.heap.size, 0, none⟩ (.int .i64 sz)).setCell ⟨w.heap.size, 1, none⟩ (.int .i64 st)).setCell ⟨w.heap.size, 2, none⟩ (.slice a' xs.length c)) sz st a' c xs) := ⟨(KP WB gB).2.2.other (grown_set3 _ _ _ _ _) (fun k off hz e => by have := (hown k off hz e).2; omega), hcp, hbd⟩
  have HB : Hid (Below w.heap.size w (((WB.setCell ⟨w.heap.size, 0, none⟩ (.int .i64 sz)).setCell ⟨w.heap.size, 1, none⟩ (.int .i64 st)).setCell ⟨w.heap.size, 2, none⟩ (.slice a' xs.length c))) := set3 CD.below (Nat.le_refl _)
  have hn : -10 ≤ max (-1) (min 1000 st) - yB ∧ max (-1) (min 1000 st) - yB ≤ 1010 := by omega
  clear hwr
  generalize max (-1) (min 1000 st) - yB = n at *
  clear KP KS SD gB gA g0 hgA hgB CA CB CD C4 R4 RB
  go_wp2
  refine bodyPost_ret (v := .tuple #[.agg #[.int .i64 sz, .int .i64 st, .slice a' xs.length c], .int .i64 yA, .int .i64 n]) (by simp [results, Try.results29, go_sem, u0, u1, u2]) rfl ?_
  exact ⟨sz, st, a', c, xs, yA, n, rfl, HW.out, ⟨hA0, hA1⟩, hn, HB.out⟩
end Go.Proofs.Ytkompamocpnefaa
