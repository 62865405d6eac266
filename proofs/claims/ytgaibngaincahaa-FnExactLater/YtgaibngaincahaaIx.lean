/-
  Several texts in one: Bxs.
-/
import Derived.Test.YtgaibngaincahaaHh
/-
  Blocks of cells that hold a struct; slices of numbers that are an answer, empty ones too.
-/
namespace Go.Proofs.Ytgaibngaincahaa
set_option linter.unusedVariables false
set_option linter.unusedSimpArgs false
open Go.RowKit Go.Sort

/-- Block B holds just these cells. -/
def Bx (w : World) (B : Nat) (T : TypeId) (cs : Array Value) : Prop := w.heap[B]? = some (.cells cs T (0, 0))
theorem Bx.lt {w : World} {B : Nat} {T : TypeId} {cs : Array Value} (h : Bx w B T cs) : B < w.heap.size := (Array.getElem?_eq_some_iff.1 h).1
theorem Bx.cell {w : World} {B : Nat} {T : TypeId} {cs : Array Value} (h : Bx w B T cs) (i : Nat) : w.cell? ⟨B, i, none⟩ = cs[i]? := by simp [World.cell?, show w.heap[B]? = _ from h]
theorem Bx.at {w : World} {B : Nat} {T : TypeId} {cs : Array Value} (h : Bx w B T cs) (i : Nat) {v : Value} (hi : cs[i]? = some v) : w.cell? ⟨B, i, none⟩ = some v := (h.cell i).trans hi
theorem Bx.f {w : World} {B : Nat} {T : TypeId} {cs : Array Value} (h : Bx w B T cs) (i : Nat) : w.frozen? ⟨B, i, none⟩ = false := by simp [World.frozen?, show w.heap[B]? = _ from h]
theorem Bx.new (w : World) (T : TypeId) (cs : Array Value) : Bx (w.alloc (.cells cs T)) w.heap.size T cs := heap_alloc_new w _
theorem Bx.grown {w w' : World} {r : Option Nat} {B : Nat} {T : TypeId} {cs : Array Value} (h : Bx w B T cs) (hg : w.grownBy w' r) (hne : some B ≠ r) : Bx w' B T cs := (hg.block B h.lt hne).trans h
theorem Bx.alloc {w : World} {B : Nat} {T : TypeId} {cs : Array Value} (h : Bx w B T cs) (o : Obj) : Bx (w.alloc o) B T cs := h.grown (World.grownBy_alloc w o none) (by simp)
theorem Bx.below {w w' : World} {B : Nat} {T : TypeId} {cs : Array Value} (h : Bx w B T cs) (hb : Below w.heap.size w w') : Bx w' B T cs := (hb.block B h.lt).trans h
theorem Bx.drewN {w : World} {B : Nat} {T : TypeId} {cs : Array Value} (h : Bx w B T cs) (n : Nat) : Bx (w.drewN n) B T cs := h

/-- A slice of numbers that has been answered: none, or in a block of its own. -/
def SlC (w : World) (a : Option Addr) (c : Nat) (Z : List Int) : Prop := (Z = [] ∧ c ≤ maxLen) ∨ ∃ g off, a = some ⟨g, off, none⟩ ∧ OI w g off Z.length c Z
theorem SlC.vec {w : World} {a : Option Addr} {c : Nat} {Z : List Int} (h : SlC w a c Z) (hf : Fits Z) : Vec w a Z.length Z := by
  rcases h with ⟨rfl, _⟩ | ⟨g, off, rfl, ho⟩
  · exact ⟨rfl, hf, .inl rfl⟩
  · exact ho.vec hf
theorem SlC.le {w : World} {a : Option Addr} {c : Nat} {Z : List Int} (h : SlC w a c Z) : Z.length ≤ c ∧ c ≤ maxLen := by
  rcases h with ⟨rfl, h⟩ | ⟨g, off, rfl, ho⟩
  · exact ⟨Nat.zero_le _, h⟩
  · exact ⟨ho.le, ho.max⟩
theorem SlC.grown {w w' : World} {r : Option Nat} {a : Option Addr} {c : Nat} {Z : List Int} (h : SlC w a c Z) (hg : w.grownBy w' r) (hne : ∀ g off, a = some ⟨g, off, none⟩ → Z ≠ [] → some g ≠ r) : SlC w' a c Z := by
  rcases h with h | ⟨g, off, rfl, ho⟩
  · exact .inl h
  · by_cases hz : Z = []
    · exact .inl ⟨hz, ho.max⟩
    · exact .inr ⟨g, off, rfl, OSl.of_block ho (hg.block g ho.blk (hne g off rfl hz)) (Nat.lt_of_lt_of_le ho.blk hg.size)⟩
theorem SlC.below {w w' : World} {a : Option Addr} {c : Nat} {Z : List Int} (h : SlC w a c Z) (hb : Below w.heap.size w w') : SlC w' a c Z := by
  rcases h with h | ⟨g, off, rfl, ho⟩
  · exact .inl h
  · exact .inr ⟨g, off, rfl, ho.below hb ho.blk⟩
theorem SlC.drewN {w : World} {a : Option Addr} {c : Nat} {Z : List Int} (h : SlC w a c Z) (n : Nat) : SlC (w.drewN n) a c Z := by
  rcases h with h | ⟨g, off, rfl, ho⟩
  · exact .inl h
  · exact .inr ⟨g, off, rfl, ho.drewN n⟩
theorem below_of_grown {w w' : World} {B : Nat} {r : Option Nat} {v : World} (h : Below B v w) (hg : w.grownBy w' r) (hr : ∀ k, r = some k → B ≤ k) (hs : B ≤ w.heap.size) : Below B v w' :=
  ⟨hg.os.trans h.os, hg.tape.trans h.tape, hg.output.trans h.output, Nat.le_trans h.size hg.size, fun k hk => (hg.block k (by omega) (fun e => by have := hr k e.symm; omega)).trans (h.block k hk)⟩

set_option maxHeartbeats 400000 in
theorem mark0_any (a : Option Addr) (cap : Nat) (q : Int) (w : World) : Calls Try.prog 81 #[.slice a 0 cap, .int .i64 q] w fun e w' => e = .returned (.int .i64 q) ∧ w' = w := by
  go_enter Try.func81, Try.ntmps81
  go_wp2
  go_loopw [1, 5] (fun q1 i wr => q1 = .int .i64 q ∧ i = .int .i64 0 ∧ wr = w) (fun _ _ _ => 0)
  case atStart => exact ⟨rfl, rfl, rfl⟩
  case round =>
    obtain ⟨rfl, rfl, rfl⟩ := hrel
    go_wp2
    go_ret
    exact ⟨rfl, rfl⟩
set_option maxHeartbeats 400000 in
theorem held0_any (a : Option Addr) (cap : Nat) (q : Int) (w : World) : Calls Try.prog 83 #[.slice a 0 cap, .int .i64 q] w fun e w' => e = .returned (.int .i64 q) ∧ w' = w := by
  go_enter Try.func83, Try.ntmps83
  go_wp2
  go_loop [1, 5] (fun q1 i => q1 = .int .i64 q ∧ i = .int .i64 0) (fun _ _ => 0)
  case atStart => exact ⟨rfl, rfl⟩
  case round =>
    obtain ⟨rfl, rfl⟩ := hrel
    go_wp2
    go_ret
    exact ⟨rfl, rfl⟩
theorem Touch.grown {g : Nat} {w w' : World} (h : Touch g w w') : w.grownBy w' (some g) := ⟨h.os, h.tape, h.output, by rw [h.size]; exact Nat.le_refl _, fun k _ hk => h.block k (fun e => hk (by rw [e]))⟩
/-- What a step writes of a slice: its own block alone, and only where it has an element. -/
def Wr (w w' : World) (a : Option Addr) (Z : List Int) : Prop := ∃ r, w.grownBy w' r ∧ ∀ k, r = some k → Z ≠ [] ∧ ∃ off, a = some ⟨k, off, none⟩
theorem Wr.below {w w' v : World} {B : Nat} {a : Option Addr} {Z : List Int} (h : Wr w w' a Z) (hb : Below B v w) (hs : B ≤ w.heap.size) (hk : ∀ k off, Z ≠ [] → a = some ⟨k, off, none⟩ → B ≤ k) : Below B v w' := by
  obtain ⟨r, hg, hr⟩ := h
  exact below_of_grown hb hg (fun k e => by obtain ⟨hz, off, ha⟩ := hr k e; exact hk k off hz ha) hs
theorem Wr.bx {w w' : World} {a : Option Addr} {Z : List Int} (h : Wr w w' a Z) {B : Nat} {T : TypeId} {cs : Array Value} (hb : Bx w B T cs) (hk : ∀ k off, Z ≠ [] → a = some ⟨k, off, none⟩ → k ≠ B) : Bx w' B T cs := by
  obtain ⟨r, hg, hr⟩ := h
  refine hb.grown hg (fun e => ?_)
  obtain ⟨hz, off, ha⟩ := hr B e.symm
  exact hk B off hz ha rfl
theorem Wr.slc {w w' : World} {a : Option Addr} {Z : List Int} (h : Wr w w' a Z) {a2 : Option Addr} {c2 : Nat} {Y : List Int} (hb : SlC w a2 c2 Y) (hk : ∀ k off off2, Z ≠ [] → Y ≠ [] → a = some ⟨k, off, none⟩ → a2 = some ⟨k, off2, none⟩ → False) : SlC w' a2 c2 Y := by
  obtain ⟨r, hg, hr⟩ := h
  refine hb.grown hg (fun g off e hy e2 => ?_)
  obtain ⟨hz, off', ha⟩ := hr g e2.symm
  exact hk g off' off hz hy ha e
theorem Wr.size {w w' : World} {a : Option Addr} {Z : List Int} (h : Wr w w' a Z) : w.heap.size ≤ w'.heap.size := by
  obtain ⟨r, hg, _⟩ := h
  exact hg.size
theorem Wr.refl (w : World) (a : Option Addr) (Z : List Int) : Wr w w a Z := ⟨none, ⟨rfl, rfl, rfl, Nat.le_refl _, fun _ _ _ => rfl⟩, fun _ h => by cases h⟩
theorem Wr.after {w w1 w' : World} {a : Option Addr} {Z : List Int} (hb : Below w.heap.size w w1) (h : Wr w1 w' a Z) : Wr w w' a Z := by
  obtain ⟨r, hg, hr⟩ := h
  exact ⟨r, ⟨hg.os.trans hb.os, hg.tape.trans hb.tape, hg.output.trans hb.output, Nat.le_trans hb.size hg.size, fun k hk hne => (hg.block k (Nat.lt_of_lt_of_le hk hb.size) hne).trans (hb.block k hk)⟩, hr⟩

/-- markInt64S at such a slice. -/
theorem markC_any (a : Option Addr) (c k0 : Nat) (q : Int) (Z : List Int) (w : World) (h : SlC w a c Z) (hq : q = (k0 : Int)) (hk : k0 ≤ 10000000) (hn : Z.length ≤ 10000000) :
    Calls Try.prog 81 #[.slice a Z.length c, .int .i64 q] w fun e w' => e = .returned (.int .i64 (q + (Z.length : Int))) ∧ SlC w' a c (marks Z.length k0) ∧ Wr w w' a Z := by
  rcases h with ⟨rfl, hc⟩ | ⟨g, off, rfl, ho⟩
  · refine (mark0_any a c q w).mono ?_
    rintro e w' ⟨rfl, rfl⟩
    exact ⟨by simp, .inl ⟨rfl, hc⟩, Wr.refl _ _ _⟩
  · by_cases hz : Z = []
    · subst hz
      refine (mark0_any _ c q w).mono ?_
      rintro e w' ⟨rfl, rfl⟩
      exact ⟨by simp, .inl ⟨rfl, ho.max⟩, Wr.refl _ _ _⟩
    · refine (markN_any g off c k0 _ q Z w ho hq hk hn).mono ?_
      rintro e w' ⟨rfl, h1, h2⟩
      refine ⟨rfl, .inr ⟨g, off, rfl, by rw [marks_len]; exact h1⟩, some g, h2.grown, fun k e => ?_⟩
      cases e
      exact ⟨hz, off, rfl⟩
/-- heldInt64S at what markInt64S has left. -/
theorem heldC_any (a : Option Addr) (c k0 n : Nat) (q : Int) (w : World) (h : SlC w a c (marks n k0)) (hq : q = (k0 : Int)) (hk : k0 ≤ 10000000) (hn : n ≤ 10000000) :
    Calls Try.prog 83 #[.slice a n c, .int .i64 q] w fun e w' => e = .returned (.int .i64 (q + (n : Int))) ∧ w' = w := by
  have hl := marks_len n k0
  rcases h with ⟨h0, hc⟩ | ⟨g, off, rfl, ho⟩
  · rw [h0] at hl
    obtain rfl : n = 0 := by simpa using hl.symm
    refine (held0_any a c q w).mono ?_
    rintro e w' ⟨rfl, rfl⟩
    exact ⟨by simp, rfl⟩
  · rw [hl] at ho
    exact heldN_any g off c k0 n q w ho hq hk hn
end Go.Proofs.Ytgaibngaincahaa
