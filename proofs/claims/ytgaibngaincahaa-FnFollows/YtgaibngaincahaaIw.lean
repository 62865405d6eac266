/-
  Several texts in one: Cqs.
-/
import Derived.Test.YtgaibngaincahaaIx
import Derived.Test.YtgaibngaincahaaGb
import Derived.BigQuiet
/-
  The kit of the draws: the cursor, the code and what stood before, as one hypothesis; the draws of a number, of a yes or no, of a vector; regions whose callees lay blocks of their own.
-/
namespace Go.Proofs.Ytgaibngaincahaa
set_option linter.unusedVariables false
set_option linter.unusedSimpArgs false
open Go.RowKit Go.Sort

/-- What a draw holds: the cursor in block p, the code, what stood before. -/
structure Cc (w X : World) (p : Nat) (a : Option Addr) (len cap : Nat) (bs : Nat → Int) : Prop where
  cur : CurAt X p a len cap
  code : BVec w a len bs
  below : Below w.heap.size w X
  off : OffB a len p
  hl : len ≤ 4096
  hp : w.heap.size ≤ p
theorem Cc.bvec {w X : World} {p : Nat} {a : Option Addr} {len cap : Nat} {bs : Nat → Int} (h : Cc w X p a len cap bs) : BVec X a len bs := h.code.below h.below (Nat.le_refl _)
theorem Cc.step {w X X' : World} {p : Nat} {a : Option Addr} {len cap : Nat} {bs : Nat → Int} (h : Cc w X p a len cap bs) (hb : Below X.heap.size X X') : Cc w X' p a len cap bs :=
  ⟨h.cur.below hb h.cur.lt, h.code, h.below.trans (hb.mono h.below.size), h.off, h.hl, h.hp⟩
theorem Cc.grown {w X X' : World} {p g : Nat} {a : Option Addr} {len cap : Nat} {bs : Nat → Int} (h : Cc w X p a len cap bs) (hg : X.grownBy X' (some g)) (hne : g ≠ p) (hgw : w.heap.size ≤ g) : Cc w X' p a len cap bs :=
  ⟨h.cur.grown hg (by simp [hne]), h.code, below_of_grown h.below hg (fun k e => by cases e; exact hgw) h.below.size, h.off, h.hl, h.hp⟩
theorem Cc.drawn {w X X' : World} {p : Nat} {a : Option Addr} {len cap : Nat} {bs : Nat → Int} (h : Cc w X p a len cap bs) (hg : X.grownBy X' (some p)) (hc : CurAt X' p a len cap) : Cc w X' p a len cap bs :=
  ⟨hc, h.code, below_of_grown h.below hg (fun k e => by cases e; exact h.hp) h.below.size, h.off, h.hl, h.hp⟩
theorem Cc.set {w X : World} {p g : Nat} {a : Option Addr} {len cap : Nat} {bs : Nat → Int} (h : Cc w X p a len cap bs) (hne : g ≠ p) (hgw : w.heap.size ≤ g) (i : Nat) (v : Value) : Cc w (X.setCell ⟨g, i, none⟩ v) p a len cap bs :=
  h.grown (grown_set (grown_refl X (some g)) i v) hne hgw
theorem Cc.lt {w X : World} {p : Nat} {a : Option Addr} {len cap : Nat} {bs : Nat → Int} (h : Cc w X p a len cap bs) : p < X.heap.size := h.cur.lt
/-- The three draws. -/
theorem belowC (N : Nat) (n : Int) (hN : n = (N : Int)) {w X : World} {p : Nat} {a : Option Addr} {len cap : Nat} {bs : Nat → Int} (h : Cc w X p a len cap bs) (h1 : 1 ≤ N) (h2 : N ≤ 10000) :
    Calls Try.prog 46 #[.pointer (some ⟨p, 0, none⟩), .int .i64 n] X fun e w' => ∃ Y : Nat, e = .returned (.int .i64 (Y : Int)) ∧ Y < N ∧ Cc w w' p a len cap bs ∧ X.grownBy w' (some p) := by
  subst hN
  refine (below_any p a len cap bs (N : Int) X h.cur h.bvec h.off h.hl (by omega)).mono ?_
  rintro e w' ⟨x, rfl, h0, h3, _, hc, hg⟩
  have h4 := h3 (by omega)
  exact ⟨x.toNat, by rw [show ((x.toNat : Nat) : Int) = x by omega], by omega, h.drawn hg hc, hg⟩
theorem onceC (n : Int) {w X : World} {p : Nat} {a : Option Addr} {len cap : Nat} {bs : Nat → Int} (h : Cc w X p a len cap bs) (hn : n ≤ 10000) :
    Calls Try.prog 51 #[.pointer (some ⟨p, 0, none⟩), .int .i64 n] X fun e w' => ∃ t : Bool, e = .returned (.bool t) ∧ Cc w w' p a len cap bs ∧ X.grownBy w' (some p) := by
  refine (once_any p a len cap bs n X h.cur h.bvec h.off h.hl (by omega)).mono ?_
  rintro e w' ⟨t, rfl, hc, hg⟩
  exact ⟨t, rfl, h.drawn hg hc, hg⟩
theorem newC (a : Option Addr) (len cap : Nat) (bs : Nat → Int) (w X : World) (hb : Below w.heap.size w X) (hv : BVec w a len bs) (hl : len ≤ 4096) :
    Calls Try.prog 45 #[.slice a len cap] X fun e w' => ∃ p, e = .returned (.pointer (some ⟨p, 0, none⟩)) ∧ X.heap.size ≤ p ∧ Cc w w' p a len cap bs ∧ Below X.heap.size X w' := by
  refine (new_any a len cap bs X (hv.below hb (Nat.le_refl _)) hl).mono ?_
  rintro e w1 ⟨p, rfl, hp, hc1, hb1⟩
  have hs := hb.size
  exact ⟨p, rfl, hp, ⟨hc1, hv, hb.trans (hb1.mono hb.size), fun hl b off e => by have := hv.inB hl b off e; omega, hl, by omega⟩, hb1⟩
theorem vecC (N : Nat) (n : Int) (hN : n = (N : Int)) (hn : N ≤ 16) {w X : World} {p : Nat} {a : Option Addr} {len cap : Nat} {bs : Nat → Int} (h : Cc w X p a len cap bs) :
    Calls Try.prog 47 #[.pointer (some ⟨p, 0, none⟩), .int .i64 n] X fun e w' => ∃ a' c zs, e = .returned (.slice a' zs.length c) ∧ Vec w' a' zs.length zs ∧ zs.length ≤ c ∧ c ≤ maxLen ∧ zs.length ≤ 16 ∧ From a' X.heap.size ∧ Cc w w' p a len cap bs ∧ X.grownBy w' (some p) := by
  refine (drawVector_any p a len cap bs N n hN X h.cur h.bvec h.off h.hl hn).mono ?_
  rintro e w' ⟨v, rfl, a', m, c, zs, rfl, hV, hmc, hcm, hm16, hFr, hc, hg⟩
  have hzl := hV.1
  subst hzl
  exact ⟨a', c, zs, rfl, hV, hmc, hcm, hm16, hFr, h.drawn hg hc, hg⟩
set_option maxHeartbeats 400000 in
theorem fromC (lo hi : Int) (h0 : -1000 ≤ lo) (h1 : lo ≤ hi) (h2 : hi ≤ 1000) {w X : World} {p : Nat} {a : Option Addr} {len cap : Nat} {bs : Nat → Int} (h : Cc w X p a len cap bs) :
    Calls Try.prog 67 #[.pointer (some ⟨p, 0, none⟩), .int .i64 lo, .int .i64 hi] X fun e w' => ∃ x : Int, e = .returned (.int .i64 x) ∧ lo ≤ x ∧ x ≤ hi ∧ Cc w w' p a len cap bs ∧ X.grownBy w' (some p) := by
  have hB := belowC (hi - lo + 1).toNat (hi - lo + 1) (by omega) h (by omega) (by omega)
  go_enter Try.func67, Try.ntmps67
  go_wp2_with fail
  refine hB.mono ?_
  rintro e w1 ⟨Y, rfl, hY, hq, hg⟩
  have b1 : lo + (Y : Int) ≤ 9223372036854775807 := by omega
  have b2 : -9223372036854775808 ≤ lo + (Y : Int) := by omega
  have HQ : Hid (Cc w w1 p a len cap bs ∧ X.grownBy w1 (some p)) := ⟨hq, hg⟩
  clear hq hB hg
  go_wp2
  go_ret
  exact ⟨lo + (Y : Int), rfl, by omega, by omega, HQ.out⟩

/-- A vector stays where another block is written. -/
theorem Vec.other {w w' : World} {a : Option Addr} {n g : Nat} {xs : List Int} (h : Vec w a n xs) (hg : w.grownBy w' (some g)) (hne : ∀ k off, xs ≠ [] → a = some ⟨k, off, none⟩ → k ≠ g) : Vec w' a n xs := by
  obtain ⟨h1, h2, h3⟩ := h
  refine ⟨h1, h2, ?_⟩
  rcases h3 with h0 | ⟨b, off, rfl, hc⟩
  · exact .inl h0
  · by_cases hz : xs = []
    · subst hz; exact .inl h1.symm
    · refine .inr ⟨b, off, rfl, fun i hi => ?_⟩
      have hlt := World.block_lt_of_cell? _ _ (hc i hi)
      exact (World.cell?_of_block (w := w) (hg.block b hlt (by have := hne b off hz rfl; simpa using this))).trans (hc i hi)
/-- A list of numbers as a block's cells. -/
def arC (L : List Int) : Array Value := (L.map (Value.int .i64)).toArray
theorem cell_arC {w : World} {b : Nat} {L : List Int} (h : Bx w b 2 (arC L)) {i : Nat} (hi : i < L.length) : w.cell? ⟨b, i, none⟩ = some (.int .i64 (el L i)) := by
  rw [h.cell]
  simp [arC, el, hi]

/-- A world that a callee may leave behind: what lay is as it was. -/
structure Bk (B : World) where
  w : World
  h : Below B.heap.size B w
/-- A region that draws its order, whose operations only read and whose callees lay blocks of their own, walked once. -/
theorem wp_region_bk {P : Program} {id : Nat} {Q : Exit → Act → World → Prop} {a : Act} {w : World} {l : List Oper} (hm : P.follows .mixedOrders = true) (hB : Region.lexB .any l.toArray = true)
    (h : wpQuiet P l.toArray (fun w' => ∃ p : Bk w, w' = p.w) (fun a' => ∀ w', (∃ p : Bk w, w' = p.w) → Q .normal a' w') l a) : (Code.region id l.toArray true).wp P Q a w :=
  wp_region_quiet (C := fun w' => ∃ p : Bk w, w' = p.w) hm hB ⟨⟨w.drewN 1, belowN (Below.refl _ _)⟩, rfl⟩ (by simpa using h)
theorem bk_call {P : Program} {f : FuncId} {args : Array Value} {B : World} {v : Value} (p : Bk B) (h : Calls P f args p.w fun e w' => e = .returned v ∧ Below p.w.heap.size p.w w') : Calls P f args p.w fun e w' => e = .returned v ∧ ∃ q : Bk B, w' = q.w :=
  h.mono fun e w' h => ⟨h.1, ⟨w', p.h.trans (h.2.mono p.h.size)⟩, rfl⟩
end Go.Proofs.Ytgaibngaincahaa
