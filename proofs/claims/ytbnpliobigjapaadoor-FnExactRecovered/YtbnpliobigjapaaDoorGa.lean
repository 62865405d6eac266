/-
  Several texts in one: Base Vok Copy LawVok Und Ends JoinSpec JoinImpl LawJoin.
-/
import Derived.Test.YtbnpliobigjapaaDoorRows
import Derived.WalkKit
import Derived.ProofKit
import Derived.Below
import Derived.Lib.MinMax
import Derived.Deep.QuietTactic
import Derived.BigQuiet
import Derived.WalkLawsBesides
import Derived.Deep.OwnRows
import Derived.OpenShut
import Derived.Deep.AppendLies
import Derived.Deep.RegionHeld3
import Derived.Deep.DrawnRows
/-
  The words that the walks of chapter 1 share: what it is for a slice value to hold a list of int64 numbers in a world, and the plain functions that the Go functions are held against.
-/
namespace Go.Proofs.YtbnpliobigjapaaDoor
open Go.RowKit

def el (xs : List Int) (i : Nat) : Int := xs.getD i 0

/-- The slice value with the address a and the length len holds the numbers xs in w. -/
def Vec (w : World) (a : Option Addr) (len : Nat) (xs : List Int) : Prop :=
  xs.length = len ∧ (∀ x ∈ xs, -9223372036854775808 ≤ x ∧ x ≤ 9223372036854775807) ∧
    (len = 0 ∨ ∃ b off, a = some ⟨b, off, none⟩ ∧ ∀ i, i < len → w.cell? ⟨b, off + i, none⟩ = some (.int .i64 (el xs i)))

theorem ret_bool {a b : Bool} (h : a = b) : Ending.returned (.bool a) = .returned (.bool b) := by rw [h]
theorem ret_int {k : IntKind} {a b : Int} (h : a = b) : Ending.returned (.int k a) = .returned (.int k b) := by rw [h]

def inB (x lo hi : Int) : Bool := decide (lo ≤ x) && decide (x ≤ hi)
def okB (xs : List Int) : Bool := decide (1 ≤ xs.length) && decide (xs.length ≤ 8) && xs.all (fun x => inB x 0 1000000)
def loL (x : Int) (xs : List Int) : Int := xs.foldl min x
def hiL (x : Int) (xs : List Int) : Int := xs.foldl max x

theorem el_eq {xs : List Int} {i : Nat} (h : i < xs.length) : el xs i = xs[i] := by simp [el, h]
theorem el_mem {xs : List Int} {i : Nat} (h : i < xs.length) : el xs i ∈ xs := by
  rw [el_eq h]; exact List.getElem_mem h
theorem take_snoc {xs : List Int} {k : Nat} (h : k < xs.length) : xs.take (k + 1) = xs.take k ++ [el xs k] := by
  rw [List.take_succ_eq_append_getElem h, el_eq h]
theorem loL_snoc (x : Int) (xs : List Int) (y : Int) : loL x (xs ++ [y]) = min (loL x xs) y := by simp [loL]
theorem hiL_snoc (x : Int) (xs : List Int) (y : Int) : hiL x (xs ++ [y]) = max (hiL x xs) y := by simp [hiL]
theorem okB_false_len {xs : List Int} (h : xs.length < 1 ∨ 8 < xs.length) : okB xs = false := by
  unfold okB; rcases h with h | h <;> simp <;> omega
theorem okB_false_at {xs : List Int} {k : Nat} (hk : k < xs.length) (h : inB (el xs k) 0 1000000 = false) : okB xs = false := by
  unfold okB
  have : (xs.all fun x => inB x 0 1000000) = false := by
    rw [List.all_eq_false]; exact ⟨_, el_mem hk, by simp [h]⟩
  simp [this]
theorem okB_true_of {xs : List Int} (h1 : 1 ≤ xs.length) (h8 : xs.length ≤ 8) (h : ∀ j, j < xs.length → inB (el xs j) 0 1000000 = true) : okB xs = true := by
  unfold okB
  have : (xs.all fun x => inB x 0 1000000) = true := by
    rw [List.all_eq_true]; intro x hx
    obtain ⟨i, hi, rfl⟩ := List.getElem_of_mem hx
    have := h i hi
    rwa [el_eq hi] at this
  simp [this, h1, h8]

set_option maxHeartbeats 400000 in
theorem l1In_any (x lo hi : Int) (w : World) :
    Calls Tryd.prog 47 #[.int .i64 x, .int .i64 lo, .int .i64 hi] w fun e w' => e = .returned (.bool (inB x lo hi)) ∧ w' = w := by
  unfold inB
  by_cases h : lo ≤ x
  · go_enter Tryd.func47, Tryd.ntmps47
    go_wp2
    go_ret
    exact ⟨ret_bool (by simp [h]), rfl⟩
  · have h' : decide (lo ≤ x) = false := by simpa using h
    go_enter Tryd.func47, Tryd.ntmps47
    go_wp2
    go_ret
    exact ⟨ret_bool (by simp), rfl⟩
end Go.Proofs.YtbnpliobigjapaaDoor

/-
  The contracts of the two functions VectorOk (the program's own and the specification's) and of the helpers least and greatest that the program's own goes by.
-/
namespace Go.Proofs.YtbnpliobigjapaaDoor
open Go.RowKit

/-- The slice behind the first number, as a slice expression makes it. -/
theorem Vec.tail {w : World} {b off len cap : Nat} {xs : List Int} (hlen : xs.length = len) (hb : ∀ x ∈ xs, -9223372036854775808 ≤ x ∧ x ≤ 9223372036854775807)
    (hc : ∀ i, i < len → w.cell? ⟨b, off + i, none⟩ = some (.int .i64 (el xs i))) (hcap : len ≤ cap) (n : Nat) :
    Vec (w.drewN n) (if cap = 1 then some ⟨b, off, none⟩ else some ⟨b, off + 1, none⟩) (len - 1) xs.tail := by
  refine ⟨by simp [hlen], fun x hx => hb x (List.mem_of_mem_tail hx), ?_⟩
  by_cases h : cap = 1
  · left; omega
  · right
    refine ⟨b, off + 1, by simp [h], fun i hi => ?_⟩
    have := hc (i + 1) (by omega)
    rw [show off + (i + 1) = off + 1 + i from by omega] at this
    simp only [World.cell?_drewN]
    rw [this]; simp [el]

theorem okB_ends {xs : List Int} (h1 : 1 ≤ xs.length) (h8 : xs.length ≤ 8) :
    okB xs = (decide (0 ≤ loL (el xs 0) xs.tail) && decide (hiL (el xs 0) xs.tail ≤ 1000000)) := by
  have lo : ∀ (l : List Int) (x m : Int), m ≤ loL x l ↔ m ≤ x ∧ ∀ y ∈ l, m ≤ y := by
    intro l; induction l with
    | nil => intro x m; simp [loL]
    | cons y l ih => intro x m; have := ih (min x y) m; unfold loL at this ⊢; simp only [List.foldl_cons, List.mem_cons, forall_eq_or_imp]; rw [this, Int.le_min]; exact ⟨fun h => ⟨h.1.1, h.1.2, h.2⟩, fun h => ⟨⟨h.1, h.2.1⟩, h.2.2⟩⟩
  have hi : ∀ (l : List Int) (x m : Int), hiL x l ≤ m ↔ x ≤ m ∧ ∀ y ∈ l, y ≤ m := by
    intro l; induction l with
    | nil => intro x m; simp [hiL]
    | cons y l ih => intro x m; have := ih (max x y) m; unfold hiL at this ⊢; simp only [List.foldl_cons, List.mem_cons, forall_eq_or_imp]; rw [this, Int.max_le]; exact ⟨fun h => ⟨h.1.1, h.1.2, h.2⟩, fun h => ⟨⟨h.1, h.2.1⟩, h.2.2⟩⟩
  match xs, h1, h8 with
  | x :: l, h1, h8 =>
    rw [Bool.eq_iff_iff]
    simp only [Bool.and_eq_true, decide_eq_true_eq, List.tail_cons, lo, hi]
    unfold okB inB
    simp only [Bool.and_eq_true, decide_eq_true_eq, List.all_cons, List.all_eq_true]
    have e : el (x :: l) 0 = x := rfl
    rw [e]
    constructor
    · rintro ⟨_, ⟨a, b⟩, c⟩; exact ⟨⟨a, fun y hy => (c y hy).1⟩, b, fun y hy => (c y hy).2⟩
    · rintro ⟨⟨a, c⟩, b, d⟩; exact ⟨⟨h1, h8⟩, ⟨a, b⟩, fun y hy => ⟨c y hy, d y hy⟩⟩

end Go.Proofs.YtbnpliobigjapaaDoor

/-
  The contracts of the laws' own helpers: toInt64S makes a new row with the same numbers, eqInt64S tells whether two rows hold the same numbers.
-/
namespace Go.Proofs.YtbnpliobigjapaaDoor
open Go.RowKit

theorem Tryd.info2 : (Tryd.prog.info? 2).map (fun i => (i.zero, i.size, i.bytes)) = some (some (.int .i64 0), 1, 8) := by kernel_rfl

/-- A row of int64 numbers of its own: block b holds just the numbers xs. -/
def RowOf (w : World) (b : Nat) (xs : List Int) : Prop := w.rowIs b 2 xs.length (fun i => .int .i64 (el xs i))

def Fits (xs : List Int) : Prop := ∀ x ∈ xs, -9223372036854775808 ≤ x ∧ x ≤ 9223372036854775807

theorem RowOf.vec {w : World} {b : Nat} {xs : List Int} (h : RowOf w b xs) (hf : Fits xs) : Vec w (some ⟨b, 0, none⟩) xs.length xs :=
  ⟨rfl, hf, .inr ⟨b, 0, rfl, fun i hi => by rw [Nat.zero_add]; exact World.rowIs.cell h hi⟩⟩
theorem RowOf.lt {w : World} {b : Nat} {xs : List Int} (h : RowOf w b xs) : b < w.heap.size := World.rowIs.lt h
theorem RowOf.drewN {w : World} {b : Nat} {xs : List Int} (h : RowOf w b xs) (n : Nat) : RowOf (w.drewN n) b xs := h
theorem RowOf.below {w w' : World} {b B : Nat} {xs : List Int} (h : RowOf w b xs) (hb : Below B w w') (hB : b < B) : RowOf w' b xs := World.rowIs.of_block h (hb.block b hB)
theorem Vec.lt {w : World} {a : Option Addr} {len : Nat} {xs : List Int} (h : Vec w a len xs) : len = 0 ∨ ∃ b off, a = some ⟨b, off, none⟩ ∧ b < w.heap.size := by
  obtain ⟨_, _, h0 | ⟨b, off, rfl, hc⟩⟩ := h
  · exact .inl h0
  · by_cases h0 : len = 0
    · exact .inl h0
    · exact .inr ⟨b, off, rfl, World.block_lt_of_cell? _ _ (hc 0 (by omega))⟩
theorem Vec.below {w w' : World} {a : Option Addr} {len B : Nat} {xs : List Int} (h : Vec w a len xs) (hb : Below B w w') (hB : w.heap.size ≤ B) : Vec w' a len xs := by
  obtain ⟨h1, h2, h3⟩ := h
  refine ⟨h1, h2, ?_⟩
  rcases h3 with h0 | ⟨b, off, rfl, hc⟩
  · exact .inl h0
  · refine .inr ⟨b, off, rfl, fun i hi => ?_⟩
    have hlt := World.block_lt_of_cell? _ _ (hc i hi)
    rw [hb.cell (p := ⟨b, off + i, none⟩) (Nat.lt_of_lt_of_le hlt hB)]
    exact hc i hi
theorem Vec.drewN {w : World} {a : Option Addr} {len : Nat} {xs : List Int} (h : Vec w a len xs) (n : Nat) : Vec (w.drewN n) a len xs := h

/-- How far the copy has come. -/
def part (xs : List Int) (k : Nat) : Nat → Value := fun j => if j < k then .int .i64 (el xs j) else .int .i64 0

theorem part_start {w : World} {xs : List Int} : (w.alloc (.cells (madeCells #[.int .i64 0] xs.length) 2)).rowIs w.heap.size 2 xs.length (part xs 0) :=
  (World.rowIs_made w (.int .i64 0) xs.length 2).congr (fun j _ => by simp [part])
theorem part_step {w : World} {b : Nat} {xs : List Int} {k : Nat} (h : w.rowIs b 2 xs.length (part xs k)) : (w.setCell ⟨b, k, none⟩ (.int .i64 (el xs k))).rowIs b 2 xs.length (part xs (k + 1)) := by
  refine (h.set k _).congr (fun j _ => ?_)
  simp only [part]
  by_cases e : j = k
  · subst e; simp
  · rw [if_neg e]
    by_cases hlt : j < k
    · rw [if_pos hlt, if_pos (by omega)]
    · rw [if_neg hlt, if_neg (by omega)]
theorem part_done {w : World} {b : Nat} {xs : List Int} {k : Nat} (h : w.rowIs b 2 xs.length (part xs k)) (hk : xs.length ≤ k) : RowOf w b xs :=
  World.rowIs.congr h (fun j hj => by simp only [part]; rw [if_pos (by omega)])

/-- What the row's reading of a slice of integers comes to. -/
def IsRow (k : IntKind) (w : World) (a : Option Addr) (len cap : Nat) (zs : List Int) : Prop :=
  (a = none ∧ len = 0 ∧ cap = 0 ∧ zs = []) ∨
  ∃ x, a = some x ∧ len ≤ cap ∧ cap ≤ maxLen ∧ zs.length = cap ∧ (∀ i, i < zs.length → w.cell? (x.add i) = some (.int k (zs.getD i 0))) ∧ ∀ n ∈ zs, (Lit.int k n).wf = true

theorem IsRow.vec {w : World} {a : Option Addr} {len cap : Nat} {zs : List Int} (h : IsRow .i64 w a len cap zs) : Vec w a len (zs.take len) ∧ len ≤ cap ∧ cap ≤ maxLen := by
  rcases h with ⟨rfl, rfl, rfl, rfl⟩ | ⟨x, rfl, hl, hm, hz, hcell, hwz⟩
  · exact ⟨⟨rfl, by simp, .inl rfl⟩, Nat.le_refl _, Nat.zero_le _⟩
  · refine ⟨⟨by simp; omega, fun x hx => bounds_i64 (hwz x (List.mem_of_mem_take hx)), ?_⟩, hl, hm⟩
    by_cases h0 : len = 0
    · exact .inl h0
    · obtain ⟨b, off, spot⟩ := x
      have hc := hcell 0 (by omega)
      have hspot : spot = none := by simpa [Addr.add] using World.cell?_spot hc
      subst hspot
      refine .inr ⟨b, off, rfl, fun i hi => ?_⟩
      have := hcell i (by omega)
      have e : el (zs.take len) i = zs.getD i 0 := by simp [el, hi]
      rw [e]
      by_cases hi0 : i = 0
      · subst hi0; simpa [Addr.add] using this
      · simpa [Addr.add, hi0] using this

theorem eq_of_all {xs ys : List Int} (h : xs.length = ys.length) (he : ∀ j, j < xs.length → el xs j = el ys j) : xs = ys := by
  refine List.ext_getElem h (fun i h1 h2 => ?_)
  have := he i h1
  rwa [el_eq h1, el_eq h2] at this

end Go.Proofs.YtbnpliobigjapaaDoor

/-
  The walk of the law FnExactVectorOk: at every argument it returns true, and nothing that was there is written.
-/
namespace Go.Proofs.YtbnpliobigjapaaDoor
open Go.RowKit

theorem belowN {B n : Nat} {a w : World} (h : Below B a w) : Below B a (w.drewN n) := ⟨h.os, h.tape, h.output, h.size, h.block⟩
theorem belowN' {B n : Nat} {a w : World} (h : Below B (a.drewN n) w) : Below B a w := ⟨h.os, h.tape, h.output, h.size, h.block⟩

end Go.Proofs.YtbnpliobigjapaaDoor

/-
  The contracts of the two functions Under (the program's own and the specification's), and the walk of the law FnExactUnder.
-/
namespace Go.Proofs.YtbnpliobigjapaaDoor
open Go.RowKit

def twoB (xs ys : List Int) : Bool := okB xs && okB ys && decide (xs.length = ys.length)
def leB (xs ys : List Int) : Bool := (List.range xs.length).all (fun i => decide (el xs i ≤ el ys i))
def underB (xs ys : List Int) : Bool := twoB xs ys && leB xs ys

theorem leB_false {xs ys : List Int} {k : Nat} (hk : k < xs.length) (h : ¬ el xs k ≤ el ys k) : leB xs ys = false := by
  unfold leB; rw [List.all_eq_false]; exact ⟨k, List.mem_range.2 hk, by simpa using h⟩
theorem leB_true {xs ys : List Int} (h : ∀ j, j < xs.length → el xs j ≤ el ys j) : leB xs ys = true := by
  unfold leB; rw [List.all_eq_true]; intro j hj; simpa using h j (List.mem_range.1 hj)
theorem okB_len {xs : List Int} (h : okB xs = true) : 1 ≤ xs.length ∧ xs.length ≤ 8 := by
  unfold okB at h; simp only [Bool.and_eq_true, decide_eq_true_eq] at h; exact h.1
theorem twoB_true {xs ys : List Int} (h : twoB xs ys = true) : okB xs = true ∧ okB ys = true ∧ xs.length = ys.length := by
  unfold twoB at h; simp only [Bool.and_eq_true, decide_eq_true_eq] at h; exact ⟨h.1.1, h.1.2, h.2⟩
theorem Vec.cells {w : World} {a : Option Addr} {len : Nat} {xs : List Int} (h : Vec w a len xs) (h1 : 1 ≤ len) :
    ∃ b off, a = some ⟨b, off, none⟩ ∧ ∀ i, i < len → w.cell? ⟨b, off + i, none⟩ = some (.int .i64 (el xs i)) := by
  obtain ⟨_, _, h0 | h⟩ := h
  · omega
  · exact h

end Go.Proofs.YtbnpliobigjapaaDoor

/-
  The contracts of the functions Least and Sum (the program's own and the specification's), and the walks of the laws FnExactLeast and FnExactSum.
-/
namespace Go.Proofs.YtbnpliobigjapaaDoor
open Go.RowKit

def leastB (xs : List Int) : Int := if okB xs = true then loL (el xs 0) xs.tail else -1
def sumL (xs : List Int) : Int := xs.foldl (· + ·) 0
def sumB (xs : List Int) : Int := if okB xs = true then sumL xs else -1

theorem sumL_snoc (xs : List Int) (y : Int) : sumL (xs ++ [y]) = sumL xs + y := by simp [sumL]
theorem okB_el {xs : List Int} (h : okB xs = true) {i : Nat} (hi : i < xs.length) : 0 ≤ el xs i ∧ el xs i ≤ 1000000 := by
  unfold okB inB at h; simp only [Bool.and_eq_true, decide_eq_true_eq, List.all_eq_true] at h
  exact h.2 _ (el_mem hi)
theorem sumL_take {xs : List Int} (h : okB xs = true) (k : Nat) (hk : k ≤ xs.length) : 0 ≤ sumL (xs.take k) ∧ sumL (xs.take k) ≤ 1000000 * k := by
  induction k with
  | zero => simp [sumL]
  | succ k ih =>
    have := ih (by omega)
    have hb := okB_el h (i := k) (by omega)
    rw [take_snoc (by omega), sumL_snoc]
    omega
theorem loL_self {xs : List Int} (h : 1 ≤ xs.length) : loL (el xs 0) xs = loL (el xs 0) xs.tail := by
  match xs, h with
  | x :: l, _ => simp [loL, el]

end Go.Proofs.YtbnpliobigjapaaDoor

/-
  The contracts of the specification's Join and Meet: a new row of the greater (the less) of each two numbers; of what is no pair of vectors, a new row of none. And of the laws' own helpers that write marks into a row and look whether they are held.
-/
namespace Go.Proofs.YtbnpliobigjapaaDoor
open Go.RowKit

/-- The first k answers of f at each two numbers. -/
def jn (f : Int → Int → Int) (xs ys : List Int) (k : Nat) : List Int := (List.range k).map (fun i => f (el xs i) (el ys i))
def pairB (f : Int → Int → Int) (xs ys : List Int) : List Int := if twoB xs ys = true then jn f xs ys xs.length else []

theorem jn_succ (f : Int → Int → Int) (xs ys : List Int) (k : Nat) : jn f xs ys (k + 1) = jn f xs ys k ++ [f (el xs k) (el ys k)] := by simp [jn, List.range_succ]
theorem jn_length (f : Int → Int → Int) (xs ys : List Int) (k : Nat) : (jn f xs ys k).length = k := by simp [jn]
theorem jn_el (f : Int → Int → Int) (xs ys : List Int) {n k : Nat} (h : k < n) : el (jn f xs ys n) k = f (el xs k) (el ys k) := by simp [jn, el, h]
theorem pairB_len (f : Int → Int → Int) (xs ys : List Int) : (pairB f xs ys).length ≤ 8 := by
  unfold pairB
  by_cases h : twoB xs ys = true
  · rw [if_pos h, jn_length]; exact (okB_len (twoB_true h).1).2
  · rw [if_neg h]; simp

/-- Block g is an array of the call's own with room for cap numbers, of which the first are zs. -/
def OwnAt (w : World) (g cap : Nat) (zs : List Int) : Prop :=
  zs.length ≤ cap ∧ cap ≤ maxLen ∧ ∃ cur, w.heap[g]? = some (.cells cur 2 (0, 0)) ∧ cur.size = cap ∧ ∀ i, i < zs.length → cur[i]? = some (.int .i64 (el zs i))

theorem OwnAt.lt {w : World} {g cap : Nat} {zs : List Int} (h : OwnAt w g cap zs) : g < w.heap.size := by
  obtain ⟨_, _, c, hb, _⟩ := h
  obtain ⟨hlt, _⟩ := Array.getElem?_eq_some_iff.1 hb
  exact hlt
theorem OwnAt.of_block {w w' : World} {g cap : Nat} {zs : List Int} (h : OwnAt w g cap zs) (e : w'.heap[g]? = w.heap[g]?) : OwnAt w' g cap zs := by
  obtain ⟨h1, h2, c, hb, h3⟩ := h
  exact ⟨h1, h2, c, e.trans hb, h3⟩
theorem OwnAt.below {w w' : World} {g cap B : Nat} {zs : List Int} (h : OwnAt w g cap zs) (hb : Below B w w') (hg : g < B) : OwnAt w' g cap zs := h.of_block (hb.block g hg)
theorem OwnAt.drewN {w : World} {g cap : Nat} {zs : List Int} (h : OwnAt w g cap zs) (n : Nat) : OwnAt (w.drewN n) g cap zs := h
theorem OwnAt.cell {w : World} {g cap : Nat} {zs : List Int} (h : OwnAt w g cap zs) {i : Nat} (hi : i < zs.length) : w.cell? ⟨g, i, none⟩ = some (.int .i64 (el zs i)) := by
  obtain ⟨_, _, c, hb, _, hc⟩ := h
  simp [World.cell?, hb, hc i hi]
theorem OwnAt.frozen {w : World} {g cap : Nat} {zs : List Int} (h : OwnAt w g cap zs) (i : Nat) : w.frozen? ⟨g, i, none⟩ = false := by
  obtain ⟨_, _, c, hb, _⟩ := h
  simp [World.frozen?, hb]
theorem OwnAt.vec {w : World} {g cap : Nat} {zs : List Int} (h : OwnAt w g cap zs) (hf : Fits zs) : Vec w (some ⟨g, 0, none⟩) zs.length zs :=
  ⟨rfl, hf, .inr ⟨g, 0, rfl, fun i hi => by rw [Nat.zero_add]; exact h.cell hi⟩⟩
theorem OwnAt.set {w : World} {g cap : Nat} {zs : List Int} (h : OwnAt w g cap zs) (i : Nat) (y : Int) : OwnAt (w.setCell ⟨g, i, none⟩ (.int .i64 y)) g cap (zs.set i y) := by
  obtain ⟨h1, h2, c, hb, hs, hc⟩ := h
  refine ⟨by simpa using h1, h2, c.setIfInBounds i (.int .i64 y), ?_, by simpa using hs, fun j hj => ?_⟩
  · simp [World.setCell, Array.getElem?_modify, hb]
  · rw [List.length_set] at hj
    rw [Array.getElem?_setIfInBounds]
    by_cases e : i = j
    · subst e; simp [el, hj]; omega
    · rw [if_neg e, hc j hj]; simp [el, e]
theorem RowOf.own {w : World} {b : Nat} {xs : List Int} (h : RowOf w b xs) (hm : xs.length ≤ maxLen) : OwnAt w b xs.length xs := by
  obtain ⟨c, hb, hn, hc⟩ := h
  exact ⟨Nat.le_refl _, hm, c, hb, hn, hc⟩
theorem own_of_ownsRow {w : World} {base : Nat} {v : Value} {zs : List Int} {n : Nat} (h : w.ownsRow base 2 1 v n (zs.map (Value.int .i64))) (hn : n = zs.length) (h1 : 1 ≤ n) :
    ∃ g cap, v = .slice (some ⟨g, 0, none⟩) zs.length cap ∧ base ≤ g ∧ OwnAt w g cap zs := by
  subst hn
  rcases h.2 with ⟨_, h0⟩ | ⟨g, cap, cur, hv, hb, hg, hle, hm, hs, ht⟩
  · omega
  · refine ⟨g, cap, hv, hb, hle, hm, cur, hg, by omega, fun i hi => ?_⟩
    have hi' : i < cur.toList.length := by simp; omega
    have e : (cur.toList.take (zs.length * 1))[i]? = (zs.map (Value.int .i64))[i]? := by rw [ht]
    rw [List.getElem?_take] at e
    rw [if_pos (by omega)] at e
    simp at e
    rw [e]; simp [el, hi]
theorem own_empty (w : World) : OwnAt (w.alloc (.cells #[] 2)) w.heap.size 0 [] :=
  ⟨Nat.le_refl _, Nat.zero_le _, #[], heap_alloc_new w _, rfl, fun _ hi => absurd hi (Nat.not_lt_zero _)⟩
theorem owns_empty (w : World) : (w.alloc (.cells #[] 2)).ownsRow w.heap.size 2 1 (.slice (some ⟨w.heap.size, 0, none⟩) 0 0) 0 [] :=
  ⟨rfl, .inr ⟨w.heap.size, 0, #[], rfl, Nat.le_refl _, heap_alloc_new w _, Nat.le_refl _, Nat.zero_le _, rfl, rfl⟩⟩
theorem owns_ne {w : World} {base b n : Nat} {v : Value} {l : List Value} (h : w.ownsRow base 2 1 v n l) (hb : b < base) : v.ownBlock ≠ some b := by
  intro e; have := (h.lt b e).1; omega

attribute [local go_sem ↓] Go.wp_at_zero Go.wp_at_succ

/-- Block g alone has been written. -/
structure Touch (g : Nat) (w w' : World) : Prop where
  os : w'.os = w.os
  tape : w'.tape = w.tape
  output : w'.output = w.output
  size : w'.heap.size = w.heap.size
  block : ∀ k, k ≠ g → w'.heap[k]? = w.heap[k]?
theorem Touch.refl (g : Nat) (w : World) : Touch g w w := ⟨rfl, rfl, rfl, rfl, fun _ _ => rfl⟩
theorem Touch.set {g : Nat} {w w' : World} (h : Touch g w w') (i : Nat) (u : Value) : Touch g w (w'.setCell ⟨g, i, none⟩ u) :=
  ⟨h.os, h.tape, h.output, by simp [World.setCell, h.size], fun k hk => (Below.heap_setCell _ _ _ _ hk).trans (h.block k hk)⟩
theorem Touch.below {g B : Nat} {w w' : World} (h : Touch g w w') (hg : B ≤ g) : Below B w w' :=
  ⟨h.os, h.tape, h.output, Nat.le_of_eq h.size.symm, fun k hk => h.block k (by omega)⟩
theorem OwnAt.touch {w w' : World} {g g' cap : Nat} {zs : List Int} (h : OwnAt w g cap zs) (ht : Touch g' w w') (hne : g ≠ g') : OwnAt w' g cap zs := h.of_block (ht.block g hne)

def mk (zs : List Int) (k0 j : Nat) : List Int := (List.range zs.length).map (fun i => if i < j then ((k0 + i : Nat) : Int) else el zs i)
def marks (n k0 : Nat) : List Int := (List.range n).map (fun i => ((k0 + i : Nat) : Int))
theorem mk_zero (zs : List Int) (k0 : Nat) : mk zs k0 0 = zs := by
  refine eq_of_all (by simp [mk]) (fun j hj => ?_)
  simp [mk] at hj
  simp [mk, el, hj]
theorem mk_len (zs : List Int) (k0 j : Nat) : (mk zs k0 j).length = zs.length := by simp [mk]
theorem mk_step (zs : List Int) (k0 j : Nat) : (mk zs k0 j).set j ((k0 + j : Nat) : Int) = mk zs k0 (j + 1) := by
  refine List.ext_getElem (by simp [mk]) (fun i h1 h2 => ?_)
  rw [List.getElem_set]
  simp only [mk, List.getElem_map, List.getElem_range]
  by_cases e : j = i
  · subst e; simp
  · rw [if_neg e]
    by_cases hlt : i < j
    · rw [if_pos hlt, if_pos (by omega)]
    · rw [if_neg hlt, if_neg (by omega)]
theorem mk_done (zs : List Int) (k0 : Nat) : mk zs k0 zs.length = marks zs.length k0 := by
  refine List.ext_getElem (by simp [mk, marks]) (fun i h1 h2 => ?_)
  simp [mk] at h1
  simp [mk, marks, h1]
theorem marks_len (n k0 : Nat) : (marks n k0).length = n := by simp [marks]
theorem marks_el {n k0 i : Nat} (h : i < n) : el (marks n k0) i = ((k0 + i : Nat) : Int) := by simp [marks, el, h]

end Go.Proofs.YtbnpliobigjapaaDoor

/-
  The contracts of the program's Join and Meet, and the walks of the laws FnExactJoin and FnExactMeet.
-/
namespace Go.Proofs.YtbnpliobigjapaaDoor
open Go.RowKit

theorem one_vec (w : World) (y : Int) (hy : -9223372036854775808 ≤ y ∧ y ≤ 9223372036854775807) : Vec (w.alloc (.cells #[.int .i64 y] 2)) (some ⟨w.heap.size, 0, none⟩) 1 [y] := by
  refine ⟨rfl, by simpa using hy, .inr ⟨w.heap.size, 0, rfl, fun i hi => ?_⟩⟩
  have : i = 0 := by omega
  subst this
  simp [el]
theorem hiL_one (x y : Int) : hiL x [y] = max x y := rfl
theorem loL_one (x y : Int) : loL x [y] = min x y := rfl

end Go.Proofs.YtbnpliobigjapaaDoor

/-
  The walks of the laws FnExactJoin and FnExactMeet: at every two arguments they return true, and nothing that was there is written.
-/
namespace Go.Proofs.YtbnpliobigjapaaDoor
open Go.RowKit

theorem pairB_fits (f : Int → Int → Int) (hf : ∀ x y, f x y = x ∨ f x y = y) (xs ys : List Int) : Fits (pairB f xs ys) := by
  unfold pairB
  cases h : twoB xs ys
  · intro x hx; simp at hx
  · obtain ⟨ox, oy, hl⟩ := twoB_true h
    intro x hx
    simp only [if_true, jn, List.mem_map, List.mem_range] at hx
    obtain ⟨i, hi, rfl⟩ := hx
    have h1 := okB_el ox hi
    have h2 := okB_el oy (i := i) (by omega)
    rcases hf (el xs i) (el ys i) with e | e <;> rw [e] <;> omega
theorem max_or (x y : Int) : max x y = x ∨ max x y = y := by omega
theorem min_or (x y : Int) : min x y = x ∨ min x y = y := by omega
theorem marks_fits (n k0 : Nat) (h : k0 + n ≤ 100000000) : Fits (marks n k0) := by
  intro x hx
  simp only [marks, List.mem_map, List.mem_range] at hx
  obtain ⟨i, hi, rfl⟩ := hx
  omega

/-- What the law holds of the four rows of its own, as the world goes on. -/
structure Four (w cur : World) (b0 b1 g c d e n0 n1 : Nat) (X0 X1 Z : List Int) : Prop where
  below : Below w.heap.size w cur
  x0 : OwnAt cur b0 n0 X0
  x1 : OwnAt cur b1 n1 X1
  got : OwnAt cur g c Z
  want : OwnAt cur d e Z
theorem Four.step {w cur next : World} {b0 b1 g c d e n0 n1 : Nat} {X0 X1 Z : List Int} (h : Four w cur b0 b1 g c d e n0 n1 X0 X1 Z) (hb : Below cur.heap.size cur next) : Four w next b0 b1 g c d e n0 n1 X0 X1 Z :=
  ⟨h.below.trans (hb.mono h.below.size), h.x0.below hb h.x0.lt, h.x1.below hb h.x1.lt, h.got.below hb h.got.lt, h.want.below hb h.want.lt⟩
theorem Four.drewN {w cur : World} {b0 b1 g c d e n0 n1 : Nat} {X0 X1 Z : List Int} (h : Four w cur b0 b1 g c d e n0 n1 X0 X1 Z) (n : Nat) : Four w (cur.drewN n) b0 b1 g c d e n0 n1 X0 X1 Z :=
  ⟨belowN h.below, h.x0, h.x1, h.got, h.want⟩

end Go.Proofs.YtbnpliobigjapaaDoor
