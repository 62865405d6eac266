/-
  slices.SortFunc as the program's Order calls it.
-/
import Derived.Test.YtehnnfpjdfffcaaOcl
import Derived.Test.YtehnnfpjdfffcaaPin
import Derived.Lib.SortBridge
namespace Go.Proofs.Ytehnnfpjdfffcaa
set_option linter.unusedSimpArgs false
set_option linter.unusedVariables false
open Go.RowKit Go.Sort Go.Shelf

/-- The numbers below n. -/
abbrev Num (n : Nat) : Type := { i : Nat // i < n }
def nums (n : Nat) : List (Num n) := (List.range n).attach.map (fun x => ⟨x.1, List.mem_range.1 x.2⟩)
theorem nums_val (n : Nat) : (nums n).map (·.val) = List.range n := by
  unfold nums
  rw [List.map_map]
  have : ((fun x : Num n => x.val) ∘ fun x : { x // x ∈ List.range n } => (⟨x.1, List.mem_range.1 x.2⟩ : Num n)) = Subtype.val := rfl
  rw [this, List.attach_map_subtype_val]
theorem nums_len (n : Nat) : (nums n).length = n := by have := congrArg List.length (nums_val n); simpa using this
theorem nums_get {n j : Nat} (h : j < (nums n).length) : ((nums n)[j]).val = j := by
  have h1 : ((nums n).map (·.val))[j]? = (List.range n)[j]? := by rw [nums_val]
  have hn : j < n := by rwa [nums_len] at h
  rw [List.getElem?_map, List.getElem?_eq_getElem h, List.getElem?_range hn] at h1
  simpa using h1
def encN (n : Nat) (x : Num n) : Value := .int .i64 (x.val : Int)
def cfN (es : List Ev) (n : Nat) (x y : Num n) : Int := orI (Lib.compareInt (st es x.val) (st es y.val)) (Lib.compareInt (evAt es x.val).n (evAt es y.val).n)
theorem ltN (es : List Ev) (n : Nat) (x y : Num n) : ltOf (cfN es n) x y = before es x.val y.val := by
  unfold ltOf cfN orI Lib.compareInt
  rw [Bool.eq_iff_iff, before_iff, decide_eq_true_eq]
  by_cases h1 : st es x.val < st es y.val
  · simp [h1]
  · by_cases h2 : st es y.val < st es x.val
    · simp [h1, h2]; omega
    · have h3 : st es x.val = st es y.val := by omega
      by_cases h4 : (evAt es x.val).n < (evAt es y.val).n
      · simp [h3, h4]
      · by_cases h5 : (evAt es y.val).n < (evAt es x.val).n <;> simp [h3, h4, h5]
theorem swoN (es : List Ev) (n : Nat) : SWO (ltOf (cfN es n)) where
  irrefl x := by rw [ltN]; exact before_irrefl es x.val
  trans x y z h1 h2 := by rw [ltN] at *; exact before_trans h1 h2
  ntrans x y z h1 h2 := by
    rw [ltN] at *
    cases hb : before es x.val z.val with
    | false => rfl
    | true =>
      have h1' : ¬ _ := fun h => by rw [before_iff.2 h] at h1; cases h1
      have h2' : ¬ _ := fun h => by rw [before_iff.2 h] at h2; cases h2
      rw [before_iff] at hb
      omega
theorem totN (es : List Ev) (n : Nat) (x y : Num n) (h1 : ltOf (cfN es n) x y = false) (h2 : ltOf (cfN es n) y x = false) : x = y := by
  rw [ltN] at *
  exact Subtype.ext (before_total h1 h2)
theorem sorted_order (es : List Ev) (n : Nat) : IsOrder es n (((nums n).mergeSort (fun x y => !(ltOf (cfN es n)) y x)).map (·.val)) := by
  have hp : (((nums n).mergeSort (fun x y => !(ltOf (cfN es n)) y x)).map (·.val)).Perm (List.range n) := by
    have := (List.mergeSort_perm (nums n) (fun x y => !(ltOf (cfN es n)) y x)).map (·.val)
    rwa [nums_val] at this
  refine ⟨hp, ?_⟩
  have hs := List.pairwise_mergeSort (le := fun x y => !(ltOf (cfN es n)) y x) (fun a b c h1 h2 => by
    simp only [Bool.not_eq_true'] at *
    exact (swoN es n).ntrans _ _ _ h2 h1) (fun a b => by
    simp only [Bool.or_eq_true, Bool.not_eq_true']
    cases h : ltOf (cfN es n) b a with
    | false => exact .inl rfl
    | true =>
      right
      cases h' : ltOf (cfN es n) a b with
      | false => rfl
      | true => have := (swoN es n).trans _ _ _ h h'; rw [(swoN es n).irrefl] at this; cases this) (nums n)
  have hnd : (((nums n).mergeSort (fun x y => !(ltOf (cfN es n)) y x)).map (·.val)).Nodup := hp.nodup_iff.2 List.nodup_range
  rw [List.Nodup, List.pairwise_map] at hnd
  rw [List.pairwise_map]
  refine (hs.and hnd).imp ?_
  rintro a b ⟨h1, h2⟩
  simp only [Bool.not_eq_true', ltN] at h1
  cases hb : before es a.val b.val with
  | true => rfl
  | false => exact absurd (before_total hb h1) h2

theorem sortWorld_far {α : Type} [Inhabited α] (enc : α → Value) (w : World) (blk off m : Nat) (dk : Array α) (os : Array Obj) (x : Addr) (v : Value) (hx : w.cell? x = some v) (hne : x.block ≠ blk) : (sortWorld enc w blk off m dk os).cell? x = some v := by
  have hlt := World.block_lt_of_cell? _ _ hx
  unfold sortWorld
  have hs : (putRow enc (Sort.ahead w m) blk off dk).heap.size = w.heap.size := by simp [putRow, mapBlock, Sort.ahead]
  rw [cell?_grow _ _ _ (by rw [hs]; exact hlt)]
  rw [← hx]
  refine World.cell?_of_block (w := w) ?_
  simp [putRow, mapBlock, Sort.ahead, Array.getElem?_modify, Ne.symm hne]
end Go.Proofs.Ytehnnfpjdfffcaa
