/-
  The words that the walks of chapter 1 share: what it is for a slice value to hold a list of int64 numbers in a world, and the plain functions that the Go functions are held against.
-/
import Derived.Test.YtacogcfdolmfpaaRows
import Derived.WalkKit
import Derived.ProofKit
import Derived.Below
import Derived.Lib.MinMax
import Derived.Deep.QuietTactic
import Derived.BigQuiet
import Derived.WalkLawsBesides
namespace Go.Proofs.Ytacogcfdolmfpaa
open Go.RowKit

def el (xs : List Int) (i : Nat) : Int := xs.getD i 0

/-- The slice value with the address a and the length len holds the numbers xs in w. -/
def Vec (w : World) (a : Option Addr) (len : Nat) (xs : List Int) : Prop :=
  xs.length = len ∧ (∀ x ∈ xs, -9223372036854775808 ≤ x ∧ x ≤ 9223372036854775807) ∧
    (len = 0 ∨ ∃ b off, a = some ⟨b, off, none⟩ ∧ ∀ i, i < len → w.cell? ⟨b, off + i, none⟩ = some (.int .i64 (el xs i)))

theorem ret_bool {a b : Bool} (h : a = b) : Ending.returned (.bool a) = .returned (.bool b) := by rw [h]
theorem ret_int {k : IntKind} {a b : Int} (h : a = b) : Ending.returned (.int k a) = .returned (.int k b) := by rw [h]

def inB (x lo hi : Int) : Bool := decide (lo ≤ x) && decide (x ≤ hi)
def okB (xs : List Int) : Bool := decide (1 ≤ xs.length) && decide (xs.length ≤ 8) && xs.all (fun x => inB x 0 1000000)
def loL (x : Int) (xs : List Int) : Int := xs.foldl min x
def hiL (x : Int) (xs : List Int) : Int := xs.foldl max x

theorem el_eq {xs : List Int} {i : Nat} (h : i < xs.length) : el xs i = xs[i] := by simp [el, h]
theorem el_mem {xs : List Int} {i : Nat} (h : i < xs.length) : el xs i ∈ xs := by
  rw [el_eq h]; exact List.getElem_mem h
theorem take_snoc {xs : List Int} {k : Nat} (h : k < xs.length) : xs.take (k + 1) = xs.take k ++ [el xs k] := by
  rw [List.take_succ_eq_append_getElem h, el_eq h]
theorem loL_snoc (x : Int) (xs : List Int) (y : Int) : loL x (xs ++ [y]) = min (loL x xs) y := by simp [loL]
theorem hiL_snoc (x : Int) (xs : List Int) (y : Int) : hiL x (xs ++ [y]) = max (hiL x xs) y := by simp [hiL]
theorem okB_false_len {xs : List Int} (h : xs.length < 1 ∨ 8 < xs.length) : okB xs = false := by
  unfold okB; rcases h with h | h <;> simp <;> omega
theorem okB_false_at {xs : List Int} {k : Nat} (hk : k < xs.length) (h : inB (el xs k) 0 1000000 = false) : okB xs = false := by
  unfold okB
  have : (xs.all fun x => inB x 0 1000000) = false := by
    rw [List.all_eq_false]; exact ⟨_, el_mem hk, by simp [h]⟩
  simp [this]
theorem okB_true_of {xs : List Int} (h1 : 1 ≤ xs.length) (h8 : xs.length ≤ 8) (h : ∀ j, j < xs.length → inB (el xs j) 0 1000000 = true) : okB xs = true := by
  unfold okB
  have : (xs.all fun x => inB x 0 1000000) = true := by
    rw [List.all_eq_true]; intro x hx
    obtain ⟨i, hi, rfl⟩ := List.getElem_of_mem hx
    have := h i hi
    rwa [el_eq hi] at this
  simp [this, h1, h8]

set_option maxHeartbeats 400000 in
theorem l1In_any (x lo hi : Int) (w : World) :
    Calls Try.prog 82 #[.int .i64 x, .int .i64 lo, .int .i64 hi] w fun e w' => e = .returned (.bool (inB x lo hi)) ∧ w' = w := by
  unfold inB
  by_cases h : lo ≤ x
  · go_enter Try.func82, Try.ntmps82
    go_wp2
    go_ret
    exact ⟨ret_bool (by simp [h]), rfl⟩
  · have h' : decide (lo ≤ x) = false := by simpa using h
    go_enter Try.func82, Try.ntmps82
    go_wp2
    go_ret
    exact ⟨ret_bool (by simp), rfl⟩
end Go.Proofs.Ytacogcfdolmfpaa
