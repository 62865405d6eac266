/-
  Several texts in one: Base Vok Copy LawVok Und Ends JoinSpec JoinImpl LawJoin.
-/
import Derived.Test.YtgaibngaincahaaRows
import Derived.WalkKit
import Derived.ProofKit
import Derived.Below
import Derived.Lib.MinMax
import Derived.Deep.QuietTactic
import Derived.BigQuiet
import Derived.WalkLawsBesides
import Derived.Deep.OwnRows
import Derived.OpenShut
import Derived.Deep.AppendLies
import Derived.Deep.RegionHeld3
import Derived.Deep.DrawnRows
/-
  The words that the walks of chapter 1 share: what it is for a slice value to hold a list of int64 numbers in a world, and the plain functions that the Go functions are held against.
-/
namespace Go.Proofs.Ytgaibngaincahaa
open Go.RowKit

def el (xs : List Int) (i : Nat) : Int := xs.getD i 0

/-- The slice value with the address a and the length len holds the numbers xs in w. -/
def Vec (w : World) (a : Option Addr) (len : Nat) (xs : List Int) : Prop :=
  xs.length = len ∧ (∀ x ∈ xs, -9223372036854775808 ≤ x ∧ x ≤ 9223372036854775807) ∧
    (len = 0 ∨ ∃ b off, a = some ⟨b, off, none⟩ ∧ ∀ i, i < len → w.cell? ⟨b, off + i, none⟩ = some (.int .i64 (el xs i)))

theorem ret_bool {a b : Bool} (h : a = b) : Ending.returned (.bool a) = .returned (.bool b) := by rw [h]
theorem ret_int {k : IntKind} {a b : Int} (h : a = b) : Ending.returned (.int k a) = .returned (.int k b) := by rw [h]

def inB (x lo hi : Int) : Bool := decide (lo ≤ x) && decide (x ≤ hi)
def okB (xs : List Int) : Bool := decide (1 ≤ xs.length) && decide (xs.length ≤ 8) && xs.all (fun x => inB x 0 1000000)
def loL (x : Int) (xs : List Int) : Int := xs.foldl min x
def hiL (x : Int) (xs : List Int) : Int := xs.foldl max x

theorem el_eq {xs : List Int} {i : Nat} (h : i < xs.length) : el xs i = xs[i] := by simp [el, h]
theorem el_mem {xs : List Int} {i : Nat} (h : i < xs.length) : el xs i ∈ xs := by
  rw [el_eq h]; exact List.getElem_mem h
theorem take_snoc {xs : List Int} {k : Nat} (h : k < xs.length) : xs.take (k + 1) = xs.take k ++ [el xs k] := by
  rw [List.take_succ_eq_append_getElem h, el_eq h]
theorem loL_snoc (x : Int) (xs : List Int) (y : Int) : loL x (xs ++ [y]) = min (loL x xs) y := by simp [loL]
theorem hiL_snoc (x : Int) (xs : List Int) (y : Int) : hiL x (xs ++ [y]) = max (hiL x xs) y := by simp [hiL]
theorem okB_false_len {xs : List Int} (h : xs.length < 1 ∨ 8 < xs.length) : okB xs = false := by
  unfold okB; rcases h with h | h <;> simp <;> omega
theorem okB_false_at {xs : List Int} {k : Nat} (hk : k < xs.length) (h : inB (el xs k) 0 1000000 = false) : okB xs = false := by
  unfold okB
  have : (xs.all fun x => inB x 0 1000000) = false := by
    rw [List.all_eq_false]; exact ⟨_, el_mem hk, by simp [h]⟩
  simp [this]
theorem okB_true_of {xs : List Int} (h1 : 1 ≤ xs.length) (h8 : xs.length ≤ 8) (h : ∀ j, j < xs.length → inB (el xs j) 0 1000000 = true) : okB xs = true := by
  unfold okB
  have : (xs.all fun x => inB x 0 1000000) = true := by
    rw [List.all_eq_true]; intro x hx
    obtain ⟨i, hi, rfl⟩ := List.getElem_of_mem hx
    have := h i hi
    rwa [el_eq hi] at this
  simp [this, h1, h8]

set_option maxHeartbeats 400000 in
theorem l1In_any (x lo hi : Int) (w : World) :
    Calls Try.prog 62 #[.int .i64 x, .int .i64 lo, .int .i64 hi] w fun e w' => e = .returned (.bool (inB x lo hi)) ∧ w' = w := by
  unfold inB
  by_cases h : lo ≤ x
  · go_enter Try.func62, Try.ntmps62
    go_wp2
    go_ret
    exact ⟨ret_bool (by simp [h]), rfl⟩
  · have h' : decide (lo ≤ x) = false := by simpa using h
    go_enter Try.func62, Try.ntmps62
    go_wp2
    go_ret
    exact ⟨ret_bool (by simp), rfl⟩
end Go.Proofs.Ytgaibngaincahaa

/-
  The contracts of the two functions VectorOk (the program's own and the specification's) and of the helpers least and greatest that the program's own goes by.
-/
namespace Go.Proofs.Ytgaibngaincahaa
open Go.RowKit

set_option maxHeartbeats 400000 in
theorem specOk_any (a : Option Addr) (len cap : Nat) (xs : List Int) (w : World) (hv : Vec w a len xs) (hm : len ≤ maxLen) :
    Calls Try.prog 25 #[.slice a len cap] w fun e w' => e = .returned (.bool (okB xs)) ∧ w' = w := by
  unfold maxLen at hm
  obtain ⟨hlen, hb, hcs⟩ := hv
  by_cases h1 : (len : Int) < 1
  · go_enter Try.func25, Try.ntmps25
    go_wp2
    go_ret
    exact ⟨ret_bool (by rw [okB_false_len (by omega)]), rfl⟩
  · have h1' : decide ((len : Int) < 1) = false := by simpa using h1
    by_cases h8 : (8 : Int) < (len : Int)
    · go_enter Try.func25, Try.ntmps25
      go_wp2
      go_ret
      exact ⟨ret_bool (by rw [okB_false_len (by omega)]), rfl⟩
    · have h8' : decide ((8 : Int) < (len : Int)) = false := by simpa using h8
      rcases hcs with h0 | ⟨b, off, rfl, hc⟩
      · omega
      · have HL : Hid (xs.length = len) := hlen
        clear hlen
        go_enter Try.func25, Try.ntmps25
        go_wp2
        go_loop [3] (fun i => ∃ k : Nat, k ≤ len ∧ i = .int .i64 k ∧ ∀ j, j < k → inB (el xs j) 0 1000000 = true) (fun i => len - (intOf i).toNat)
        case atStart => exact ⟨0, Nat.zero_le _, rfl, fun j hj => by omega⟩
        case round =>
          obtain ⟨k, hk, rfl, hall⟩ := hrel
          have HA : Hid (∀ j, j < k → inB (el xs j) 0 1000000 = true) := hall
          clear hall
          by_cases hlt : k < len
          · have hck := hc k hlt
            cases hin : inB (el xs k) 0 1000000
            · go_wp2_with (go_at_call 62; refine (l1In_any _ _ _ _).mono ?_; rintro e w' ⟨rfl, rfl⟩)
              go_ret
              exact ⟨ret_bool (by rw [okB_false_at (by rw [HL.out]; exact hlt) hin]), rfl⟩
            · go_wp2_with (go_at_call 62; refine (l1In_any _ _ _ _).mono ?_; rintro e w' ⟨rfl, rfl⟩)
              go_round
              case rel => exact ⟨k + 1, by omega, by go_num, fun j hj => by
                rcases Nat.lt_succ_iff_lt_or_eq.1 hj with h | h
                · exact HA.out j h
                · rw [h]; exact hin⟩
              case measure => simp [intOf]; omega
          · go_wp2
            go_ret
            exact ⟨ret_bool (by rw [okB_true_of (by rw [HL.out]; omega) (by rw [HL.out]; omega) (fun j hj => HA.out j (by rw [HL.out] at hj; omega))]), rfl⟩

set_option maxHeartbeats 400000 in
theorem least_any (x : Int) (a : Option Addr) (len cap : Nat) (xs : List Int) (w : World) (hv : Vec w a len xs) (hm : len ≤ maxLen) :
    Calls Try.prog 50 #[.int .i64 x, .slice a len cap] w fun e w' => e = .returned (.int .i64 (loL x xs)) ∧ w' = w := by
  unfold maxLen at hm
  obtain ⟨hlen, hb, hcs⟩ := hv
  have HL : Hid (xs.length = len) := hlen
  clear hlen hb
  rcases hcs with h0 | ⟨b, off, rfl, hc⟩
  all_goals
    go_enter Try.func50, Try.ntmps50
    go_wp2
    go_loop [5, 7, 11] (fun m n i => ∃ k : Nat, k ≤ len ∧ i = .int .i64 k ∧ m = .int .i64 (loL x (xs.take k))) (fun _ _ i => len - (intOf i).toNat)
    case atStart => exact ⟨0, Nat.zero_le _, rfl, rfl⟩
    case round =>
      obtain ⟨k, hk, rfl, rfl⟩ := hrel
      by_cases hlt : k < len
      · first
          | omega
          | (have hck := hc k hlt
             have HS : Hid (loL x (xs.take (k + 1)) = min (loL x (xs.take k)) (el xs k)) := by
               rw [Hid, take_snoc (by rw [HL.out]; exact hlt), loL_snoc]
             go_wp2
             go_round
             case rel => exact ⟨k + 1, by omega, by go_num, by rw [HS.out]⟩
             case measure => simp [intOf]; omega)
      · go_wp2
        go_ret
        exact ⟨ret_int (by rw [List.take_of_length_le (by rw [HL.out]; omega)]), rfl⟩
set_option maxHeartbeats 400000 in
theorem greatest_any (x : Int) (a : Option Addr) (len cap : Nat) (xs : List Int) (w : World) (hv : Vec w a len xs) (hm : len ≤ maxLen) :
    Calls Try.prog 49 #[.int .i64 x, .slice a len cap] w fun e w' => e = .returned (.int .i64 (hiL x xs)) ∧ w' = w := by
  unfold maxLen at hm
  obtain ⟨hlen, hb, hcs⟩ := hv
  have HL : Hid (xs.length = len) := hlen
  clear hlen hb
  rcases hcs with h0 | ⟨b, off, rfl, hc⟩
  all_goals
    go_enter Try.func49, Try.ntmps49
    go_wp2
    go_loop [5, 7, 11] (fun m n i => ∃ k : Nat, k ≤ len ∧ i = .int .i64 k ∧ m = .int .i64 (hiL x (xs.take k))) (fun _ _ i => len - (intOf i).toNat)
    case atStart => exact ⟨0, Nat.zero_le _, rfl, rfl⟩
    case round =>
      obtain ⟨k, hk, rfl, rfl⟩ := hrel
      by_cases hlt : k < len
      · first
          | omega
          | (have hck := hc k hlt
             have HS : Hid (hiL x (xs.take (k + 1)) = max (hiL x (xs.take k)) (el xs k)) := by
               rw [Hid, take_snoc (by rw [HL.out]; exact hlt), hiL_snoc]
             go_wp2
             go_round
             case rel => exact ⟨k + 1, by omega, by go_num, by rw [HS.out]⟩
             case measure => simp [intOf]; omega)
      · go_wp2
        go_ret
        exact ⟨ret_int (by rw [List.take_of_length_le (by rw [HL.out]; omega)]), rfl⟩

/-- The slice behind the first number, as a slice expression makes it. -/
theorem Vec.tail {w : World} {b off len cap : Nat} {xs : List Int} (hlen : xs.length = len) (hb : ∀ x ∈ xs, -9223372036854775808 ≤ x ∧ x ≤ 9223372036854775807)
    (hc : ∀ i, i < len → w.cell? ⟨b, off + i, none⟩ = some (.int .i64 (el xs i))) (hcap : len ≤ cap) (n : Nat) :
    Vec (w.drewN n) (if cap = 1 then some ⟨b, off, none⟩ else some ⟨b, off + 1, none⟩) (len - 1) xs.tail := by
  refine ⟨by simp [hlen], fun x hx => hb x (List.mem_of_mem_tail hx), ?_⟩
  by_cases h : cap = 1
  · left; omega
  · right
    refine ⟨b, off + 1, by simp [h], fun i hi => ?_⟩
    have := hc (i + 1) (by omega)
    rw [show off + (i + 1) = off + 1 + i from by omega] at this
    simp only [World.cell?_drewN]
    rw [this]; simp [el]

set_option maxHeartbeats 400000 in
theorem vleast_any (b off len cap : Nat) (xs : List Int) (w : World) (hlen : xs.length = len) (hb : ∀ x ∈ xs, -9223372036854775808 ≤ x ∧ x ≤ 9223372036854775807)
    (hc : ∀ i, i < len → w.cell? ⟨b, off + i, none⟩ = some (.int .i64 (el xs i))) (h1 : 1 ≤ len) (hcap : len ≤ cap) (hm : cap ≤ maxLen) :
    Calls Try.prog 60 #[.slice (some ⟨b, off, none⟩) len cap] w fun e w' => e = .returned (.int .i64 (loL (el xs 0) xs.tail)) ∧ ∃ n, w' = w.drewN n := by
  have hT := Vec.tail hlen hb hc hcap
  unfold maxLen at hm
  have hc0 := hc 0 (by omega)
  simp only [Nat.add_zero] at hc0
  have hp : (0 : Int) < (len : Int) := by omega
  have hp1 : (1 : Int) ≤ (len : Int) := by omega
  have hp2 : (len : Int) ≤ (cap : Int) := by omega
  go_enter Try.func60, Try.ntmps60
  go_wp2_with fail
  go_quiet ((go_at_call 50; exact (least_any _ _ _ _ _ _ (hT _) (by unfold maxLen; omega)).mono (fun e w' h => ⟨h.1, _, h.2⟩)))
  go_wp2
  all_goals
    go_ret
    exact ⟨rfl, _, rfl⟩

set_option maxHeartbeats 400000 in
theorem vgreatest_any (b off len cap : Nat) (xs : List Int) (w : World) (hlen : xs.length = len) (hb : ∀ x ∈ xs, -9223372036854775808 ≤ x ∧ x ≤ 9223372036854775807)
    (hc : ∀ i, i < len → w.cell? ⟨b, off + i, none⟩ = some (.int .i64 (el xs i))) (h1 : 1 ≤ len) (hcap : len ≤ cap) (hm : cap ≤ maxLen) :
    Calls Try.prog 85 #[.slice (some ⟨b, off, none⟩) len cap] w fun e w' => e = .returned (.int .i64 (hiL (el xs 0) xs.tail)) ∧ ∃ n, w' = w.drewN n := by
  have hT := Vec.tail hlen hb hc hcap
  unfold maxLen at hm
  have hc0 := hc 0 (by omega)
  simp only [Nat.add_zero] at hc0
  have hp : (0 : Int) < (len : Int) := by omega
  have hp1 : (1 : Int) ≤ (len : Int) := by omega
  have hp2 : (len : Int) ≤ (cap : Int) := by omega
  go_enter Try.func85, Try.ntmps85
  go_wp2_with fail
  go_quiet ((go_at_call 49; exact (greatest_any _ _ _ _ _ _ (hT _) (by unfold maxLen; omega)).mono (fun e w' h => ⟨h.1, _, h.2⟩)))
  go_wp2
  all_goals
    go_ret
    exact ⟨rfl, _, rfl⟩

theorem okB_ends {xs : List Int} (h1 : 1 ≤ xs.length) (h8 : xs.length ≤ 8) :
    okB xs = (decide (0 ≤ loL (el xs 0) xs.tail) && decide (hiL (el xs 0) xs.tail ≤ 1000000)) := by
  have lo : ∀ (l : List Int) (x m : Int), m ≤ loL x l ↔ m ≤ x ∧ ∀ y ∈ l, m ≤ y := by
    intro l; induction l with
    | nil => intro x m; simp [loL]
    | cons y l ih => intro x m; have := ih (min x y) m; unfold loL at this ⊢; simp only [List.foldl_cons, List.mem_cons, forall_eq_or_imp]; rw [this, Int.le_min]; exact ⟨fun h => ⟨h.1.1, h.1.2, h.2⟩, fun h => ⟨⟨h.1, h.2.1⟩, h.2.2⟩⟩
  have hi : ∀ (l : List Int) (x m : Int), hiL x l ≤ m ↔ x ≤ m ∧ ∀ y ∈ l, y ≤ m := by
    intro l; induction l with
    | nil => intro x m; simp [hiL]
    | cons y l ih => intro x m; have := ih (max x y) m; unfold hiL at this ⊢; simp only [List.foldl_cons, List.mem_cons, forall_eq_or_imp]; rw [this, Int.max_le]; exact ⟨fun h => ⟨h.1.1, h.1.2, h.2⟩, fun h => ⟨⟨h.1, h.2.1⟩, h.2.2⟩⟩
  match xs, h1, h8 with
  | x :: l, h1, h8 =>
    rw [Bool.eq_iff_iff]
    simp only [Bool.and_eq_true, decide_eq_true_eq, List.tail_cons, lo, hi]
    unfold okB inB
    simp only [Bool.and_eq_true, decide_eq_true_eq, List.all_cons, List.all_eq_true]
    have e : el (x :: l) 0 = x := rfl
    rw [e]
    constructor
    · rintro ⟨_, ⟨a, b⟩, c⟩; exact ⟨⟨a, fun y hy => (c y hy).1⟩, b, fun y hy => (c y hy).2⟩
    · rintro ⟨⟨a, c⟩, b, d⟩; exact ⟨⟨h1, h8⟩, ⟨a, b⟩, fun y hy => ⟨c y hy, d y hy⟩⟩

set_option maxHeartbeats 400000 in
theorem vok_any (a : Option Addr) (len cap : Nat) (xs : List Int) (w : World) (hv : Vec w a len xs) (hcap : len ≤ cap) (hm : cap ≤ maxLen) :
    Calls Try.prog 61 #[.slice a len cap] w fun e w' => e = .returned (.bool (okB xs)) ∧ ∃ n, w' = w.drewN n := by
  obtain ⟨hlen, hb, hcs⟩ := hv
  by_cases h1 : (len : Int) < 1
  · go_enter Try.func61, Try.ntmps61
    go_wp2
    go_ret
    exact ⟨ret_bool (by rw [okB_false_len (by omega)]), 0, rfl⟩
  · have h1' : decide ((len : Int) < 1) = false := by simpa using h1
    by_cases h8 : (8 : Int) < (len : Int)
    · go_enter Try.func61, Try.ntmps61
      go_wp2
      go_ret
      exact ⟨ret_bool (by rw [okB_false_len (by omega)]), 0, rfl⟩
    · have h8' : decide ((8 : Int) < (len : Int)) = false := by simpa using h8
      rcases hcs with h0 | ⟨b, off, rfl, hc⟩
      · omega
      · have HE : Hid (okB xs = (decide (0 ≤ loL (el xs 0) xs.tail) && decide (hiL (el xs 0) xs.tail ≤ 1000000))) := okB_ends (by omega) (by omega)
        have HL : Hid (xs.length = len) := hlen
        clear hlen
        by_cases hl : 0 ≤ loL (el xs 0) xs.tail
        · go_enter Try.func61, Try.ntmps61
          go_wp2_with (first | (go_at_call 60; refine (vleast_any b off len cap xs _ HL.out hb (by exact hc) (by omega) hcap hm).mono ?_; rintro e w' ⟨rfl, n1, rfl⟩) | (go_at_call 85; refine (vgreatest_any b off len cap xs _ HL.out hb (by exact hc) (by omega) hcap hm).mono ?_; rintro e w' ⟨rfl, n2, rfl⟩))
          go_ret
          exact ⟨ret_bool (by rw [HE.out]; simp [hl]), _, rfl⟩
        · have hl' : decide (0 ≤ loL (el xs 0) xs.tail) = false := by simpa using hl
          go_enter Try.func61, Try.ntmps61
          go_wp2_with (first | (go_at_call 60; refine (vleast_any b off len cap xs _ HL.out hb (by exact hc) (by omega) hcap hm).mono ?_; rintro e w' ⟨rfl, n1, rfl⟩) | (go_at_call 85; refine (vgreatest_any b off len cap xs _ HL.out hb (by exact hc) (by omega) hcap hm).mono ?_; rintro e w' ⟨rfl, n2, rfl⟩))
          go_ret
          exact ⟨ret_bool (by rw [HE.out]; simp [hl']), _, rfl⟩

set_option maxHeartbeats 400000 in
theorem implOk_any (a : Option Addr) (len cap : Nat) (xs : List Int) (w : World) (hv : Vec w a len xs) (hcap : len ≤ cap) (hm : cap ≤ maxLen) :
    Calls Try.prog 24 #[.slice a len cap] w fun e w' => e = .returned (.bool (okB xs)) ∧ ∃ n, w' = w.drewN n := by
  go_enter Try.func24, Try.ntmps24
  go_wp2_with (go_at_call 61; refine (vok_any a len cap xs _ hv hcap hm).mono ?_; rintro e w' ⟨rfl, n, rfl⟩)
  go_ret
  exact ⟨rfl, _, rfl⟩
end Go.Proofs.Ytgaibngaincahaa

/-
  The contracts of the laws' own helpers: toInt64S makes a new row with the same numbers, eqInt64S tells whether two rows hold the same numbers.
-/
namespace Go.Proofs.Ytgaibngaincahaa
open Go.RowKit

theorem Try.info2 : (Try.prog.info? 2).map (fun i => (i.zero, i.size, i.bytes)) = some (some (.int .i64 0), 1, 8) := by kernel_rfl

/-- A row of int64 numbers of its own: block b holds just the numbers xs. -/
def RowOf (w : World) (b : Nat) (xs : List Int) : Prop := w.rowIs b 2 xs.length (fun i => .int .i64 (el xs i))

def Fits (xs : List Int) : Prop := ∀ x ∈ xs, -9223372036854775808 ≤ x ∧ x ≤ 9223372036854775807

theorem RowOf.vec {w : World} {b : Nat} {xs : List Int} (h : RowOf w b xs) (hf : Fits xs) : Vec w (some ⟨b, 0, none⟩) xs.length xs :=
  ⟨rfl, hf, .inr ⟨b, 0, rfl, fun i hi => by rw [Nat.zero_add]; exact World.rowIs.cell h hi⟩⟩
theorem RowOf.lt {w : World} {b : Nat} {xs : List Int} (h : RowOf w b xs) : b < w.heap.size := World.rowIs.lt h
theorem RowOf.drewN {w : World} {b : Nat} {xs : List Int} (h : RowOf w b xs) (n : Nat) : RowOf (w.drewN n) b xs := h
theorem RowOf.below {w w' : World} {b B : Nat} {xs : List Int} (h : RowOf w b xs) (hb : Below B w w') (hB : b < B) : RowOf w' b xs := World.rowIs.of_block h (hb.block b hB)
theorem Vec.lt {w : World} {a : Option Addr} {len : Nat} {xs : List Int} (h : Vec w a len xs) : len = 0 ∨ ∃ b off, a = some ⟨b, off, none⟩ ∧ b < w.heap.size := by
  obtain ⟨_, _, h0 | ⟨b, off, rfl, hc⟩⟩ := h
  · exact .inl h0
  · by_cases h0 : len = 0
    · exact .inl h0
    · exact .inr ⟨b, off, rfl, World.block_lt_of_cell? _ _ (hc 0 (by omega))⟩
theorem Vec.below {w w' : World} {a : Option Addr} {len B : Nat} {xs : List Int} (h : Vec w a len xs) (hb : Below B w w') (hB : w.heap.size ≤ B) : Vec w' a len xs := by
  obtain ⟨h1, h2, h3⟩ := h
  refine ⟨h1, h2, ?_⟩
  rcases h3 with h0 | ⟨b, off, rfl, hc⟩
  · exact .inl h0
  · refine .inr ⟨b, off, rfl, fun i hi => ?_⟩
    have hlt := World.block_lt_of_cell? _ _ (hc i hi)
    rw [hb.cell (p := ⟨b, off + i, none⟩) (Nat.lt_of_lt_of_le hlt hB)]
    exact hc i hi
theorem Vec.drewN {w : World} {a : Option Addr} {len : Nat} {xs : List Int} (h : Vec w a len xs) (n : Nat) : Vec (w.drewN n) a len xs := h

/-- How far the copy has come. -/
def part (xs : List Int) (k : Nat) : Nat → Value := fun j => if j < k then .int .i64 (el xs j) else .int .i64 0

theorem part_start {w : World} {xs : List Int} : (w.alloc (.cells (madeCells #[.int .i64 0] xs.length) 2)).rowIs w.heap.size 2 xs.length (part xs 0) :=
  (World.rowIs_made w (.int .i64 0) xs.length 2).congr (fun j _ => by simp [part])
theorem part_step {w : World} {b : Nat} {xs : List Int} {k : Nat} (h : w.rowIs b 2 xs.length (part xs k)) : (w.setCell ⟨b, k, none⟩ (.int .i64 (el xs k))).rowIs b 2 xs.length (part xs (k + 1)) := by
  refine (h.set k _).congr (fun j _ => ?_)
  simp only [part]
  by_cases e : j = k
  · subst e; simp
  · rw [if_neg e]
    by_cases hlt : j < k
    · rw [if_pos hlt, if_pos (by omega)]
    · rw [if_neg hlt, if_neg (by omega)]
theorem part_done {w : World} {b : Nat} {xs : List Int} {k : Nat} (h : w.rowIs b 2 xs.length (part xs k)) (hk : xs.length ≤ k) : RowOf w b xs :=
  World.rowIs.congr h (fun j hj => by simp only [part]; rw [if_pos (by omega)])

set_option maxHeartbeats 400000 in
theorem copy_any (a : Option Addr) (len cap : Nat) (xs : List Int) (w : World) (hv : Vec w a len xs) (hm : len ≤ 17592186044416) :
    Calls Try.prog 77 #[.slice a len cap] w fun e w' => ∃ b, e = .returned (.slice (some ⟨b, 0, none⟩) len len) ∧ w.heap.size ≤ b ∧ RowOf w' b xs ∧ Below w.heap.size w w' := by
  obtain ⟨hlen, hb, hcs⟩ := hv
  subst hlen
  have hmk := run_make_row' (P := Try.prog) 24 2 (.int .i64 0) 8 Try.underlying24 Try.info2 rfl .i64 .i64 xs.length (by omega) (by omega)
  have hcs' : Hid (xs.length = 0) ∨ ∃ b off, a = some ⟨b, off, none⟩ ∧ ∀ i, i < xs.length → w.cell? ⟨b, off + i, none⟩ = some (.int .i64 (el xs i)) := hcs
  clear hcs
  rcases hcs' with h0 | ⟨b, off, rfl, hc⟩
  all_goals
    go_enter Try.func77, Try.ntmps77
    go_wp2
    go_loopw [4] (fun i wr => ∃ k : Nat, k ≤ xs.length ∧ i = .int .i64 k ∧ wr.rowIs w.heap.size 2 xs.length (part xs k) ∧ Below w.heap.size w wr ∧ wr.heap.size = w.heap.size + 1) (fun i _ => xs.length - (intOf i).toNat)
    case atStart => exact ⟨0, Nat.zero_le _, rfl, part_start, (Below.refl _ _).alloc (Nat.le_refl _) _, by simp⟩
    case round =>
      obtain ⟨k, hk, rfl, hrow, hbel, hsz⟩ := hrel
      have HR : Hid (wr.rowIs w.heap.size 2 xs.length (part xs k)) := hrow
      have HB : Hid (Below w.heap.size w wr) := hbel
      have HZ : Hid (wr.heap.size = w.heap.size + 1) := hsz
      clear hrow hbel hsz
      by_cases hlt : k < xs.length
      · first
          | (have := h0.out; omega)
          | (have hck : wr.cell? ⟨b, off + k, none⟩ = some (.int .i64 (el xs k)) := (HB.out.cell (p := ⟨b, off + k, none⟩) (World.block_lt_of_cell? _ _ (hc k hlt))).trans (hc k hlt)
             have hfr := HR.out.frozen k
             have hcl := HR.out.cell hlt
             go_wp2
             go_roundw
             case rel => exact ⟨k + 1, by omega, by go_num, part_step HR.out, HB.out.setCell (Nat.le_refl _) _, by simp [HZ.out]⟩
             case measure => simp [intOf]; omega)
      · go_wp2
        go_ret
        exact ⟨_, rfl, Nat.le_refl _, part_done HR.out (by omega), HB.out⟩

/-- What the row's reading of a slice of integers comes to. -/
def IsRow (k : IntKind) (w : World) (a : Option Addr) (len cap : Nat) (zs : List Int) : Prop :=
  (a = none ∧ len = 0 ∧ cap = 0 ∧ zs = []) ∨
  ∃ x, a = some x ∧ len ≤ cap ∧ cap ≤ maxLen ∧ zs.length = cap ∧ (∀ i, i < zs.length → w.cell? (x.add i) = some (.int k (zs.getD i 0))) ∧ ∀ n ∈ zs, (Lit.int k n).wf = true

theorem IsRow.vec {w : World} {a : Option Addr} {len cap : Nat} {zs : List Int} (h : IsRow .i64 w a len cap zs) : Vec w a len (zs.take len) ∧ len ≤ cap ∧ cap ≤ maxLen := by
  rcases h with ⟨rfl, rfl, rfl, rfl⟩ | ⟨x, rfl, hl, hm, hz, hcell, hwz⟩
  · exact ⟨⟨rfl, by simp, .inl rfl⟩, Nat.le_refl _, Nat.zero_le _⟩
  · refine ⟨⟨by simp; omega, fun x hx => bounds_i64 (hwz x (List.mem_of_mem_take hx)), ?_⟩, hl, hm⟩
    by_cases h0 : len = 0
    · exact .inl h0
    · obtain ⟨b, off, spot⟩ := x
      have hc := hcell 0 (by omega)
      have hspot : spot = none := by simpa [Addr.add] using World.cell?_spot hc
      subst hspot
      refine .inr ⟨b, off, rfl, fun i hi => ?_⟩
      have := hcell i (by omega)
      have e : el (zs.take len) i = zs.getD i 0 := by simp [el, hi]
      rw [e]
      by_cases hi0 : i = 0
      · subst hi0; simpa [Addr.add] using this
      · simpa [Addr.add, hi0] using this

theorem eq_of_all {xs ys : List Int} (h : xs.length = ys.length) (he : ∀ j, j < xs.length → el xs j = el ys j) : xs = ys := by
  refine List.ext_getElem h (fun i h1 h2 => ?_)
  have := he i h1
  rwa [el_eq h1, el_eq h2] at this

set_option maxHeartbeats 400000 in
theorem eq_any (a a' : Option Addr) (len cap len' cap' : Nat) (xs ys : List Int) (w : World) (hv : Vec w a len xs) (hv' : Vec w a' len' ys) (hm : len ≤ maxLen) :
    Calls Try.prog 79 #[.slice a len cap, .slice a' len' cap'] w fun e w' => e = .returned (.bool (decide (xs = ys))) ∧ ∃ n, w' = w.drewN n := by
  unfold maxLen at hm
  obtain ⟨hlen, _, hcs⟩ := hv
  obtain ⟨hlen', _, hcs'⟩ := hv'
  by_cases hl : len = len'
  · have hne : ((len : Int) != (len' : Int)) = false := by simp [hl]
    have HL : Hid (xs.length = len) := hlen
    have HL' : Hid (ys.length = len') := hlen'
    have HLL : Hid (len = len') := hl
    have hle : (len : Int) ≤ (len' : Int) := by omega
    clear hlen hlen' hl
    by_cases h0 : len = 0
    · have hx : xs = [] := List.length_eq_zero_iff.1 (by rw [HL.out]; exact h0)
      have hy : ys = [] := List.length_eq_zero_iff.1 (by rw [HL'.out, ← HLL.out]; exact h0)
      subst h0 hx hy
      clear hcs hcs'
      go_enter Try.func79, Try.ntmps79
      go_wp2
      go_loop [5] (fun i => i = .int .i64 0) (fun _ => 0)
      case atStart => rfl
      case round =>
        subst hrel
        go_wp2
        go_ret
        exact ⟨rfl, 0, rfl⟩
    · rcases hcs with h | ⟨b, off, rfl, hc⟩
      · omega
      rcases hcs' with h | ⟨b', off', rfl, hc'⟩
      · have := HLL.out; omega
      go_enter Try.func79, Try.ntmps79
      go_wp2
      go_loopw [5] (fun i wr => ∃ k : Nat, k ≤ len ∧ i = .int .i64 k ∧ (∀ j, j < k → el xs j = el ys j) ∧ ∃ n, wr = w.drewN n) (fun i _ => len - (intOf i).toNat)
      case atStart => exact ⟨0, Nat.zero_le _, rfl, fun j hj => by omega, 0, rfl⟩
      case round =>
        obtain ⟨k, hk, rfl, hall, n, rfl⟩ := hrel
        have HA : Hid (∀ j, j < k → el xs j = el ys j) := hall
        clear hall
        by_cases hlt : k < len
        · have hck := hc k hlt
          have hck' := hc' k (by have := HLL.out; omega)
          have hi1 : (k : Int) < (len : Int) := by omega
          have hi2 : (k : Int) < (len' : Int) := by omega
          by_cases he : el xs k = el ys k
          · have hd : (el xs k != el ys k) = false := by simp [he]
            have HX : Hid (el xs k = el ys k) := he
            clear he
            go_wp2_with fail
            go_quiet (fail)
            go_wp2
            go_roundw
            case rel => exact ⟨k + 1, by omega, by go_num, fun j hj => by
              rcases Nat.lt_succ_iff_lt_or_eq.1 hj with h | h
              · exact HA.out j h
              · rw [h]; exact HX.out, _, rfl⟩
            case measure => simp [intOf]; omega
          · have hd : (el xs k != el ys k) = true := by simp [he]
            go_wp2_with fail
            go_quiet (fail)
            go_wp2
            go_ret
            exact ⟨ret_bool (by symm; rw [decide_eq_false_iff_not]; intro h; exact he (by rw [h])), _, World.drewN_drewN _ _ _⟩
        · go_wp2
          go_ret
          exact ⟨ret_bool (by symm; rw [decide_eq_true_iff]; exact eq_of_all (by rw [HL.out, HL'.out, HLL.out]) (fun j hj => HA.out j (by rw [HL.out] at hj; omega))), _, rfl⟩
  · have hne : ((len : Int) != (len' : Int)) = true := by simp; omega
    go_enter Try.func79, Try.ntmps79
    go_wp2
    go_ret
    exact ⟨ret_bool (by symm; rw [decide_eq_false_iff_not]; intro h; rw [h] at hlen; omega), 0, rfl⟩
end Go.Proofs.Ytgaibngaincahaa

/-
  The walk of the law FnExactVectorOk: at every argument it returns true, and nothing that was there is written.
-/
namespace Go.Proofs.Ytgaibngaincahaa
open Go.RowKit

theorem belowN {B n : Nat} {a w : World} (h : Below B a w) : Below B a (w.drewN n) := ⟨h.os, h.tape, h.output, h.size, h.block⟩
theorem belowN' {B n : Nat} {a w : World} (h : Below B (a.drewN n) w) : Below B a w := ⟨h.os, h.tape, h.output, h.size, h.block⟩

end Go.Proofs.Ytgaibngaincahaa

/-
  The contracts of the two functions Under (the program's own and the specification's), and the walk of the law FnExactUnder.
-/
namespace Go.Proofs.Ytgaibngaincahaa
open Go.RowKit

def twoB (xs ys : List Int) : Bool := okB xs && okB ys && decide (xs.length = ys.length)
def leB (xs ys : List Int) : Bool := (List.range xs.length).all (fun i => decide (el xs i ≤ el ys i))
def underB (xs ys : List Int) : Bool := twoB xs ys && leB xs ys

theorem leB_false {xs ys : List Int} {k : Nat} (hk : k < xs.length) (h : ¬ el xs k ≤ el ys k) : leB xs ys = false := by
  unfold leB; rw [List.all_eq_false]; exact ⟨k, List.mem_range.2 hk, by simpa using h⟩
theorem leB_true {xs ys : List Int} (h : ∀ j, j < xs.length → el xs j ≤ el ys j) : leB xs ys = true := by
  unfold leB; rw [List.all_eq_true]; intro j hj; simpa using h j (List.mem_range.1 hj)
theorem okB_len {xs : List Int} (h : okB xs = true) : 1 ≤ xs.length ∧ xs.length ≤ 8 := by
  unfold okB at h; simp only [Bool.and_eq_true, decide_eq_true_eq] at h; exact h.1
theorem twoB_true {xs ys : List Int} (h : twoB xs ys = true) : okB xs = true ∧ okB ys = true ∧ xs.length = ys.length := by
  unfold twoB at h; simp only [Bool.and_eq_true, decide_eq_true_eq] at h; exact ⟨h.1.1, h.1.2, h.2⟩
theorem Vec.cells {w : World} {a : Option Addr} {len : Nat} {xs : List Int} (h : Vec w a len xs) (h1 : 1 ≤ len) :
    ∃ b off, a = some ⟨b, off, none⟩ ∧ ∀ i, i < len → w.cell? ⟨b, off + i, none⟩ = some (.int .i64 (el xs i)) := by
  obtain ⟨_, _, h0 | h⟩ := h
  · omega
  · exact h

set_option maxHeartbeats 400000 in
theorem l1Two_any (a a' : Option Addr) (len cap len' cap' : Nat) (xs ys : List Int) (w : World) (hv : Vec w a len xs) (hv' : Vec w a' len' ys) (hm : len ≤ maxLen) (hm' : len' ≤ maxLen) :
    Calls Try.prog 53 #[.slice a len cap, .slice a' len' cap'] w fun e w' => e = .returned (.bool (twoB xs ys)) ∧ w' = w := by
  have HL : Hid (xs.length = len) := hv.1
  have HL' : Hid (ys.length = len') := hv'.1
  unfold twoB
  cases hx : okB xs
  · go_enter Try.func53, Try.ntmps53
    go_wp2_with fail
    refine (specOk_any _ _ _ xs _ hv hm).mono ?_
    rintro e w1' ⟨rfl, rfl⟩
    go_wp2_with fail
    go_ret
    exact ⟨ret_bool (by simp), rfl⟩
  · cases hy : okB ys
    · go_enter Try.func53, Try.ntmps53
      go_wp2_with fail
      refine (specOk_any _ _ _ xs _ hv hm).mono ?_
      rintro e w1' ⟨rfl, rfl⟩
      go_wp2_with fail
      refine (specOk_any _ _ _ ys _ hv' hm').mono ?_
      rintro e w1' ⟨rfl, rfl⟩
      go_wp2_with fail
      go_ret
      exact ⟨ret_bool (by simp), rfl⟩
    · go_enter Try.func53, Try.ntmps53
      go_wp2_with fail
      refine (specOk_any _ _ _ xs _ hv hm).mono ?_
      rintro e w1' ⟨rfl, rfl⟩
      go_wp2_with fail
      refine (specOk_any _ _ _ ys _ hv' hm').mono ?_
      rintro e w1' ⟨rfl, rfl⟩
      go_wp2_with fail
      go_ret
      exact ⟨ret_bool (by rw [HL.out, HL'.out, Bool.eq_iff_iff]; simp; omega), rfl⟩

set_option maxHeartbeats 400000 in
theorem fits_any (a a' : Option Addr) (len cap len' cap' : Nat) (xs ys : List Int) (w : World) (hv : Vec w a len xs) (hv' : Vec w a' len' ys) (hc : len ≤ cap) (hc' : len' ≤ cap') (hm : cap ≤ maxLen) (hm' : cap' ≤ maxLen) :
    Calls Try.prog 56 #[.slice a len cap, .slice a' len' cap'] w fun e w' => e = .returned (.bool (twoB xs ys)) ∧ ∃ n, w' = w.drewN n := by
  have HL : Hid (xs.length = len) := hv.1
  have HL' : Hid (ys.length = len') := hv'.1
  unfold twoB
  by_cases hl : len = len'
  · have hd : ((len : Int) == (len' : Int)) = true := by simp [hl]
    have HD : Hid (len = len') := hl
    clear hl
    cases hx : okB xs
    · go_enter Try.func56, Try.ntmps56
      go_wp2_with fail
      refine (vok_any _ _ _ xs _ hv hc hm).mono ?_
      rintro e w1' ⟨rfl, n1, rfl⟩
      go_wp2_with fail
      go_ret
      exact ⟨ret_bool (by simp), _, rfl⟩
    · go_enter Try.func56, Try.ntmps56
      go_wp2_with fail
      refine (vok_any _ _ _ xs _ hv hc hm).mono ?_
      rintro e w1' ⟨rfl, n1, rfl⟩
      go_wp2_with fail
      refine (vok_any _ _ _ ys _ (hv'.drewN n1) hc' hm').mono ?_
      rintro e w1' ⟨rfl, n2, rfl⟩
      go_wp2_with fail
      go_ret
      exact ⟨ret_bool (by rw [HL.out, HL'.out, HD.out]; simp), _, rfl⟩
  · have hd : ((len : Int) == (len' : Int)) = false := by simp; omega
    go_enter Try.func56, Try.ntmps56
    go_wp2_with fail
    go_ret
    exact ⟨ret_bool (by rw [HL.out, HL'.out]; simp [hl]), 0, rfl⟩

set_option maxHeartbeats 400000 in
theorem vunder_any (b off b' off' len cap len' cap' : Nat) (xs ys : List Int) (w : World) (hlen : xs.length = len)
    (hc : ∀ i, i < len → w.cell? ⟨b, off + i, none⟩ = some (.int .i64 (el xs i))) (hc' : ∀ i, i < len' → w.cell? ⟨b', off' + i, none⟩ = some (.int .i64 (el ys i))) (hl : len ≤ len') (hm : len ≤ 8) :
    Calls Try.prog 57 #[.slice (some ⟨b, off, none⟩) len cap, .slice (some ⟨b', off', none⟩) len' cap'] w fun e w' => e = .returned (.bool (leB xs ys)) ∧ w' = w := by
  have HL : Hid (xs.length = len) := hlen
  clear hlen
  go_enter Try.func57, Try.ntmps57
  go_wp2
  go_loop [5, 6, 9] (fun _ _ i => ∃ k : Nat, k ≤ len ∧ i = .int .i64 k ∧ ∀ j, j < k → el xs j ≤ el ys j) (fun _ _ i => len - (intOf i).toNat)
  case atStart => exact ⟨0, Nat.zero_le _, rfl, fun j hj => by omega⟩
  case round =>
    obtain ⟨k, hk, rfl, hall⟩ := hrel
    have HA : Hid (∀ j, j < k → el xs j ≤ el ys j) := hall
    clear hall
    by_cases hlt : k < len
    · have hck := hc k hlt
      have hck' := hc' k (by omega)
      have hi1 : (k : Int) < (len : Int) := by omega
      have hi2 : (k : Int) < (len' : Int) := by omega
      by_cases he : el ys k < el xs k
      · go_wp2
        go_ret
        exact ⟨ret_bool (by rw [leB_false (by rw [HL.out]; exact hlt) (by omega)]), rfl⟩
      · go_wp2
        go_round
        case rel => exact ⟨k + 1, by omega, by go_num, fun j hj => by
          rcases Nat.lt_succ_iff_lt_or_eq.1 hj with h | h
          · exact HA.out j h
          · rw [h]; omega⟩
        case measure => simp [intOf]; omega
    · go_wp2
      go_ret
      exact ⟨ret_bool (by rw [leB_true (fun j hj => HA.out j (by rw [HL.out] at hj; omega))]), rfl⟩

set_option maxHeartbeats 400000 in
theorem implUnder_any (a a' : Option Addr) (len cap len' cap' : Nat) (xs ys : List Int) (w : World) (hv : Vec w a len xs) (hv' : Vec w a' len' ys) (hc : len ≤ cap) (hc' : len' ≤ cap') (hm : cap ≤ maxLen) (hm' : cap' ≤ maxLen) :
    Calls Try.prog 18 #[.slice a len cap, .slice a' len' cap'] w fun e w' => e = .returned (.bool (underB xs ys)) ∧ ∃ n, w' = w.drewN n := by
  unfold underB
  cases h2 : twoB xs ys
  · go_enter Try.func18, Try.ntmps18
    go_wp2_with fail
    refine (fits_any _ _ _ _ _ _ xs ys _ hv hv' hc hc' hm hm').mono ?_
    rintro e w1' ⟨rfl, n1, rfl⟩
    go_wp2_with fail
    go_ret
    exact ⟨ret_bool (by simp), _, rfl⟩
  · obtain ⟨ox, oy, hl⟩ := twoB_true h2
    have kx := okB_len ox
    have ky := okB_len oy
    have hlx := hv.1
    have hly := hv'.1
    obtain ⟨b, off, rfl, hcx⟩ := hv.cells (by omega)
    obtain ⟨b', off', rfl, hcy⟩ := hv'.cells (by omega)
    have HX : Hid (xs.length = len) := hlx
    have h8 : len ≤ 8 := by omega
    have hll : len ≤ len' := by omega
    clear ox oy hl hlx hly kx ky
    go_enter Try.func18, Try.ntmps18
    go_wp2_with fail
    refine (fits_any _ _ _ _ _ _ xs ys _ hv hv' hc hc' hm hm').mono ?_
    rintro e w1' ⟨rfl, n1, rfl⟩
    go_wp2_with fail
    refine (vunder_any b off b' off' len cap len' cap' xs ys _ HX.out (by exact hcx) (by exact hcy) hll h8).mono ?_
    rintro e w1' ⟨rfl, rfl⟩
    go_wp2_with fail
    go_ret
    exact ⟨ret_bool (by simp), _, rfl⟩

set_option maxHeartbeats 400000 in
theorem specUnder_any (a a' : Option Addr) (len cap len' cap' : Nat) (xs ys : List Int) (w : World) (hv : Vec w a len xs) (hv' : Vec w a' len' ys) (hm : len ≤ maxLen) (hm' : len' ≤ maxLen) :
    Calls Try.prog 19 #[.slice a len cap, .slice a' len' cap'] w fun e w' => e = .returned (.bool (underB xs ys)) ∧ ∃ n, w' = w.drewN n := by
  unfold underB
  cases h2 : twoB xs ys
  · go_enter Try.func19, Try.ntmps19
    go_wp2_with fail
    refine (l1Two_any _ _ _ _ _ _ xs ys _ hv hv' hm hm').mono ?_
    rintro e w1' ⟨rfl, rfl⟩
    go_wp2
    go_ret
    exact ⟨ret_bool (by simp), 0, rfl⟩
  · obtain ⟨ox, oy, hl⟩ := twoB_true h2
    have kx := okB_len ox
    have ky := okB_len oy
    have hlx := hv.1
    have hly := hv'.1
    obtain ⟨b, off, rfl, hcx⟩ := hv.cells (by omega)
    obtain ⟨b', off', rfl, hcy⟩ := hv'.cells (by omega)
    have HX : Hid (xs.length = len) := hlx
    have h8 : len ≤ 8 := by omega
    have hll : len ≤ len' := by omega
    clear ox oy hl hlx hly kx ky
    go_enter Try.func19, Try.ntmps19
    go_wp2_with fail
    refine (l1Two_any _ _ _ _ _ _ xs ys _ hv hv' hm hm').mono ?_
    rintro e w1' ⟨rfl, rfl⟩
    clear hv hv' hm hm'
    go_wp2
    go_loopw [5] (fun i wr => ∃ k : Nat, k ≤ len ∧ i = .int .i64 k ∧ (∀ j, j < k → el xs j ≤ el ys j) ∧ ∃ n, wr = w1'.drewN n) (fun i _ => len - (intOf i).toNat)
    case atStart => exact ⟨0, Nat.zero_le _, rfl, fun j hj => by omega, 0, rfl⟩
    case round =>
      obtain ⟨k, hk, rfl, hall, n, rfl⟩ := hrel
      have HA : Hid (∀ j, j < k → el xs j ≤ el ys j) := hall
      clear hall
      by_cases hlt : k < len
      · have hck := hcx k hlt
        have hck' := hcy k (by omega)
        have hi1 : (k : Int) < (len : Int) := by omega
        have hi2 : (k : Int) < (len' : Int) := by omega
        by_cases he : el ys k < el xs k
        · go_wp2_with fail
          go_quiet (fail)
          go_wp2
          go_ret
          exact ⟨ret_bool (by rw [leB_false (by rw [HX.out]; exact hlt) (by omega)]; simp), _, World.drewN_drewN _ _ _⟩
        · go_wp2_with fail
          go_quiet (fail)
          go_wp2
          go_roundw
          case rel => exact ⟨k + 1, by omega, by go_num, fun j hj => by
            rcases Nat.lt_succ_iff_lt_or_eq.1 hj with h | h
            · exact HA.out j h
            · rw [h]; omega, _, rfl⟩
          case measure => simp [intOf]; omega
      · go_wp2
        go_ret
        exact ⟨ret_bool (by rw [leB_true (fun j hj => HA.out j (by rw [HX.out] at hj; omega))]; simp), _, rfl⟩

end Go.Proofs.Ytgaibngaincahaa

/-
  The contracts of the functions Least and Sum (the program's own and the specification's), and the walks of the laws FnExactLeast and FnExactSum.
-/
namespace Go.Proofs.Ytgaibngaincahaa
open Go.RowKit

def leastB (xs : List Int) : Int := if okB xs = true then loL (el xs 0) xs.tail else -1
def sumL (xs : List Int) : Int := xs.foldl (· + ·) 0
def sumB (xs : List Int) : Int := if okB xs = true then sumL xs else -1

theorem sumL_snoc (xs : List Int) (y : Int) : sumL (xs ++ [y]) = sumL xs + y := by simp [sumL]
theorem okB_el {xs : List Int} (h : okB xs = true) {i : Nat} (hi : i < xs.length) : 0 ≤ el xs i ∧ el xs i ≤ 1000000 := by
  unfold okB inB at h; simp only [Bool.and_eq_true, decide_eq_true_eq, List.all_eq_true] at h
  exact h.2 _ (el_mem hi)
theorem sumL_take {xs : List Int} (h : okB xs = true) (k : Nat) (hk : k ≤ xs.length) : 0 ≤ sumL (xs.take k) ∧ sumL (xs.take k) ≤ 1000000 * k := by
  induction k with
  | zero => simp [sumL]
  | succ k ih =>
    have := ih (by omega)
    have hb := okB_el h (i := k) (by omega)
    rw [take_snoc (by omega), sumL_snoc]
    omega
theorem loL_self {xs : List Int} (h : 1 ≤ xs.length) : loL (el xs 0) xs = loL (el xs 0) xs.tail := by
  match xs, h with
  | x :: l, _ => simp [loL, el]

set_option maxHeartbeats 400000 in
theorem l1Min_any (x y : Int) (w : World) : Calls Try.prog 55 #[.int .i64 x, .int .i64 y] w fun e w' => e = .returned (.int .i64 (min x y)) ∧ w' = w := by
  by_cases h : x < y
  all_goals
    go_enter Try.func55, Try.ntmps55
    go_wp2
    go_ret
    exact ⟨ret_int (by omega), rfl⟩

set_option maxHeartbeats 400000 in
theorem l1Max_any (x y : Int) (w : World) : Calls Try.prog 54 #[.int .i64 x, .int .i64 y] w fun e w' => e = .returned (.int .i64 (max x y)) ∧ w' = w := by
  by_cases h : y < x
  all_goals
    go_enter Try.func54, Try.ntmps54
    go_wp2
    go_ret
    exact ⟨ret_int (by omega), rfl⟩

set_option maxHeartbeats 400000 in
theorem specLeast_any (a : Option Addr) (len cap : Nat) (xs : List Int) (w : World) (hv : Vec w a len xs) (hm : len ≤ maxLen) :
    Calls Try.prog 23 #[.slice a len cap] w fun e w' => e = .returned (.int .i64 (leastB xs)) ∧ w' = w := by
  unfold leastB
  cases hx : okB xs
  · go_enter Try.func23, Try.ntmps23
    go_wp2_with fail
    refine (specOk_any _ _ _ xs _ hv hm).mono ?_
    rintro e w1' ⟨rfl, rfl⟩
    go_wp2
    go_ret
    exact ⟨ret_int (by simp), rfl⟩
  · have kx := okB_len hx
    have HX : Hid (xs.length = len) := hv.1
    have h1 : 1 ≤ len := by have := HX.out; omega
    have h8 : len ≤ 8 := by have := HX.out; omega
    obtain ⟨b, off, rfl, hc⟩ := hv.cells h1
    have HS : Hid (loL (el xs 0) xs = loL (el xs 0) xs.tail) := loL_self kx.1
    have hc0 := hc 0 (by omega)
    simp only [Nat.add_zero] at hc0
    have hp : (0 : Int) < (len : Int) := by omega
    clear kx
    go_enter Try.func23, Try.ntmps23
    go_wp2_with fail
    refine (specOk_any _ _ _ xs _ hv hm).mono ?_
    rintro e w1' ⟨rfl, rfl⟩
    clear hv hm
    go_wp2
    go_loop [3, 4] (fun m i => ∃ k : Nat, k ≤ len ∧ i = .int .i64 k ∧ m = .int .i64 (loL (el xs 0) (xs.take k))) (fun _ i => len - (intOf i).toNat)
    case atStart => exact ⟨0, Nat.zero_le _, rfl, rfl⟩
    case round =>
      obtain ⟨k, hk, rfl, rfl⟩ := hrel
      by_cases hlt : k < len
      · have hck := hc k hlt
        have HT : Hid (loL (el xs 0) (xs.take (k + 1)) = min (loL (el xs 0) (xs.take k)) (el xs k)) := by
          rw [Hid, take_snoc (by rw [HX.out]; exact hlt), loL_snoc]
        go_wp2_with (go_at_call 55; refine (l1Min_any _ _ _).mono ?_; rintro e w' ⟨rfl, rfl⟩)
        go_round
        case rel => exact ⟨k + 1, by omega, by go_num, by rw [HT.out]⟩
        case measure => simp [intOf]; omega
      · go_wp2
        go_ret
        exact ⟨ret_int (by rw [List.take_of_length_le (by rw [HX.out]; omega), HS.out]), rfl⟩

set_option maxHeartbeats 400000 in
theorem specSum_any (a : Option Addr) (len cap : Nat) (xs : List Int) (w : World) (hv : Vec w a len xs) (hm : len ≤ maxLen) :
    Calls Try.prog 21 #[.slice a len cap] w fun e w' => e = .returned (.int .i64 (sumB xs)) ∧ w' = w := by
  unfold sumB
  cases hx : okB xs
  · go_enter Try.func21, Try.ntmps21
    go_wp2_with fail
    refine (specOk_any _ _ _ xs _ hv hm).mono ?_
    rintro e w1' ⟨rfl, rfl⟩
    go_wp2
    go_ret
    exact ⟨ret_int (by simp), rfl⟩
  · have kx := okB_len hx
    have HX : Hid (xs.length = len) := hv.1
    have h1 : 1 ≤ len := by have := HX.out; omega
    have h8 : len ≤ 8 := by have := HX.out; omega
    obtain ⟨b, off, rfl, hc⟩ := hv.cells h1
    clear kx
    go_enter Try.func21, Try.ntmps21
    go_wp2_with fail
    refine (specOk_any _ _ _ xs _ hv hm).mono ?_
    rintro e w1' ⟨rfl, rfl⟩
    clear hv hm
    go_wp2
    go_loop [3, 4] (fun m i => ∃ k : Nat, k ≤ len ∧ i = .int .i64 k ∧ m = .int .i64 (sumL (xs.take k))) (fun _ i => len - (intOf i).toNat)
    case atStart => exact ⟨0, Nat.zero_le _, rfl, rfl⟩
    case round =>
      obtain ⟨k, hk, rfl, rfl⟩ := hrel
      by_cases hlt : k < len
      · have hck := hc k hlt
        have HT : Hid (sumL (xs.take (k + 1)) = sumL (xs.take k) + el xs k) := by
          rw [Hid, take_snoc (by rw [HX.out]; exact hlt), sumL_snoc]
        have s1 := sumL_take hx k (by rw [HX.out]; exact hk)
        have s2 := okB_el hx (i := k) (by rw [HX.out]; exact hlt)
        go_wp2
        go_round
        case rel => exact ⟨k + 1, by omega, by go_num, by rw [HT.out]⟩
        case measure => simp [intOf]; omega
      · go_wp2
        go_ret
        exact ⟨ret_int (by rw [List.take_of_length_le (by rw [HX.out]; omega)]), rfl⟩

set_option maxHeartbeats 400000 in
theorem vsum_any (b off len cap : Nat) (xs : List Int) (w : World) (hlen : xs.length = len) (hx : okB xs = true)
    (hc : ∀ i, i < len → w.cell? ⟨b, off + i, none⟩ = some (.int .i64 (el xs i))) :
    Calls Try.prog 59 #[.slice (some ⟨b, off, none⟩) len cap] w fun e w' => e = .returned (.int .i64 (sumL xs)) ∧ w' = w := by
  have kx := okB_len hx
  have HX : Hid (xs.length = len) := hlen
  have h1 : 1 ≤ len := by omega
  have h8 : len ≤ 8 := by omega
  have HO : Hid (okB xs = true) := hx
  clear kx hlen hx
  go_enter Try.func59, Try.ntmps59
  go_wp2
  go_loop [3, 5, 8] (fun m _ i => ∃ k : Nat, k ≤ len ∧ i = .int .i64 k ∧ m = .int .i64 (sumL (xs.take k))) (fun _ _ i => len - (intOf i).toNat)
  case atStart => exact ⟨0, Nat.zero_le _, rfl, rfl⟩
  case round =>
    obtain ⟨k, hk, rfl, rfl⟩ := hrel
    by_cases hlt : k < len
    · have hck := hc k hlt
      have HT : Hid (sumL (xs.take (k + 1)) = sumL (xs.take k) + el xs k) := by
        rw [Hid, take_snoc (by rw [HX.out]; exact hlt), sumL_snoc]
      have s1 := sumL_take HO.out k (by rw [HX.out]; exact hk)
      have s2 := okB_el HO.out (i := k) (by rw [HX.out]; exact hlt)
      go_wp2
      go_round
      case rel => exact ⟨k + 1, by omega, by go_num, by rw [HT.out]⟩
      case measure => simp [intOf]; omega
    · go_wp2
      go_ret
      exact ⟨ret_int (by rw [List.take_of_length_le (by rw [HX.out]; omega)]), rfl⟩

set_option maxHeartbeats 400000 in
theorem implSum_any (a : Option Addr) (len cap : Nat) (xs : List Int) (w : World) (hv : Vec w a len xs) (hcap : len ≤ cap) (hm : cap ≤ maxLen) :
    Calls Try.prog 20 #[.slice a len cap] w fun e w' => e = .returned (.int .i64 (sumB xs)) ∧ ∃ n, w' = w.drewN n := by
  have hmf : ∀ (fn : Fn) (first cap : Array Value) (w : World), (Instr.makeFunc fn first cap).run Try.prog w = .ok (.func fn first cap) w := fun _ _ _ _ => rfl
  unfold sumB
  cases hx : okB xs
  · go_enter Try.func20, Try.ntmps20
    go_wp2_with (first | (go_at_call 61; refine (vok_any a len cap xs _ hv hcap hm).mono ?_; rintro e w' ⟨rfl, n, rfl⟩) | go_in)
    go_ret
    exact ⟨ret_int (by simp), _, rfl⟩
  · have kx := okB_len hx
    have HX : Hid (xs.length = len) := hv.1
    have h1 : 1 ≤ len := by have := HX.out; omega
    obtain ⟨b, off, rfl, hc⟩ := hv.cells h1
    go_enter Try.func20, Try.ntmps20
    go_wp2_with (first | (go_at_call 61; refine (vok_any _ len cap xs _ hv hcap hm).mono ?_; rintro e w' ⟨rfl, n, rfl⟩) | (go_at_call 59; refine (vsum_any b off len cap xs _ HX.out hx (by exact hc)).mono ?_; rintro e w' ⟨rfl, rfl⟩) | go_in)
    go_ret
    exact ⟨ret_int (by simp), _, rfl⟩

set_option maxHeartbeats 400000 in
theorem implLeast_any (a : Option Addr) (len cap : Nat) (xs : List Int) (w : World) (hv : Vec w a len xs) (hcap : len ≤ cap) (hm : cap ≤ maxLen) :
    Calls Try.prog 22 #[.slice a len cap] w fun e w' => e = .returned (.int .i64 (leastB xs)) ∧ ∃ n, w' = w.drewN n := by
  have hmf : ∀ (fn : Fn) (first cap : Array Value) (w : World), (Instr.makeFunc fn first cap).run Try.prog w = .ok (.func fn first cap) w := fun _ _ _ _ => rfl
  unfold leastB
  cases hx : okB xs
  · go_enter Try.func22, Try.ntmps22
    go_wp2_with (first | (go_at_call 61; refine (vok_any a len cap xs _ hv hcap hm).mono ?_; rintro e w' ⟨rfl, n, rfl⟩) | go_in)
    go_ret
    exact ⟨ret_int (by simp), _, rfl⟩
  · have kx := okB_len hx
    have HX : Hid (xs.length = len) := hv.1
    have h1 : 1 ≤ len := by have := HX.out; omega
    have hf := hv.2.1
    obtain ⟨b, off, rfl, hc⟩ := hv.cells h1
    go_enter Try.func22, Try.ntmps22
    go_wp2_with (first | (go_at_call 61; refine (vok_any _ len cap xs _ hv hcap hm).mono ?_; rintro e w' ⟨rfl, n, rfl⟩) | (go_at_call 60; refine (vleast_any b off len cap xs _ HX.out hf (by exact hc) h1 hcap hm).mono ?_; rintro e w' ⟨rfl, n2, rfl⟩) | go_in)
    go_ret
    exact ⟨ret_int (by simp), _, rfl⟩

end Go.Proofs.Ytgaibngaincahaa

/-
  The contracts of the specification's Join and Meet: a new row of the greater (the less) of each two numbers; of what is no pair of vectors, a new row of none. And of the laws' own helpers that write marks into a row and look whether they are held.
-/
namespace Go.Proofs.Ytgaibngaincahaa
open Go.RowKit

/-- The first k answers of f at each two numbers. -/
def jn (f : Int → Int → Int) (xs ys : List Int) (k : Nat) : List Int := (List.range k).map (fun i => f (el xs i) (el ys i))
def pairB (f : Int → Int → Int) (xs ys : List Int) : List Int := if twoB xs ys = true then jn f xs ys xs.length else []

theorem jn_succ (f : Int → Int → Int) (xs ys : List Int) (k : Nat) : jn f xs ys (k + 1) = jn f xs ys k ++ [f (el xs k) (el ys k)] := by simp [jn, List.range_succ]
theorem jn_length (f : Int → Int → Int) (xs ys : List Int) (k : Nat) : (jn f xs ys k).length = k := by simp [jn]
theorem jn_el (f : Int → Int → Int) (xs ys : List Int) {n k : Nat} (h : k < n) : el (jn f xs ys n) k = f (el xs k) (el ys k) := by simp [jn, el, h]
theorem pairB_len (f : Int → Int → Int) (xs ys : List Int) : (pairB f xs ys).length ≤ 8 := by
  unfold pairB
  by_cases h : twoB xs ys = true
  · rw [if_pos h, jn_length]; exact (okB_len (twoB_true h).1).2
  · rw [if_neg h]; simp

/-- Block g is an array of the call's own with room for cap numbers, of which the first are zs. -/
def OwnAt (w : World) (g cap : Nat) (zs : List Int) : Prop :=
  zs.length ≤ cap ∧ cap ≤ maxLen ∧ ∃ cur, w.heap[g]? = some (.cells cur 2 (0, 0)) ∧ cur.size = cap ∧ ∀ i, i < zs.length → cur[i]? = some (.int .i64 (el zs i))

theorem OwnAt.lt {w : World} {g cap : Nat} {zs : List Int} (h : OwnAt w g cap zs) : g < w.heap.size := by
  obtain ⟨_, _, c, hb, _⟩ := h
  obtain ⟨hlt, _⟩ := Array.getElem?_eq_some_iff.1 hb
  exact hlt
theorem OwnAt.of_block {w w' : World} {g cap : Nat} {zs : List Int} (h : OwnAt w g cap zs) (e : w'.heap[g]? = w.heap[g]?) : OwnAt w' g cap zs := by
  obtain ⟨h1, h2, c, hb, h3⟩ := h
  exact ⟨h1, h2, c, e.trans hb, h3⟩
theorem OwnAt.below {w w' : World} {g cap B : Nat} {zs : List Int} (h : OwnAt w g cap zs) (hb : Below B w w') (hg : g < B) : OwnAt w' g cap zs := h.of_block (hb.block g hg)
theorem OwnAt.drewN {w : World} {g cap : Nat} {zs : List Int} (h : OwnAt w g cap zs) (n : Nat) : OwnAt (w.drewN n) g cap zs := h
theorem OwnAt.cell {w : World} {g cap : Nat} {zs : List Int} (h : OwnAt w g cap zs) {i : Nat} (hi : i < zs.length) : w.cell? ⟨g, i, none⟩ = some (.int .i64 (el zs i)) := by
  obtain ⟨_, _, c, hb, _, hc⟩ := h
  simp [World.cell?, hb, hc i hi]
theorem OwnAt.frozen {w : World} {g cap : Nat} {zs : List Int} (h : OwnAt w g cap zs) (i : Nat) : w.frozen? ⟨g, i, none⟩ = false := by
  obtain ⟨_, _, c, hb, _⟩ := h
  simp [World.frozen?, hb]
theorem OwnAt.vec {w : World} {g cap : Nat} {zs : List Int} (h : OwnAt w g cap zs) (hf : Fits zs) : Vec w (some ⟨g, 0, none⟩) zs.length zs :=
  ⟨rfl, hf, .inr ⟨g, 0, rfl, fun i hi => by rw [Nat.zero_add]; exact h.cell hi⟩⟩
theorem OwnAt.set {w : World} {g cap : Nat} {zs : List Int} (h : OwnAt w g cap zs) (i : Nat) (y : Int) : OwnAt (w.setCell ⟨g, i, none⟩ (.int .i64 y)) g cap (zs.set i y) := by
  obtain ⟨h1, h2, c, hb, hs, hc⟩ := h
  refine ⟨by simpa using h1, h2, c.setIfInBounds i (.int .i64 y), ?_, by simpa using hs, fun j hj => ?_⟩
  · simp [World.setCell, Array.getElem?_modify, hb]
  · rw [List.length_set] at hj
    rw [Array.getElem?_setIfInBounds]
    by_cases e : i = j
    · subst e; simp [el, hj]; omega
    · rw [if_neg e, hc j hj]; simp [el, e]
theorem RowOf.own {w : World} {b : Nat} {xs : List Int} (h : RowOf w b xs) (hm : xs.length ≤ maxLen) : OwnAt w b xs.length xs := by
  obtain ⟨c, hb, hn, hc⟩ := h
  exact ⟨Nat.le_refl _, hm, c, hb, hn, hc⟩
theorem own_of_ownsRow {w : World} {base : Nat} {v : Value} {zs : List Int} {n : Nat} (h : w.ownsRow base 2 1 v n (zs.map (Value.int .i64))) (hn : n = zs.length) (h1 : 1 ≤ n) :
    ∃ g cap, v = .slice (some ⟨g, 0, none⟩) zs.length cap ∧ base ≤ g ∧ OwnAt w g cap zs := by
  subst hn
  rcases h.2 with ⟨_, h0⟩ | ⟨g, cap, cur, hv, hb, hg, hle, hm, hs, ht⟩
  · omega
  · refine ⟨g, cap, hv, hb, hle, hm, cur, hg, by omega, fun i hi => ?_⟩
    have hi' : i < cur.toList.length := by simp; omega
    have e : (cur.toList.take (zs.length * 1))[i]? = (zs.map (Value.int .i64))[i]? := by rw [ht]
    rw [List.getElem?_take] at e
    rw [if_pos (by omega)] at e
    simp at e
    rw [e]; simp [el, hi]
theorem own_empty (w : World) : OwnAt (w.alloc (.cells #[] 2)) w.heap.size 0 [] :=
  ⟨Nat.le_refl _, Nat.zero_le _, #[], heap_alloc_new w _, rfl, fun _ hi => absurd hi (Nat.not_lt_zero _)⟩
theorem owns_empty (w : World) : (w.alloc (.cells #[] 2)).ownsRow w.heap.size 2 1 (.slice (some ⟨w.heap.size, 0, none⟩) 0 0) 0 [] :=
  ⟨rfl, .inr ⟨w.heap.size, 0, #[], rfl, Nat.le_refl _, heap_alloc_new w _, Nat.le_refl _, Nat.zero_le _, rfl, rfl⟩⟩
theorem owns_ne {w : World} {base b n : Nat} {v : Value} {l : List Value} (h : w.ownsRow base 2 1 v n l) (hb : b < base) : v.ownBlock ≠ some b := by
  intro e; have := (h.lt b e).1; omega

attribute [local go_sem ↓] Go.wp_at_zero Go.wp_at_succ

set_option maxRecDepth 100000 in
set_option maxHeartbeats 1600000 in
theorem specJoin_any (a a' : Option Addr) (len cap len' cap' : Nat) (xs ys : List Int) (w : World) (hv : Vec w a len xs) (hv' : Vec w a' len' ys) (hm : len ≤ maxLen) (hm' : len' ≤ maxLen) :
    Calls Try.prog 16 #[.slice a len cap, .slice a' len' cap'] w fun e w' => ∃ g c, e = .returned (.slice (some ⟨g, 0, none⟩) (pairB max xs ys).length c) ∧ w.heap.size ≤ g ∧ OwnAt w' g c (pairB max xs ys) ∧ Below w.heap.size w w' := by
  have hb0 : Below w.heap.size w (w.alloc (.cells #[] 2)) := (Below.refl _ _).alloc (Nat.le_refl _) _
  have hv0 := hv.below hb0 (Nat.le_refl _)
  have hv0' := hv'.below hb0 (Nat.le_refl _)
  cases h2 : twoB xs ys
  · have HP : Hid (pairB max xs ys = []) := by rw [Hid, pairB, h2]; rfl
    go_enter Try.func16, Try.ntmps16
    go_wp2_with fail
    refine (l1Two_any _ _ _ _ _ _ xs ys _ hv0 hv0' hm hm').mono ?_
    rintro e w1 ⟨rfl, hw1⟩
    have HW : Hid (w1 = w.alloc (.cells #[] 2)) := hw1
    clear hw1
    go_wp2
    go_ret
    refine ⟨w.heap.size, 0, by rw [HP.out]; rfl, Nat.le_refl _, ?_, ?_⟩
    · rw [HW.out, HP.out]; exact own_empty w
    · rw [HW.out]; exact hb0
  · obtain ⟨ox, oy, hl⟩ := twoB_true h2
    have kx := okB_len ox
    have hlx := hv.1
    have hly := hv'.1
    obtain ⟨b, off, rfl, hcx⟩ := hv.cells (by omega)
    obtain ⟨b', off', rfl, hcy⟩ := hv'.cells (by omega)
    have HP : Hid (pairB max xs ys = jn max xs ys len) := by rw [Hid, pairB, h2, hlx]; rfl
    have h1 : 1 ≤ len := by omega
    have h8 : len ≤ 8 := by omega
    have hll : len ≤ len' := by omega
    obtain ⟨i0, hi0, hz0, hz1, hz2⟩ := info_parts Try.info2
    clear ox oy hl hlx hly kx
    go_enter Try.func16, Try.ntmps16
    go_wp2_with fail
    refine (l1Two_any _ _ _ _ _ _ xs ys _ hv0 hv0' hm hm').mono ?_
    rintro e w1 ⟨rfl, hw1⟩
    have HW : Hid (w1 = w.alloc (.cells #[] 2)) := hw1
    clear hw1 hv hv' hv0 hv0' hm hm'
    go_wp2
    go_loopw [5, 6] (fun v i wr => ∃ k : Nat, k ≤ len ∧ i = .int .i64 k ∧ wr.ownsRow w.heap.size 2 1 v k ((jn max xs ys k).map (Value.int .i64)) ∧ Below w.heap.size w wr) (fun _ i _ => len - (intOf i).toNat)
    case atStart => exact ⟨0, Nat.zero_le _, rfl, by rw [HW.out]; exact owns_empty w, by rw [HW.out]; exact hb0⟩
    case round =>
      obtain ⟨k, hk, rfl, hown, hbel⟩ := hrel
      have HB : Hid (Below w.heap.size w wr) := hbel
      have hsz := hbel.size
      clear hbel
      by_cases hlt : k < len
      · have lx := World.block_lt_of_cell? _ _ (hcx k hlt)
        have ly := World.block_lt_of_cell? _ _ (hcy k (by omega))
        have ex : wr.cell? ⟨b, off + k, none⟩ = some (.int .i64 (el xs k)) := (HB.out.cell (p := ⟨b, off + k, none⟩) lx).trans (hcx k hlt)
        have ey : wr.cell? ⟨b', off' + k, none⟩ = some (.int .i64 (el ys k)) := (HB.out.cell (p := ⟨b', off' + k, none⟩) ly).trans (hcy k (by omega))
        have ax := owns_ne hown lx
        have ay := owns_ne hown ly
        have hi1 : (k : Int) < (len : Int) := by omega
        have hi2 : (k : Int) < (len' : Int) := by omega
        have hi0' : (0 : Int) ≤ (k : Int) := by omega
        clear hcx hcy
        go_wp2_with fail
        go_region_held3 (fun w' => w'.cell? ⟨b, off + k, none⟩ = some (.int .i64 (el xs k)) ∧ w'.cell? ⟨b', off' + k, none⟩ = some (.int .i64 (el ys k)))
          (first
            | go_keep
            | (go_split_ands
               refine ⟨?_, ?_⟩
               · (rw [hgrow.cell_far _ (by simp; omega) (Ne.symm ax)]; assumption)
               · (rw [hgrow.cell_far _ (by simp; omega) (Ne.symm ay)]; assumption)))
          (first
            | (go_at_call 54; refine (l1Max_any _ _ _).mono ?_; rintro e w' ⟨rfl, rfl⟩)
            | (refine step_append_lies _ (by rfl) _ _ _ (by rfl) w.heap.size 2 i0 _ 1 8 Try.underlying24 hi0 hz0 hz1 hz2 rfl (by omega) u5 k _ (by rfl) ((hown.alloc _).drew) ⟨wr.heap.size, 0, none⟩ 1 1 [.int .i64 (max (el xs k) (el ys k))] (by rfl) (by rfl) (World.news_of_block (cs := #[.int .i64 (max (el xs k) (el ys k))]) (t := 2) (fr := (0, 0)) (heap_alloc_new wr _)) (by simp [Value.oneCell']) (by omega) (by unfold maxLen; omega) (by omega) (by simp; omega) (wr.heap.size + 1) (by simp) ?_; intro g cap w1 hown1 hgrow hat hlt))
        have R : Hid (w1.ownsRow w.heap.size 2 1 (.slice (some ⟨g, 0, none⟩) (k + 1) cap) (k + 1) ((jn max xs ys (k + 1)).map (Value.int .i64))) := by
          rw [Hid, jn_succ, List.map_append]; exact hown1
        have RB : Hid (Below w.heap.size w w1) := Below.grown ((HB.out.alloc hsz _).drew) hgrow (by simp; omega) (fun r hr => (hown.lt r hr).1)
        clear hown1 hgrow hat hlt hown ex ey ax ay
        go_wp2
        go_roundw
        case rel => exact ⟨k + 1, by omega, by go_num, R.out, RB.out⟩
        case measure => simp [intOf]; omega
      · have hkl : k = len := by omega
        subst hkl
        go_wp2
        go_ret
        obtain ⟨g, c, hvv, hg, ho⟩ := own_of_ownsRow hown (jn_length _ _ _ _).symm h1
        exact ⟨g, c, by rw [HP.out, ← hvv]; rfl, hg, by rw [HP.out]; exact ho, HB.out⟩

set_option maxRecDepth 100000 in
set_option maxHeartbeats 1600000 in
theorem specMeet_any (a a' : Option Addr) (len cap len' cap' : Nat) (xs ys : List Int) (w : World) (hv : Vec w a len xs) (hv' : Vec w a' len' ys) (hm : len ≤ maxLen) (hm' : len' ≤ maxLen) :
    Calls Try.prog 17 #[.slice a len cap, .slice a' len' cap'] w fun e w' => ∃ g c, e = .returned (.slice (some ⟨g, 0, none⟩) (pairB min xs ys).length c) ∧ w.heap.size ≤ g ∧ OwnAt w' g c (pairB min xs ys) ∧ Below w.heap.size w w' := by
  have hb0 : Below w.heap.size w (w.alloc (.cells #[] 2)) := (Below.refl _ _).alloc (Nat.le_refl _) _
  have hv0 := hv.below hb0 (Nat.le_refl _)
  have hv0' := hv'.below hb0 (Nat.le_refl _)
  cases h2 : twoB xs ys
  · have HP : Hid (pairB min xs ys = []) := by rw [Hid, pairB, h2]; rfl
    go_enter Try.func17, Try.ntmps17
    go_wp2_with fail
    refine (l1Two_any _ _ _ _ _ _ xs ys _ hv0 hv0' hm hm').mono ?_
    rintro e w1 ⟨rfl, hw1⟩
    have HW : Hid (w1 = w.alloc (.cells #[] 2)) := hw1
    clear hw1
    go_wp2
    go_ret
    refine ⟨w.heap.size, 0, by rw [HP.out]; rfl, Nat.le_refl _, ?_, ?_⟩
    · rw [HW.out, HP.out]; exact own_empty w
    · rw [HW.out]; exact hb0
  · obtain ⟨ox, oy, hl⟩ := twoB_true h2
    have kx := okB_len ox
    have hlx := hv.1
    have hly := hv'.1
    obtain ⟨b, off, rfl, hcx⟩ := hv.cells (by omega)
    obtain ⟨b', off', rfl, hcy⟩ := hv'.cells (by omega)
    have HP : Hid (pairB min xs ys = jn min xs ys len) := by rw [Hid, pairB, h2, hlx]; rfl
    have h1 : 1 ≤ len := by omega
    have h8 : len ≤ 8 := by omega
    have hll : len ≤ len' := by omega
    obtain ⟨i0, hi0, hz0, hz1, hz2⟩ := info_parts Try.info2
    clear ox oy hl hlx hly kx
    go_enter Try.func17, Try.ntmps17
    go_wp2_with fail
    refine (l1Two_any _ _ _ _ _ _ xs ys _ hv0 hv0' hm hm').mono ?_
    rintro e w1 ⟨rfl, hw1⟩
    have HW : Hid (w1 = w.alloc (.cells #[] 2)) := hw1
    clear hw1 hv hv' hv0 hv0' hm hm'
    go_wp2
    go_loopw [5, 6] (fun v i wr => ∃ k : Nat, k ≤ len ∧ i = .int .i64 k ∧ wr.ownsRow w.heap.size 2 1 v k ((jn min xs ys k).map (Value.int .i64)) ∧ Below w.heap.size w wr) (fun _ i _ => len - (intOf i).toNat)
    case atStart => exact ⟨0, Nat.zero_le _, rfl, by rw [HW.out]; exact owns_empty w, by rw [HW.out]; exact hb0⟩
    case round =>
      obtain ⟨k, hk, rfl, hown, hbel⟩ := hrel
      have HB : Hid (Below w.heap.size w wr) := hbel
      have hsz := hbel.size
      clear hbel
      by_cases hlt : k < len
      · have lx := World.block_lt_of_cell? _ _ (hcx k hlt)
        have ly := World.block_lt_of_cell? _ _ (hcy k (by omega))
        have ex : wr.cell? ⟨b, off + k, none⟩ = some (.int .i64 (el xs k)) := (HB.out.cell (p := ⟨b, off + k, none⟩) lx).trans (hcx k hlt)
        have ey : wr.cell? ⟨b', off' + k, none⟩ = some (.int .i64 (el ys k)) := (HB.out.cell (p := ⟨b', off' + k, none⟩) ly).trans (hcy k (by omega))
        have ax := owns_ne hown lx
        have ay := owns_ne hown ly
        have hi1 : (k : Int) < (len : Int) := by omega
        have hi2 : (k : Int) < (len' : Int) := by omega
        have hi0' : (0 : Int) ≤ (k : Int) := by omega
        clear hcx hcy
        go_wp2_with fail
        go_region_held3 (fun w' => w'.cell? ⟨b, off + k, none⟩ = some (.int .i64 (el xs k)) ∧ w'.cell? ⟨b', off' + k, none⟩ = some (.int .i64 (el ys k)))
          (first
            | go_keep
            | (go_split_ands
               refine ⟨?_, ?_⟩
               · (rw [hgrow.cell_far _ (by simp; omega) (Ne.symm ax)]; assumption)
               · (rw [hgrow.cell_far _ (by simp; omega) (Ne.symm ay)]; assumption)))
          (first
            | (go_at_call 55; refine (l1Min_any _ _ _).mono ?_; rintro e w' ⟨rfl, rfl⟩)
            | (refine step_append_lies _ (by rfl) _ _ _ (by rfl) w.heap.size 2 i0 _ 1 8 Try.underlying24 hi0 hz0 hz1 hz2 rfl (by omega) u5 k _ (by rfl) ((hown.alloc _).drew) ⟨wr.heap.size, 0, none⟩ 1 1 [.int .i64 (min (el xs k) (el ys k))] (by rfl) (by rfl) (World.news_of_block (cs := #[.int .i64 (min (el xs k) (el ys k))]) (t := 2) (fr := (0, 0)) (heap_alloc_new wr _)) (by simp [Value.oneCell']) (by omega) (by unfold maxLen; omega) (by omega) (by simp; omega) (wr.heap.size + 1) (by simp) ?_; intro g cap w1 hown1 hgrow hat hlt))
        have R : Hid (w1.ownsRow w.heap.size 2 1 (.slice (some ⟨g, 0, none⟩) (k + 1) cap) (k + 1) ((jn min xs ys (k + 1)).map (Value.int .i64))) := by
          rw [Hid, jn_succ, List.map_append]; exact hown1
        have RB : Hid (Below w.heap.size w w1) := Below.grown ((HB.out.alloc hsz _).drew) hgrow (by simp; omega) (fun r hr => (hown.lt r hr).1)
        clear hown1 hgrow hat hlt hown ex ey ax ay
        go_wp2
        go_roundw
        case rel => exact ⟨k + 1, by omega, by go_num, R.out, RB.out⟩
        case measure => simp [intOf]; omega
      · have hkl : k = len := by omega
        subst hkl
        go_wp2
        go_ret
        obtain ⟨g, c, hvv, hg, ho⟩ := own_of_ownsRow hown (jn_length _ _ _ _).symm h1
        exact ⟨g, c, by rw [HP.out, ← hvv]; rfl, hg, by rw [HP.out]; exact ho, HB.out⟩

/-- Block g alone has been written. -/
structure Touch (g : Nat) (w w' : World) : Prop where
  os : w'.os = w.os
  tape : w'.tape = w.tape
  output : w'.output = w.output
  size : w'.heap.size = w.heap.size
  block : ∀ k, k ≠ g → w'.heap[k]? = w.heap[k]?
theorem Touch.refl (g : Nat) (w : World) : Touch g w w := ⟨rfl, rfl, rfl, rfl, fun _ _ => rfl⟩
theorem Touch.set {g : Nat} {w w' : World} (h : Touch g w w') (i : Nat) (u : Value) : Touch g w (w'.setCell ⟨g, i, none⟩ u) :=
  ⟨h.os, h.tape, h.output, by simp [World.setCell, h.size], fun k hk => (Below.heap_setCell _ _ _ _ hk).trans (h.block k hk)⟩
theorem Touch.below {g B : Nat} {w w' : World} (h : Touch g w w') (hg : B ≤ g) : Below B w w' :=
  ⟨h.os, h.tape, h.output, Nat.le_of_eq h.size.symm, fun k hk => h.block k (by omega)⟩
theorem OwnAt.touch {w w' : World} {g g' cap : Nat} {zs : List Int} (h : OwnAt w g cap zs) (ht : Touch g' w w') (hne : g ≠ g') : OwnAt w' g cap zs := h.of_block (ht.block g hne)

def mk (zs : List Int) (k0 j : Nat) : List Int := (List.range zs.length).map (fun i => if i < j then ((k0 + i : Nat) : Int) else el zs i)
def marks (n k0 : Nat) : List Int := (List.range n).map (fun i => ((k0 + i : Nat) : Int))
theorem mk_zero (zs : List Int) (k0 : Nat) : mk zs k0 0 = zs := by
  refine eq_of_all (by simp [mk]) (fun j hj => ?_)
  simp [mk] at hj
  simp [mk, el, hj]
theorem mk_len (zs : List Int) (k0 j : Nat) : (mk zs k0 j).length = zs.length := by simp [mk]
theorem mk_step (zs : List Int) (k0 j : Nat) : (mk zs k0 j).set j ((k0 + j : Nat) : Int) = mk zs k0 (j + 1) := by
  refine List.ext_getElem (by simp [mk]) (fun i h1 h2 => ?_)
  rw [List.getElem_set]
  simp only [mk, List.getElem_map, List.getElem_range]
  by_cases e : j = i
  · subst e; simp
  · rw [if_neg e]
    by_cases hlt : i < j
    · rw [if_pos hlt, if_pos (by omega)]
    · rw [if_neg hlt, if_neg (by omega)]
theorem mk_done (zs : List Int) (k0 : Nat) : mk zs k0 zs.length = marks zs.length k0 := by
  refine List.ext_getElem (by simp [mk, marks]) (fun i h1 h2 => ?_)
  simp [mk] at h1
  simp [mk, marks, h1]
theorem marks_len (n k0 : Nat) : (marks n k0).length = n := by simp [marks]
theorem marks_el {n k0 i : Nat} (h : i < n) : el (marks n k0) i = ((k0 + i : Nat) : Int) := by simp [marks, el, h]

set_option maxHeartbeats 400000 in
theorem mark_any (g cap k0 : Nat) (zs : List Int) (w : World) (ho : OwnAt w g cap zs) (hk : k0 ≤ 10000000) (hn : zs.length ≤ 10000000) :
    Calls Try.prog 81 #[.slice (some ⟨g, 0, none⟩) zs.length cap, .int .i64 (k0 : Int)] w fun e w' => e = .returned (.int .i64 ((k0 + zs.length : Nat) : Int)) ∧ OwnAt w' g cap (marks zs.length k0) ∧ Touch g w w' := by
  go_enter Try.func81, Try.ntmps81
  go_wp2
  go_loopw [1, 5] (fun q i wr => ∃ j : Nat, j ≤ zs.length ∧ i = .int .i64 j ∧ q = .int .i64 ((k0 + j : Nat) : Int) ∧ OwnAt wr g cap (mk zs k0 j) ∧ Touch g w wr) (fun _ i _ => zs.length - (intOf i).toNat)
  case atStart => exact ⟨0, Nat.zero_le _, rfl, rfl, by rw [mk_zero]; exact ho, Touch.refl _ _⟩
  case round =>
    obtain ⟨j, hj, rfl, rfl, hown, ht⟩ := hrel
    have HO : Hid (OwnAt wr g cap (mk zs k0 j)) := hown
    have HT : Hid (Touch g w wr) := ht
    clear hown ht ho
    by_cases hlt : j < zs.length
    · have hc := HO.out.cell (i := j) (by rw [mk_len]; exact hlt)
      have hf := HO.out.frozen j
      have hi1 : (j : Int) < (zs.length : Int) := by omega
      go_wp2
      go_roundw
      case rel => exact ⟨j + 1, by omega, by go_num, by go_num, by rw [← mk_step]; exact HO.out.set j _, HT.out.set j _⟩
      case measure => simp [intOf]; omega
    · have hjl : j = zs.length := by omega
      subst hjl
      go_wp2
      go_ret
      exact ⟨rfl, by rw [← mk_done]; exact HO.out, HT.out⟩

set_option maxHeartbeats 400000 in
theorem held_any (g cap k0 n : Nat) (w : World) (ho : OwnAt w g cap (marks n k0)) (hk : k0 ≤ 10000000) (hn : n ≤ 10000000) :
    Calls Try.prog 83 #[.slice (some ⟨g, 0, none⟩) n cap, .int .i64 (k0 : Int)] w fun e w' => e = .returned (.int .i64 ((k0 + n : Nat) : Int)) ∧ w' = w := by
  go_enter Try.func83, Try.ntmps83
  go_wp2
  go_loop [1, 5] (fun q i => ∃ j : Nat, j ≤ n ∧ i = .int .i64 j ∧ q = .int .i64 ((k0 + j : Nat) : Int)) (fun _ i => n - (intOf i).toNat)
  case atStart => exact ⟨0, Nat.zero_le _, rfl, rfl⟩
  case round =>
    obtain ⟨j, hj, rfl, rfl⟩ := hrel
    by_cases hlt : j < n
    · have hc := ho.cell (i := j) (by rw [marks_len]; exact hlt)
      rw [marks_el hlt] at hc
      have hi1 : (j : Int) < (n : Int) := by omega
      go_wp2
      go_round
      case rel => exact ⟨j + 1, by omega, by go_num, by go_num⟩
      case measure => simp [intOf]; omega
    · have hjl : j = n := by omega
      subst hjl
      go_wp2
      go_ret
      exact ⟨rfl, rfl⟩
end Go.Proofs.Ytgaibngaincahaa

/-
  The contracts of the program's Join and Meet, and the walks of the laws FnExactJoin and FnExactMeet.
-/
namespace Go.Proofs.Ytgaibngaincahaa
open Go.RowKit

theorem one_vec (w : World) (y : Int) (hy : -9223372036854775808 ≤ y ∧ y ≤ 9223372036854775807) : Vec (w.alloc (.cells #[.int .i64 y] 2)) (some ⟨w.heap.size, 0, none⟩) 1 [y] := by
  refine ⟨rfl, by simpa using hy, .inr ⟨w.heap.size, 0, rfl, fun i hi => ?_⟩⟩
  have : i = 0 := by omega
  subst this
  simp [el]
theorem hiL_one (x y : Int) : hiL x [y] = max x y := rfl
theorem loL_one (x y : Int) : loL x [y] = min x y := rfl

set_option maxRecDepth 100000 in
set_option maxHeartbeats 1600000 in
theorem pairedJoin_any (a a' : Option Addr) (len cap len' cap' : Nat) (xs ys : List Int) (w : World) (hv : Vec w a len xs) (hv' : Vec w a' len' ys) (hc : len ≤ cap) (hc' : len' ≤ cap') (hm : cap ≤ maxLen) (hm' : cap' ≤ maxLen) :
    Calls Try.prog 48 #[.slice a len cap, .slice a' len' cap', .func (.func 49) #[] #[]] w fun e w' => ∃ g c, e = .returned (.slice (some ⟨g, 0, none⟩) (pairB max xs ys).length c) ∧ w.heap.size ≤ g ∧ OwnAt w' g c (pairB max xs ys) ∧ Below w.heap.size w w' := by
  cases h2 : twoB xs ys
  · have HP : Hid (pairB max xs ys = []) := by rw [Hid, pairB, h2]; rfl
    go_enter Try.func48, Try.ntmps48
    go_wp2_with fail
    refine (fits_any _ _ _ _ _ _ xs ys _ hv hv' hc hc' hm hm').mono ?_
    rintro e w1 ⟨rfl, n1, rfl⟩
    go_wp2
    go_ret
    refine ⟨w.heap.size, 0, by rw [HP.out]; rfl, Nat.le_refl _, ?_, belowN ((Below.refl _ _).alloc (Nat.le_refl _) _)⟩
    rw [HP.out]; exact (own_empty w).drewN n1
  · obtain ⟨ox, oy, hl⟩ := twoB_true h2
    have kx := okB_len ox
    have hlx := hv.1
    have hly := hv'.1
    have hfy := hv'.2.1
    obtain ⟨b, off, rfl, hcx⟩ := hv.cells (by omega)
    obtain ⟨b', off', rfl, hcy⟩ := hv'.cells (by omega)
    have HP : Hid (pairB max xs ys = jn max xs ys len) := by rw [Hid, pairB, h2, hlx]; rfl
    have HLY : Hid (ys.length = len') := hly
    have h1 : 1 ≤ len := by omega
    have h8 : len ≤ 8 := by omega
    have hll : len ≤ len' := by omega
    have hmk := run_make_row' (P := Try.prog) 24 2 (.int .i64 0) 8 Try.underlying24 Try.info2 rfl .i64 .i64 len (by omega) (by omega)
    clear ox oy hl hlx hly kx
    go_enter Try.func48, Try.ntmps48
    go_wp2_with fail
    refine (fits_any _ _ _ _ _ _ xs ys _ hv hv' hc hc' hm hm').mono ?_
    rintro e w1 ⟨rfl, n1, rfl⟩
    clear hv hv' hc hc' hm hm'
    go_wp2
    go_loopw [8, 9, 20] (fun _ _ i wr => ∃ k : Nat, k ≤ len ∧ i = .int .i64 k ∧ wr.rowIs w.heap.size 2 len (part (jn max xs ys len) k) ∧ Below w.heap.size w wr) (fun _ _ i _ => len - (intOf i).toNat)
    case atStart =>
      exact ⟨0, Nat.zero_le _, rfl, by
        have := part_start (w := w) (xs := jn max xs ys len)
        rw [jn_length] at this
        exact this, belowN ((Below.refl _ _).alloc (Nat.le_refl _) _)⟩
    case round =>
      obtain ⟨k, hk, rfl, hrow, hbel⟩ := hrel
      have HR : Hid (wr.rowIs w.heap.size 2 len (part (jn max xs ys len) k)) := hrow
      have HB : Hid (Below w.heap.size w wr) := hbel
      have hsz : w.heap.size < wr.heap.size := hrow.lt
      clear hrow hbel
      by_cases hlt : k < len
      · have lx := World.block_lt_of_cell? _ _ (hcx k hlt)
        have ly := World.block_lt_of_cell? _ _ (hcy k (by omega))
        have ex : wr.cell? ⟨b, off + k, none⟩ = some (.int .i64 (el xs k)) := (HB.out.cell (p := ⟨b, off + k, none⟩) lx).trans (hcx k hlt)
        have ey : wr.cell? ⟨b', off' + k, none⟩ = some (.int .i64 (el ys k)) := (HB.out.cell (p := ⟨b', off' + k, none⟩) ly).trans (hcy k (by omega))
        have hrow' := HR.out.alloc (.cells #[.int .i64 (el ys k)] 2)
        have hfr := hrow'.frozen k
        have hcl := hrow'.cell hlt
        have hV := one_vec wr (el ys k) (hfy _ (el_mem (by rw [HLY.out]; omega)))
        have hi1 : (k : Int) < (len : Int) := by omega
        have hi2 : (k : Int) < (len' : Int) := by omega
        have HRW : Hid ((wr.alloc (.cells #[.int .i64 (el ys k)] 2)).rowIs w.heap.size 2 len (part (jn max xs ys len) k)) := hrow'
        clear hcx hcy hrow'
        go_wp2_with fail
        refine (greatest_any _ _ _ _ [el ys k] _ hV (by decide)).mono ?_
        rintro e w2 ⟨rfl, hw2⟩
        have HW : Hid (w2 = wr.alloc (.cells #[.int .i64 (el ys k)] 2)) := hw2
        rw [← hw2] at hfr hcl
        have hs2 : w.heap.size < w2.heap.size := by rw [hw2]; simp; omega
        clear hw2 ex ey hV
        go_wp2
        go_roundw
        case rel => exact ⟨k + 1, by omega, by go_num, by
          have := part_step (b := w.heap.size) (xs := jn max xs ys len) (k := k) (w := w2) (by rw [jn_length, HW.out]; exact HRW.out)
          rw [jn_length, jn_el _ _ _ hlt] at this
          exact this, by
          have : Below w.heap.size w w2 := by rw [HW.out]; exact HB.out.alloc (by omega) _
          exact this.setCell (Nat.le_refl _) _⟩
        case measure => simp [intOf]; omega
      · have hkl : k = len := by omega
        subst hkl
        go_wp2
        go_ret
        refine ⟨w.heap.size, k, by rw [HP.out, jn_length]; rfl, Nat.le_refl _, ?_, HB.out⟩
        have hr : RowOf wr w.heap.size (jn max xs ys k) := part_done (k := k) (by rw [jn_length]; exact HR.out) (by rw [jn_length]; exact Nat.le_refl _)
        have := hr.own (by rw [jn_length]; unfold maxLen; omega)
        rw [jn_length] at this
        rw [HP.out]; exact this

set_option maxHeartbeats 400000 in
theorem implJoin_any (a a' : Option Addr) (len cap len' cap' : Nat) (xs ys : List Int) (w : World) (hv : Vec w a len xs) (hv' : Vec w a' len' ys) (hc : len ≤ cap) (hc' : len' ≤ cap') (hm : cap ≤ maxLen) (hm' : cap' ≤ maxLen) :
    Calls Try.prog 11 #[.slice a len cap, .slice a' len' cap'] w fun e w' => ∃ g c, e = .returned (.slice (some ⟨g, 0, none⟩) (pairB max xs ys).length c) ∧ w.heap.size ≤ g ∧ OwnAt w' g c (pairB max xs ys) ∧ Below w.heap.size w w' := by
  go_enter Try.func11, Try.ntmps11
  go_wp2_with fail
  refine (pairedJoin_any _ _ _ _ _ _ xs ys _ hv hv' hc hc' hm hm').mono ?_
  rintro e w1 ⟨g, c, rfl, hg, ho, hb⟩
  go_wp2
  go_ret
  exact ⟨g, c, rfl, hg, ho, hb⟩

set_option maxRecDepth 100000 in
set_option maxHeartbeats 1600000 in
theorem pairedMeet_any (a a' : Option Addr) (len cap len' cap' : Nat) (xs ys : List Int) (w : World) (hv : Vec w a len xs) (hv' : Vec w a' len' ys) (hc : len ≤ cap) (hc' : len' ≤ cap') (hm : cap ≤ maxLen) (hm' : cap' ≤ maxLen) :
    Calls Try.prog 48 #[.slice a len cap, .slice a' len' cap', .func (.func 50) #[] #[]] w fun e w' => ∃ g c, e = .returned (.slice (some ⟨g, 0, none⟩) (pairB min xs ys).length c) ∧ w.heap.size ≤ g ∧ OwnAt w' g c (pairB min xs ys) ∧ Below w.heap.size w w' := by
  cases h2 : twoB xs ys
  · have HP : Hid (pairB min xs ys = []) := by rw [Hid, pairB, h2]; rfl
    go_enter Try.func48, Try.ntmps48
    go_wp2_with fail
    refine (fits_any _ _ _ _ _ _ xs ys _ hv hv' hc hc' hm hm').mono ?_
    rintro e w1 ⟨rfl, n1, rfl⟩
    go_wp2
    go_ret
    refine ⟨w.heap.size, 0, by rw [HP.out]; rfl, Nat.le_refl _, ?_, belowN ((Below.refl _ _).alloc (Nat.le_refl _) _)⟩
    rw [HP.out]; exact (own_empty w).drewN n1
  · obtain ⟨ox, oy, hl⟩ := twoB_true h2
    have kx := okB_len ox
    have hlx := hv.1
    have hly := hv'.1
    have hfy := hv'.2.1
    obtain ⟨b, off, rfl, hcx⟩ := hv.cells (by omega)
    obtain ⟨b', off', rfl, hcy⟩ := hv'.cells (by omega)
    have HP : Hid (pairB min xs ys = jn min xs ys len) := by rw [Hid, pairB, h2, hlx]; rfl
    have HLY : Hid (ys.length = len') := hly
    have h1 : 1 ≤ len := by omega
    have h8 : len ≤ 8 := by omega
    have hll : len ≤ len' := by omega
    have hmk := run_make_row' (P := Try.prog) 24 2 (.int .i64 0) 8 Try.underlying24 Try.info2 rfl .i64 .i64 len (by omega) (by omega)
    clear ox oy hl hlx hly kx
    go_enter Try.func48, Try.ntmps48
    go_wp2_with fail
    refine (fits_any _ _ _ _ _ _ xs ys _ hv hv' hc hc' hm hm').mono ?_
    rintro e w1 ⟨rfl, n1, rfl⟩
    clear hv hv' hc hc' hm hm'
    go_wp2
    go_loopw [8, 9, 20] (fun _ _ i wr => ∃ k : Nat, k ≤ len ∧ i = .int .i64 k ∧ wr.rowIs w.heap.size 2 len (part (jn min xs ys len) k) ∧ Below w.heap.size w wr) (fun _ _ i _ => len - (intOf i).toNat)
    case atStart =>
      exact ⟨0, Nat.zero_le _, rfl, by
        have := part_start (w := w) (xs := jn min xs ys len)
        rw [jn_length] at this
        exact this, belowN ((Below.refl _ _).alloc (Nat.le_refl _) _)⟩
    case round =>
      obtain ⟨k, hk, rfl, hrow, hbel⟩ := hrel
      have HR : Hid (wr.rowIs w.heap.size 2 len (part (jn min xs ys len) k)) := hrow
      have HB : Hid (Below w.heap.size w wr) := hbel
      have hsz : w.heap.size < wr.heap.size := hrow.lt
      clear hrow hbel
      by_cases hlt : k < len
      · have lx := World.block_lt_of_cell? _ _ (hcx k hlt)
        have ly := World.block_lt_of_cell? _ _ (hcy k (by omega))
        have ex : wr.cell? ⟨b, off + k, none⟩ = some (.int .i64 (el xs k)) := (HB.out.cell (p := ⟨b, off + k, none⟩) lx).trans (hcx k hlt)
        have ey : wr.cell? ⟨b', off' + k, none⟩ = some (.int .i64 (el ys k)) := (HB.out.cell (p := ⟨b', off' + k, none⟩) ly).trans (hcy k (by omega))
        have hrow' := HR.out.alloc (.cells #[.int .i64 (el ys k)] 2)
        have hfr := hrow'.frozen k
        have hcl := hrow'.cell hlt
        have hV := one_vec wr (el ys k) (hfy _ (el_mem (by rw [HLY.out]; omega)))
        have hi1 : (k : Int) < (len : Int) := by omega
        have hi2 : (k : Int) < (len' : Int) := by omega
        have HRW : Hid ((wr.alloc (.cells #[.int .i64 (el ys k)] 2)).rowIs w.heap.size 2 len (part (jn min xs ys len) k)) := hrow'
        clear hcx hcy hrow'
        go_wp2_with fail
        refine (least_any _ _ _ _ [el ys k] _ hV (by decide)).mono ?_
        rintro e w2 ⟨rfl, hw2⟩
        have HW : Hid (w2 = wr.alloc (.cells #[.int .i64 (el ys k)] 2)) := hw2
        rw [← hw2] at hfr hcl
        have hs2 : w.heap.size < w2.heap.size := by rw [hw2]; simp; omega
        clear hw2 ex ey hV
        go_wp2
        go_roundw
        case rel => exact ⟨k + 1, by omega, by go_num, by
          have := part_step (b := w.heap.size) (xs := jn min xs ys len) (k := k) (w := w2) (by rw [jn_length, HW.out]; exact HRW.out)
          rw [jn_length, jn_el _ _ _ hlt] at this
          exact this, by
          have : Below w.heap.size w w2 := by rw [HW.out]; exact HB.out.alloc (by omega) _
          exact this.setCell (Nat.le_refl _) _⟩
        case measure => simp [intOf]; omega
      · have hkl : k = len := by omega
        subst hkl
        go_wp2
        go_ret
        refine ⟨w.heap.size, k, by rw [HP.out, jn_length]; rfl, Nat.le_refl _, ?_, HB.out⟩
        have hr : RowOf wr w.heap.size (jn min xs ys k) := part_done (k := k) (by rw [jn_length]; exact HR.out) (by rw [jn_length]; exact Nat.le_refl _)
        have := hr.own (by rw [jn_length]; unfold maxLen; omega)
        rw [jn_length] at this
        rw [HP.out]; exact this

set_option maxHeartbeats 400000 in
theorem implMeet_any (a a' : Option Addr) (len cap len' cap' : Nat) (xs ys : List Int) (w : World) (hv : Vec w a len xs) (hv' : Vec w a' len' ys) (hc : len ≤ cap) (hc' : len' ≤ cap') (hm : cap ≤ maxLen) (hm' : cap' ≤ maxLen) :
    Calls Try.prog 12 #[.slice a len cap, .slice a' len' cap'] w fun e w' => ∃ g c, e = .returned (.slice (some ⟨g, 0, none⟩) (pairB min xs ys).length c) ∧ w.heap.size ≤ g ∧ OwnAt w' g c (pairB min xs ys) ∧ Below w.heap.size w w' := by
  go_enter Try.func12, Try.ntmps12
  go_wp2_with fail
  refine (pairedMeet_any _ _ _ _ _ _ xs ys _ hv hv' hc hc' hm hm').mono ?_
  rintro e w1 ⟨g, c, rfl, hg, ho, hb⟩
  go_wp2
  go_ret
  exact ⟨g, c, rfl, hg, ho, hb⟩
end Go.Proofs.Ytgaibngaincahaa

/-
  The walks of the laws FnExactJoin and FnExactMeet: at every two arguments they return true, and nothing that was there is written.
-/
namespace Go.Proofs.Ytgaibngaincahaa
open Go.RowKit

theorem mark_at (g cap k0 : Nat) (q : Int) (zs : List Int) (n : Nat) (hn0 : n = zs.length) (w : World) (ho : OwnAt w g cap zs) (hq : q = (k0 : Int)) (hk : k0 ≤ 10000000) (hn : zs.length ≤ 10000000) :
    Calls Try.prog 81 #[.slice (some ⟨g, 0, none⟩) n cap, .int .i64 q] w fun e w' => e = .returned (.int .i64 (q + (n : Int))) ∧ OwnAt w' g cap (marks n k0) ∧ Touch g w w' := by
  subst hq hn0
  refine (mark_any g cap k0 zs w ho hk hn).mono ?_
  rintro e w' ⟨rfl, h⟩
  exact ⟨ret_int (by omega), h⟩
theorem held_at (g cap k0 n : Nat) (q : Int) (w : World) (ho : OwnAt w g cap (marks n k0)) (hq : q = (k0 : Int)) (hk : k0 ≤ 10000000) (hn : n ≤ 10000000) :
    Calls Try.prog 83 #[.slice (some ⟨g, 0, none⟩) n cap, .int .i64 q] w fun e w' => e = .returned (.int .i64 (q + (n : Int))) ∧ w' = w := by
  subst hq
  refine (held_any g cap k0 n w ho hk hn).mono ?_
  rintro e w' ⟨rfl, h⟩
  exact ⟨ret_int (by omega), h⟩

theorem pairB_fits (f : Int → Int → Int) (hf : ∀ x y, f x y = x ∨ f x y = y) (xs ys : List Int) : Fits (pairB f xs ys) := by
  unfold pairB
  cases h : twoB xs ys
  · intro x hx; simp at hx
  · obtain ⟨ox, oy, hl⟩ := twoB_true h
    intro x hx
    simp only [if_true, jn, List.mem_map, List.mem_range] at hx
    obtain ⟨i, hi, rfl⟩ := hx
    have h1 := okB_el ox hi
    have h2 := okB_el oy (i := i) (by omega)
    rcases hf (el xs i) (el ys i) with e | e <;> rw [e] <;> omega
theorem max_or (x y : Int) : max x y = x ∨ max x y = y := by omega
theorem min_or (x y : Int) : min x y = x ∨ min x y = y := by omega
theorem marks_fits (n k0 : Nat) (h : k0 + n ≤ 100000000) : Fits (marks n k0) := by
  intro x hx
  simp only [marks, List.mem_map, List.mem_range] at hx
  obtain ⟨i, hi, rfl⟩ := hx
  omega

/-- What the law holds of the four rows of its own, as the world goes on. -/
structure Four (w cur : World) (b0 b1 g c d e n0 n1 : Nat) (X0 X1 Z : List Int) : Prop where
  below : Below w.heap.size w cur
  x0 : OwnAt cur b0 n0 X0
  x1 : OwnAt cur b1 n1 X1
  got : OwnAt cur g c Z
  want : OwnAt cur d e Z
theorem Four.step {w cur next : World} {b0 b1 g c d e n0 n1 : Nat} {X0 X1 Z : List Int} (h : Four w cur b0 b1 g c d e n0 n1 X0 X1 Z) (hb : Below cur.heap.size cur next) : Four w next b0 b1 g c d e n0 n1 X0 X1 Z :=
  ⟨h.below.trans (hb.mono h.below.size), h.x0.below hb h.x0.lt, h.x1.below hb h.x1.lt, h.got.below hb h.got.lt, h.want.below hb h.want.lt⟩
theorem Four.drewN {w cur : World} {b0 b1 g c d e n0 n1 : Nat} {X0 X1 Z : List Int} (h : Four w cur b0 b1 g c d e n0 n1 X0 X1 Z) (n : Nat) : Four w (cur.drewN n) b0 b1 g c d e n0 n1 X0 X1 Z :=
  ⟨belowN h.below, h.x0, h.x1, h.got, h.want⟩

end Go.Proofs.Ytgaibngaincahaa
