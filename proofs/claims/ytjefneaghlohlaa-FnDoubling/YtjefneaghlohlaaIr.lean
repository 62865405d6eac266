/-
  Several texts in one: Dr9 Hrs.
-/
import Derived.Test.YtjefneaghlohlaaIq
import Derived.Test.YtjefneaghlohlaaIw
import Derived.Test.YtjefneaghlohlaaHh
/-
  The contracts of the specification's draws of chapter 9: some numbers.
-/
namespace Go.Proofs.Ytjefneaghlohlaa
set_option linter.unusedVariables false
set_option linter.unusedSimpArgs false
open Go.RowKit Go.Sort

theorem grown_below9 {w X X' : World} {p : Nat} (hg : X.grownBy X' (some p)) (hb : Below w.heap.size w X) (hp : w.heap.size ≤ p) : Below w.heap.size w X' := below_of_grown hb hg (fun k e => by cases e; exact hp) hb.size
def lit9 : List Int := [-1, 0, 1, 999, 1000, 1001, 512, -9223372036854775808]
theorem lit9_bd {i : Nat} (h : i < 8) : I64t (el lit9 i) := by
  have : el lit9 i ∈ lit9 := el_mem (by simpa [lit9] using h)
  generalize el lit9 i = z at *
  simp only [lit9, List.mem_cons, List.not_mem_nil, or_false] at this
  unfold I64t
  omega

set_option maxRecDepth 100000 in
set_option maxHeartbeats 800000 in
theorem l9Draw_any (p : Nat) (a : Option Addr) (len cap : Nat) (bs : Nat → Int) (w X : World) (hC : Cc w X p a len cap bs) :
    Calls Try.prog 73 #[.pointer (some ⟨p, 0, none⟩)] X fun e w' => ∃ x : Int, e = .returned (.int .i64 x) ∧ I64t x ∧ Cc w w' p a len cap bs := by
  have hpX := hC.lt
  go_enter Try.func73, Try.ntmps73
  go_wp2_with fail
  refine (onceC 6 hC (by omega)).mono ?_
  rintro e X1 ⟨t, rfl, C1, hg1⟩
  cases t
  · go_wp2_with fail
    refine (belowC 60 60 rfl C1 (by omega) (by omega)).mono ?_
    rintro e X2 ⟨Y, rfl, hY, C2, hg2⟩
    have b1 : (1 : Int) + (Y : Int) ≤ 9223372036854775807 := by omega
    go_wp2
    go_ret
    exact ⟨1 + (Y : Int), rfl, ⟨by omega, by omega⟩, C2⟩
  · have hb2 := (Below.refl X1.heap.size X1).alloc (Nat.le_refl _) (.cells #[.int .i64 (-1), .int .i64 0, .int .i64 1, .int .i64 999, .int .i64 1000, .int .i64 1001, .int .i64 512, .int .i64 (-9223372036854775808)] 2)
    have L2 : Bx (X1.alloc (.cells #[.int .i64 (-1), .int .i64 0, .int .i64 1, .int .i64 999, .int .i64 1000, .int .i64 1001, .int .i64 512, .int .i64 (-9223372036854775808)] 2)) X1.heap.size 2 (arC lit9) := Bx.new X1 2 _
    have C2 := C1.step hb2
    have lp := C1.lt
    generalize hW : X1.alloc (.cells #[.int .i64 (-1), .int .i64 0, .int .i64 1, .int .i64 999, .int .i64 1000, .int .i64 1001, .int .i64 512, .int .i64 (-9223372036854775808)] 2) = X2 at *
    go_wp2_with fail
    refine (belowC 8 8 rfl C2 (by omega) (by omega)).mono ?_
    rintro e X3 ⟨Y, rfl, hY, C3, hg3⟩
    have m1 := cell_arC (L2.grown hg3 (by simp; omega)) (i := Y) hY
    have hz := lit9_bd hY
    have i1 : (Y : Int) < 8 := by omega
    have i0 : (0 : Int) ≤ (Y : Int) := by omega
    generalize el lit9 Y = z at *
    go_wp2
    go_ret
    exact ⟨z, rfl, hz, C3⟩

set_option maxHeartbeats 400000 in
theorem drawRounds_any (a : Option Addr) (len cap : Nat) (bs : Nat → Int) (w : World) (hv : BVec w a len bs) (hl : len ≤ 4096) :
    Calls Try.prog 43 #[.slice a len cap] w fun e w' => ∃ x : Int, e = .returned (.int .i64 x) ∧ I64t x ∧ Below w.heap.size w w' := by
  go_enter Try.func43, Try.ntmps43
  go_wp2_with fail
  refine (newC a len cap bs w w (Below.refl _ _) hv hl).mono ?_
  rintro e w1 ⟨p, rfl, hp, C1, hb1⟩
  go_wp2_with fail
  refine (l9Draw_any p a len cap bs w w1 C1).mono ?_
  rintro e w2 ⟨x, rfl, hx, C2⟩
  have HB : Hid (Below w.heap.size w w2) := C2.below
  clear C1 C2 hb1
  go_wp2
  go_ret
  exact ⟨x, rfl, hx, HB.out⟩

set_option maxHeartbeats 400000 in
theorem drawParent_any (a : Option Addr) (len cap : Nat) (bs : Nat → Int) (w : World) (hv : BVec w a len bs) (hl : len ≤ 4096) :
    Calls Try.prog 29 #[.slice a len cap] w fun e w' => ∃ x : Int, e = .returned (.int .i64 x) ∧ I64t x ∧ Below w.heap.size w w' := by
  go_enter Try.func29, Try.ntmps29
  go_wp2_with fail
  refine (newC a len cap bs w w (Below.refl _ _) hv hl).mono ?_
  rintro e w1 ⟨p, rfl, hp, C1, hb1⟩
  go_wp2_with fail
  refine (l9Draw_any p a len cap bs w w1 C1).mono ?_
  rintro e w2 ⟨x, rfl, hx, C2⟩
  have HB : Hid (Below w.heap.size w w2) := C2.below
  clear C1 C2 hb1
  go_wp2
  go_ret
  exact ⟨x, rfl, hx, HB.out⟩

set_option maxHeartbeats 400000 in
theorem drawDepth_any (a : Option Addr) (len cap : Nat) (bs : Nat → Int) (w : World) (hv : BVec w a len bs) (hl : len ≤ 4096) :
    Calls Try.prog 33 #[.slice a len cap] w fun e w' => ∃ x : Int, e = .returned (.int .i64 x) ∧ I64t x ∧ Below w.heap.size w w' := by
  go_enter Try.func33, Try.ntmps33
  go_wp2_with fail
  refine (newC a len cap bs w w (Below.refl _ _) hv hl).mono ?_
  rintro e w1 ⟨p, rfl, hp, C1, hb1⟩
  go_wp2_with fail
  refine (l9Draw_any p a len cap bs w w1 C1).mono ?_
  rintro e w2 ⟨x, rfl, hx, C2⟩
  have HB : Hid (Below w.heap.size w w2) := C2.below
  clear C1 C2 hb1
  go_wp2
  go_ret
  exact ⟨x, rfl, hx, HB.out⟩

set_option maxHeartbeats 800000 in
theorem drawChildren_any (a : Option Addr) (len cap : Nat) (bs : Nat → Int) (w : World) (hv : BVec w a len bs) (hl : len ≤ 4096) :
    Calls Try.prog 31 #[.slice a len cap] w fun e w' => ∃ x y : Int, e = .returned (.tuple #[.int .i64 x, .int .i64 y]) ∧ I64t x ∧ (-1 ≤ y ∧ y ≤ 20) ∧ Below w.heap.size w w' := by
  go_enter Try.func31, Try.ntmps31
  go_wp2_with fail
  refine (newC a len cap bs w w (Below.refl _ _) hv hl).mono ?_
  rintro e w1 ⟨p, rfl, hp, C1, hb1⟩
  go_wp2_with fail
  refine (l9Draw_any p a len cap bs w w1 C1).mono ?_
  rintro e w2 ⟨x, rfl, hx, C2⟩
  go_wp2_with fail
  refine (fromC (-1) 20 (by omega) (by omega) (by omega) C2).mono ?_
  rintro e w3 ⟨y, rfl, hy0, hy1, C3, _⟩
  have HB : Hid (Below w.heap.size w w3) := C3.below
  clear C1 C2 C3 hb1
  go_wp2
  refine bodyPost_ret (v := .tuple #[.int .i64 x, .int .i64 y]) (by simp [results, Try.results31, go_sem]) rfl ?_
  exact ⟨x, y, rfl, hx, ⟨hy0, hy1⟩, HB.out⟩

set_option maxHeartbeats 800000 in
theorem drawCalls_any (a : Option Addr) (len cap : Nat) (bs : Nat → Int) (w : World) (hv : BVec w a len bs) (hl : len ≤ 4096) :
    Calls Try.prog 41 #[.slice a len cap] w fun e w' => ∃ x y : Int, e = .returned (.tuple #[.int .i64 x, .int .i64 y]) ∧ I64t x ∧ (-1 ≤ y ∧ y ≤ 13) ∧ Below w.heap.size w w' := by
  go_enter Try.func41, Try.ntmps41
  go_wp2_with fail
  refine (newC a len cap bs w w (Below.refl _ _) hv hl).mono ?_
  rintro e w1 ⟨p, rfl, hp, C1, hb1⟩
  go_wp2_with fail
  refine (l9Draw_any p a len cap bs w w1 C1).mono ?_
  rintro e w2 ⟨x, rfl, hx, C2⟩
  go_wp2_with fail
  refine (fromC (-1) 13 (by omega) (by omega) (by omega) C2).mono ?_
  rintro e w3 ⟨y, rfl, hy0, hy1, C3, _⟩
  have HB : Hid (Below w.heap.size w w3) := C3.below
  clear C1 C2 C3 hb1
  go_wp2
  refine bodyPost_ret (v := .tuple #[.int .i64 x, .int .i64 y]) (by simp [results, Try.results41, go_sem]) rfl ?_
  exact ⟨x, y, rfl, hx, ⟨hy0, hy1⟩, HB.out⟩
end Go.Proofs.Ytjefneaghlohlaa

/-
  The laws' own helpers has and rises.
-/
namespace Go.Proofs.Ytjefneaghlohlaa
set_option linter.unusedSimpArgs false
set_option linter.unusedVariables false
open Go.RowKit Go.Sort

theorem el_mem9 {xs : List Int} {x : Int} : x ∈ xs ↔ ∃ j, j < xs.length ∧ el xs j = x := by
  constructor
  · intro h
    obtain ⟨j, hj, rfl⟩ := List.getElem_of_mem h
    exact ⟨j, hj, el_eq hj⟩
  · rintro ⟨j, hj, rfl⟩
    exact el_mem hj
theorem rises_el9 {Z : List Int} (h : Z.Pairwise (· < ·)) : ∀ j, j + 1 < Z.length → el Z j < el Z (j + 1) := fun j hj => by
  rw [el_eq (by omega), el_eq hj]
  exact List.pairwise_iff_getElem.1 h j (j + 1) (by omega) hj (by omega)

set_option maxHeartbeats 400000 in
theorem has9_any (b off len cap : Nat) (x : Int) (xs : List Int) (w : World) (hlen : xs.length = len) (hc : ∀ i, i < len → w.cell? ⟨b, off + i, none⟩ = some (.int .i64 (el xs i))) (hm : len ≤ maxLen) :
    Calls Try.prog 40 #[.slice (some ⟨b, off, none⟩) len cap, .int .i64 x] w fun e w' => e = .returned (.bool (decide (x ∈ xs))) ∧ w' = w := by
  unfold maxLen at hm
  have HL : Hid (xs.length = len) := hlen
  clear hlen
  go_enter Try.func40, Try.ntmps40
  go_wp2
  go_loop [5] (fun i => ∃ k : Nat, k ≤ len ∧ i = .int .i64 k ∧ ∀ j, j < k → el xs j ≠ x) (fun i => len - (intOf i).toNat)
  case atStart => exact ⟨0, Nat.zero_le _, rfl, fun j hj => by omega⟩
  case round =>
    obtain ⟨k, hk, rfl, hno⟩ := hrel
    have HN : Hid (∀ j, j < k → el xs j ≠ x) := hno
    clear hno
    by_cases hlt : k < len
    · have hck := hc k hlt
      by_cases he : el xs k = x
      · have hb : (el xs k == x) = true := by simpa using he
        have HF : Hid (decide (x ∈ xs) = true) := by rw [Hid, decide_eq_true_eq]; exact el_mem9.2 ⟨k, by rw [HL.out]; exact hlt, he⟩
        clear he
        go_wp2
        go_ret
        exact ⟨ret_bool (by rw [HF.out]), rfl⟩
      · have hb : (el xs k == x) = false := by simpa using he
        have HE : Hid (el xs k ≠ x) := he
        clear he
        go_wp2
        go_round
        case rel => exact ⟨k + 1, by omega, by go_num, fun j hj => by
          rcases Nat.lt_succ_iff_lt_or_eq.1 hj with h | h
          · exact HN.out j h
          · rw [h]; exact HE.out⟩
        case measure => simp [intOf]; omega
    · have HF : Hid (decide (x ∈ xs) = false) := by
        rw [Hid, decide_eq_false_iff_not, el_mem9]
        rintro ⟨j, hj, e⟩
        exact HN.out j (by rw [HL.out] at hj; omega) e
      go_wp2
      go_ret
      exact ⟨ret_bool (by rw [HF.out]), rfl⟩

set_option maxHeartbeats 400000 in
theorem rises9_any (b off len cap : Nat) (xs : List Int) (w : World) (hlen : xs.length = len) (hc : ∀ i, i < len → w.cell? ⟨b, off + i, none⟩ = some (.int .i64 (el xs i))) (hm : len ≤ 1000000) (hr : ∀ j, j + 1 < len → el xs j < el xs (j + 1)) :
    Calls Try.prog 38 #[.slice (some ⟨b, off, none⟩) len cap] w fun e w' => e = .returned (.bool true) ∧ ∃ n, w' = w.drewN n := by
  have HR : Hid (∀ j, j + 1 < len → el xs j < el xs (j + 1)) := hr
  clear hr hlen
  go_enter Try.func38, Try.ntmps38
  go_wp2
  go_loopw [3] (fun i wr => ∃ k n : Nat, k ≤ len ∧ i = .int .i64 ((k : Int) + 1) ∧ wr = w.drewN n) (fun i _ => (len + 1) - (intOf i).toNat)
  case atStart => exact ⟨0, 0, Nat.zero_le _, rfl, rfl⟩
  case round =>
    obtain ⟨k, n, hk, rfl, rfl⟩ := hrel
    by_cases hlt : k + 1 < len
    · have c1 := hc (k + 1) hlt
      have c0 := hc k (by omega)
      have hd : decide (el xs (k + 1) ≤ el xs k) = false := by have := HR.out k hlt; simp; omega
      have h1 : (k : Int) + 1 < (len : Int) := by omega
      have h2 : (k : Int) < (len : Int) := by omega
      have h0 : (0 : Int) ≤ (k : Int) + 1 := by omega
      have h3 : (0 : Int) ≤ (k : Int) := by omega
      have e1 : ((k : Int) + 1).toNat = k + 1 := by omega
      go_wp2_with fail
      go_quiet (fail)
      go_wp2
      go_roundw
      case rel => exact ⟨k + 1, _, by omega, by go_num, rfl⟩
      case measure => simp [intOf]; omega
    · have hd : decide ((k : Int) + 1 < (len : Int)) = false := by simp; omega
      go_wp2
      go_ret
      exact ⟨rfl, _, rfl⟩
end Go.Proofs.Ytjefneaghlohlaa
