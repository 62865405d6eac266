/-
  The contracts of the program's Join and Meet, and the walks of the laws FnExactJoin and FnExactMeet.
-/
import Derived.Test.YtacogcfdolmfpaaJoinSpec
namespace Go.Proofs.Ytacogcfdolmfpaa
open Go.RowKit

theorem one_vec (w : World) (y : Int) (hy : -9223372036854775808 ≤ y ∧ y ≤ 9223372036854775807) : Vec (w.alloc (.cells #[.int .i64 y] 2)) (some ⟨w.heap.size, 0, none⟩) 1 [y] := by
  refine ⟨rfl, by simpa using hy, .inr ⟨w.heap.size, 0, rfl, fun i hi => ?_⟩⟩
  have : i = 0 := by omega
  subst this
  simp [el]
theorem hiL_one (x y : Int) : hiL x [y] = max x y := rfl
theorem loL_one (x y : Int) : loL x [y] = min x y := rfl

set_option maxRecDepth 100000 in
set_option maxHeartbeats 1600000 in
theorem pairedJoin_any (a a' : Option Addr) (len cap len' cap' : Nat) (xs ys : List Int) (w : World) (hv : Vec w a len xs) (hv' : Vec w a' len' ys) (hc : len ≤ cap) (hc' : len' ≤ cap') (hm : cap ≤ maxLen) (hm' : cap' ≤ maxLen) :
    Calls Try.prog 68 #[.slice a len cap, .slice a' len' cap', .func (.func 69) #[] #[]] w fun e w' => ∃ g c, e = .returned (.slice (some ⟨g, 0, none⟩) (pairB max xs ys).length c) ∧ w.heap.size ≤ g ∧ OwnAt w' g c (pairB max xs ys) ∧ Below w.heap.size w w' := by
  cases h2 : twoB xs ys
  · have HP : Hid (pairB max xs ys = []) := by rw [Hid, pairB, h2]; rfl
    go_enter Try.func68, Try.ntmps68
    go_wp2_with fail
    refine (fits_any _ _ _ _ _ _ xs ys _ hv hv' hc hc' hm hm').mono ?_
    rintro e w1 ⟨rfl, n1, rfl⟩
    go_wp2
    go_ret
    refine ⟨w.heap.size, 0, by rw [HP.out]; rfl, Nat.le_refl _, ?_, belowN ((Below.refl _ _).alloc (Nat.le_refl _) _)⟩
    rw [HP.out]; exact (own_empty w).drewN n1
  · obtain ⟨ox, oy, hl⟩ := twoB_true h2
    have kx := okB_len ox
    have hlx := hv.1
    have hly := hv'.1
    have hfy := hv'.2.1
    obtain ⟨b, off, rfl, hcx⟩ := hv.cells (by omega)
    obtain ⟨b', off', rfl, hcy⟩ := hv'.cells (by omega)
    have HP : Hid (pairB max xs ys = jn max xs ys len) := by rw [Hid, pairB, h2, hlx]; rfl
    have HLY : Hid (ys.length = len') := hly
    have h1 : 1 ≤ len := by omega
    have h8 : len ≤ 8 := by omega
    have hll : len ≤ len' := by omega
    have hmk := run_make_row' (P := Try.prog) 24 2 (.int .i64 0) 8 Try.underlying24 Try.info2 rfl .i64 .i64 len (by omega) (by omega)
    clear ox oy hl hlx hly kx
    go_enter Try.func68, Try.ntmps68
    go_wp2_with fail
    refine (fits_any _ _ _ _ _ _ xs ys _ hv hv' hc hc' hm hm').mono ?_
    rintro e w1 ⟨rfl, n1, rfl⟩
    clear hv hv' hc hc' hm hm'
    go_wp2
    go_loopw [8, 9, 20] (fun _ _ i wr => ∃ k : Nat, k ≤ len ∧ i = .int .i64 k ∧ wr.rowIs w.heap.size 2 len (part (jn max xs ys len) k) ∧ Below w.heap.size w wr) (fun _ _ i _ => len - (intOf i).toNat)
    case atStart =>
      exact ⟨0, Nat.zero_le _, rfl, by
        have := part_start (w := w) (xs := jn max xs ys len)
        rw [jn_length] at this
        exact this, belowN ((Below.refl _ _).alloc (Nat.le_refl _) _)⟩
    case round =>
      obtain ⟨k, hk, rfl, hrow, hbel⟩ := hrel
      have HR : Hid (wr.rowIs w.heap.size 2 len (part (jn max xs ys len) k)) := hrow
      have HB : Hid (Below w.heap.size w wr) := hbel
      have hsz : w.heap.size < wr.heap.size := hrow.lt
      clear hrow hbel
      by_cases hlt : k < len
      · have lx := World.block_lt_of_cell? _ _ (hcx k hlt)
        have ly := World.block_lt_of_cell? _ _ (hcy k (by omega))
        have ex : wr.cell? ⟨b, off + k, none⟩ = some (.int .i64 (el xs k)) := (HB.out.cell (p := ⟨b, off + k, none⟩) lx).trans (hcx k hlt)
        have ey : wr.cell? ⟨b', off' + k, none⟩ = some (.int .i64 (el ys k)) := (HB.out.cell (p := ⟨b', off' + k, none⟩) ly).trans (hcy k (by omega))
        have hrow' := HR.out.alloc (.cells #[.int .i64 (el ys k)] 2)
        have hfr := hrow'.frozen k
        have hcl := hrow'.cell hlt
        have hV := one_vec wr (el ys k) (hfy _ (el_mem (by rw [HLY.out]; omega)))
        have hi1 : (k : Int) < (len : Int) := by omega
        have hi2 : (k : Int) < (len' : Int) := by omega
        have HRW : Hid ((wr.alloc (.cells #[.int .i64 (el ys k)] 2)).rowIs w.heap.size 2 len (part (jn max xs ys len) k)) := hrow'
        clear hcx hcy hrow'
        go_wp2_with fail
        refine (greatest_any _ _ _ _ [el ys k] _ hV (by decide)).mono ?_
        rintro e w2 ⟨rfl, hw2⟩
        have HW : Hid (w2 = wr.alloc (.cells #[.int .i64 (el ys k)] 2)) := hw2
        rw [← hw2] at hfr hcl
        have hs2 : w.heap.size < w2.heap.size := by rw [hw2]; simp; omega
        clear hw2 ex ey hV
        go_wp2
        go_roundw
        case rel => exact ⟨k + 1, by omega, by go_num, by
          have := part_step (b := w.heap.size) (xs := jn max xs ys len) (k := k) (w := w2) (by rw [jn_length, HW.out]; exact HRW.out)
          rw [jn_length, jn_el _ _ _ hlt] at this
          exact this, by
          have : Below w.heap.size w w2 := by rw [HW.out]; exact HB.out.alloc (by omega) _
          exact this.setCell (Nat.le_refl _) _⟩
        case measure => simp [intOf]; omega
      · have hkl : k = len := by omega
        subst hkl
        go_wp2
        go_ret
        refine ⟨w.heap.size, k, by rw [HP.out, jn_length]; rfl, Nat.le_refl _, ?_, HB.out⟩
        have hr : RowOf wr w.heap.size (jn max xs ys k) := part_done (k := k) (by rw [jn_length]; exact HR.out) (by rw [jn_length]; exact Nat.le_refl _)
        have := hr.own (by rw [jn_length]; unfold maxLen; omega)
        rw [jn_length] at this
        rw [HP.out]; exact this

set_option maxHeartbeats 400000 in
theorem implJoin_any (a a' : Option Addr) (len cap len' cap' : Nat) (xs ys : List Int) (w : World) (hv : Vec w a len xs) (hv' : Vec w a' len' ys) (hc : len ≤ cap) (hc' : len' ≤ cap') (hm : cap ≤ maxLen) (hm' : cap' ≤ maxLen) :
    Calls Try.prog 13 #[.slice a len cap, .slice a' len' cap'] w fun e w' => ∃ g c, e = .returned (.slice (some ⟨g, 0, none⟩) (pairB max xs ys).length c) ∧ w.heap.size ≤ g ∧ OwnAt w' g c (pairB max xs ys) ∧ Below w.heap.size w w' := by
  go_enter Try.func13, Try.ntmps13
  go_wp2_with fail
  refine (pairedJoin_any _ _ _ _ _ _ xs ys _ hv hv' hc hc' hm hm').mono ?_
  rintro e w1 ⟨g, c, rfl, hg, ho, hb⟩
  go_wp2
  go_ret
  exact ⟨g, c, rfl, hg, ho, hb⟩

set_option maxRecDepth 100000 in
set_option maxHeartbeats 1600000 in
theorem pairedMeet_any (a a' : Option Addr) (len cap len' cap' : Nat) (xs ys : List Int) (w : World) (hv : Vec w a len xs) (hv' : Vec w a' len' ys) (hc : len ≤ cap) (hc' : len' ≤ cap') (hm : cap ≤ maxLen) (hm' : cap' ≤ maxLen) :
    Calls Try.prog 68 #[.slice a len cap, .slice a' len' cap', .func (.func 70) #[] #[]] w fun e w' => ∃ g c, e = .returned (.slice (some ⟨g, 0, none⟩) (pairB min xs ys).length c) ∧ w.heap.size ≤ g ∧ OwnAt w' g c (pairB min xs ys) ∧ Below w.heap.size w w' := by
  cases h2 : twoB xs ys
  · have HP : Hid (pairB min xs ys = []) := by rw [Hid, pairB, h2]; rfl
    go_enter Try.func68, Try.ntmps68
    go_wp2_with fail
    refine (fits_any _ _ _ _ _ _ xs ys _ hv hv' hc hc' hm hm').mono ?_
    rintro e w1 ⟨rfl, n1, rfl⟩
    go_wp2
    go_ret
    refine ⟨w.heap.size, 0, by rw [HP.out]; rfl, Nat.le_refl _, ?_, belowN ((Below.refl _ _).alloc (Nat.le_refl _) _)⟩
    rw [HP.out]; exact (own_empty w).drewN n1
  · obtain ⟨ox, oy, hl⟩ := twoB_true h2
    have kx := okB_len ox
    have hlx := hv.1
    have hly := hv'.1
    have hfy := hv'.2.1
    obtain ⟨b, off, rfl, hcx⟩ := hv.cells (by omega)
    obtain ⟨b', off', rfl, hcy⟩ := hv'.cells (by omega)
    have HP : Hid (pairB min xs ys = jn min xs ys len) := by rw [Hid, pairB, h2, hlx]; rfl
    have HLY : Hid (ys.length = len') := hly
    have h1 : 1 ≤ len := by omega
    have h8 : len ≤ 8 := by omega
    have hll : len ≤ len' := by omega
    have hmk := run_make_row' (P := Try.prog) 24 2 (.int .i64 0) 8 Try.underlying24 Try.info2 rfl .i64 .i64 len (by omega) (by omega)
    clear ox oy hl hlx hly kx
    go_enter Try.func68, Try.ntmps68
    go_wp2_with fail
    refine (fits_any _ _ _ _ _ _ xs ys _ hv hv' hc hc' hm hm').mono ?_
    rintro e w1 ⟨rfl, n1, rfl⟩
    clear hv hv' hc hc' hm hm'
    go_wp2
    go_loopw [8, 9, 20] (fun _ _ i wr => ∃ k : Nat, k ≤ len ∧ i = .int .i64 k ∧ wr.rowIs w.heap.size 2 len (part (jn min xs ys len) k) ∧ Below w.heap.size w wr) (fun _ _ i _ => len - (intOf i).toNat)
    case atStart =>
      exact ⟨0, Nat.zero_le _, rfl, by
        have := part_start (w := w) (xs := jn min xs ys len)
        rw [jn_length] at this
        exact this, belowN ((Below.refl _ _).alloc (Nat.le_refl _) _)⟩
    case round =>
      obtain ⟨k, hk, rfl, hrow, hbel⟩ := hrel
      have HR : Hid (wr.rowIs w.heap.size 2 len (part (jn min xs ys len) k)) := hrow
      have HB : Hid (Below w.heap.size w wr) := hbel
      have hsz : w.heap.size < wr.heap.size := hrow.lt
      clear hrow hbel
      by_cases hlt : k < len
      · have lx := World.block_lt_of_cell? _ _ (hcx k hlt)
        have ly := World.block_lt_of_cell? _ _ (hcy k (by omega))
        have ex : wr.cell? ⟨b, off + k, none⟩ = some (.int .i64 (el xs k)) := (HB.out.cell (p := ⟨b, off + k, none⟩) lx).trans (hcx k hlt)
        have ey : wr.cell? ⟨b', off' + k, none⟩ = some (.int .i64 (el ys k)) := (HB.out.cell (p := ⟨b', off' + k, none⟩) ly).trans (hcy k (by omega))
        have hrow' := HR.out.alloc (.cells #[.int .i64 (el ys k)] 2)
        have hfr := hrow'.frozen k
        have hcl := hrow'.cell hlt
        have hV := one_vec wr (el ys k) (hfy _ (el_mem (by rw [HLY.out]; omega)))
        have hi1 : (k : Int) < (len : Int) := by omega
        have hi2 : (k : Int) < (len' : Int) := by omega
        have HRW : Hid ((wr.alloc (.cells #[.int .i64 (el ys k)] 2)).rowIs w.heap.size 2 len (part (jn min xs ys len) k)) := hrow'
        clear hcx hcy hrow'
        go_wp2_with fail
        refine (least_any _ _ _ _ [el ys k] _ hV (by decide)).mono ?_
        rintro e w2 ⟨rfl, hw2⟩
        have HW : Hid (w2 = wr.alloc (.cells #[.int .i64 (el ys k)] 2)) := hw2
        rw [← hw2] at hfr hcl
        have hs2 : w.heap.size < w2.heap.size := by rw [hw2]; simp; omega
        clear hw2 ex ey hV
        go_wp2
        go_roundw
        case rel => exact ⟨k + 1, by omega, by go_num, by
          have := part_step (b := w.heap.size) (xs := jn min xs ys len) (k := k) (w := w2) (by rw [jn_length, HW.out]; exact HRW.out)
          rw [jn_length, jn_el _ _ _ hlt] at this
          exact this, by
          have : Below w.heap.size w w2 := by rw [HW.out]; exact HB.out.alloc (by omega) _
          exact this.setCell (Nat.le_refl _) _⟩
        case measure => simp [intOf]; omega
      · have hkl : k = len := by omega
        subst hkl
        go_wp2
        go_ret
        refine ⟨w.heap.size, k, by rw [HP.out, jn_length]; rfl, Nat.le_refl _, ?_, HB.out⟩
        have hr : RowOf wr w.heap.size (jn min xs ys k) := part_done (k := k) (by rw [jn_length]; exact HR.out) (by rw [jn_length]; exact Nat.le_refl _)
        have := hr.own (by rw [jn_length]; unfold maxLen; omega)
        rw [jn_length] at this
        rw [HP.out]; exact this

set_option maxHeartbeats 400000 in
theorem implMeet_any (a a' : Option Addr) (len cap len' cap' : Nat) (xs ys : List Int) (w : World) (hv : Vec w a len xs) (hv' : Vec w a' len' ys) (hc : len ≤ cap) (hc' : len' ≤ cap') (hm : cap ≤ maxLen) (hm' : cap' ≤ maxLen) :
    Calls Try.prog 14 #[.slice a len cap, .slice a' len' cap'] w fun e w' => ∃ g c, e = .returned (.slice (some ⟨g, 0, none⟩) (pairB min xs ys).length c) ∧ w.heap.size ≤ g ∧ OwnAt w' g c (pairB min xs ys) ∧ Below w.heap.size w w' := by
  go_enter Try.func14, Try.ntmps14
  go_wp2_with fail
  refine (pairedMeet_any _ _ _ _ _ _ xs ys _ hv hv' hc hc' hm hm').mono ?_
  rintro e w1 ⟨g, c, rfl, hg, ho, hb⟩
  go_wp2
  go_ret
  exact ⟨g, c, rfl, hg, ho, hb⟩
end Go.Proofs.Ytacogcfdolmfpaa
