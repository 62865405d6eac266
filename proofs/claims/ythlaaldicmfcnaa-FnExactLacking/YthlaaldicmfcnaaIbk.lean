/-
  The program's isTotal, isWithin, isOf and areOf of blocks.
-/
import Derived.Test.YthlaaldicmfcnaaKp
namespace Go.Proofs.Ythlaaldicmfcnaa
set_option linter.unusedVariables false
set_option linter.unusedSimpArgs false
open Go.RowKit Go.Sort

set_option maxHeartbeats 400000 in
theorem isWb_any (n last : Int) (w : World) : Calls Try.prog 81 #[.int .i64 n, .int .i64 last] w fun e w' => e = .returned (.bool (inB n 0 last)) ∧ w' = w := by
  by_cases h0 : (0 : Int) ≤ n
  · have H : Hid (inB n 0 last = decide (n ≤ last)) := by rw [Hid, inB]; simp [h0]
    go_enter Try.func81, Try.ntmps81
    go_wp2
    go_ret
    exact ⟨ret_bool (by rw [H.out]), rfl⟩
  · have H : Hid (inB n 0 last = false) := by rw [Hid, inB]; simp [h0]
    go_enter Try.func81, Try.ntmps81
    go_wp2
    go_ret
    exact ⟨ret_bool (by rw [H.out]), rfl⟩
set_option maxHeartbeats 400000 in
theorem isTt_any (n : Int) (w : World) : Calls Try.prog 69 #[.int .i64 n] w fun e w' => e = .returned (.bool (inB n 1 12)) ∧ w' = w := by
  by_cases h0 : (1 : Int) ≤ n
  · have H : Hid (inB n 1 12 = decide (n ≤ 12)) := by rw [Hid, inB]; simp [h0]
    go_enter Try.func69, Try.ntmps69
    go_wp2
    go_ret
    exact ⟨ret_bool (by rw [H.out]), rfl⟩
  · have H : Hid (inB n 1 12 = false) := by rw [Hid, inB]; simp [h0]
    go_enter Try.func69, Try.ntmps69
    go_wp2
    go_ret
    exact ⟨ret_bool (by rw [H.out]), rfl⟩
/-- A right block of this total. -/
def ofB (b : Blk) (t : Int) : Bool := okBk b && b.2.1 == t
attribute [local irreducible] sv
set_option maxHeartbeats 800000 in
theorem isOf_any (x y t : Int) (z : List UInt8) (w : World) (hz : z.length ≤ 1000000000000) : Calls Try.prog 70 #[.agg #[.int .i64 x, .int .i64 y, .string (sv z)], .int .i64 t] w fun e w' => e = .returned (.bool (ofB (x, y, z) t)) ∧ Grew w w' := by
  have hsz := sv_size z
  have HG : ∀ o, Hid (Grew w (w.alloc o)) := fun o => (Grew.refl _).alloc _
  cases ey : (y == t) with
  | false =>
    have HZ : Hid (ofB (x, y, z) t = false) := by rw [Hid, ofB, ey]; simp
    go_enter Try.func70, Try.ntmps70
    go_wp2
    go_ret
    exact ⟨ret_bool (by rw [HZ.out]), (HG _).out⟩
  | true =>
    obtain rfl : y = t := by simpa using ey
    clear ey
    cases e0 : inB y 1 12 with
    | false =>
      have HZ : Hid (ofB (x, y, z) y = false) := by rw [Hid, ofB, okBk, e0]; rfl
      have C := fun X => isTt_any y X
      rw [e0] at C
      clear e0
      go_enter Try.func70, Try.ntmps70
      go_wp2_with (go_at_call 69; refine (C _).mono ?_; rintro e w' ⟨rfl, hw'⟩; rw [hw']; clear hw')
      go_ret
      exact ⟨ret_bool (by rw [HZ.out]), (HG _).out⟩
    | true =>
      have hy := inB7.1 e0
      have b1 : y - 1 ≤ 9223372036854775807 := by omega
      have b2 : -9223372036854775808 ≤ y - 1 := by omega
      have C := fun X => isTt_any y X
      rw [e0] at C
      cases e1 : inB x 0 (y - 1) with
      | false =>
        have HZ : Hid (ofB (x, y, z) y = false) := by rw [Hid, ofB, okBk, e0, e1]; rfl
        have D := fun X => isWb_any x (y - 1) X
        rw [e1] at D
        clear e0 e1
        go_enter Try.func70, Try.ntmps70
        go_wp2_with (first | (go_at_call 69; refine (C _).mono ?_; rintro e w' ⟨rfl, hw'⟩; rw [hw']; clear hw') | (go_at_call 81; refine (D _).mono ?_; rintro e w' ⟨rfl, hw'⟩; rw [hw']; clear hw'))
        go_ret
        exact ⟨ret_bool (by rw [HZ.out]), (HG _).out⟩
      | true =>
        have HZ : Hid (ofB (x, y, z) y = decide ((z.length : Int) ≤ 100)) := by
          rw [Hid, ofB, okBk, e0, e1]
          simp only [Bool.true_and, beq_self_eq_true, Bool.and_true]
          exact decide_eq_decide.2 (by omega)
        have D := fun X => isWb_any x (y - 1) X
        rw [e1] at D
        clear e0 e1
        go_enter Try.func70, Try.ntmps70
        go_wp2_with (first | (go_at_call 69; refine (C _).mono ?_; rintro e w' ⟨rfl, hw'⟩; rw [hw']; clear hw') | (go_at_call 81; refine (D _).mono ?_; rintro e w' ⟨rfl, hw'⟩; rw [hw']; clear hw'))
        go_ret
        exact ⟨ret_bool (by rw [HZ.out]), (HG _).out⟩
/-- What a round over blocks lays and asks. -/
theorem ofB_bat {L : List Blk} {j : Nat} {t : Int} : ofB ((bat L j).1, (bat L j).2.1, (bat L j).2.2) t = ofB (bat L j) t := rfl
set_option maxRecDepth 100000 in
set_option maxHeartbeats 800000 in
theorem areOf_any (a : Option Addr) (n cap : Nat) (L : List Blk) (total : Int) (w : World) (hv : BkS w a n L) (hsh : ShortB L) (hm : n ≤ 1048576) :
    Calls Try.prog 66 #[.int .i64 total, .slice a n cap] w fun e w' => e = .returned (.bool (L.all (fun b => ofB b total))) ∧ Below w.heap.size w w' := by
  have HN : Hid (L.length = n) := hv.1
  have HV : Hid (BkS w a n L) := hv
  clear hv
  go_enter Try.func66, Try.ntmps66
  go_wp2
  go_loopw [9] (fun i wr => ∃ k : Nat, k ≤ n ∧ i = .int .i64 (k : Int) ∧ (∀ j, j < k → ofB (bat L j) total = true) ∧ Below w.heap.size w wr) (fun i _ => n - (intOf i).toNat)
  case atStart => exact ⟨0, Nat.zero_le _, rfl, fun j hj => by omega, Below.refl _ _⟩
  case round =>
    obtain ⟨k, hk, rfl, hall, hgr⟩ := hrel
    have HA : Hid (∀ j, j < k → ofB (bat L j) total = true) := hall
    have HG : Hid (Below w.heap.size w wr) := hgr
    clear hall
    by_cases hlt : k < n
    · have k1 : (k : Int) < (n : Int) := by omega
      have k0 : (0 : Int) ≤ (k : Int) := by omega
      obtain ⟨_, h0 | ⟨bb, bo, rfl, hcs⟩⟩ := HV.out.below hgr
      · omega
      obtain ⟨c0, c1, c2⟩ := hcs k hlt
      have hzl := hsh k (by rw [HN.out]; exact hlt)
      have C := fun X => isOf_any (bat L k).1 (bat L k).2.1 total (bat L k).2.2 X (by omega)
      rw [ofB_bat] at C
      have HO : Hid (∀ o, Below w.heap.size w (wr.alloc o)) := fun o => HG.out.alloc HG.out.size _
      have HM : Hid (bat L k ∈ L) := bat_mem (by rw [HN.out]; exact hlt)
      have HS : Hid (∀ v, ofB (bat L k) total = v → v = true → ∀ j, j < k + 1 → ofB (bat L j) total = true) := fun v h1 h2 j hj => by
        by_cases e : j = k
        · rw [e, h1, h2]
        · exact HA.out j (by omega)
      have HF : Hid (∀ v, ofB (bat L k) total = v → v = false → L.all (fun b => ofB b total) = false) := fun v h1 h2 => by
        rw [List.all_eq_false]
        exact ⟨_, HM.out, by rw [h1, h2]; simp⟩
      generalize hOb : ofB (bat L k) total = ob at *
      generalize (bat L k).1 = x at *
      generalize (bat L k).2.1 = y at *
      generalize (bat L k).2.2 = z at *
      clear hcs hgr
      cases ob
      · have HZ := HF.out _ rfl rfl
        have HZ' : Hid (L.all (fun b => ofB b total) = false) := HZ
        clear HZ
        go_wp2_with (go_at_call 70; refine (C _).mono ?_; rintro e w' ⟨rfl, hg'⟩; have hb' := hg'.1; clear hg')
        have HB' : Hid (Below w.heap.size w w') := (HO.out _).trans (hb'.mono (HO.out _).size)
        clear hb'
        go_ret
        exact ⟨ret_bool (by rw [HZ'.out]), HB'.out⟩
      · have HS' : Hid (∀ j, j < k + 1 → ofB (bat L j) total = true) := HS.out _ rfl rfl
        go_wp2_with (go_at_call 70; refine (C _).mono ?_; rintro e w' ⟨rfl, hg'⟩; have hb' := hg'.1; clear hg')
        have HB' : Hid (Below w.heap.size w w') := (HO.out _).trans (hb'.mono (HO.out _).size)
        clear hb'
        go_roundw
        case rel => exact ⟨k + 1, by omega, by go_num, HS'.out, HB'.out⟩
        case measure => simp [intOf]; omega
    · have k1 : ¬ ((k : Int) < (n : Int)) := by omega
      obtain rfl : k = n := by omega
      have HZ : Hid (L.all (fun b => ofB b total) = true) := by
        rw [Hid, List.all_eq_true]
        intro b hb
        obtain ⟨i, hi, rfl⟩ := mem_bat hb
        exact HA.out i (by rw [← HN.out]; exact hi)
      clear hgr
      go_wp2
      go_ret
      exact ⟨ret_bool (by rw [HZ.out]), HG.out⟩
end Go.Proofs.Ythlaaldicmfcnaa
