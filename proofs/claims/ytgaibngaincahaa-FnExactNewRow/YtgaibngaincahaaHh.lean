/-
  Several texts in one: Oim.
-/
import Derived.Test.YtgaibngaincahaaGb
/-
  Slices of numbers in memory of one's own: empty ones, a store into one, what an append leaves, an answer that is one.
-/
namespace Go.Proofs.Ytgaibngaincahaa
set_option linter.unusedSimpArgs false
set_option linter.unusedVariables false
open Go.RowKit Go.Sort

theorem num_set {w : World} {g off n cap : Nat} {zs : List Int} (h : OI w g off n cap zs) {i : Nat} (hi : i < n) (y : Int) : OI (w.setCell ⟨g, off + i, none⟩ (.int .i64 y)) g off n cap (zs.set i y) := by
  have hl := h.length
  have hc := h.cellAt hi
  refine ⟨by simp [hl], h.le, h.max, by simp [World.setCell]; exact h.blk, fun j hj => ?_, fun j hj => ?_, fun j hj => by rw [World.frozen?_setCell]; exact h.free j hj⟩
  · by_cases e : i = j
    · subst e
      rw [World.cell?_setCell_same _ _ _ hc]
      simp [show i < zs.length by omega]
    · rw [World.cell?_setCell_other _ _ _ _ (by simp [e]), h.cell j hj]
      simp [e]
  · by_cases e : i = j
    · subst e; rw [World.cell?_setCell_same _ _ _ hc]; rfl
    · rw [World.cell?_setCell_other _ _ _ _ (by simp [e])]; exact h.some j hj
theorem num_empty (w : World) (T : TypeId) : OI (w.alloc (.cells #[] T)) w.heap.size 0 0 0 [] :=
  ⟨rfl, Nat.le_refl _, Nat.zero_le _, by simp, fun i hi => by omega, fun i hi => by omega, fun i hi => by omega⟩
theorem num_news {w : World} {b off : Nat} {xs : List Int} (h : ∀ i, i < xs.length → w.cell? ⟨b, off + i, none⟩ = some (.int .i64 (el xs i))) (j : Nat) (u : Value) (hu : (xs.map (Value.int .i64))[j]? = some u) : w.cell? ((⟨b, off, none⟩ : Addr).add j) = some u := by
  have hj : j < xs.length := by
    have := (List.getElem?_eq_some_iff.1 hu).1
    simpa using this
  rw [add_lit0, h j hj]
  simp only [List.getElem?_map, List.getElem?_eq_getElem hj, Option.map_some, Option.some.injEq] at hu
  rw [el_eq hj, ← hu]
theorem below_grown6 {B g : Nat} {w w1 w2 : World} (h : Below B w w1) (hg : w1.grownBy w2 (some g)) (hB : B ≤ g) (hs : B ≤ w1.heap.size) : Below B w w2 :=
  ⟨hg.os.trans h.os, hg.tape.trans h.tape, hg.output.trans h.output, Nat.le_trans h.size hg.size, fun k hk => (hg.block k (by omega) (by simp; omega)).trans (h.block k hk)⟩
/-- What an answer that is a slice of numbers comes to. -/
def AnsN (w w' : World) (e : Ending) (Z : List Int) : Prop := ∃ g off c, e = .returned (.slice (some ⟨g, off, none⟩) Z.length c) ∧ w.heap.size ≤ g ∧ OI w' g off Z.length c Z ∧ Below w.heap.size w w'
theorem Try.info2n : (Try.prog.info? 2).map (fun i => (i.zero, i.size, i.bytes)) = some (some (.int .i64 0), 1, 8) := by kernel_rfl
theorem info_parts2n {T s b : Nat} {z : Value} (h : (Try.prog.info? T).map (fun i => (i.zero, i.size, i.bytes)) = some (some z, s, b)) : ∃ i, Try.prog.info? T = some i ∧ i.zero = some z ∧ i.size = s ∧ i.bytes = b := by
  obtain ⟨i, hi, hh⟩ := Option.map_eq_some_iff.1 h
  simp only [Prod.mk.injEq] at hh
  exact ⟨i, hi, hh.1, hh.2.1, hh.2.2⟩
theorem num_touch {w w' : World} {g g' off n cap : Nat} {zs : List Int} (h : OI w g off n cap zs) (ht : Touch g' w w') (hne : g ≠ g') : OI w' g off n cap zs :=
  OSl.of_block h (ht.block g hne) (by rw [ht.size]; exact h.blk)

set_option maxHeartbeats 400000 in
theorem markN_any (g off cap k0 n : Nat) (q : Int) (zs : List Int) (w : World) (ho : OI w g off n cap zs) (hq : q = (k0 : Int)) (hk : k0 ≤ 10000000) (hn : n ≤ 10000000) :
    Calls Try.prog 81 #[.slice (some ⟨g, off, none⟩) n cap, .int .i64 q] w fun e w' => e = .returned (.int .i64 (q + (n : Int))) ∧ OI w' g off n cap (marks n k0) ∧ Touch g w w' := by
  subst hq
  have hzl := ho.length
  subst hzl
  go_enter Try.func81, Try.ntmps81
  go_wp2
  go_loopw [1, 5] (fun q i wr => ∃ j : Nat, j ≤ zs.length ∧ i = .int .i64 j ∧ q = .int .i64 ((k0 + j : Nat) : Int) ∧ OI wr g off zs.length cap (mk zs k0 j) ∧ Touch g w wr) (fun _ i _ => zs.length - (intOf i).toNat)
  case atStart => exact ⟨0, Nat.zero_le _, rfl, rfl, by rw [mk_zero]; exact ho, Touch.refl _ _⟩
  case round =>
    obtain ⟨j, hj, rfl, rfl, hown, ht⟩ := hrel
    have HO : Hid (OI wr g off zs.length cap (mk zs k0 j)) := hown
    have HT : Hid (Touch g w wr) := ht
    clear hown ht ho
    by_cases hlt : j < zs.length
    · have hc := HO.out.cellAt hlt
      have hf := HO.out.free j (by have := HO.out.le; omega)
      have hi1 : (j : Int) < (zs.length : Int) := by omega
      go_wp2
      go_roundw
      case rel => exact ⟨j + 1, by omega, by go_num, by go_num, by rw [← mk_step]; exact num_set HO.out hlt _, HT.out.set _ _⟩
      case measure => simp [intOf]; omega
    · have hjl : j = zs.length := by omega
      subst hjl
      go_wp2
      go_ret
      exact ⟨ret_int (by omega), by rw [← mk_done]; exact HO.out, HT.out⟩

set_option maxHeartbeats 400000 in
theorem heldN_any (g off cap k0 n : Nat) (q : Int) (w : World) (ho : OI w g off n cap (marks n k0)) (hq : q = (k0 : Int)) (hk : k0 ≤ 10000000) (hn : n ≤ 10000000) :
    Calls Try.prog 83 #[.slice (some ⟨g, off, none⟩) n cap, .int .i64 q] w fun e w' => e = .returned (.int .i64 (q + (n : Int))) ∧ w' = w := by
  subst hq
  go_enter Try.func83, Try.ntmps83
  go_wp2
  go_loop [1, 5] (fun q i => ∃ j : Nat, j ≤ n ∧ i = .int .i64 j ∧ q = .int .i64 ((k0 + j : Nat) : Int)) (fun _ i => n - (intOf i).toNat)
  case atStart => exact ⟨0, Nat.zero_le _, rfl, rfl⟩
  case round =>
    obtain ⟨j, hj, rfl, rfl⟩ := hrel
    by_cases hlt : j < n
    · have hc := ho.cellAt hlt
      rw [marks_el hlt] at hc
      have hi1 : (j : Int) < (n : Int) := by omega
      go_wp2
      go_round
      case rel => exact ⟨j + 1, by omega, by go_num, by go_num⟩
      case measure => simp [intOf]; omega
    · have hjl : j = n := by omega
      subst hjl
      go_wp2
      go_ret
      exact ⟨ret_int (by omega), rfl⟩
end Go.Proofs.Ytgaibngaincahaa
