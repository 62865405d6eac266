/-
  Several texts in one: Rps.
-/
import Derived.Test.YtdniajogojlmdaaJh
/-
  The contracts of the laws' own helpers on lists of passes: eqPassS, markPassS, heldPassS.
-/
namespace Go.Proofs.Ytdniajogojlmdaa
set_option linter.unusedVariables false
set_option linter.unusedSimpArgs false
open Go.RowKit Go.Sort

/-- Triples of numbers in a slice of one's own, as one list of numbers. -/
def O3 (w : World) (g off n cap : Nat) (zs : List Int) : Prop := OSl w 3 g off n cap (zs.map (Value.int .i64))
def fl3 (L : List Ps) : List Int := L.flatMap (fun c => [c.1, c.2.1, c.2.2])
theorem pvs_fl (L : List Ps) : pvs L = (fl3 L).map (Value.int .i64) := by
  induction L with
  | nil => rfl
  | cons c L ih =>
    have e1 : pvs (c :: L) = .int .i64 c.1 :: .int .i64 c.2.1 :: .int .i64 c.2.2 :: pvs L := by simp [pvs]
    have e2 : fl3 (c :: L) = c.1 :: c.2.1 :: c.2.2 :: fl3 L := by simp [fl3]
    rw [e1, e2, ih]; rfl
theorem OP.o3 {w : World} {g off n cap : Nat} {L : List Ps} (h : OP w g off n cap L) : O3 w g off n cap (fl3 L) := by rw [O3, ← pvs_fl]; exact h
theorem OP.length {w : World} {g off n cap : Nat} {L : List Ps} (h : OP w g off n cap L) : L.length = n := by
  have := h.len
  rw [pvs_len] at this
  omega
theorem OP.c0 {w : World} {g off n cap : Nat} {L : List Ps} (h : OP w g off n cap L) {i : Nat} (hi : i < n) : w.cell? ⟨g, off + i * 3, none⟩ = some (.int .i64 (pat L i).1) := by
  rw [h.cell (i * 3) (by omega)]
  exact (pvs_at L i (by rw [h.length]; exact hi)).1
theorem OP.c1 {w : World} {g off n cap : Nat} {L : List Ps} (h : OP w g off n cap L) {i : Nat} (hi : i < n) : w.cell? ⟨g, off + i * 3 + 1, none⟩ = some (.int .i64 (pat L i).2.1) := by
  rw [Nat.add_assoc, h.cell (i * 3 + 1) (by omega)]
  exact (pvs_at L i (by rw [h.length]; exact hi)).2.1
theorem OP.c2 {w : World} {g off n cap : Nat} {L : List Ps} (h : OP w g off n cap L) {i : Nat} (hi : i < n) : w.cell? ⟨g, off + i * 3 + 2, none⟩ = some (.int .i64 (pat L i).2.2) := by
  rw [Nat.add_assoc, h.cell (i * 3 + 2) (by omega)]
  exact (pvs_at L i (by rw [h.length]; exact hi)).2.2
theorem OP.below {w w' : World} {g off n cap B : Nat} {L : List Ps} (h : OP w g off n cap L) (hb : Below B w w') (hg : g < B) : OP w' g off n cap L := OSl.below h hb hg
theorem OP.drewN {w : World} {g off n cap : Nat} {L : List Ps} (h : OP w g off n cap L) (k : Nat) : OP (w.drewN k) g off n cap L := OSl.drewN h k
theorem O3.length {w : World} {g off n cap : Nat} {zs : List Int} (h : O3 w g off n cap zs) : zs.length = n * 3 := by have := h.len; simpa using this
theorem O3.cellAt {w : World} {g off n cap : Nat} {zs : List Int} (h : O3 w g off n cap zs) {i : Nat} (hi : i < n * 3) : w.cell? ⟨g, off + i, none⟩ = some (.int .i64 (el zs i)) := by
  have hl := h.length
  rw [h.cell i hi]
  simp [el, show i < zs.length by omega]
theorem O3.set {w : World} {g off n cap : Nat} {zs : List Int} (h : O3 w g off n cap zs) {i : Nat} (hi : i < n * 3) (y : Int) : O3 (w.setCell ⟨g, off + i, none⟩ (.int .i64 y)) g off n cap (zs.set i y) := by
  have hl := h.length
  have hc := h.cellAt hi
  refine ⟨by simpa using hl, h.le, h.max, by simp [World.setCell]; exact h.blk, fun j hj => ?_, fun j hj => ?_, fun j hj => by rw [World.frozen?_setCell]; exact h.free j hj⟩
  · by_cases e : i = j
    · subst e
      rw [World.cell?_setCell_same _ _ _ hc]
      simp [show i < zs.length by omega]
    · rw [World.cell?_setCell_other _ _ _ _ (by simp [e]), h.cell j hj]
      simp [e]
  · by_cases e : i = j
    · subst e; rw [World.cell?_setCell_same _ _ _ hc]; rfl
    · rw [World.cell?_setCell_other _ _ _ _ (by simp [e])]; exact h.some j hj

set_option maxHeartbeats 400000 in
theorem eqPs1_any (x y z : Int) (w : World) : Calls Try.prog 94 #[.agg #[.int .i64 x, .int .i64 y, .int .i64 z], .agg #[.int .i64 x, .int .i64 y, .int .i64 z]] w fun e w' => e = .returned (.bool true) ∧ Grew w w' := by
  have b0 : (x != x) = false := by simp
  have b1 : (y != y) = false := by simp
  have b2 : (z != z) = false := by simp
  go_enter Try.func94, Try.ntmps94
  go_wp2
  go_ret
  exact ⟨rfl, ((Grew.refl _).alloc _).alloc _⟩

set_option maxRecDepth 100000 in
set_option maxHeartbeats 1600000 in
theorem eqPs_any (b b' off off' cap cap' : Nat) (L : List Ps) (w : World) (hc : OP w b off L.length cap L) (hc' : OP w b' off' L.length cap' L) :
    Calls Try.prog 53 #[.slice (some ⟨b, off, none⟩) L.length cap, .slice (some ⟨b', off', none⟩) L.length cap'] w fun e w' => e = .returned (.bool true) ∧ Grew w w' := by
  have hm := Nat.le_trans hc.le hc.max
  unfold maxLen at hm
  have hbb : ((L.length : Int) != (L.length : Int)) = false := by simp
  go_enter Try.func53, Try.ntmps53
  go_wp2
  go_loopw [5] (fun i wr => ∃ k : Nat, k ≤ L.length ∧ i = .int .i64 k ∧ Grew w wr) (fun i _ => L.length - (intOf i).toNat)
  case atStart => exact ⟨0, Nat.zero_le _, rfl, Grew.refl _⟩
  case round =>
    obtain ⟨k, hk, rfl, hgr⟩ := hrel
    have HG : Hid (Grew w wr) := hgr
    by_cases hlt : k < L.length
    · have c0 := (hc.below hgr.1 hc.blk).c0 hlt
      have c1 := (hc.below hgr.1 hc.blk).c1 hlt
      have c2 := (hc.below hgr.1 hc.blk).c2 hlt
      have d0 := (hc'.below hgr.1 hc'.blk).c0 hlt
      have d1 := (hc'.below hgr.1 hc'.blk).c1 hlt
      have d2 := (hc'.below hgr.1 hc'.blk).c2 hlt
      have p0 := fun n os => (Grew.of_grow wr n os).cell c0
      have p1 := fun n os => (Grew.of_grow wr n os).cell c1
      have p2 := fun n os => (Grew.of_grow wr n os).cell c2
      have q0 := fun n os => (Grew.of_grow wr n os).cell d0
      have q1 := fun n os => (Grew.of_grow wr n os).cell d1
      have q2 := fun n os => (Grew.of_grow wr n os).cell d2
      have hE := fun X => eqPs1_any (pat L k).1 (pat L k).2.1 (pat L k).2.2 X
      have hi1 : (k : Int) < (L.length : Int) := by omega
      have hi0 : (0 : Int) ≤ (k : Int) := by omega
      clear hgr c0 c1 c2 d0 d1 d2
      go_wp2_with fail
      have hmix := mixedR
      go_quiet_grown (first | (go_at_call 94; exact grown_at (hE _)))
      go_wp2
      go_roundw
      case rel => exact ⟨k + 1, by omega, by go_num, HG.out.trans (Grew.of_grow _ _ _)⟩
      case measure => simp [intOf]; omega
    · go_wp2
      go_ret
      exact ⟨rfl, HG.out⟩

set_option maxRecDepth 100000 in
set_option maxHeartbeats 1600000 in
theorem markPs_any (g off cap n k0 : Nat) (zs : List Int) (w : World) (ho : O3 w g off n cap zs) (hn : n ≤ 2000000) (hk0 : k0 ≤ 10000000) :
    Calls Try.prog 54 #[.slice (some ⟨g, off, none⟩) n cap, .int .i64 (k0 : Int)] w fun e w' => e = .returned (.int .i64 ((k0 + n * 3 : Nat) : Int)) ∧ O3 w' g off n cap (marks (n * 3) k0) ∧ Touch g w w' := by
  have hzl := ho.length
  go_enter Try.func54, Try.ntmps54
  go_wp2
  go_loopw [1, 5] (fun q i wr => ∃ j : Nat, j ≤ n ∧ i = .int .i64 j ∧ q = .int .i64 ((k0 + j * 3 : Nat) : Int) ∧ O3 wr g off n cap (mk zs k0 (j * 3)) ∧ Touch g w wr) (fun _ i _ => n - (intOf i).toNat)
  case atStart => exact ⟨0, Nat.zero_le _, rfl, rfl, by rw [Nat.zero_mul, mk_zero]; exact ho, Touch.refl _ _⟩
  case round =>
    obtain ⟨j, hj, rfl, rfl, hown, ht⟩ := hrel
    have HO : Hid (O3 wr g off n cap (mk zs k0 (j * 3))) := hown
    have HT : Hid (Touch g w wr) := ht
    clear hown ht ho
    by_cases hlt : j < n
    · have hc0 := HO.out.cellAt (i := j * 3) (by omega)
      have hc1 := HO.out.cellAt (i := j * 3 + 1) (by omega)
      have hc2 := HO.out.cellAt (i := j * 3 + 2) (by omega)
      have hle := HO.out.le
      have hf0 := HO.out.free (j * 3) (by omega)
      have hf1 := HO.out.free (j * 3 + 1) (by omega)
      have hf2 := HO.out.free (j * 3 + 2) (by omega)
      rw [← Nat.add_assoc] at hc1 hf1 hc2 hf2
      have hi1 : (j : Int) < (n : Int) := by omega
      have N1 : Hid (O3 (wr.setCell ⟨g, off + j * 3, none⟩ (.int .i64 ((k0 + j * 3 : Nat) : Int))) g off n cap (mk zs k0 (j * 3 + 1))) := by
        rw [Hid, ← mk_step]; exact HO.out.set (by omega) _
      have N2 : Hid (O3 ((wr.setCell ⟨g, off + j * 3, none⟩ (.int .i64 ((k0 + j * 3 : Nat) : Int))).setCell ⟨g, off + j * 3 + 1, none⟩ (.int .i64 ((k0 + j * 3 + 1 : Nat) : Int))) g off n cap (mk zs k0 (j * 3 + 1 + 1))) := by
        rw [Hid, ← mk_step]
        have := N1.out.set (i := j * 3 + 1) (by omega) ((k0 + (j * 3 + 1) : Nat) : Int)
        rw [← Nat.add_assoc] at this
        exact this
      have N3 : Hid (O3 (((wr.setCell ⟨g, off + j * 3, none⟩ (.int .i64 ((k0 + j * 3 : Nat) : Int))).setCell ⟨g, off + j * 3 + 1, none⟩ (.int .i64 ((k0 + j * 3 + 1 : Nat) : Int))).setCell ⟨g, off + j * 3 + 2, none⟩ (.int .i64 ((k0 + j * 3 + 1 + 1 : Nat) : Int))) g off n cap (mk zs k0 ((j + 1) * 3))) := by
        rw [Hid, show (j + 1) * 3 = j * 3 + 1 + 1 + 1 by omega, ← mk_step]
        have := N2.out.set (i := j * 3 + 1 + 1) (by omega) ((k0 + (j * 3 + 1 + 1) : Nat) : Int)
        exact this
      go_wp2
      go_roundw
      case rel => exact ⟨j + 1, by omega, by go_num, by go_num, N3.out, ((HT.out.set _ _).set _ _).set _ _⟩
      case measure => simp [intOf]; omega
    · have hjl : j = n := by omega
      subst hjl
      go_wp2
      go_ret
      refine ⟨rfl, ?_, HT.out⟩
      rw [← hzl, ← mk_done, hzl]; exact HO.out

set_option maxRecDepth 100000 in
set_option maxHeartbeats 800000 in
theorem heldPs_any (g off cap n : Nat) (w : World) (ho : O3 w g off n cap (marks (n * 3) 1)) (hn : n ≤ 1000000) :
    Calls Try.prog 55 #[.slice (some ⟨g, off, none⟩) n cap, .int .i64 1] w fun e w' => e = .returned (.int .i64 ((1 + n * 3 : Nat) : Int)) ∧ w' = w := by
  go_enter Try.func55, Try.ntmps55
  go_wp2
  go_loop [1, 5] (fun q i => ∃ j : Nat, j ≤ n ∧ i = .int .i64 j ∧ q = .int .i64 ((1 + j * 3 : Nat) : Int)) (fun _ i => n - (intOf i).toNat)
  case atStart => exact ⟨0, Nat.zero_le _, rfl, rfl⟩
  case round =>
    obtain ⟨j, hj, rfl, rfl⟩ := hrel
    by_cases hlt : j < n
    · have hc0 := ho.cellAt (i := j * 3) (by omega)
      have hc1 := ho.cellAt (i := j * 3 + 1) (by omega)
      have hc2 := ho.cellAt (i := j * 3 + 2) (by omega)
      rw [marks_el (by omega)] at hc0 hc1 hc2
      rw [← Nat.add_assoc] at hc1 hc2
      have hi1 : (j : Int) < (n : Int) := by omega
      go_wp2
      go_round
      case rel => exact ⟨j + 1, by omega, by go_num, by go_num⟩
      case measure => simp [intOf]; omega
    · have hjl : j = n := by omega
      subst hjl
      go_wp2
      go_ret
      exact ⟨rfl, rfl⟩
end Go.Proofs.Ytdniajogojlmdaa
