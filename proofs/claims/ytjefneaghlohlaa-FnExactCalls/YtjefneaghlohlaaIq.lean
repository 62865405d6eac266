/-
  Several texts in one: Lte Tcp Lcl.
-/
import Derived.Test.YtjefneaghlohlaaIp
/-
  What the program's Rounds, Parent, Children, Calls and Depth answer, and the walks of the exact laws FROM that.
-/
namespace Go.Proofs.Ytjefneaghlohlaa
set_option linter.unusedVariables false
set_option linter.unusedSimpArgs false
open Go.RowKit Go.Sort

/-- A number of 64 bits. -/
def I64t (x : Int) : Prop := -9223372036854775808 ≤ x ∧ x ≤ 9223372036854775807
def ImplRounds : Prop := ∀ (n : Int) (w : World), I64t n → Calls Try.prog 39 #[.int .i64 n] w fun e w' => e = .returned (.int .i64 (rndL n)) ∧ Below w.heap.size w w'
def ImplParent : Prop := ∀ (k : Int) (w : World), I64t k → Calls Try.prog 30 #[.int .i64 k] w fun e w' => e = .returned (.int .i64 (parL k)) ∧ Below w.heap.size w w'
def ImplDepth : Prop := ∀ (k : Int) (w : World), I64t k → Calls Try.prog 36 #[.int .i64 k] w fun e w' => e = .returned (.int .i64 (depL k)) ∧ Below w.heap.size w w'
def ImplChildren : Prop := ∀ (n k : Int) (w : World), I64t n → I64t k → Calls Try.prog 32 #[.int .i64 n, .int .i64 k] w fun e w' => AnsN w w' e (chlL n k)
def ImplCalls : Prop := ∀ (n r : Int) (w : World), I64t n → I64t r → Calls Try.prog 42 #[.int .i64 n, .int .i64 r] w fun e w' => AnsC w w' e (calL n r)
theorem chlL_ok (n k : Int) : Fits (chlL n k) ∧ (chlL n k).length ≤ 1000 := by
  unfold chlL
  by_cases h : (inB n 1 1000 && inB k 0 (n - 1)) = true
  · rw [if_pos h]
    simp only [Bool.and_eq_true, inB7] at h
    refine ⟨fun x hx => ?_, Nat.le_trans (chl_len _ _) (by omega)⟩
    obtain ⟨i, rfl, hi, _⟩ := mem_chl.1 hx
    omega
  · rw [if_neg h]; exact ⟨fun x hx => absurd hx (List.not_mem_nil), Nat.zero_le _⟩
theorem calL_ok (n r : Int) : (calL n r).length ≤ 1000 := by
  unfold calL
  by_cases h : (inB n 1 1000 && inB r 0 9) = true
  · rw [if_pos h, cal_len]
    simp only [Bool.and_eq_true, inB7] at h
    unfold calN
    omega
  · rw [if_neg h]; exact Nat.zero_le _

set_option maxHeartbeats 400000 in
theorem lawRounds (hI : ImplRounds) (n : Int) (w : World) (hn : I64t n) :
    Calls Try.prog 6 #[.int .i64 n] w fun e w' => e = .returned (.bool true) ∧ Below w.heap.size w w' := by
  have hP := hI n w hn
  have ne : (rndL n != rndL n) = false := by simp
  go_enter Try.func6, Try.ntmps6
  go_wp2_with fail
  refine (rndS_any n w).mono ?_
  rintro e w1 ⟨rfl, hw⟩
  rw [← hw] at hP
  have HW : Hid (w1 = w) := hw
  clear hw
  generalize rndL n = z at *
  go_wp2_with fail
  refine hP.mono ?_
  rintro e w2 ⟨rfl, hb⟩
  have HB : Hid (Below w.heap.size w w2) := by rw [Hid, ← HW.out]; exact hb
  clear hb
  go_wp2
  go_ret
  exact ⟨rfl, HB.out⟩

set_option maxHeartbeats 400000 in
theorem lawParent (hI : ImplParent) (n : Int) (w : World) (hn : I64t n) :
    Calls Try.prog 7 #[.int .i64 n] w fun e w' => e = .returned (.bool true) ∧ Below w.heap.size w w' := by
  have hP := hI n w hn
  have ne : (parL n != parL n) = false := by simp
  go_enter Try.func7, Try.ntmps7
  go_wp2_with fail
  refine (parS_any n w).mono ?_
  rintro e w1 ⟨rfl, hw⟩
  rw [← hw] at hP
  have HW : Hid (w1 = w) := hw
  clear hw
  generalize parL n = z at *
  go_wp2_with fail
  refine hP.mono ?_
  rintro e w2 ⟨rfl, hb⟩
  have HB : Hid (Below w.heap.size w w2) := by rw [Hid, ← HW.out]; exact hb
  clear hb
  go_wp2
  go_ret
  exact ⟨rfl, HB.out⟩

set_option maxHeartbeats 400000 in
theorem lawDepth (hI : ImplDepth) (n : Int) (w : World) (hn : I64t n) :
    Calls Try.prog 10 #[.int .i64 n] w fun e w' => e = .returned (.bool true) ∧ Below w.heap.size w w' := by
  have hP := hI n w hn
  have ne : (depL n != depL n) = false := by simp
  go_enter Try.func10, Try.ntmps10
  go_wp2_with fail
  refine (depS_any n w).mono ?_
  rintro e w1 ⟨rfl, hw⟩
  rw [← hw] at hP
  have HW : Hid (w1 = w) := hw
  clear hw
  generalize depL n = z at *
  go_wp2_with fail
  refine hP.mono ?_
  rintro e w2 ⟨rfl, hb⟩
  have HB : Hid (Below w.heap.size w w2) := by rw [Hid, ← HW.out]; exact hb
  clear hb
  go_wp2
  go_ret
  exact ⟨rfl, HB.out⟩

set_option maxRecDepth 100000 in
set_option maxHeartbeats 1600000 in
theorem lawChildren (hI : ImplChildren) (n k : Int) (w : World) (hn : I64t n) (hk : I64t k) :
    Calls Try.prog 8 #[.int .i64 n, .int .i64 k] w fun e w' => e = .returned (.bool true) ∧ Below w.heap.size w w' := by
  obtain ⟨hfz, hz8⟩ := chlL_ok n k
  have hS := chlS_any n k hn w
  have hP := fun X => hI n k X hn hk
  have hzm : (chlL n k).length ≤ maxLen := by unfold maxLen; omega
  generalize chlL n k = Z at *
  go_enter Try.func8, Try.ntmps8
  go_wp2_with fail
  refine hS.mono ?_
  rintro e w1 ⟨d, od, cd, rfl, hd, hwant, hb1⟩
  go_wp2_with fail
  refine (hP w1).mono ?_
  rintro e w2 ⟨g, og, cg, rfl, hg, hgot, hb2⟩
  have B2 : Below w.heap.size w w2 := hb1.trans (hb2.mono hb1.size)
  have want2 := hwant.below hb2 hwant.blk
  have hdg : d < g := Nat.lt_of_lt_of_le hwant.blk hg
  have hwg : w.heap.size ≤ g := Nat.le_trans hb1.size hg
  clear hS hwant hb1 hb2 hg
  go_wp2_with fail
  refine (eq_any _ _ _ _ _ _ Z Z _ (hgot.vec hfz) (want2.vec hfz) hzm).mono ?_
  rintro e w3 ⟨rfl, n3, rfl⟩
  rw [show decide (Z = Z) = true by simp]
  go_wp2_with fail
  refine (markN_any g og cg 1 _ _ Z _ (hgot.drewN n3) (by rfl) (by omega) (by omega)).mono ?_
  rintro e w4 ⟨rfl, got4, ht4⟩
  have B4 : Below w.heap.size w w4 := (belowN (n := n3) B2).trans (ht4.below hwg)
  have want4 := num_touch (want2.drewN n3) ht4 (by omega)
  clear B2 hgot want2 ht4
  go_wp2_with fail
  refine (heldN_any g og cg 1 _ _ _ got4 (by rfl) (by omega) (by omega)).mono ?_
  rintro e w5 ⟨rfl, rfl⟩
  have hq0 : decide ((1 : Int) + (Z.length : Int) < 0) = false := by simp; omega
  have hq1 : ((1 : Int) + (Z.length : Int) != (1 : Int) + (Z.length : Int)) = false := by simp
  go_wp2_with fail
  refine (hP w5).mono ?_
  rintro e w6 ⟨g2, og2, cg2, rfl, hg2, hgot2, hb6⟩
  have B6 : Below w.heap.size w w6 := B4.trans (hb6.mono B4.size)
  have want6 := want4.below hb6 want4.blk
  have got6 := got4.below hb6 got4.blk
  clear B4 want4 got4 hb6 hg2 hP
  go_wp2_with fail
  refine (eq_any _ _ _ _ _ _ Z Z _ (hgot2.vec hfz) (want6.vec hfz) hzm).mono ?_
  rintro e w7 ⟨rfl, n7, rfl⟩
  rw [show decide (Z = Z) = true by simp]
  go_wp2_with fail
  refine (heldN_any g og cg 1 _ _ _ (got6.drewN n7) (by rfl) (by omega) (by omega)).mono ?_
  rintro e w8 ⟨rfl, hw8⟩
  have HB : Hid (Below w.heap.size w w8) := by rw [Hid, hw8]; exact belowN B6
  clear hw8
  go_wp2
  go_ret
  exact ⟨rfl, HB.out⟩
end Go.Proofs.Ytjefneaghlohlaa

/-
  The contracts of the laws' own helpers on lists of calls: eqCallS, markCallS, heldCallS, likeCalls, has2; the walk of the exact law of Calls.
-/
namespace Go.Proofs.Ytjefneaghlohlaa
set_option linter.unusedVariables false
set_option linter.unusedSimpArgs false
open Go.RowKit Go.Sort

theorem mixedT : Try.prog.follows .mixedOrders = true := by kernel_rfl
/-- Pairs of numbers in a slice of one's own, as one list of numbers. -/
def O2 (w : World) (g off n cap : Nat) (zs : List Int) : Prop := OSl w 2 g off n cap (zs.map (Value.int .i64))
def fl (L : List (Int × Int)) : List Int := L.flatMap (fun c => [c.1, c.2])
theorem cvs_fl (L : List (Int × Int)) : cvs L = (fl L).map (Value.int .i64) := by
  induction L with
  | nil => rfl
  | cons c L ih =>
    have e1 : cvs (c :: L) = .int .i64 c.1 :: .int .i64 c.2 :: cvs L := by simp [cvs]
    have e2 : fl (c :: L) = c.1 :: c.2 :: fl L := by simp [fl]
    rw [e1, e2, ih]; rfl
theorem OC.o2 {w : World} {g off n cap : Nat} {L : List (Int × Int)} (h : OC w g off n cap L) : O2 w g off n cap (fl L) := by rw [O2, ← cvs_fl]; exact h
theorem O2.length {w : World} {g off n cap : Nat} {zs : List Int} (h : O2 w g off n cap zs) : zs.length = n * 2 := by have := h.len; simpa using this
theorem O2.cellAt {w : World} {g off n cap : Nat} {zs : List Int} (h : O2 w g off n cap zs) {i : Nat} (hi : i < n * 2) : w.cell? ⟨g, off + i, none⟩ = some (.int .i64 (el zs i)) := by
  have hl := h.length
  rw [h.cell i hi]
  simp [el, show i < zs.length by omega]
theorem O2.set {w : World} {g off n cap : Nat} {zs : List Int} (h : O2 w g off n cap zs) {i : Nat} (hi : i < n * 2) (y : Int) : O2 (w.setCell ⟨g, off + i, none⟩ (.int .i64 y)) g off n cap (zs.set i y) := by
  have hl := h.length
  have hc := h.cellAt hi
  refine ⟨by simpa using hl, h.le, h.max, by simp [World.setCell]; exact h.blk, fun j hj => ?_, fun j hj => ?_, fun j hj => by rw [World.frozen?_setCell]; exact h.free j hj⟩
  · by_cases e : i = j
    · subst e
      rw [World.cell?_setCell_same _ _ _ hc]
      simp [show i < zs.length by omega]
    · rw [World.cell?_setCell_other _ _ _ _ (by simp [e]), h.cell j hj]
      simp [e]
  · by_cases e : i = j
    · subst e; rw [World.cell?_setCell_same _ _ _ hc]; rfl
    · rw [World.cell?_setCell_other _ _ _ _ (by simp [e])]; exact h.some j hj
theorem O2.below {w w' : World} {g off n cap B : Nat} {zs : List Int} (h : O2 w g off n cap zs) (hb : Below B w w') (hg : g < B) : O2 w' g off n cap zs := OSl.below h hb hg
theorem O2.drewN {w : World} {g off n cap : Nat} {zs : List Int} (h : O2 w g off n cap zs) (k : Nat) : O2 (w.drewN k) g off n cap zs := OSl.drewN h k
theorem call_touch {w w' : World} {g g' off n cap : Nat} {L : List (Int × Int)} (h : OC w g off n cap L) (ht : Touch g' w w') (hne : g ≠ g') : OC w' g off n cap L :=
  OSl.of_block h (ht.block g hne) (by rw [ht.size]; exact h.blk)

set_option maxHeartbeats 400000 in
theorem eqCall_any (x y : Int) (w : World) : Calls Try.prog 81 #[.agg #[.int .i64 x, .int .i64 y], .agg #[.int .i64 x, .int .i64 y]] w fun e w' => e = .returned (.bool true) ∧ Grew w w' := by
  have b0 : (x != x) = false := by simp
  have b1 : (y != y) = false := by simp
  go_enter Try.func81, Try.ntmps81
  go_wp2
  go_ret
  exact ⟨rfl, ((Grew.refl _).alloc _).alloc _⟩

set_option maxRecDepth 100000 in
set_option maxHeartbeats 1600000 in
theorem eqCl_any (b b' off off' cap cap' : Nat) (L : List (Int × Int)) (w : World) (hc : OC w b off L.length cap L) (hc' : OC w b' off' L.length cap' L) :
    Calls Try.prog 51 #[.slice (some ⟨b, off, none⟩) L.length cap, .slice (some ⟨b', off', none⟩) L.length cap'] w fun e w' => e = .returned (.bool true) ∧ Grew w w' := by
  have hm := Nat.le_trans hc.le hc.max
  unfold maxLen at hm
  have hbb : ((L.length : Int) != (L.length : Int)) = false := by simp
  go_enter Try.func51, Try.ntmps51
  go_wp2
  go_loopw [5] (fun i wr => ∃ k : Nat, k ≤ L.length ∧ i = .int .i64 k ∧ Grew w wr) (fun i _ => L.length - (intOf i).toNat)
  case atStart => exact ⟨0, Nat.zero_le _, rfl, Grew.refl _⟩
  case round =>
    obtain ⟨k, hk, rfl, hgr⟩ := hrel
    have HG : Hid (Grew w wr) := hgr
    by_cases hlt : k < L.length
    · have c0 := (hc.below hgr.1 hc.blk).c0 hlt
      have c1 := (hc.below hgr.1 hc.blk).c1 hlt
      have d0 := (hc'.below hgr.1 hc'.blk).c0 hlt
      have d1 := (hc'.below hgr.1 hc'.blk).c1 hlt
      have p0 := fun n os => (Grew.of_grow wr n os).cell c0
      have p1 := fun n os => (Grew.of_grow wr n os).cell c1
      have q0 := fun n os => (Grew.of_grow wr n os).cell d0
      have q1 := fun n os => (Grew.of_grow wr n os).cell d1
      have hE := fun X => eqCall_any (cat L k).1 (cat L k).2 X
      have hi1 : (k : Int) < (L.length : Int) := by omega
      have hi0 : (0 : Int) ≤ (k : Int) := by omega
      clear hgr c0 c1 d0 d1
      go_wp2_with fail
      have hmix := mixedT
      go_quiet_grown (first | (go_at_call 81; exact grown_at (hE _)))
      go_wp2
      go_roundw
      case rel => exact ⟨k + 1, by omega, by go_num, HG.out.trans (Grew.of_grow _ _ _)⟩
      case measure => simp [intOf]; omega
    · go_wp2
      go_ret
      exact ⟨rfl, HG.out⟩

set_option maxRecDepth 100000 in
set_option maxHeartbeats 1600000 in
theorem markCl_any (g off cap n : Nat) (zs : List Int) (w : World) (ho : O2 w g off n cap zs) (hn : n ≤ 1000000) :
    Calls Try.prog 52 #[.slice (some ⟨g, off, none⟩) n cap, .int .i64 1] w fun e w' => e = .returned (.int .i64 ((1 + n * 2 : Nat) : Int)) ∧ O2 w' g off n cap (marks (n * 2) 1) ∧ Touch g w w' := by
  have hzl := ho.length
  go_enter Try.func52, Try.ntmps52
  go_wp2
  go_loopw [1, 5] (fun q i wr => ∃ j : Nat, j ≤ n ∧ i = .int .i64 j ∧ q = .int .i64 ((1 + j * 2 : Nat) : Int) ∧ O2 wr g off n cap (mk zs 1 (j * 2)) ∧ Touch g w wr) (fun _ i _ => n - (intOf i).toNat)
  case atStart => exact ⟨0, Nat.zero_le _, rfl, rfl, by rw [Nat.zero_mul, mk_zero]; exact ho, Touch.refl _ _⟩
  case round =>
    obtain ⟨j, hj, rfl, rfl, hown, ht⟩ := hrel
    have HO : Hid (O2 wr g off n cap (mk zs 1 (j * 2))) := hown
    have HT : Hid (Touch g w wr) := ht
    clear hown ht ho
    by_cases hlt : j < n
    · have hc0 := HO.out.cellAt (i := j * 2) (by omega)
      have hc1 := HO.out.cellAt (i := j * 2 + 1) (by omega)
      have hle := HO.out.le
      have hf0 := HO.out.free (j * 2) (by omega)
      have hf1 := HO.out.free (j * 2 + 1) (by omega)
      rw [← Nat.add_assoc] at hc1 hf1
      have hi1 : (j : Int) < (n : Int) := by omega
      have N1 : Hid (O2 (wr.setCell ⟨g, off + j * 2, none⟩ (.int .i64 ((1 + j * 2 : Nat) : Int))) g off n cap (mk zs 1 (j * 2 + 1))) := by
        rw [Hid, ← mk_step]; exact HO.out.set (by omega) _
      have N2 : Hid (O2 ((wr.setCell ⟨g, off + j * 2, none⟩ (.int .i64 ((1 + j * 2 : Nat) : Int))).setCell ⟨g, off + j * 2 + 1, none⟩ (.int .i64 ((1 + j * 2 + 1 : Nat) : Int))) g off n cap (mk zs 1 ((j + 1) * 2))) := by
        rw [Hid, show (j + 1) * 2 = j * 2 + 1 + 1 by omega, ← mk_step]
        have := N1.out.set (i := j * 2 + 1) (by omega) ((1 + (j * 2 + 1) : Nat) : Int)
        rw [← Nat.add_assoc] at this
        exact this
      go_wp2
      go_roundw
      case rel => exact ⟨j + 1, by omega, by go_num, by go_num, N2.out, (HT.out.set _ _).set _ _⟩
      case measure => simp [intOf]; omega
    · have hjl : j = n := by omega
      subst hjl
      go_wp2
      go_ret
      refine ⟨rfl, ?_, HT.out⟩
      rw [← hzl, ← mk_done, hzl]; exact HO.out

set_option maxRecDepth 100000 in
set_option maxHeartbeats 800000 in
theorem heldCl_any (g off cap n : Nat) (w : World) (ho : O2 w g off n cap (marks (n * 2) 1)) (hn : n ≤ 1000000) :
    Calls Try.prog 53 #[.slice (some ⟨g, off, none⟩) n cap, .int .i64 1] w fun e w' => e = .returned (.int .i64 ((1 + n * 2 : Nat) : Int)) ∧ w' = w := by
  go_enter Try.func53, Try.ntmps53
  go_wp2
  go_loop [1, 5] (fun q i => ∃ j : Nat, j ≤ n ∧ i = .int .i64 j ∧ q = .int .i64 ((1 + j * 2 : Nat) : Int)) (fun _ i => n - (intOf i).toNat)
  case atStart => exact ⟨0, Nat.zero_le _, rfl, rfl⟩
  case round =>
    obtain ⟨j, hj, rfl, rfl⟩ := hrel
    by_cases hlt : j < n
    · have hc0 := ho.cellAt (i := j * 2) (by omega)
      have hc1 := ho.cellAt (i := j * 2 + 1) (by omega)
      rw [marks_el (by omega)] at hc0 hc1
      rw [← Nat.add_assoc] at hc1
      have hi1 : (j : Int) < (n : Int) := by omega
      go_wp2
      go_round
      case rel => exact ⟨j + 1, by omega, by go_num, by go_num⟩
      case measure => simp [intOf]; omega
    · have hjl : j = n := by omega
      subst hjl
      go_wp2
      go_ret
      exact ⟨rfl, rfl⟩
end Go.Proofs.Ytjefneaghlohlaa

/-
  The walk of the exact law of Calls FROM what the program's Calls answers; likeCalls, has2.
-/
namespace Go.Proofs.Ytjefneaghlohlaa
set_option linter.unusedVariables false
set_option linter.unusedSimpArgs false
open Go.RowKit Go.Sort

theorem markCm (m : Nat) (g off cap n : Nat) (zs : List Int) (w : World) (hm : m = 1 + n * 2) (ho : O2 w g off n cap zs) (hn : n ≤ 1000000) :
    Calls Try.prog 52 #[.slice (some ⟨g, off, none⟩) n cap, .int .i64 1] w fun e w' => e = .returned (.int .i64 (m : Int)) ∧ O2 w' g off n cap (marks (n * 2) 1) ∧ Touch g w w' := by
  rw [hm]; exact markCl_any g off cap n zs w ho hn
theorem heldCm (m : Nat) (g off cap n : Nat) (w : World) (hm : m = 1 + n * 2) (ho : O2 w g off n cap (marks (n * 2) 1)) (hn : n ≤ 1000000) :
    Calls Try.prog 53 #[.slice (some ⟨g, off, none⟩) n cap, .int .i64 1] w fun e w' => e = .returned (.int .i64 (m : Int)) ∧ w' = w := by
  rw [hm]; exact heldCl_any g off cap n w ho hn

set_option maxRecDepth 100000 in
set_option maxHeartbeats 1600000 in
theorem lawCalls (hI : ImplCalls) (n r : Int) (w : World) (hn : I64t n) (hr : I64t r) :
    Calls Try.prog 9 #[.int .i64 n, .int .i64 r] w fun e w' => e = .returned (.bool true) ∧ Below w.heap.size w w' := by
  have hz8 := calL_ok n r
  have hS := calS_any n r w
  have hP := fun X => hI n r X hn hr
  generalize calL n r = Z at *
  obtain ⟨m, hm⟩ : ∃ m, Hid (m = 1 + Z.length * 2) := ⟨_, rfl⟩
  go_enter Try.func9, Try.ntmps9
  go_wp2_with fail
  refine hS.mono ?_
  rintro e w1 ⟨d, od, cd, rfl, hd, hwant, hb1⟩
  go_wp2_with fail
  refine (hP w1).mono ?_
  rintro e w2 ⟨g, og, cg, rfl, hg, hgot, hb2⟩
  have B2 : Below w.heap.size w w2 := hb1.trans (hb2.mono hb1.size)
  have want2 := hwant.below hb2 hwant.blk
  have hdg : d < g := Nat.lt_of_lt_of_le hwant.blk hg
  have hwg : w.heap.size ≤ g := Nat.le_trans hb1.size hg
  clear hS hwant hb1 hb2 hg
  go_wp2_with fail
  refine (eqCl_any _ _ _ _ _ _ Z _ hgot want2).mono ?_
  rintro e w3 ⟨rfl, hg3⟩
  have B3 : Below w.heap.size w w3 := B2.trans (hg3.1.mono B2.size)
  have got3 := hgot.below hg3.1 hgot.blk
  have want3 := want2.below hg3.1 want2.blk
  clear B2 hgot want2 hg3
  go_wp2_with fail
  refine (markCm m g og cg _ _ _ hm.out got3.o2 (by omega)).mono ?_
  rintro e w4 ⟨rfl, got4, ht4⟩
  have B4 : Below w.heap.size w w4 := B3.trans (ht4.below hwg)
  have want4 := call_touch want3 ht4 (by omega)
  clear B3 got3 want3 ht4
  go_wp2_with fail
  refine (heldCm m g og cg _ _ hm.out got4 (by omega)).mono ?_
  rintro e w5 ⟨rfl, rfl⟩
  have hq0 : decide ((m : Int) < 0) = false := by simp
  have hq1 : ((m : Int) != (m : Int)) = false := by simp
  go_wp2_with fail
  refine (hP w5).mono ?_
  rintro e w6 ⟨g2, og2, cg2, rfl, hg2, hgot2, hb6⟩
  have B6 : Below w.heap.size w w6 := B4.trans (hb6.mono B4.size)
  have want6 := want4.below hb6 want4.blk
  have got6 := got4.below hb6 got4.blk
  clear B4 want4 got4 hb6 hg2 hP
  go_wp2_with fail
  refine (eqCl_any _ _ _ _ _ _ Z _ hgot2 want6).mono ?_
  rintro e w7 ⟨rfl, hg7⟩
  have B7 : Below w.heap.size w w7 := B6.trans (hg7.1.mono B6.size)
  have got7 := got6.below hg7.1 got6.blk
  go_wp2_with fail
  refine (heldCm m g og cg _ _ hm.out got7 (by omega)).mono ?_
  rintro e w8 ⟨rfl, hw8⟩
  have HB : Hid (Below w.heap.size w w8) := by rw [Hid, hw8]; exact B7
  clear hw8
  go_wp2
  go_ret
  exact ⟨rfl, HB.out⟩

set_option maxRecDepth 100000 in
set_option maxHeartbeats 1600000 in
theorem likeCl_any (b b' off off' cap cap' : Nat) (L : List (Int × Int)) (w : World) (hc : OC w b off L.length cap L) (hc' : OC w b' off' L.length cap' L) :
    Calls Try.prog 44 #[.slice (some ⟨b, off, none⟩) L.length cap, .slice (some ⟨b', off', none⟩) L.length cap'] w fun e w' => e = .returned (.bool true) ∧ Below w.heap.size w w' := by
  have hm := Nat.le_trans hc.le hc.max
  unfold maxLen at hm
  have hbb : ((L.length : Int) != (L.length : Int)) = false := by simp
  go_enter Try.func44, Try.ntmps44
  go_wp2
  go_loopw [5] (fun i wr => ∃ k : Nat, k ≤ L.length ∧ i = .int .i64 k ∧ ∃ n, wr = w.drewN n) (fun i _ => L.length - (intOf i).toNat)
  case atStart => exact ⟨0, Nat.zero_le _, rfl, 0, rfl⟩
  case round =>
    obtain ⟨k, hk, rfl, n, rfl⟩ := hrel
    by_cases hlt : k < L.length
    · have c0 := hc.c0 hlt
      have c1 := hc.c1 hlt
      have d0 := hc'.c0 hlt
      have d1 := hc'.c1 hlt
      have hi1 : (k : Int) < (L.length : Int) := by omega
      have hi0 : (0 : Int) ≤ (k : Int) := by omega
      generalize (cat L k).1 = x at *
      generalize (cat L k).2 = y at *
      go_wp2_with fail
      go_quiet (fail)
      go_wp2
      go_roundw
      case rel => exact ⟨k + 1, by omega, by go_num, _, rfl⟩
      case measure => simp [intOf]; omega
    · go_wp2
      go_ret
      exact ⟨rfl, belowN (Below.refl _ _)⟩

set_option maxRecDepth 100000 in
set_option maxHeartbeats 800000 in
/-- No call among the first k is from x. -/
theorem has2_no (g off cap n k : Nat) (L : List (Int × Int)) (x : Int) (w : World) (hc : OC w g off n cap L) (hk : k ≤ n) (h : ∀ j, j < k → (cat L j).1 ≠ x) (c' : Nat) :
    Calls Try.prog 47 #[.slice (some ⟨g, off, none⟩) k c', .int .i64 x] w fun e w' => e = .returned (.bool false) ∧ w' = w := by
  have hm := Nat.le_trans hc.le hc.max
  unfold maxLen at hm
  go_enter Try.func47, Try.ntmps47
  go_wp2
  go_loop [5] (fun i => ∃ j : Nat, j ≤ k ∧ i = .int .i64 j) (fun i => k - (intOf i).toNat)
  case atStart => exact ⟨0, Nat.zero_le _, rfl⟩
  case round =>
    obtain ⟨j, hj, rfl⟩ := hrel
    by_cases hlt : j < k
    · have c0 := hc.c0 (i := j) (by omega)
      have hne : ((cat L j).1 == x) = false := by simpa using h j hlt
      have hi1 : (j : Int) < (k : Int) := by omega
      generalize (cat L j).1 = y at *
      go_wp2
      go_round
      case rel => exact ⟨j + 1, by omega, by go_num⟩
      case measure => simp [intOf]; omega
    · go_wp2
      go_ret
      exact ⟨rfl, rfl⟩
end Go.Proofs.Ytjefneaghlohlaa
