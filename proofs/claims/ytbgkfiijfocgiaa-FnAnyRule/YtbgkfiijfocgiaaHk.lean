/-
  Several texts in one: Rcp.
-/
import Derived.Test.YtbgkfiijfocgiaaHi
import Derived.Deep.OwnRows
/-
  The contracts of the laws' own helpers on rules: szRuleS, toRule, toRuleS, eqRuleS, markRuleS.
-/
namespace Go.Proofs.Ytbgkfiijfocgiaa
set_option linter.unusedSimpArgs false
set_option linter.unusedVariables false
open Go.RowKit Go.Sort

set_option maxHeartbeats 400000 in
theorem szR_any (a : Option Addr) (len cap : Nat) (w : World) (hm : len ≤ maxLen) :
    Calls Try.prog 40 #[.slice a len cap, .int .i64 1048576] w fun e w' => e = .returned (.int .i64 (if len ≤ 1048576 then (1048576 : Int) - (len : Int) else -1)) ∧ w' = w := by
  unfold maxLen at hm
  by_cases h : len ≤ 1048576
  · rw [if_pos h]
    have h1 : wrap64 ((1048576 : Int) - (len : Int)) = (1048576 : Int) - (len : Int) := by unfold wrap64; omega
    have h2 : decide ((1048576 : Int) - (len : Int) < 0) = false := by simp; omega
    go_enter Try.func40, Try.ntmps40
    go_wp2
    go_ret
    exact ⟨rfl, rfl⟩
  · rw [if_neg h]
    have h1 : wrap64 ((1048576 : Int) - (len : Int)) = (1048576 : Int) - (len : Int) := by unfold wrap64; omega
    have h2 : decide ((1048576 : Int) - (len : Int) < 0) = true := by simp; omega
    go_enter Try.func40, Try.ntmps40
    go_wp2
    go_ret
    exact ⟨rfl, rfl⟩

/-- Cell j of a row of rules. -/
def ruF (rs : List Ru) (j : Nat) : Value :=
  if j % 4 = 0 then .int .i64 (ruAt rs (j / 4)).to else if j % 4 = 1 then .int .i64 (ruAt rs (j / 4)).fr else if j % 4 = 2 then .int .i64 (ruAt rs (j / 4)).pl else .int .i64 (ruAt rs (j / 4)).mo
theorem ruF0 (rs : List Ru) (k : Nat) : ruF rs (k * 4) = .int .i64 (ruAt rs k).to := by
  unfold ruF; rw [if_pos (by omega), show k * 4 / 4 = k by omega]
theorem ruF1 (rs : List Ru) (k : Nat) : ruF rs (k * 4 + 1) = .int .i64 (ruAt rs k).fr := by
  unfold ruF; rw [if_neg (by omega), if_pos (by omega), show (k * 4 + 1) / 4 = k by omega]
theorem ruF2 (rs : List Ru) (k : Nat) : ruF rs (k * 4 + 2) = .int .i64 (ruAt rs k).pl := by
  unfold ruF; rw [if_neg (by omega), if_neg (by omega), if_pos (by omega), show (k * 4 + 2) / 4 = k by omega]
theorem ruF3 (rs : List Ru) (k : Nat) : ruF rs (k * 4 + 3) = .int .i64 (ruAt rs k).mo := by
  unfold ruF; rw [if_neg (by omega), if_neg (by omega), if_neg (by omega), show (k * 4 + 3) / 4 = k by omega]
/-- A row of rules of its own. -/
def RuRow (w : World) (b n : Nat) (rs : List Ru) : Prop := w.rowIs b 40 (n * 4) (ruF rs)
theorem RuRow.at {w : World} {b n : Nat} {rs : List Ru} (h : RuRow w b n rs) : RusAt w b 0 n rs := fun i hi => by
  refine ⟨?_, ?_, ?_, ?_⟩
  · rw [Nat.zero_add, World.rowIs.cell h (by omega), ruF0]
  · rw [Nat.zero_add, World.rowIs.cell h (by omega), ruF1]
  · rw [Nat.zero_add, World.rowIs.cell h (by omega), ruF2]
  · rw [Nat.zero_add, World.rowIs.cell h (by omega), ruF3]
theorem RuRow.rus {w : World} {b n : Nat} {rs : List Ru} (h : RuRow w b n rs) (hl : rs.length = n) : RuS w (some ⟨b, 0, none⟩) n rs := ⟨hl, .inr ⟨b, 0, rfl, h.at⟩⟩
theorem RuRow.lt {w : World} {b n : Nat} {rs : List Ru} (h : RuRow w b n rs) : b < w.heap.size := World.rowIs.lt h
theorem RuRow.below {w w' : World} {b n B : Nat} {rs : List Ru} (h : RuRow w b n rs) (hb : Below B w w') (hB : b < B) : RuRow w' b n rs := World.rowIs.of_block h (hb.block b hB)
theorem RuRow.grew {w w' : World} {b n : Nat} {rs : List Ru} (h : RuRow w b n rs) (hg : Grew w w') : RuRow w' b n rs := h.below hg.1 h.lt

set_option maxHeartbeats 400000 in
theorem toRule_any (r : Ru) (w : World) : Calls Try.prog 44 #[ruV r] w fun e w' => e = .returned (ruV r) ∧ Grew w w' := by
  unfold ruV
  go_enter Try.func44, Try.ntmps44
  go_wp2
  refine bodyPost_ret (v := .agg #[.int .i64 r.to, .int .i64 r.fr, .int .i64 r.pl, .int .i64 r.mo]) (by simp [results, Try.results44, go_sem]) rfl ⟨rfl, ?_⟩
  exact (((Grew.refl _).alloc _).alloc _).alloc _

set_option maxHeartbeats 400000 in
theorem eqRule_any (x : Ru) (w : World) : Calls Try.prog 80 #[ruV x, ruV x] w fun e w' => e = .returned (.bool true) ∧ Grew w w' := by
  unfold ruV
  obtain ⟨t, f, p, m⟩ := x
  have b0 : (t != t) = false := by simp
  have b1 : (f != f) = false := by simp
  have b2 : (p != p) = false := by simp
  have b3 : (m != m) = false := by simp
  go_enter Try.func80, Try.ntmps80
  go_wp2
  go_ret
  exact ⟨rfl, ((Grew.refl _).alloc _).alloc _⟩

theorem infoRule : (Try.prog.info? 40).map (fun i => (i.zero, i.size, i.bytes)) = some (some (.agg #[.int .i64 0, .int .i64 0, .int .i64 0, .int .i64 0]), 4, 32) := by kernel_rfl
theorem make_ru (n : Nat) (hn : n ≤ 1048576) (w : World) :
    (Instr.makeSlice 33 (.int .i64 (n : Int)) (.int .i64 (n : Int))).run Try.prog w = .ok (.slice (some ⟨w.heap.size, 0, none⟩) n n) (w.alloc (.cells (madeCells #[.int .i64 0, .int .i64 0, .int .i64 0, .int .i64 0] (n * 4)) 40)) := by
  obtain ⟨i, hi, hz, hs, hb⟩ := info_parts infoRule
  have hr := run_make (P := Try.prog) w 33 40 i _ Try.underlying33 hi hz .i64 .i64 n n (by omega) (Int.le_refl _) (by rw [hb]; omega) (by omega)
  simp only [Int.toNat_natCast, hs] at hr
  exact hr
def part4 (rs : List Ru) (k : Nat) : Nat → Value := fun j => if j < k * 4 then ruF rs j else .int .i64 0
theorem part4_start {w : World} {n : Nat} {rs : List Ru} : (w.alloc (.cells (madeCells #[.int .i64 0, .int .i64 0, .int .i64 0, .int .i64 0] (n * 4)) 40)).rowIs w.heap.size 40 (n * 4) (part4 rs 0) := by
  refine ⟨_, heap_alloc_new w _, size_madeCells _ _, fun i hi => ?_⟩
  have h4 : i % 4 = 0 ∨ i % 4 = 1 ∨ i % 4 = 2 ∨ i % 4 = 3 := by omega
  simp only [madeCells, part4]
  rcases h4 with h | h | h | h <;> simp [hi, h]
theorem part4_step {w : World} {b n k : Nat} {rs : List Ru} (h : w.rowIs b 40 (n * 4) (part4 rs k)) :
    ((((w.setCell ⟨b, k * 4, none⟩ (.int .i64 (ruAt rs k).to)).setCell ⟨b, k * 4 + 1, none⟩ (.int .i64 (ruAt rs k).fr)).setCell ⟨b, k * 4 + 2, none⟩ (.int .i64 (ruAt rs k).pl)).setCell ⟨b, k * 4 + 3, none⟩ (.int .i64 (ruAt rs k).mo)).rowIs b 40 (n * 4) (part4 rs (k + 1)) := by
  refine ((((h.set (k * 4) _).set (k * 4 + 1) _).set (k * 4 + 2) _).set (k * 4 + 3) _).congr (fun j hj => ?_)
  simp only [part4]
  by_cases e3 : j = k * 4 + 3
  · subst e3; rw [if_pos rfl, if_pos (by omega), ruF3]
  · rw [if_neg e3]
    by_cases e2 : j = k * 4 + 2
    · subst e2; rw [if_pos rfl, if_pos (by omega), ruF2]
    · rw [if_neg e2]
      by_cases e1 : j = k * 4 + 1
      · subst e1; rw [if_pos rfl, if_pos (by omega), ruF1]
      · rw [if_neg e1]
        by_cases e0 : j = k * 4
        · subst e0; rw [if_pos rfl, if_pos (by omega), ruF0]
        · rw [if_neg e0]
          by_cases hlt : j < k * 4
          · rw [if_pos hlt, if_pos (by omega)]
          · rw [if_neg hlt, if_neg (by omega)]

set_option maxRecDepth 100000 in
set_option maxHeartbeats 1600000 in
theorem copyR_any (a : Option Addr) (len cap : Nat) (rs : List Ru) (w : World) (hv : RuS w a len rs) (hm : len ≤ 1048576) :
    Calls Try.prog 41 #[.slice a len cap] w fun e w' => ∃ b, e = .returned (.slice (some ⟨b, 0, none⟩) len len) ∧ w.heap.size ≤ b ∧ RuRow w' b len rs ∧ Grew w w' := by
  have hmk := make_ru len hm
  have hc := hv.2
  clear hv
  go_enter Try.func41, Try.ntmps41
  go_wp2
  go_loopw [4] (fun i wr => ∃ k : Nat, k ≤ len ∧ i = .int .i64 k ∧ wr.rowIs w.heap.size 40 (len * 4) (part4 rs k) ∧ Grew w wr) (fun i _ => len - (intOf i).toNat)
  case atStart => exact ⟨0, Nat.zero_le _, rfl, part4_start, (Grew.refl _).alloc _⟩
  case round =>
    obtain ⟨k, hk, rfl, hrow, hgr⟩ := hrel
    have HR : Hid (wr.rowIs w.heap.size 40 (len * 4) (part4 rs k)) := hrow
    have HG : Hid (Grew w wr) := hgr
    by_cases hlt : k < len
    · rcases hc with h0 | ⟨b, off, rfl, hc⟩
      · omega
      · obtain ⟨c0, c1, c2, c3⟩ := (RusAt.below hc hgr.1 (Nat.le_refl _)) k hlt
        have hT := toRule_any (ruAt rs k) wr
        unfold ruV at hT
        clear hrow hgr
        go_wp2_with fail
        refine hT.mono ?_
        rintro e w1 ⟨rfl, hg1⟩
        have HR1 : Hid (w1.rowIs w.heap.size 40 (len * 4) (part4 rs k)) := World.rowIs.of_block HR.out (hg1.1.block _ (World.rowIs.lt HR.out))
        have HG1 : Hid (Grew w w1) := HG.out.trans hg1
        have f0 := HR1.out.frozen (k * 4)
        have f1 := HR1.out.frozen (k * 4 + 1)
        have f2 := HR1.out.frozen (k * 4 + 2)
        have f3 := HR1.out.frozen (k * 4 + 3)
        have l0 := HR1.out.cell (i := k * 4) (by omega)
        have l1 := HR1.out.cell (i := k * 4 + 1) (by omega)
        have l2 := HR1.out.cell (i := k * 4 + 2) (by omega)
        have l3 := HR1.out.cell (i := k * 4 + 3) (by omega)
        clear hg1
        go_wp2
        go_roundw
        case rel => exact ⟨k + 1, by omega, by go_num, part4_step HR1.out, (((HG1.out.set (Nat.le_refl _) _ _).set (Nat.le_refl _) _ _).set (Nat.le_refl _) _ _).set (Nat.le_refl _) _ _⟩
        case measure => simp [intOf]; omega
    · have hkl : k = len := by omega
      subst hkl
      clear hrow hgr hc
      go_wp2
      go_ret
      exact ⟨_, rfl, Nat.le_refl _, World.rowIs.congr HR.out (fun j hj => by simp only [part4]; rw [if_pos hj]), HG.out⟩

set_option maxRecDepth 100000 in
set_option maxHeartbeats 1600000 in
theorem eqR_any (b b' off off' len cap cap' : Nat) (rs : List Ru) (w : World) (hc : RusAt w b off len rs) (hc' : RusAt w b' off' len rs) (hm : len ≤ maxLen) :
    Calls Try.prog 42 #[.slice (some ⟨b, off, none⟩) len cap, .slice (some ⟨b', off', none⟩) len cap'] w fun e w' => e = .returned (.bool true) ∧ Grew w w' := by
  unfold maxLen at hm
  have hbb : ((len : Int) != (len : Int)) = false := by simp
  go_enter Try.func42, Try.ntmps42
  go_wp2
  go_loopw [5] (fun i wr => ∃ k : Nat, k ≤ len ∧ i = .int .i64 k ∧ Grew w wr) (fun i _ => len - (intOf i).toNat)
  case atStart => exact ⟨0, Nat.zero_le _, rfl, Grew.refl _⟩
  case round =>
    obtain ⟨k, hk, rfl, hgr⟩ := hrel
    have HG : Hid (Grew w wr) := hgr
    by_cases hlt : k < len
    · obtain ⟨c0, c1, c2, c3⟩ := (RusAt.below hc hgr.1 (Nat.le_refl _)) k hlt
      obtain ⟨d0, d1, d2, d3⟩ := (RusAt.below hc' hgr.1 (Nat.le_refl _)) k hlt
      have p0 := cell_grown (World.block_lt_of_cell? _ _ c0) c0
      have p1 := cell_grown (World.block_lt_of_cell? _ _ c1) c1
      have p2 := cell_grown (World.block_lt_of_cell? _ _ c2) c2
      have p3 := cell_grown (World.block_lt_of_cell? _ _ c3) c3
      have q0 := cell_grown (World.block_lt_of_cell? _ _ d0) d0
      have q1 := cell_grown (World.block_lt_of_cell? _ _ d1) d1
      have q2 := cell_grown (World.block_lt_of_cell? _ _ d2) d2
      have q3 := cell_grown (World.block_lt_of_cell? _ _ d3) d3
      have hE := fun X => eqRule_any (ruAt rs k) X
      unfold ruV at hE
      have hi1 : (k : Int) < (len : Int) := by omega
      have hi0 : (0 : Int) ≤ (k : Int) := by omega
      clear hgr c0 c1 c2 c3 d0 d1 d2 d3
      go_wp2_with fail
      have hmix := mixedR
      go_quiet_grown (first | (go_at_call 80; exact grown_at (hE _)))
      go_wp2
      go_roundw
      case rel => exact ⟨k + 1, by omega, by go_num, HG.out.trans (Grew.of_grow _ _ _)⟩
      case measure => simp [intOf]; omega
    · go_wp2
      go_ret
      exact ⟨rfl, HG.out⟩

set_option maxRecDepth 100000 in
set_option maxHeartbeats 1600000 in
theorem markR_any (b n k0 : Nat) (rs : List Ru) (w : World) (hr : RuRow w b n rs) (hk : k0 ≤ 10000000) (hn : n ≤ 10000000) :
    Calls Try.prog 48 #[.slice (some ⟨b, 0, none⟩) n n, .int .i64 (k0 : Int)] w fun e w' => e = .returned (.int .i64 ((k0 + n * 4 : Nat) : Int)) ∧ Touch b w w' := by
  go_enter Try.func48, Try.ntmps48
  go_wp2
  go_loopw [1, 5] (fun q i wr => ∃ (j : Nat) (f : Nat → Value), j ≤ n ∧ i = .int .i64 j ∧ q = .int .i64 ((k0 + j * 4 : Nat) : Int) ∧ wr.rowIs b 40 (n * 4) f ∧ Touch b w wr) (fun _ i _ => n - (intOf i).toNat)
  case atStart => exact ⟨0, _, Nat.zero_le _, rfl, by simp, hr, Touch.refl _ _⟩
  case round =>
    obtain ⟨j, f, hj, rfl, rfl, hrow, ht⟩ := hrel
    have HR : Hid (wr.rowIs b 40 (n * 4) f) := hrow
    have HT : Hid (Touch b w wr) := ht
    clear ht hr
    by_cases hlt : j < n
    · have f0 := hrow.frozen (j * 4)
      have f1 := hrow.frozen (j * 4 + 1)
      have f2 := hrow.frozen (j * 4 + 2)
      have f3 := hrow.frozen (j * 4 + 3)
      have l0 := hrow.cell (i := j * 4) (by omega)
      have l1 := hrow.cell (i := j * 4 + 1) (by omega)
      have l2 := hrow.cell (i := j * 4 + 2) (by omega)
      have l3 := hrow.cell (i := j * 4 + 3) (by omega)
      have hi1 : (j : Int) < (n : Int) := by omega
      clear hrow
      go_wp2
      go_roundw
      case rel => exact ⟨j + 1, _, by omega, by go_num, by go_num, (((HR.out.set _ _).set _ _).set _ _).set _ _, (((HT.out.set _ _).set _ _).set _ _).set _ _⟩
      case measure => simp [intOf]; omega
    · have hjl : j = n := by omega
      subst hjl
      clear hrow
      go_wp2
      go_ret
      exact ⟨rfl, HT.out⟩
end Go.Proofs.Ytbgkfiijfocgiaa
