/-
  The contracts of the laws' own helpers on events: toEventS, eqEventS, markEventS.
-/
import Derived.Test.YtacogcfdolmfpaaTim
import Derived.Test.YtacogcfdolmfpaaTok
namespace Go.Proofs.Ytacogcfdolmfpaa
open Go.RowKit Go.Sort

/-- Cell j of a row of events. -/
def evF (es : List Ev) (j : Nat) : Value :=
  if j % 3 = 0 then .int .i64 (evAt es (j / 3)).n else if j % 3 = 1 then .int .i64 (evAt es (j / 3)).k else .int .i64 (evAt es (j / 3)).m
theorem evF0 (es : List Ev) (k : Nat) : evF es (k * 3) = .int .i64 (evAt es k).n := by
  unfold evF; rw [if_pos (by omega), show k * 3 / 3 = k by omega]
theorem evF1 (es : List Ev) (k : Nat) : evF es (k * 3 + 1) = .int .i64 (evAt es k).k := by
  unfold evF; rw [if_neg (by omega), if_pos (by omega), show (k * 3 + 1) / 3 = k by omega]
theorem evF2 (es : List Ev) (k : Nat) : evF es (k * 3 + 2) = .int .i64 (evAt es k).m := by
  unfold evF; rw [if_neg (by omega), if_neg (by omega), show (k * 3 + 2) / 3 = k by omega]
/-- A row of events of its own. -/
def EvRow (w : World) (b n : Nat) (es : List Ev) : Prop := w.rowIs b 48 (n * 3) (evF es)
theorem EvRow.at {w : World} {b n : Nat} {es : List Ev} (h : EvRow w b n es) : EvsAt w b 0 n es := fun i hi => by
  refine ⟨?_, ?_, ?_⟩
  · rw [Nat.zero_add, World.rowIs.cell h (by omega), evF0]
  · rw [Nat.zero_add, World.rowIs.cell h (by omega), evF1]
  · rw [Nat.zero_add, World.rowIs.cell h (by omega), evF2]
theorem EvRow.grew {w w' : World} {b n : Nat} {es : List Ev} (h : EvRow w b n es) (hg : Grew w w') : EvRow w' b n es := World.rowIs.of_block h (hg.1.block b (World.rowIs.lt h))
theorem EvRow.lt {w : World} {b n : Nat} {es : List Ev} (h : EvRow w b n es) : b < w.heap.size := World.rowIs.lt h
/-- A slice of events that came in. -/
def EvS (w : World) (a : Option Addr) (len : Nat) (es : List Ev) : Prop := len = 0 ∨ ∃ b off, a = some ⟨b, off, none⟩ ∧ EvsAt w b off len es
theorem EvS.grew {w w' : World} {a : Option Addr} {len : Nat} {es : List Ev} (h : EvS w a len es) (hg : Grew w w') : EvS w' a len es := by
  rcases h with h | ⟨b, off, rfl, h⟩
  · exact .inl h
  · exact .inr ⟨b, off, rfl, h.grew hg⟩
theorem EvS.below {w w' : World} {a : Option Addr} {len B : Nat} {es : List Ev} (h : EvS w a len es) (hb : Below B w w') (hB : w.heap.size ≤ B) : EvS w' a len es := by
  rcases h with h | ⟨b, off, rfl, h⟩
  · exact .inl h
  · refine .inr ⟨b, off, rfl, fun i hi => ?_⟩
    obtain ⟨h0, h1, h2⟩ := h i hi
    exact ⟨(hb.cell (Nat.lt_of_lt_of_le (World.block_lt_of_cell? _ _ h0) hB)).trans h0, (hb.cell (Nat.lt_of_lt_of_le (World.block_lt_of_cell? _ _ h1) hB)).trans h1, (hb.cell (Nat.lt_of_lt_of_le (World.block_lt_of_cell? _ _ h2) hB)).trans h2⟩

set_option maxHeartbeats 400000 in
theorem toEvent_any (e : Ev) (w : World) : Calls Try.prog 106 #[evV e] w fun r w' => r = .returned (evV e) ∧ Grew w w' := by
  unfold evV
  go_enter Try.func106, Try.ntmps106
  go_wp2
  refine bodyPost_ret (v := .agg #[.int .i64 e.n, .int .i64 e.k, .int .i64 e.m]) (by simp [results, Try.results106, go_sem]) rfl ⟨rfl, ?_⟩
  exact (((Grew.refl _).alloc _).alloc _).alloc _

set_option maxHeartbeats 400000 in
theorem eqEvent_any (x y : Ev) (w : World) : Calls Try.prog 107 #[evV x, evV y] w fun r w' => r = .returned (.bool (decide (x = y))) ∧ Grew w w' := by
  unfold evV
  by_cases h0 : x.n = y.n
  · by_cases h1 : x.k = y.k
    · by_cases h2 : x.m = y.m
      · have HE : Hid (decide (x = y) = true) := by
          rw [Hid, decide_eq_true_eq]; cases x; cases y; simp_all
        have b0 : (x.n != y.n) = false := by simpa using h0
        have b1 : (x.k != y.k) = false := by simpa using h1
        have b2 : (x.m != y.m) = false := by simpa using h2
        clear h0 h1 h2
        go_enter Try.func107, Try.ntmps107
        go_wp2
        go_ret
        exact ⟨ret_bool (by rw [HE.out]), ((Grew.refl _).alloc _).alloc _⟩
      · have HE : Hid (decide (x = y) = false) := by
          rw [Hid, decide_eq_false_iff_not]; intro h; exact h2 (by rw [h])
        have b0 : (x.n != y.n) = false := by simpa using h0
        have b1 : (x.k != y.k) = false := by simpa using h1
        have b2 : (x.m != y.m) = true := by simpa using h2
        clear h0 h1 h2
        go_enter Try.func107, Try.ntmps107
        go_wp2
        go_ret
        exact ⟨ret_bool (by rw [HE.out]), ((Grew.refl _).alloc _).alloc _⟩
    · have HE : Hid (decide (x = y) = false) := by
        rw [Hid, decide_eq_false_iff_not]; intro h; exact h1 (by rw [h])
      have b0 : (x.n != y.n) = false := by simpa using h0
      have b1 : (x.k != y.k) = true := by simpa using h1
      clear h0 h1
      go_enter Try.func107, Try.ntmps107
      go_wp2
      go_ret
      exact ⟨ret_bool (by rw [HE.out]), ((Grew.refl _).alloc _).alloc _⟩
  · have HE : Hid (decide (x = y) = false) := by
      rw [Hid, decide_eq_false_iff_not]; intro h; exact h0 (by rw [h])
    have b0 : (x.n != y.n) = true := by simpa using h0
    clear h0
    go_enter Try.func107, Try.ntmps107
    go_wp2
    go_ret
    exact ⟨ret_bool (by rw [HE.out]), ((Grew.refl _).alloc _).alloc _⟩

theorem Try.info74 : (Try.prog.info? 48).map (fun i => (i.zero, i.size, i.bytes)) = some (some (.agg #[.int .i64 0, .int .i64 0, .int .i64 0]), 3, 24) := by kernel_rfl

theorem make_ev (n : Nat) (hn : n ≤ 1048576) (w : World) :
    (Instr.makeSlice 33 (.int .i64 (n : Int)) (.int .i64 (n : Int))).run Try.prog w = .ok (.slice (some ⟨w.heap.size, 0, none⟩) n n) (w.alloc (.cells (madeCells #[.int .i64 0, .int .i64 0, .int .i64 0] (n * 3)) 48)) := by
  obtain ⟨i, hi, hz, hs, hb⟩ := info_parts Try.info74
  have hr := run_make (P := Try.prog) w 33 48 i _ Try.underlying33 hi hz .i64 .i64 n n (by omega) (Int.le_refl _) (by rw [hb]; omega) (by omega)
  simp only [Int.toNat_natCast, hs] at hr
  exact hr
def part3 (es : List Ev) (k : Nat) : Nat → Value := fun j => if j < k * 3 then evF es j else .int .i64 0
theorem part3_start {w : World} {n : Nat} {es : List Ev} : (w.alloc (.cells (madeCells #[.int .i64 0, .int .i64 0, .int .i64 0] (n * 3)) 48)).rowIs w.heap.size 48 (n * 3) (part3 es 0) := by
  refine ⟨_, heap_alloc_new w _, size_madeCells _ _, fun i hi => ?_⟩
  have h3 : i % 3 = 0 ∨ i % 3 = 1 ∨ i % 3 = 2 := by omega
  simp only [madeCells, part3]
  rcases h3 with h | h | h <;> simp [hi, h]
theorem part3_step {w : World} {b n k : Nat} {es : List Ev} (h : w.rowIs b 48 (n * 3) (part3 es k)) :
    (((w.setCell ⟨b, k * 3, none⟩ (.int .i64 (evAt es k).n)).setCell ⟨b, k * 3 + 1, none⟩ (.int .i64 (evAt es k).k)).setCell ⟨b, k * 3 + 2, none⟩ (.int .i64 (evAt es k).m)).rowIs b 48 (n * 3) (part3 es (k + 1)) := by
  refine (((h.set (k * 3) _).set (k * 3 + 1) _).set (k * 3 + 2) _).congr (fun j hj => ?_)
  simp only [part3]
  by_cases e2 : j = k * 3 + 2
  · subst e2; rw [if_pos rfl, if_pos (by omega), evF2]
  · rw [if_neg e2]
    by_cases e1 : j = k * 3 + 1
    · subst e1; rw [if_pos rfl, if_pos (by omega), evF1]
    · rw [if_neg e1]
      by_cases e0 : j = k * 3
      · subst e0; rw [if_pos rfl, if_pos (by omega), evF0]
      · rw [if_neg e0]
        by_cases hlt : j < k * 3
        · rw [if_pos hlt, if_pos (by omega)]
        · rw [if_neg hlt, if_neg (by omega)]

set_option maxRecDepth 100000 in
set_option maxHeartbeats 1600000 in
theorem copyE_any (a : Option Addr) (len cap : Nat) (es : List Ev) (w : World) (hv : EvS w a len es) (hm : len ≤ 1048576) :
    Calls Try.prog 55 #[.slice a len cap] w fun e w' => ∃ b, e = .returned (.slice (some ⟨b, 0, none⟩) len len) ∧ w.heap.size ≤ b ∧ EvRow w' b len es ∧ Grew w w' := by
  have hmk := make_ev len hm
  rcases hv with h0 | ⟨b, off, rfl, hc⟩
  · have H0 : Hid (len = 0) := h0
    clear h0
    go_enter Try.func55, Try.ntmps55
    go_wp2
    go_loopw [4] (fun i wr => ∃ k : Nat, k ≤ len ∧ i = .int .i64 k ∧ wr.rowIs w.heap.size 48 (len * 3) (part3 es k) ∧ Grew w wr) (fun i _ => len - (intOf i).toNat)
    case atStart => exact ⟨0, Nat.zero_le _, rfl, part3_start, (Grew.refl _).alloc _⟩
    case round =>
      obtain ⟨k, hk, rfl, hrow, hgr⟩ := hrel
      have HR : Hid (wr.rowIs w.heap.size 48 (len * 3) (part3 es k)) := hrow
      have HG : Hid (Grew w wr) := hgr
      have hlt : ¬ k < len := by have := H0.out; omega
      have hkl : k = len := by omega
      subst hkl
      clear hrow hgr
      go_wp2
      go_ret
      exact ⟨_, rfl, Nat.le_refl _, World.rowIs.congr HR.out (fun j hj => by simp only [part3]; rw [if_pos hj]), HG.out⟩
  · go_enter Try.func55, Try.ntmps55
    go_wp2
    go_loopw [4] (fun i wr => ∃ k : Nat, k ≤ len ∧ i = .int .i64 k ∧ wr.rowIs w.heap.size 48 (len * 3) (part3 es k) ∧ Grew w wr) (fun i _ => len - (intOf i).toNat)
    case atStart => exact ⟨0, Nat.zero_le _, rfl, part3_start, (Grew.refl _).alloc _⟩
    case round =>
      obtain ⟨k, hk, rfl, hrow, hgr⟩ := hrel
      have HR : Hid (wr.rowIs w.heap.size 48 (len * 3) (part3 es k)) := hrow
      have HG : Hid (Grew w wr) := hgr
      by_cases hlt : k < len
      · obtain ⟨c0, c1, c2⟩ := hc.grew hgr k hlt
        have hT := toEvent_any (evAt es k) wr
        unfold evV at hT
        clear hrow hgr
        go_wp2_with fail
        refine hT.mono ?_
        rintro e w1 ⟨rfl, hg1⟩
        have HR1 : Hid (w1.rowIs w.heap.size 48 (len * 3) (part3 es k)) := World.rowIs.of_block HR.out (hg1.1.block _ (World.rowIs.lt HR.out))
        have HG1 : Hid (Grew w w1) := HG.out.trans hg1
        have f0 := HR1.out.frozen (k * 3)
        have f1 := HR1.out.frozen (k * 3 + 1)
        have f2 := HR1.out.frozen (k * 3 + 2)
        have l0 := HR1.out.cell (i := k * 3) (by omega)
        have l1 := HR1.out.cell (i := k * 3 + 1) (by omega)
        have l2 := HR1.out.cell (i := k * 3 + 2) (by omega)
        clear hg1
        go_wp2
        go_roundw
        case rel => exact ⟨k + 1, by omega, by go_num, part3_step HR1.out, ((HG1.out.set (Nat.le_refl _) _ _).set (Nat.le_refl _) _ _).set (Nat.le_refl _) _ _⟩
        case measure => simp [intOf]; omega
      · have hkl : k = len := by omega
        subst hkl
        clear hrow hgr
        go_wp2
        go_ret
        exact ⟨_, rfl, Nat.le_refl _, World.rowIs.congr HR.out (fun j hj => by simp only [part3]; rw [if_pos hj]), HG.out⟩

theorem ev_eq_of_all {es fs : List Ev} {n : Nat} (h1 : es.length = n) (h2 : fs.length = n) (h : ∀ j, j < n → evAt es j = evAt fs j) : es = fs := by
  refine List.ext_getElem (by omega) (fun i a b => ?_)
  have := h i (by omega)
  simpa [evAt, a, b] using this

set_option maxRecDepth 100000 in
set_option maxHeartbeats 1600000 in
theorem eqE_any (b b' off off' len cap cap' : Nat) (es : List Ev) (w : World) (hc : EvsAt w b off len es) (hc' : EvsAt w b' off' len es) (hm : len ≤ maxLen) :
    Calls Try.prog 57 #[.slice (some ⟨b, off, none⟩) len cap, .slice (some ⟨b', off', none⟩) len cap'] w fun e w' => e = .returned (.bool true) ∧ Grew w w' := by
  unfold maxLen at hm
  have hbb : ((len : Int) != (len : Int)) = false := by simp
  go_enter Try.func57, Try.ntmps57
  go_wp2
  go_loopw [5] (fun i wr => ∃ k : Nat, k ≤ len ∧ i = .int .i64 k ∧ Grew w wr) (fun i _ => len - (intOf i).toNat)
  case atStart => exact ⟨0, Nat.zero_le _, rfl, Grew.refl _⟩
  case round =>
    obtain ⟨k, hk, rfl, hgr⟩ := hrel
    have HG : Hid (Grew w wr) := hgr
    by_cases hlt : k < len
    · obtain ⟨c0, c1, c2⟩ := hc.grew hgr k hlt
      obtain ⟨d0, d1, d2⟩ := hc'.grew hgr k hlt
      have p0 := cell_grown (World.block_lt_of_cell? _ _ c0) c0
      have p1 := cell_grown (World.block_lt_of_cell? _ _ c1) c1
      have p2 := cell_grown (World.block_lt_of_cell? _ _ c2) c2
      have q0 := cell_grown (World.block_lt_of_cell? _ _ d0) d0
      have q1 := cell_grown (World.block_lt_of_cell? _ _ d1) d1
      have q2 := cell_grown (World.block_lt_of_cell? _ _ d2) d2
      have hE := fun X => eqEvent_any (evAt es k) (evAt es k) X
      simp only [decide_true] at hE
      unfold evV at hE
      have hi1 : (k : Int) < (len : Int) := by omega
      have hi0 : (0 : Int) ≤ (k : Int) := by omega
      clear hgr c0 c1 c2 d0 d1 d2
      go_wp2_with fail
      have hmix := mixed
      go_quiet_grown (first | (go_at_call 107; exact grown_at (hE _)))
      go_wp2
      go_roundw
      case rel => exact ⟨k + 1, by omega, by go_num, HG.out.trans (Grew.of_grow _ _ _)⟩
      case measure => simp [intOf]; omega
    · go_wp2
      go_ret
      exact ⟨rfl, HG.out⟩

set_option maxRecDepth 100000 in
set_option maxHeartbeats 1600000 in
theorem markE_any (b n k0 : Nat) (es : List Ev) (w : World) (hr : EvRow w b n es) (hk : k0 ≤ 10000000) (hn : n ≤ 10000000) :
    Calls Try.prog 58 #[.slice (some ⟨b, 0, none⟩) n n, .int .i64 (k0 : Int)] w fun e w' => e = .returned (.int .i64 ((k0 + n * 3 : Nat) : Int)) ∧ Touch b w w' := by
  go_enter Try.func58, Try.ntmps58
  go_wp2
  go_loopw [1, 5] (fun q i wr => ∃ (j : Nat) (f : Nat → Value), j ≤ n ∧ i = .int .i64 j ∧ q = .int .i64 ((k0 + j * 3 : Nat) : Int) ∧ wr.rowIs b 48 (n * 3) f ∧ Touch b w wr) (fun _ i _ => n - (intOf i).toNat)
  case atStart => exact ⟨0, _, Nat.zero_le _, rfl, by simp, hr, Touch.refl _ _⟩
  case round =>
    obtain ⟨j, f, hj, rfl, rfl, hrow, ht⟩ := hrel
    have HR : Hid (wr.rowIs b 48 (n * 3) f) := hrow
    have HT : Hid (Touch b w wr) := ht
    clear ht hr
    by_cases hlt : j < n
    · have f0 := hrow.frozen (j * 3)
      have f1 := hrow.frozen (j * 3 + 1)
      have f2 := hrow.frozen (j * 3 + 2)
      have l0 := hrow.cell (i := j * 3) (by omega)
      have l1 := hrow.cell (i := j * 3 + 1) (by omega)
      have l2 := hrow.cell (i := j * 3 + 2) (by omega)
      have hi1 : (j : Int) < (n : Int) := by omega
      clear hrow
      go_wp2
      go_roundw
      case rel => exact ⟨j + 1, _, by omega, by go_num, by go_num, ((HR.out.set _ _).set _ _).set _ _, ((HT.out.set _ _).set _ _).set _ _⟩
      case measure => simp [intOf]; omega
    · have hjl : j = n := by omega
      subst hjl
      clear hrow
      go_wp2
      go_ret
      exact ⟨rfl, HT.out⟩
end Go.Proofs.Ytacogcfdolmfpaa
