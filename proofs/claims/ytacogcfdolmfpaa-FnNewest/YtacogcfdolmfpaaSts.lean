/-
  The contract of the program's stepsOf.
-/
import Derived.Test.YtacogcfdolmfpaaAdd
namespace Go.Proofs.Ytacogcfdolmfpaa
set_option linter.unusedSimpArgs false
set_option linter.unusedVariables false
open Go.RowKit Go.Sort

theorem res_cell {fn : Func} {c : Nat} {T n k : Nat} {e : TypeId} {tmps : Array Value} {w : World} {b off : Nat} {m : Nat → Bool} (hr : fn.results = #[.cell c T]) (hu : Try.prog.underlying T = some (.array k e))
    (hi : (Try.prog.info? T).map (fun i => (i.zero, i.size, i.bytes)) = some (some (.agg (mV n no)), n, n)) (ht : tmps.getD c undef = .pointer (some ⟨b, off, none⟩)) (hb : Bo w b off n m) :
    (results fn tmps).run Try.prog w = .ok (.agg (mV n m)) w := by
  obtain ⟨i, hi0, _, hs, _⟩ := info_parts hi
  have hl : (loadVar T ⟨b, off, none⟩).run Try.prog w = .ok (.agg (mV n m)) w := by
    simp [loadVar, isAgg, run_underlying hu, sizeOf, typeInfo, hi0, hs, ld_run hb]
  have ht' : tmps[c]?.getD undef = .pointer (some ⟨b, off, none⟩) := by simpa using ht
  simp [results, hr, ht', asAddr, hl]

/-- Is event i a source of event k? -/
def sB (es : List Ev) (k i : Nat) : Bool := decide (i ∈ src es k)
/-- The table of the first len events. -/
def tB (es : List Ev) (len : Nat) : Nat → Bool := fun j => decide (j / 40 < len) && sB es (j / 40) (j % 40)
/-- The same with the first q sources of event k. -/
def tP (es : List Ev) (k q : Nat) : Nat → Bool := fun j => (decide (j / 40 < k) && sB es (j / 40) (j % 40)) || (decide (j / 40 = k) && decide (j % 40 ∈ (src es k).take q))
theorem tP_zero (es : List Ev) (k : Nat) (j : Nat) : tP es k 0 j = tB es k j := by simp [tP, tB]
theorem tP_done (es : List Ev) (k q : Nat) (hq : (src es k).length ≤ q) (j : Nat) : tP es k q j = tB es (k + 1) j := by
  unfold tP tB
  rw [List.take_of_length_le hq]
  by_cases h : j / 40 = k
  · rw [h]; simp [sB]
  · by_cases h2 : j / 40 < k
    · simp [h2, show j / 40 < k + 1 by omega, h]
    · simp [h2, show ¬ j / 40 < k + 1 by omega, h]
theorem tP_step {es : List Ev} {k q : Nat} (hq : q < (src es k).length) (hk : k < 40) (h40 : ∀ i ∈ src es k, i < 40) (j : Nat) :
    (if j = k * 40 + (src es k)[q] then true else tP es k q j) = tP es k (q + 1) j := by
  have hs := h40 _ (List.getElem_mem hq)
  have hm : ∀ x, decide (x ∈ (src es k).take (q + 1)) = (decide (x ∈ (src es k).take q) || decide (x = (src es k)[q])) := fun x => by
    rw [List.take_succ_eq_append_getElem hq, Bool.eq_iff_iff, Bool.or_eq_true, decide_eq_true_eq, decide_eq_true_eq, decide_eq_true_eq, List.mem_append, List.mem_singleton]
  unfold tP
  rw [hm]
  by_cases e : j = k * 40 + (src es k)[q]
  · rw [if_pos e]
    have h1 : j / 40 = k := by omega
    have h2 : j % 40 = (src es k)[q] := by omega
    rw [h1, h2, decide_eq_true (rfl : (src es k)[q] = (src es k)[q])]; simp
  · rw [if_neg e]
    by_cases h1 : j / 40 = k
    · have h2 : j % 40 ≠ (src es k)[q] := by omega
      rw [decide_eq_false h2, Bool.or_false]
    · rw [decide_eq_false h1, Bool.false_and, Bool.false_and]
theorem srcI_two (es : List Ev) (k : Nat) : (srcI es k).length ≤ 2 := by
  rw [srcI_len]; unfold src; simp only [List.length_append]
  have a1 : (lastB es (evAt es k).n k).toList.length ≤ 1 := by cases lastB es (evAt es k).n k <;> simp
  have a2 : (if (evAt es k).k = 3 then (firstS es (evAt es k).m k).toList else []).length ≤ 1 := by
    split
    · cases firstS es (evAt es k).m k <;> simp
    · simp
  omega

set_option maxRecDepth 100000 in
set_option maxHeartbeats 1600000 in
theorem stepsOf_any (b off len cap : Nat) (es : List Ev) (w : World) (hc : EvsAt w b off len es) (hok : okT es len = true) (hcap : len ≤ cap) :
    Calls Try.prog 94 #[.slice (some ⟨b, off, none⟩) len cap] w fun e w' => e = .returned (.agg (mV 1600 (tB es len))) ∧ Below w.heap.size w w' := by
  obtain ⟨h40, hall⟩ := okT_all hok
  have HALL : Hid (∀ k, k < len → okE es k = true) := hall
  have hlm : len ≤ maxLen := by unfold maxLen; omega
  clear hall hok
  have hb0 : Bo (w.alloc (.cells (mV 1600 no) 85)) w.heap.size 0 1600 no := bo_alloc w 1600 no 85
  have hbe : Below (w.alloc (.cells (mV 1600 no) 85)).heap.size (w.alloc (.cells (mV 1600 no) 85)) ((w.alloc (.cells (mV 1600 no) 85)).alloc (.cells (mV 1600 no) 85)) := (Below.refl _ _).alloc (Nat.le_refl _) _
  have hb1 : Bo ((w.alloc (.cells (mV 1600 no) 85)).alloc (.cells (mV 1600 no) 85)) w.heap.size 0 1600 no := hb0.below hbe hb0.blk
  have hb2 : Bo ((w.alloc (.cells (mV 1600 no) 85)).alloc (.cells (mV 1600 no) 85)) (w.heap.size + 1) 0 1600 no := by
    have := bo_alloc (w.alloc (.cells (mV 1600 no) 85)) 1600 no 85
    simpa using this
  have hB : Below w.heap.size w ((w.alloc (.cells (mV 1600 no) 85)).alloc (.cells (mV 1600 no) 85)) := ((Below.refl _ _).alloc (Nat.le_refl _) _).alloc (by simp) _
  have H1 : Hid (Bo ((w.alloc (.cells (mV 1600 no) 85)).alloc (.cells (mV 1600 no) 85)) w.heap.size 0 1600 no) := hb1
  have H2 : Hid (Bo ((w.alloc (.cells (mV 1600 no) 85)).alloc (.cells (mV 1600 no) 85)) (w.heap.size + 1) 0 1600 no) := hb2
  have HBB : Hid (Below w.heap.size w ((w.alloc (.cells (mV 1600 no) 85)).alloc (.cells (mV 1600 no) 85))) := hB
  clear hb0 hbe hb1 hb2 hB
  go_enter Try.func94, Try.ntmps94
  go_wp2_with (first | (refine wpL_alloc _ rfl 85 1600 rfl Try.info81 ?_))
  go_loopw [9] (fun i wr => ∃ k : Nat, k ≤ len ∧ i = .int .i64 k ∧ Bo wr w.heap.size 0 1600 no ∧ Bo wr (w.heap.size + 1) 0 1600 (tB es k) ∧ Below w.heap.size w wr) (fun i _ => len - (intOf i).toNat)
  case atStart => exact ⟨0, Nat.zero_le _, rfl, H1.out, H2.out.congr (fun j _ => by simp [tB, no]), HBB.out⟩
  case round =>
    obtain ⟨k, hk, rfl, hz, ht, hbel⟩ := hrel
    have HZ : Hid (Bo wr w.heap.size 0 1600 no) := hz
    have HT : Hid (Bo wr (w.heap.size + 1) 0 1600 (tB es k)) := ht
    have HB : Hid (Below w.heap.size w wr) := hbel
    clear hz ht hbel H1 H2 HBB
    by_cases hlt : k < len
    · have hS := sources_any b off len cap k es wr (evs_below hc HB.out (Nat.le_refl _)) hlm hcap hlt (okE_first (HALL.out k hlt))
      have h40s : ∀ i ∈ src es k, i < 40 := fun i hi => by have := src_lt hi; omega
      have H40 : Hid (∀ i ∈ src es k, i < 40) := h40s
      clear h40s
      go_wp2_with fail
      refine hS.mono ?_
      rintro e w2 ⟨g, off', c, rfl, h1, h2, h3⟩
      have hgl : w.heap.size + 1 < g := Nat.lt_of_lt_of_le HT.out.blk h1
      have K2 : Hid (OI w2 g off' (srcI es k).length c (srcI es k)) := h2
      have KB : Hid (Below w.heap.size w w2) := HB.out.trans (h3.mono HB.out.size)
      have KZ : Hid (Bo w2 w.heap.size 0 1600 no) := HZ.out.below h3 HZ.out.blk
      have KT : Hid (Bo w2 (w.heap.size + 1) 0 1600 (tB es k)) := HT.out.below h3 HT.out.blk
      have hl2 := srcI_two es k
      clear h1 h2 h3 hS
      go_wp2
      go_loopw [16] (fun i wx => ∃ j : Nat, j ≤ (srcI es k).length ∧ i = .int .i64 j ∧ Bo wx w.heap.size 0 1600 no ∧ Bo wx (w.heap.size + 1) 0 1600 (tP es k j) ∧ OI wx g off' (srcI es k).length c (srcI es k) ∧ Below w.heap.size w wx) (fun i _ => (srcI es k).length - (intOf i).toNat)
      case atStart => exact ⟨0, Nat.zero_le _, rfl, KZ.out, KT.out.congr (fun j _ => (tP_zero es k j).symm), K2.out, KB.out⟩
      case round =>
        obtain ⟨j, hj, rfl, hz, ht, hs, hbel⟩ := hrel
        have LZ : Hid (Bo wr w.heap.size 0 1600 no) := hz
        have LT : Hid (Bo wr (w.heap.size + 1) 0 1600 (tP es k j)) := ht
        have LS : Hid (OI wr g off' (srcI es k).length c (srcI es k)) := hs
        have LB : Hid (Below w.heap.size w wr) := hbel
        clear hz ht hs hbel
        by_cases hjl : j < (srcI es k).length
        · have hjs : j < (src es k).length := by rw [← srcI_len]; exact hjl
          have x1 := LS.out.cellAt hjl
          rw [srcI_el hjs] at x1
          have hsk : (src es k)[j] < k := src_lt (List.getElem_mem hjs)
          have HST : Hid (∀ q, (if q = k * 40 + (src es k)[j] then true else tP es k j q) = tP es k (j + 1) q) := tP_step hjs (by omega) H40.out
          generalize hse : (src es k)[j] = s at *
          have hidx : k * 40 + s < 1600 := by omega
          have c1 := LT.out.cell (k * 40 + s) hidx
          have f1 := LT.out.free (k * 40 + s) hidx
          simp only [Nat.zero_add] at c1 f1
          have hs1 : (s : Int) < 40 := by omega
          have hs0 : (0 : Int) ≤ (s : Int) := by omega
          have hk1 : (k : Int) < 40 := by omega
          have hk0 : (0 : Int) ≤ (k : Int) := by omega
          have hj1 : (j : Int) < ((srcI es k).length : Int) := by omega
          clear hse
          have R1 : Hid (Bo (wr.setCell ⟨w.heap.size + 1, k * 40 + s, none⟩ (.bool true)) (w.heap.size + 1) 0 1600 (tP es k (j + 1))) := by
            have := LT.out.set hidx true
            rw [Nat.zero_add] at this
            exact this.congr (fun q _ => HST.out q)
          have R2 : Hid (Bo (wr.setCell ⟨w.heap.size + 1, k * 40 + s, none⟩ (.bool true)) w.heap.size 0 1600 no) := LZ.out.setFar (by omega)
          have R3 : Hid (OI (wr.setCell ⟨w.heap.size + 1, k * 40 + s, none⟩ (.bool true)) g off' (srcI es k).length c (srcI es k)) := LS.out.setFar (by omega)
          have R4 : Hid (Below w.heap.size w (wr.setCell ⟨w.heap.size + 1, k * 40 + s, none⟩ (.bool true))) := LB.out.setCell (Nat.le_succ _) _
          go_wp2
          go_roundw
          case rel => exact ⟨j + 1, by omega, by go_num, R2.out, R1.out, R3.out, R4.out⟩
          case measure => simp [intOf]; omega
        · have R1 : Hid (Bo wr (w.heap.size + 1) 0 1600 (tB es (k + 1))) := LT.out.congr (fun q _ => tP_done es k j (by rw [← srcI_len]; omega) q)
          go_wp2
          go_roundw
          case rel => exact ⟨k + 1, by omega, by go_num, LZ.out, R1.out, LB.out⟩
          case measure => simp [intOf]; omega
    · have hkl : k = len := by omega
      subst hkl
      go_wp2_with (first | (refine wpL_load _ rfl 85 1600 40 _ rfl 83 Try.underlying85 Try.info81 (w.heap.size + 1) 0 (tB es k) rfl HT.out ?_) | (refine wpL_store _ rfl rfl 85 1600 _ _ rfl Try.info81 w.heap.size 0 no (tB es k) rfl rfl HZ.out ?_))
      refine bodyPost_ret (res_cell Try.results94 Try.underlying85 Try.info81 (by rfl) (HZ.out.sets (tB es k))) rfl ⟨rfl, ?_⟩
      exact below_grown HB.out (grown_setCells _ _ _ _) (Nat.le_refl _) HB.out.size
end Go.Proofs.Ytacogcfdolmfpaa
