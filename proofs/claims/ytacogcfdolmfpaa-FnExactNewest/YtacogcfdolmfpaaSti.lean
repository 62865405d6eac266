/-
  The contract of the program's Stamps.
-/
import Derived.Test.YtacogcfdolmfpaaStp
namespace Go.Proofs.Ytacogcfdolmfpaa
set_option linter.unusedSimpArgs false
set_option linter.unusedVariables false
open Go.RowKit Go.Sort

theorem oi_made (w : World) (n : Nat) (hn : n ≤ maxLen) : OI (w.alloc (.cells (madeCells #[.int .i64 0] n) 2)) w.heap.size 0 n n (List.replicate n 0) := by
  have h := World.rowIs_made w (.int .i64 0) n 2
  have hr : RowOf (w.alloc (.cells (madeCells #[.int .i64 0] n) 2)) w.heap.size (List.replicate n 0) := by
    unfold RowOf
    rw [List.length_replicate]
    exact h.congr (fun j hj => by simp [el, hj])
  have := oi_row hr (by simpa using hn)
  simpa using this
theorem OI.setFar {w : World} {g g' off n cap i : Nat} {zs : List Int} {u : Value} (h : OI w g off n cap zs) (hne : g ≠ g') : OI (w.setCell ⟨g', i, none⟩ u) g off n cap zs :=
  OSl.of_block h (Below.heap_setCell _ _ _ _ (by exact hne)) (by simp [World.setCell]; exact h.blk)
theorem OI.set0 {w : World} {g n cap : Nat} {zs : List Int} (h : OI w g 0 n cap zs) {i : Nat} (hi : i < n) (y : Int) : OI (w.setCell ⟨g, i, none⟩ (.int .i64 y)) g 0 n cap (zs.set i y) := by
  have := h.set hi y
  rwa [Nat.zero_add] at this
theorem stP_start (es : List Ev) (len : Nat) : stP es len 0 0 = List.replicate len 0 := by
  refine List.ext_getElem (by simp [stP]) (fun i h1 h2 => ?_)
  simp [stP]
theorem evs_below {w w' : World} {b off len B : Nat} {es : List Ev} (h : EvsAt w b off len es) (hb : Below B w w') (hB : w.heap.size ≤ B) : EvsAt w' b off len es := fun i hi => by
  obtain ⟨h0, h1, h2⟩ := h i hi
  exact ⟨(hb.cell (Nat.lt_of_lt_of_le (World.block_lt_of_cell? _ _ h0) hB)).trans h0, (hb.cell (Nat.lt_of_lt_of_le (World.block_lt_of_cell? _ _ h1) hB)).trans h1, (hb.cell (Nat.lt_of_lt_of_le (World.block_lt_of_cell? _ _ h2) hB)).trans h2⟩

set_option maxRecDepth 100000 in
set_option maxHeartbeats 1600000 in
theorem implStamps_any (b off len cap : Nat) (es : List Ev) (w : World) (hc : EvsAt w b off len es) (hm : len ≤ maxLen) (hcap : len ≤ cap) :
    Calls Try.prog 30 #[.slice (some ⟨b, off, none⟩) len cap] w fun e w' => Ans w w' e (stT es len) := by
  have hT := implTok_any b off len cap es w hc hm hcap
  cases ho : okT es len
  · rw [ho] at hT
    have HZ : Hid (stT es len = []) := by rw [Hid, stT, ho]; rfl
    go_enter Try.func30, Try.ntmps30
    go_wp2_with fail
    refine hT.mono ?_
    rintro e w1 ⟨rfl, hg1⟩
    have HG : Hid (Grew w w1) := hg1
    clear hg1
    go_wp2
    go_ret
    rw [HZ.out]
    exact ⟨w1.heap.size, 0, 0, rfl, HG.out.1.size, oi_empty w1 2, (HG.out.alloc _).1⟩
  · rw [ho] at hT
    have HZ : Hid (stT es len = stL es len) := by rw [Hid, stT, ho]; rfl
    obtain ⟨h40, hall⟩ := okT_all ho
    have HALL : Hid (∀ k, k < len → okE es k = true) := hall
    have hmk := run_make_row' (P := Try.prog) 24 2 (.int .i64 0) 8 Try.underlying24 Try.info2 rfl .i64 .i64 len (by omega) (by omega)
    clear hall ho
    go_enter Try.func30, Try.ntmps30
    go_wp2_with fail
    refine hT.mono ?_
    rintro e w1 ⟨rfl, hg1⟩
    have HG : Hid (Grew w w1) := hg1
    have HC1 : Hid (EvsAt w1 b off len es) := hc.grew hg1
    clear hg1 hc hT
    go_wp2
    go_loopw [16] (fun i wr => ∃ k : Nat, k ≤ len ∧ i = .int .i64 k ∧ OI wr w1.heap.size 0 len len (stP es len k 0) ∧ Below w1.heap.size w1 wr) (fun i _ => len - (intOf i).toNat)
    case atStart => exact ⟨0, Nat.zero_le _, rfl, by rw [stP_start]; exact oi_made w1 len hm, (Below.refl _ _).alloc (Nat.le_refl _) _⟩
    case round =>
      obtain ⟨k, hk, rfl, hown, hbel⟩ := hrel
      have HO : Hid (OI wr w1.heap.size 0 len len (stP es len k 0)) := hown
      have HB : Hid (Below w1.heap.size w1 wr) := hbel
      clear hown hbel
      by_cases hlt : k < len
      · have hS := sources_any b off len cap k es wr (evs_below HC1.out HB.out (Nat.le_refl _)) hm hcap hlt (okE_first (HALL.out k hlt))
        have hkl : (k : Int) < (len : Int) := by omega
        have hk0 : (0 : Int) ≤ (k : Int) := by omega
        go_wp2_with fail
        refine hS.mono ?_
        rintro e w2 ⟨g, off', c, rfl, h1, h2, h3⟩
        have hgl : w1.heap.size < g := Nat.lt_of_lt_of_le HO.out.blk h1
        have H2 : Hid (OI w2 g off' (srcI es k).length c (srcI es k)) := h2
        have HB2 : Hid (Below w1.heap.size w1 w2) := HB.out.trans (h3.mono HB.out.size)
        have HO2 : Hid (OI w2 w1.heap.size 0 len len (stP es len k 0)) := HO.out.below h3 HO.out.blk
        clear h1 h2 h3 hS
        have hlen2 : (srcI es k).length ≤ 1000 := by
          rw [srcI_len]; unfold src; simp only [List.length_append]
          have a1 : (lastB es (evAt es k).n k).toList.length ≤ 1 := by cases lastB es (evAt es k).n k <;> simp
          have a2 : (if (evAt es k).k = 3 then (firstS es (evAt es k).m k).toList else []).length ≤ 1 := by
            split
            · cases firstS es (evAt es k).m k <;> simp
            · simp
          omega
        go_wp2
        go_loopw [23] (fun i wx => ∃ j : Nat, j ≤ (srcI es k).length ∧ i = .int .i64 j ∧ OI wx w1.heap.size 0 len len (stP es len k (mxs es k j)) ∧ OI wx g off' (srcI es k).length c (srcI es k) ∧ Below w1.heap.size w1 wx) (fun i _ => (srcI es k).length - (intOf i).toNat)
        case atStart => exact ⟨0, Nat.zero_le _, rfl, HO2.out, H2.out, HB2.out⟩
        case round =>
          obtain ⟨j, hj, rfl, hown, hsrc, hbel⟩ := hrel
          have KO : Hid (OI wr w1.heap.size 0 len len (stP es len k (mxs es k j))) := hown
          have KS : Hid (OI wr g off' (srcI es k).length c (srcI es k)) := hsrc
          have KB : Hid (Below w1.heap.size w1 wr) := hbel
          clear hown hsrc hbel
          by_cases hjl : j < (srcI es k).length
          · have hjs : j < (src es k).length := by rw [← srcI_len]; exact hjl
            have x1 := KS.out.cellAt hjl
            rw [srcI_el hjs] at x1
            have hsk : (src es k)[j] < k := src_lt (List.getElem_mem hjs)
            have x2 := KO.out.cellAt (i := (src es k)[j]) (by omega)
            rw [stP_el hsk hk] at x2
            have x3 := KO.out.cellAt (i := k) hlt
            rw [stP_at hlt] at x3
            have x4 := KO.out.free k (by omega)
            have HM : Hid (mxs es k (j + 1) = max (mxs es k j) (st es (src es k)[j])) := mxs_succ hjs
            simp only [Nat.zero_add] at x2 x3 x4
            generalize hs : (src es k)[j] = s at *
            have hs1 : (s : Int) < (len : Int) := by omega
            have hs0 : (0 : Int) ≤ (s : Int) := by omega
            have hj1 : (j : Int) < ((srcI es k).length : Int) := by omega
            clear hs
            go_wp2_with fail
            go_region
            have R1 : Hid (OI (wr.setCell ⟨w1.heap.size, k, none⟩ (.int .i64 (max (mxs es k j) (st es s)))) w1.heap.size 0 len len (stP es len k (mxs es k (j + 1)))) := by
              rw [Hid, HM.out, ← stP_set es len k (mxs es k j)]; exact KO.out.set0 hlt _
            have R2 : Hid (OI (wr.setCell ⟨w1.heap.size, k, none⟩ (.int .i64 (max (mxs es k j) (st es s)))) g off' (srcI es k).length c (srcI es k)) := KS.out.setFar (by omega)
            have R3 : Hid (Below w1.heap.size w1 (wr.setCell ⟨w1.heap.size, k, none⟩ (.int .i64 (max (mxs es k j) (st es s))))) := KB.out.setCell (Nat.le_refl _) _
            clear x1 x2 x3 x4
            go_wp2
            go_roundw
            case rel => exact ⟨j + 1, by omega, by go_num, R1.out.drewN 1, R2.out.drewN 1, belowN (n := 1) R3.out⟩
            case measure => simp [intOf]; omega
          · have HM : Hid (mxs es k j + 1 = st es k) := mxs_done (by rw [← srcI_len]; omega)
            have hb1 := mxs_bound es k j
            have x3 := KO.out.cellAt (i := k) hlt
            rw [stP_at hlt] at x3
            have x4 := KO.out.free k (by omega)
            simp only [Nat.zero_add] at x3 x4
            have hbd : mxs es k j + 1 ≤ 9223372036854775807 := by omega
            have hbd0 : -9223372036854775808 ≤ mxs es k j + 1 := by omega
            have R1 : Hid (OI (wr.setCell ⟨w1.heap.size, k, none⟩ (.int .i64 (mxs es k j + 1))) w1.heap.size 0 len len (stP es len (k + 1) 0)) := by
              rw [Hid, ← stP_next, ← HM.out, ← stP_set es len k (mxs es k j)]; exact KO.out.set0 hlt _
            have R3 : Hid (Below w1.heap.size w1 (wr.setCell ⟨w1.heap.size, k, none⟩ (.int .i64 (mxs es k j + 1)))) := KB.out.setCell (Nat.le_refl _) _
            go_wp2
            go_roundw
            case rel => exact ⟨k + 1, by omega, by go_num, R1.out, R3.out⟩
            case measure => simp [intOf]; omega
      · have hkl : k = len := by omega
        subst hkl
        go_wp2
        go_ret
        rw [HZ.out]
        refine ⟨w1.heap.size, 0, k, by rw [stL_len]; rfl, HG.out.1.size, ?_, HG.out.1.trans (HB.out.mono HG.out.1.size)⟩
        rw [stL_len, ← stP_done]; exact HO.out
end Go.Proofs.Ytacogcfdolmfpaa
