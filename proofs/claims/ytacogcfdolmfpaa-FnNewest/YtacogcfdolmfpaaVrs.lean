/-
  Slices of slices of numbers, each row in memory of its own; the contract of the program's Clocks.
-/
import Derived.Test.YtacogcfdolmfpaaFkm
namespace Go.Proofs.Ytacogcfdolmfpaa
set_option linter.unusedSimpArgs false
set_option linter.unusedVariables false
open Go.RowKit Go.Sort

theorem infoSl : (Try.prog.info? 24).map (fun i => (i.zero, i.size, i.bytes)) = some (some (.slice none 0 0), 1, 24) := by kernel_rfl
/-- The value of a row: where it lies, its numbers. -/
def rowV (r : Nat × Nat × Nat) (z : List Int) : Value := .slice (some ⟨r.1, r.2.1, none⟩) z.length r.2.2
/-- The cell of row i where the first k are laid. -/
def rowAt (k : Nat) (r : Nat → Nat × Nat × Nat) (Z : Nat → List Int) (i : Nat) : Value := if i < k then rowV (r i) (Z i) else .slice none 0 0
/-- A slice of n rows, of which the first k are laid, each in a block of its own from Bs on. -/
structure VR (w : World) (Bs g off n cap k : Nat) (r : Nat → Nat × Nat × Nat) (Z : Nat → List Int) : Prop where
  outer : OSl w 1 g off n cap ((List.range n).map (rowAt k r Z))
  row : ∀ i, i < k → OI w (r i).1 (r i).2.1 (Z i).length (r i).2.2 (Z i)
  apart : ∀ i j, i < j → j < k → (r i).1 ≠ (r j).1
  far : ∀ i, i < k → (r i).1 ≠ g
  news : ∀ i, i < k → Bs ≤ (r i).1
theorem VR.of_blocks {w w' : World} {Bs g off n cap k : Nat} {r : Nat → Nat × Nat × Nat} {Z : Nat → List Int} (h : VR w Bs g off n cap k r Z) (hs : w.heap.size ≤ w'.heap.size)
    (e : ∀ b, (b = g ∨ ∃ i, i < k ∧ (r i).1 = b) → b < w.heap.size → w'.heap[b]? = w.heap[b]?) : VR w' Bs g off n cap k r Z :=
  ⟨h.outer.of_block (e g (.inl rfl) h.outer.blk) (Nat.lt_of_lt_of_le h.outer.blk hs), fun i hi => OSl.of_block (h.row i hi) (e _ (.inr ⟨i, hi, rfl⟩) (h.row i hi).blk) (Nat.lt_of_lt_of_le (h.row i hi).blk hs), h.apart, h.far, h.news⟩
theorem VR.below {w w' : World} {Bs g off n cap k : Nat} {r : Nat → Nat × Nat × Nat} {Z : Nat → List Int} (h : VR w Bs g off n cap k r Z) (hb : Below w.heap.size w w') : VR w' Bs g off n cap k r Z :=
  h.of_blocks hb.size (fun b _ hb' => hb.block b hb')
theorem VR.drewN {w : World} {Bs g off n cap k : Nat} {r : Nat → Nat × Nat × Nat} {Z : Nat → List Int} (h : VR w Bs g off n cap k r Z) (q : Nat) : VR (w.drewN q) Bs g off n cap k r Z := h.below (belowN (Below.refl _ _))
theorem VR.grown {w w' : World} {Bs g off n cap k M : Nat} {r : Nat → Nat × Nat × Nat} {Z : Nat → List Int} (h : VR w Bs g off n cap k r Z) (hg : w.grownBy w' (some M)) (h1 : M ≠ g) (h2 : M < Bs) : VR w' Bs g off n cap k r Z :=
  h.of_blocks hg.size (fun b hb hlt => hg.block b hlt (by
    rcases hb with rfl | ⟨i, hi, rfl⟩
    · simp; omega
    · have := h.news i hi; simp; omega))
theorem VR.cell {w : World} {Bs g off n cap k : Nat} {r : Nat → Nat × Nat × Nat} {Z : Nat → List Int} (h : VR w Bs g off n cap k r Z) {i : Nat} (hi : i < k) (hn : i < n) : w.cell? ⟨g, off + i, none⟩ = some (rowV (r i) (Z i)) := by
  rw [h.outer.cell i (by omega)]
  simp [hn, rowAt, hi]
theorem VR.mono {w : World} {Bs Bs' g off n cap k : Nat} {r : Nat → Nat × Nat × Nat} {Z : Nat → List Int} (h : VR w Bs g off n cap k r Z) (hB : Bs' ≤ Bs) : VR w Bs' g off n cap k r Z :=
  ⟨h.outer, h.row, h.apart, h.far, fun i hi => Nat.le_trans hB (h.news i hi)⟩
/-- The next row is laid. -/
theorem VR.put {w w' : World} {Bs g off n cap k G o c : Nat} {r : Nat → Nat × Nat × Nat} {Z : Nat → List Int} (h : VR w Bs g off n cap k r Z) (hb : Below w.heap.size w w') (hk : k < n) (hG : w.heap.size ≤ G) (hB : Bs ≤ G) (ho : OI w' G o (Z k).length c (Z k)) :
    VR (w'.setCell ⟨g, off + k, none⟩ (rowV (G, o, c) (Z k))) Bs g off n cap (k + 1) (fun i => if i = k then (G, o, c) else r i) Z := by
  have h' := h.below hb
  have hgG : g ≠ G := by have := h.outer.blk; omega
  have hri : ∀ i, i < k → (r i).1 ≠ G := fun i hi => by have := (h.row i hi).blk; omega
  refine ⟨?_, ?_, ?_, ?_, ?_⟩
  · have hs : (w'.setCell ⟨g, off + k, none⟩ (rowV (G, o, c) (Z k))).heap.size = w'.heap.size := by simp [World.setCell]
    refine ⟨h'.outer.len |>.trans rfl |> fun _ => by simp, h'.outer.le, h'.outer.max, by rw [hs]; exact h'.outer.blk, fun i hi => ?_, fun i hi => ?_, fun i hi => by rw [World.frozen?_setCell]; exact h'.outer.free i hi⟩
    · by_cases e : i = k
      · subst e
        rw [World.cell?_setCell_same _ _ _ ((h'.outer.cell i hi).trans (by simp [show i < n by omega]; rfl))]
        simp [show i < n by omega, rowAt]
      · rw [World.cell?_setCell_other _ _ _ _ (by intro h; have := congrArg Addr.off h; simp only at this; omega), h'.outer.cell i hi]
        simp only [List.getElem?_map, List.getElem?_range (show i < n by omega), Option.map_some, rowAt, if_neg e]
        by_cases hlt : i < k
        · rw [if_pos hlt, if_pos (by omega)]
        · rw [if_neg hlt, if_neg (by omega)]
    · by_cases e : i = k
      · subst e
        rw [World.cell?_setCell_same _ _ _ ((h'.outer.cell i (by omega)).trans (by simp [show i < n by omega]; rfl))]
        rfl
      · rw [World.cell?_setCell_other _ _ _ _ (by intro h; have := congrArg Addr.off h; simp only at this; omega)]
        exact h'.outer.some i hi
  · intro i hi
    by_cases e : i = k
    · subst e
      rw [if_pos rfl]
      exact ho.setFar (Ne.symm hgG)
    · rw [if_neg e]
      exact (h'.row i (by omega)).setFar (h'.far i (by omega))
  · intro i j hij hj
    by_cases e : j = k
    · subst e
      rw [if_neg (by omega), if_pos rfl]
      exact hri i (by omega)
    · rw [if_neg (by omega), if_neg e]
      exact h.apart i j hij (by omega)
  · intro i hi
    by_cases e : i = k
    · rw [if_pos e]; exact Ne.symm hgG
    · rw [if_neg e]; exact h.far i (by omega)
  · intro i hi
    by_cases e : i = k
    · rw [if_pos e]; exact hB
    · rw [if_neg e]; exact h.news i (by omega)
/-- make([][]int64, n): no row is laid. -/
theorem vr_made (w : World) (n Bs : Nat) (hn : n ≤ maxLen) (r : Nat → Nat × Nat × Nat) (Z : Nat → List Int) : VR (w.alloc (.cells (madeCells #[.slice none 0 0] n) 24)) Bs w.heap.size 0 n n 0 r Z := by
  obtain ⟨c, hb, hs, hc⟩ := World.rowIs_made w (.slice none 0 0) n 24
  refine ⟨⟨by simp, Nat.le_refl _, hn, by simp, fun i hi => ?_, fun i hi => ?_, fun i hi => ?_⟩, fun i hi => by omega, fun i j _ hj => by omega, fun i hi => by omega, fun i hi => by omega⟩
  · simp only [World.cell?, hb, Nat.zero_add]
    have : i < n := by omega
    simp [hc i this, this, rowAt]
  · simp only [World.cell?, hb, Nat.zero_add]
    have : i < n := by omega
    simp [hc i this]
  · unfold World.frozen?
    rw [hb]
    simp
/-- An answer that is a slice of n rows, in memory of its own. -/
def AnsV (w w' : World) (e : Ending) (n : Nat) (Z : Nat → List Int) : Prop := ∃ g off cap r, e = .returned (.slice (some ⟨g, off, none⟩) n cap) ∧ w.heap.size ≤ g ∧ VR w' w.heap.size g off n cap n r Z ∧ Below w.heap.size w w'
/-- How many clocks a list has. -/
def ckN (es : List Ev) (len : Nat) : Nat := if okT es len = true then len else 0
theorem vr_none {w : World} {g T : Nat} (h : w.heap[g]? = some (.cells #[] T (0, 0))) (Bs : Nat) (r : Nat → Nat × Nat × Nat) (Z : Nat → List Int) : VR w Bs g 0 0 0 0 r Z :=
  ⟨⟨rfl, Nat.le_refl _, by unfold maxLen; omega, (Array.getElem?_eq_some_iff.1 h).1, fun i hi => by omega, fun i hi => by omega, fun i hi => by omega⟩, fun i hi => by omega, fun i j _ hj => by omega, fun i hi => by omega, fun i hi => by omega⟩

set_option maxRecDepth 100000 in
set_option maxHeartbeats 1600000 in
theorem implClocks_any (b off len cap : Nat) (es : List Ev) (w : World) (hc : EvsAt w b off len es) (hm : len ≤ maxLen) (hcap : len ≤ cap) :
    Calls Try.prog 42 #[.slice (some ⟨b, off, none⟩) len cap] w fun e w' => AnsV w w' e (ckN es len) (cl es) := by
  have hT := implTok_any b off len cap es w hc hm hcap
  cases ho : okT es len
  · rw [ho] at hT
    have HZ : Hid (ckN es len = 0) := by rw [Hid, ckN, ho]; rfl
    go_enter Try.func42, Try.ntmps42
    go_wp2_with fail
    refine hT.mono ?_
    rintro e w1 ⟨rfl, hg1⟩
    have HG : Hid (Grew w w1) := hg1
    clear hg1
    go_wp2
    go_ret
    rw [HZ.out]
    exact ⟨w1.heap.size, 0, 0, fun _ => (0, 0, 0), rfl, HG.out.1.size, vr_none (heap_alloc_new w1 _) _ _ _, (HG.out.alloc _).1⟩
  · rw [ho] at hT
    have HZ : Hid (ckN es len = len) := by rw [Hid, ckN, ho]; rfl
    have HOK : Hid (okT es len = true) := ho
    obtain ⟨h40, hall⟩ := okT_all ho
    have hmk := run_make_row' (P := Try.prog) 42 24 (.slice none 0 0) 24 Try.underlying42 infoSl rfl .i64 .i64 len (by omega) (by omega)
    have hmm := @run_makeMap Try.prog
    clear hall ho
    go_enter Try.func42, Try.ntmps42
    go_wp2_with fail
    refine hT.mono ?_
    rintro e w1 ⟨rfl, hg1⟩
    have HG : Hid (Grew w w1) := hg1
    have HC1 : Hid (EvsAt w1 b off len es) := hc.grew hg1
    have HM : Hid (VR (w1.alloc (.cells (madeCells #[.slice none 0 0] len) 24)) (w1.heap.size + 2) w1.heap.size 0 len len 0 (fun _ => (0, 0, 0)) (cl es)) := vr_made w1 len _ hm _ _
    clear hg1 hc hT
    have HK0 : Hid (KM ((w1.alloc (.cells (madeCells #[.slice none 0 0] len) 24)).alloc (.map #[] 0)) (w1.heap.size + 1) (2 * 0) (Fk es 0)) := by
      have h := km_made (w1.alloc (.cells (madeCells #[.slice none 0 0] len) 24))
      have e : (w1.alloc (.cells (madeCells #[.slice none 0 0] len) 24)).heap.size = w1.heap.size + 1 := by simp
      rw [e] at h
      exact h.like (Nat.le_refl _) (fun a b => by rw [fk_zero]; trivial)
    go_wp2
    go_loopw [17] (fun i wr => ∃ k : Nat, k ≤ len ∧ i = .int .i64 k ∧ (∃ r, VR wr (w1.heap.size + 2) w1.heap.size 0 len len k r (cl es)) ∧ KM wr (w1.heap.size + 1) (2 * k) (Fk es k) ∧ Below w1.heap.size w1 wr) (fun i _ => len - (intOf i).toNat)
    case atStart => exact ⟨0, Nat.zero_le _, rfl, ⟨_, HM.out.below ((Below.refl _ _).alloc (Nat.le_refl _) _)⟩, HK0.out, ((Below.refl _ _).alloc (Nat.le_refl _) _).alloc (by simp) _⟩
    case round =>
      obtain ⟨k, hk, rfl, ⟨r, hrow⟩, hkm, hbel⟩ := hrel
      have HV : Hid (VR wr (w1.heap.size + 2) w1.heap.size 0 len len k r (cl es)) := hrow
      have HK : Hid (KM wr (w1.heap.size + 1) (2 * k) (Fk es k)) := hkm
      have HB : Hid (Below w1.heap.size w1 wr) := hbel
      clear hrow hkm hbel
      by_cases hlt : k < len
      · have HE : Hid (EvsAt wr b off len es) := evs_below HC1.out HB.out (Nat.le_refl _)
        obtain ⟨c0, c1, c2⟩ := HE.out k hlt
        have hkl : (k : Int) < (len : Int) := by omega
        have hk0 : (0 : Int) ≤ (k : Int) := by omega
        go_wp2_with fail
        refine (ticked_at es k len (w1.heap.size + 1) (2 * k) _ HOK.out hlt (HK.out.below ((Below.refl _ _).alloc (Nat.le_refl _) _)) (by omega)).mono ?_
        rintro e w2 ⟨rfl, hK2, hg2⟩
        have V2 := (HV.out.below ((Below.refl _ _).alloc (Nat.le_refl _) (.cells #[.int .i64 (evAt es k).n, .int .i64 (evAt es k).k, .int .i64 (evAt es k).m] 48))).grown hg2 (by omega) (by omega)
        have B2 : Below w1.heap.size w1 w2 := (HB.out.alloc HB.out.size (.cells #[.int .i64 (evAt es k).n, .int .i64 (evAt es k).k, .int .i64 (evAt es k).m] 48)).grown hg2 (by have := HB.out.size; simp; omega) (by intro i hi; cases hi; omega)
        have hTold := told_any (el (cl es k)) w2
        rw [ckI_of (cl_len es k)] at hTold
        clear c0 c1 c2 hg2
        go_wp2_with fail
        refine hTold.mono ?_
        rintro e w3 ⟨G, o, c, rfl, hG, hO, hB3⟩
        have V3 := V2.below hB3
        have x4 := V3.outer.free k (by omega)
        have x5 := V3.outer.cell k (by omega)
        simp only [Nat.zero_add, List.getElem?_map, List.getElem?_range hlt, Option.map_some, rowAt, Nat.lt_irrefl, if_false] at x4 x5
        have HV4 : Hid (VR (w3.setCell ⟨w1.heap.size, k, none⟩ (.slice (some ⟨G, o, none⟩) (cl es k).length c)) (w1.heap.size + 2) w1.heap.size 0 len len (k + 1) (fun i => if i = k then (G, o, c) else r i) (cl es)) := by
          have := V2.put hB3 hlt hG (by have := hK2.lt; omega) hO
          rw [Nat.zero_add] at this
          exact this
        have HK4 : Hid (KM (w3.setCell ⟨w1.heap.size, k, none⟩ (.slice (some ⟨G, o, none⟩) (cl es k).length c)) (w1.heap.size + 1) (2 * k + 2) (Fk es (k + 1))) := (hK2.below hB3).kept (grown_setCell _ _ _ _) (by simp)
        have HB4 : Hid (Below w1.heap.size w1 (w3.setCell ⟨w1.heap.size, k, none⟩ (.slice (some ⟨G, o, none⟩) (cl es k).length c))) := (B2.trans (hB3.mono B2.size)).setCell (Nat.le_refl _) _
        clear hTold hG hO hB3 V2 V3 B2 hK2
        go_wp2
        go_roundw
        case rel => exact ⟨k + 1, by omega, by go_num, ⟨_, HV4.out⟩, HK4.out, HB4.out⟩
        case measure => simp [intOf]; omega
      · have hkl : k = len := by omega
        subst hkl
        go_wp2
        go_ret
        rw [HZ.out]
        exact ⟨w1.heap.size, 0, k, r, rfl, HG.out.1.size, HV.out.mono (by have := HG.out.1.size; omega), HG.out.1.trans (HB.out.mono HG.out.1.size)⟩
end Go.Proofs.Ytacogcfdolmfpaa
