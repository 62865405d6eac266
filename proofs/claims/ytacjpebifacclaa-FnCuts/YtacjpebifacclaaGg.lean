/-
  Several texts in one: Kcs Nws Vvs LawCl.
-/
import Derived.Test.YtacjpebifacclaaGf
import Derived.Test.YtacjpebifacclaaGe
/-
  The contract of the specification's l3Clocks.
-/
namespace Go.Proofs.Ytacjpebifacclaa
set_option linter.unusedSimpArgs false
set_option linter.unusedVariables false
open Go.RowKit Go.Sort

theorem jn_self0 {ys : List Int} (hl : ys.length = 8) (h : ∀ j, j < 8 → 0 ≤ el ys j) : jn max zer8 ys 8 = ys := by
  refine eq_of_all (by rw [jn_length, hl]) (fun j hj => ?_)
  rw [jn_length] at hj
  rw [jn_el _ _ _ hj, el_zer8]
  have := h j hj
  omega
theorem jn_self1 {ys : List Int} (hl : ys.length = 8) (h : ∀ j, j < 8 → 0 ≤ el ys j) : jn max ys zer8 8 = ys := by
  refine eq_of_all (by rw [jn_length, hl]) (fun j hj => ?_)
  rw [jn_length] at hj
  rw [jn_el _ _ _ hj, el_zer8]
  have := h j hj
  omega
theorem ok8 {xs : List Int} (hl : xs.length = 8) (h : ∀ j, j < 8 → 0 ≤ el xs j ∧ el xs j ≤ 1000000) : okB xs = true := by
  refine okB_true_of (by omega) (by omega) (fun j hj => ?_)
  have := h j (by omega)
  simp [inB]
  omega
theorem fits8 {xs : List Int} (hl : xs.length = 8) (h : ∀ j, j < 8 → 0 ≤ el xs j ∧ el xs j ≤ 1000000) : Fits xs := by
  intro x hx
  obtain ⟨i, hi, rfl⟩ := List.getElem_of_mem hx
  have := h i (by omega)
  rw [el_eq hi] at this
  omega
theorem specJoin8 (a a' : Option Addr) (cap cap' : Nat) (xs ys : List Int) (w : World) (hx : Vec w a 8 xs) (hy : Vec w a' 8 ys) (bx : ∀ j, j < 8 → 0 ≤ el xs j ∧ el xs j ≤ 1000000) (by_ : ∀ j, j < 8 → 0 ≤ el ys j ∧ el ys j ≤ 1000000) :
    Calls Try.prog 20 #[.slice a 8 cap, .slice a' 8 cap'] w fun e w' => ∃ g c, e = .returned (.slice (some ⟨g, 0, none⟩) 8 c) ∧ w.heap.size ≤ g ∧ OI w' g 0 8 c (jn max xs ys 8) ∧ Below w.heap.size w w' := by
  have h1 := hx.1
  have h2 := hy.1
  have hp : pairB max xs ys = jn max xs ys 8 := by
    unfold pairB twoB
    rw [ok8 h1 bx, ok8 h2 by_, h1, h2]
    rfl
  refine (specJoin_any a a' 8 cap 8 cap' xs ys w hx hy (by unfold maxLen; omega) (by unfold maxLen; omega)).mono ?_
  rintro e w' ⟨g, c, rfl, hg, ho, hb⟩
  rw [hp] at ho ⊢
  have := OI.own ho
  rw [jn_length] at this ⊢
  exact ⟨g, c, rfl, hg, this, hb⟩
theorem cl_b6 (es : List Ev) {i k len : Nat} (hi : i < k) (hk : k < len) (h40 : len ≤ 40) : ∀ j, j < 8 → 0 ≤ el (cl es i) j ∧ el (cl es i) j ≤ 1000000 := fun j hj => by have := cl_bound es i j hj; omega
theorem VR.cell8 {w : World} {Bs g off n cap k : Nat} {r : Nat → Nat × Nat × Nat} {es : List Ev} (h : VR w Bs g off n cap k r (cl es)) {i : Nat} (hi : i < k) (hn : i < n) : w.cell? ⟨g, off + i, none⟩ = some (.slice (some ⟨(r i).1, (r i).2.1, none⟩) 8 (r i).2.2) := by
  rw [h.cell hi hn, rowV, cl_len]
theorem VR.vec8 {w : World} {Bs g off n cap k len : Nat} {r : Nat → Nat × Nat × Nat} {es : List Ev} (h : VR w Bs g off n cap k r (cl es)) {i : Nat} (hi : i < k) (hk : k < len) (h40 : len ≤ 40) : Vec w (some ⟨(r i).1, (r i).2.1, none⟩) 8 (cl es i) := by
  have := (h.row i hi).vec (fits8 (cl_len es i) (cl_b6 es hi hk h40))
  rwa [cl_len] at this
/-- One more row, appended. -/
theorem VR.push {w X w2 : World} {Bs g off cap k G o c g2 off2 cap2 : Nat} {r : Nat → Nat × Nat × Nat} {Z : Nat → List Int} (h : VR w Bs g off k cap k r Z) (hb : Below w.heap.size w X) (hG : w.heap.size ≤ G) (hB : Bs ≤ G) (ho : OI X G o (Z k).length c (Z k))
    (ho2 : OSl w2 1 g2 off2 (k + 1) cap2 ((List.range k).map (rowAt k r Z) ++ [rowV (G, o, c) (Z k)])) (hg2 : X.grownBy w2 (some g)) (hat : g2 = g ∨ g2 = X.heap.size) :
    VR w2 Bs g2 off2 (k + 1) cap2 (k + 1) (fun i => if i = k then (G, o, c) else r i) Z := by
  have h' := h.below hb
  have hgl := h.outer.blk
  have hGl := ho.blk
  have hs := hb.size
  have hri : ∀ i, i < k → (r i).1 < w.heap.size := fun i hi => (h.row i hi).blk
  have hne : ∀ i, i < k → (r i).1 ≠ g2 := fun i hi => by
    have := hri i hi
    rcases hat with e | e
    · rw [e]; exact h.far i hi
    · omega
  have hGg : G ≠ g2 := by rcases hat with e | e <;> omega
  refine ⟨?_, ?_, ?_, ?_, ?_⟩
  · have e : (List.range (k + 1)).map (rowAt (k + 1) (fun i => if i = k then (G, o, c) else r i) Z) = (List.range k).map (rowAt k r Z) ++ [rowV (G, o, c) (Z k)] := by
      rw [List.range_succ, List.map_append]
      congr 1
      · refine List.map_congr_left (fun i hi => ?_)
        have := List.mem_range.1 hi
        unfold rowAt
        rw [if_pos (by omega), if_pos this]
        simp only [show i ≠ k by omega, if_false]
      · simp [rowAt]
    rw [e]; exact ho2
  · intro i hi
    by_cases e : i = k
    · subst e
      rw [if_pos rfl]
      exact OSl.grown ho hg2 (by simp; omega)
    · rw [if_neg e]
      exact OSl.grown (h'.row i (by omega)) hg2 (by have := h.far i (by omega); simp; omega)
  · intro i j hij hj
    by_cases e : j = k
    · subst e
      rw [if_neg (by omega), if_pos rfl]
      have := hri i (by omega)
      show (r i).1 ≠ G
      omega
    · rw [if_neg (by omega), if_neg e]
      exact h.apart i j hij (by omega)
  · intro i hi
    by_cases e : i = k
    · rw [if_pos e]; exact hGg
    · rw [if_neg e]; exact hne i (by omega)
  · intro i hi
    by_cases e : i = k
    · rw [if_pos e]; exact hB
    · rw [if_neg e]; exact h.news i (by omega)
/-- How far the list of clocks has come. -/
def BuiltV (w wr : World) (v : Value) (k : Nat) (es : List Ev) : Prop := ∃ g off c r, v = .slice (some ⟨g, off, none⟩) k c ∧ w.heap.size ≤ g ∧ VR wr w.heap.size g off k c k r (cl es) ∧ Below w.heap.size w wr

set_option maxRecDepth 100000 in
set_option maxHeartbeats 3200000 in
theorem l3Clocks_any (b off len cap : Nat) (es : List Ev) (w : World) (hc : EvsAt w b off len es) (hok : okT es len = true) :
    Calls Try.prog 105 #[.slice (some ⟨b, off, none⟩) len cap] w fun e w' => AnsV w w' e len (cl es) := by
  obtain ⟨i0, hi0, hz0, hz1, hz2⟩ := info_parts infoSl
  obtain ⟨h40, hall⟩ := okT_all hok
  have HALL : Hid (∀ k, k < len → okE es k = true) := hall
  have hlm : len ≤ maxLen := by unfold maxLen; omega
  have hb0 : Below w.heap.size w (w.alloc (.cells #[] 24)) := (Below.refl _ _).alloc (Nat.le_refl _) _
  have hmk := run_make_row' (P := Try.prog) 24 2 (.int .i64 0) 8 Try.underlying24 Try.info2 rfl .i64 .i64 8 (by omega) (by omega)
  have h8 : ((8 : Nat) : Int) = 8 := rfl
  simp only [h8] at hmk
  clear hall hok
  go_enter Try.func105, Try.ntmps105
  go_wp2
  go_loopw [3, 4] (fun v i wr => ∃ k : Nat, k ≤ len ∧ i = .int .i64 k ∧ BuiltV w wr v k es) (fun _ i _ => len - (intOf i).toNat)
  case atStart => exact ⟨0, Nat.zero_le _, rfl, w.heap.size, 0, 0, fun _ => (0, 0, 0), rfl, Nat.le_refl _, vr_none (heap_alloc_new w _) _ _ _, hb0⟩
  case round =>
    obtain ⟨k, hk, rfl, g, off', c, r, rfl, hgB, hvr, hbel⟩ := hrel
    have HV : Hid (VR wr w.heap.size g off' k c k r (cl es)) := hvr
    have HB : Hid (Below w.heap.size w wr) := hbel
    by_cases hlt : k < len
    · have HC : Hid (EvsAt wr b off len es) := fun i hi => by
        obtain ⟨x0, x1, x2⟩ := hc i hi
        exact ⟨(hbel.cell (World.block_lt_of_cell? _ _ x0)).trans x0, (hbel.cell (World.block_lt_of_cell? _ _ x1)).trans x1, (hbel.cell (World.block_lt_of_cell? _ _ x2)).trans x2⟩
      have hr := okE_rng (HALL.out k hlt)
      obtain ⟨p, hp⟩ : ∃ p : Nat, (evAt es k).n = (p : Int) := ⟨(evAt es k).n.toNat, by omega⟩
      have hp8 : (p : Int) < 8 := by omega
      have hp0 : (0 : Int) ≤ (p : Int) := by omega
      have HP : Hid (p < 8) := by rw [Hid]; omega
      have HPN : Hid ((evAt es k).n = (p : Int)) := hp
      have bA : Below wr.heap.size wr (wr.alloc (.cells (madeCells #[.int .i64 0] 8) 2)) := (Below.refl _ _).alloc (Nat.le_refl _) _
      have HBA : Hid (Below wr.heap.size wr (wr.alloc (.cells (madeCells #[.int .i64 0] 8) 2))) := bA
      have HCA : Hid (EvsAt (wr.alloc (.cells (madeCells #[.int .i64 0] 8) 2)) b off len es) := evs_below HC.out bA (Nat.le_refl _)
      have HOA : Hid (OI (wr.alloc (.cells (madeCells #[.int .i64 0] 8) 2)) wr.heap.size 0 8 8 zer8) := oi_made wr 8 (by unfold maxLen; omega)
      have hL := l2Last_any b off len cap k es (wr.alloc (.cells (madeCells #[.int .i64 0] 8) 2)) HCA.out hlm hlt
      have hk40 : k < 40 := by omega
      have hcl := cl_eq es k

      have bz : ∀ j, j < 8 → 0 ≤ el zer8 j ∧ el zer8 j ≤ 1000000 := fun j _ => by rw [el_zer8]; omega
      have HBZ : Hid (∀ j, j < 8 → 0 ≤ el zer8 j ∧ el zer8 j ≤ 1000000) := bz
      have HFZ : Hid (Fits zer8) := fits8 zer8_len bz
      clear hvr hbel bA bz hr hp
      cases hl : lastB es (evAt es k).n k with
      | none =>
        by_cases hk3 : (evAt es k).k = 3
        · rw [hl] at hL
          simp only [ixI] at hL
          obtain ⟨s, hs⟩ := Option.ne_none_iff_exists'.1 (okE_first (HALL.out k hlt) hk3)
          have hsl := (firstS_some hs).1
          have hS := fun (X : World) (hX : EvsAt X b off len es) => l2Send_any b off len cap (evAt es k).m es X hX hlm
          rw [firstS_mono hs len (by omega)] at hS
          simp only [ixI] at hS
          have hs1 : (s : Int) < (k : Int) := by omega
          have hs0 : (0 : Int) ≤ (s : Int) := by omega
          have hsn : sndO es k = some s := by unfold sndO; rw [if_pos hk3]; exact hs
          rw [hl, hsn, HPN.out] at hcl
          have HST : Hid (cl es k = tick (cl es s) (p : Int)) := by
            rw [Hid, hcl]
            exact congrArg (fun z => tick z (p : Int)) (jn_self0 (cl_len es s) (fun j hj => (cl_bound es s j hj).1))
          have HZB : Hid (∀ j, j < 8 → 0 ≤ el (cl es s) j ∧ el (cl es s) j ≤ 1000000) := fun j hj => by have := cl_bound es s j hj; omega
          clear hl hs hcl hsn
          go_wp2_with fail
          refine hL.mono ?_
          rintro e w1 ⟨rfl, n1, hw1⟩
          have HB1 : Hid (Below wr.heap.size wr w1) := by rw [Hid, hw1]; exact belowN (n := n1) HBA.out
          have HC1 : Hid (EvsAt w1 b off len es) := by rw [Hid, hw1]; exact HCA.out.drewN n1
          have HO1 : Hid (OI w1 wr.heap.size 0 8 8 zer8) := by rw [Hid, hw1]; exact HOA.out.drewN n1
          clear hw1 hL
          have y1 := (HC1.out k hlt).2.1
          have y2 := (HC1.out k hlt).2.2
          rw [hk3] at y1
          go_wp2_with fail
          refine (hS w1 HC1.out).mono ?_
          rintro e w1' ⟨rfl, hw'⟩
          replace hw' := hw'.symm
          subst hw'
          have V3 := HV.out.below HB1.out
          have hcell := V3.cell8 hsl hsl
          have hJ := specJoin8 (some ⟨wr.heap.size, 0, none⟩) (some ⟨(r s).1, (r s).2.1, none⟩) 8 (r s).2.2 (zer8) (cl es s) w1 (HO1.out.vec HFZ.out) (V3.vec8 hsl hlt h40) HBZ.out (cl_b6 es hsl hlt h40)
          rw [jn_self0 (cl_len es s) (fun j hj => (cl_bound es s j hj).1)] at hJ
          clear V3 y1 y2
          go_wp2_with fail
          refine hJ.mono ?_
          rintro e w4 ⟨g4, c4, rfl, hg4, ho4, hb4⟩
          have HB4 : Hid (Below wr.heap.size wr w4) := HB1.out.trans (hb4.mono HB1.out.size)
          have HC4 : Hid (EvsAt w4 b off len es) := evs_below HC1.out hb4 (Nat.le_refl _)
          have HO4 : Hid (OI w4 g4 0 8 c4 (cl es s)) := ho4
          have HG4 : Hid (wr.heap.size ≤ g4) := Nat.le_trans HB1.out.size hg4
          clear hJ hg4 ho4 hb4 hcell
          have HGV : Hid (wr.heap.size ≤ g4) := HG4.out
          go_wp2_with fail
          have x3 := HO4.out.cellAt (i := p) HP.out
          have hle := HO4.out.le
          have x4 := HO4.out.free p (by have := HP.out; omega)
          have y0 := (HC4.out k hlt).1
          rw [HPN.out] at y0
          simp only [Nat.zero_add] at x3 x4
          have hzb := HZB.out p HP.out
          have hbd : el (cl es s) p + 1 ≤ 9223372036854775807 := by omega
          have hbd0 : -9223372036854775808 ≤ el (cl es s) p + 1 := by omega
          go_region
          have R1 : Hid (OI (w4.setCell ⟨g4, p, none⟩ (.int .i64 (el (cl es s) p + 1))) g4 0 8 c4 (cl es k)) := by
            rw [Hid, HST.out]; exact HO4.out.set0 HP.out _
          have R2 : Hid (Below wr.heap.size wr (w4.setCell ⟨g4, p, none⟩ (.int .i64 (el (cl es s) p + 1)))) := HB4.out.setCell HGV.out _
          clear hle x3 x4 y0 hzb hbd hbd0
          obtain ⟨Y, hY⟩ : ∃ Y, (w4.setCell ⟨g4, p, none⟩ (.int .i64 (el (cl es s) p + 1))).drew = Y := ⟨_, rfl⟩
          have R3 : Hid (OI Y g4 0 8 c4 (cl es k)) := by rw [Hid, ← hY]; exact R1.out.drewN 1
          have R4 : Hid (Below wr.heap.size wr Y) := by rw [Hid, ← hY]; exact belowN (n := 1) R2.out
          have R5 : Hid (OI (Y.alloc (.cells #[.slice (some ⟨g4, 0, none⟩) 8 c4] 24)) g4 0 8 c4 (cl es k)) := R3.out.below ((Below.refl _ _).alloc (Nat.le_refl _) _) R3.out.blk
          have R6 : Hid (Below wr.heap.size wr (Y.alloc (.cells #[.slice (some ⟨g4, 0, none⟩) 8 c4] 24))) := R4.out.alloc R4.out.size _
          have R7 := (HV.out.below R6.out).outer
          clear R1 R2
          go_wp2_with (at_builtin; refine wpList_append_os _ rfl _ _ _ rfl 24 i0 _ 1 24 Try.underlying44 hi0 hz0 hz1 hz2 rfl (by omega) g off' k c ((List.range k).map (rowAt k r (cl es))) rfl R7 ⟨Y.heap.size, 0, none⟩ 1 1 [.slice (some ⟨g4, 0, none⟩) 8 c4] rfl rfl (World.news_of_block (cs := #[.slice (some ⟨g4, 0, none⟩) 8 c4]) (t := 24) (fr := (0, 0)) (heap_alloc_new Y _)) (by simp [Value.oneCell']) (by unfold maxLen; omega) (by omega) ?_; intro gA fA cA wA hoA hgA hatA)
          have HR : Hid (BuiltV w wA (.slice (some ⟨gA, fA, none⟩) (k + 1) cA) (k + 1) es) := by
            have sB := HB.out.size
            have hlen := cl_len es k
            refine ⟨gA, fA, cA, fun i => if i = k then (g4, 0, c4) else r i, rfl, ?_, HV.out.push (G := g4) (o := 0) (c := c4) R6.out HGV.out (Nat.le_trans sB HGV.out) (by rw [hlen]; exact R5.out) (by rw [rowV, hlen]; exact hoA) hgA hatA, ?_⟩
            · rcases hatA with h | h
              · rw [h]; exact hgB
              · rw [h]; exact Nat.le_trans sB R6.out.size
            · exact below_grown (HB.out.trans (R6.out.mono sB)) hgA hgB (Nat.le_trans sB R6.out.size)
          clear hoA hgA hatA R7 hY
          go_wp2
          go_roundw
          case rel => exact ⟨k + 1, by omega, by go_num, HR.out⟩
          case measure => simp [intOf]; omega
        · rw [hl] at hL
          simp only [ixI] at hL
          have hk3b : ((evAt es k).k == 3) = false := by simpa using hk3
          have hsn : sndO es k = none := by unfold sndO; rw [if_neg hk3]
          rw [hl, hsn, HPN.out] at hcl
          have HST : Hid (cl es k = tick (zer8) (p : Int)) := by
            rw [Hid, hcl]
            exact congrArg (fun z => tick z (p : Int)) (jn_self0 (ys := zer8) zer8_len (fun j hj => by rw [el_zer8]; omega))
          have HZB : Hid (∀ j, j < 8 → 0 ≤ el (zer8) j ∧ el (zer8) j ≤ 1000000) := HBZ.out
          clear hl hk3 hcl hsn
          go_wp2_with fail
          refine hL.mono ?_
          rintro e w1 ⟨rfl, n1, hw1⟩
          have HB1 : Hid (Below wr.heap.size wr w1) := by rw [Hid, hw1]; exact belowN (n := n1) HBA.out
          have HC1 : Hid (EvsAt w1 b off len es) := by rw [Hid, hw1]; exact HCA.out.drewN n1
          have HO1 : Hid (OI w1 wr.heap.size 0 8 8 zer8) := by rw [Hid, hw1]; exact HOA.out.drewN n1
          clear hw1 hL
          have HGV : Hid (wr.heap.size ≤ wr.heap.size) := Nat.le_refl _
          have z1 := (HC1.out k hlt).2.1
          go_wp2_with fail
          clear z1
          have x3 := HO1.out.cellAt (i := p) HP.out
          have hle := HO1.out.le
          have x4 := HO1.out.free p (by have := HP.out; omega)
          have y0 := (HC1.out k hlt).1
          rw [HPN.out] at y0
          simp only [Nat.zero_add] at x3 x4
          have hzb := HZB.out p HP.out
          have hbd : el (zer8) p + 1 ≤ 9223372036854775807 := by omega
          have hbd0 : -9223372036854775808 ≤ el (zer8) p + 1 := by omega
          go_region
          have R1 : Hid (OI (w1.setCell ⟨wr.heap.size, p, none⟩ (.int .i64 (el (zer8) p + 1))) wr.heap.size 0 8 8 (cl es k)) := by
            rw [Hid, HST.out]; exact HO1.out.set0 HP.out _
          have R2 : Hid (Below wr.heap.size wr (w1.setCell ⟨wr.heap.size, p, none⟩ (.int .i64 (el (zer8) p + 1)))) := HB1.out.setCell HGV.out _
          clear hle x3 x4 y0 hzb hbd hbd0
          obtain ⟨Y, hY⟩ : ∃ Y, (w1.setCell ⟨wr.heap.size, p, none⟩ (.int .i64 (el (zer8) p + 1))).drew = Y := ⟨_, rfl⟩
          have R3 : Hid (OI Y wr.heap.size 0 8 8 (cl es k)) := by rw [Hid, ← hY]; exact R1.out.drewN 1
          have R4 : Hid (Below wr.heap.size wr Y) := by rw [Hid, ← hY]; exact belowN (n := 1) R2.out
          have R5 : Hid (OI (Y.alloc (.cells #[.slice (some ⟨wr.heap.size, 0, none⟩) 8 8] 24)) wr.heap.size 0 8 8 (cl es k)) := R3.out.below ((Below.refl _ _).alloc (Nat.le_refl _) _) R3.out.blk
          have R6 : Hid (Below wr.heap.size wr (Y.alloc (.cells #[.slice (some ⟨wr.heap.size, 0, none⟩) 8 8] 24))) := R4.out.alloc R4.out.size _
          have R7 := (HV.out.below R6.out).outer
          clear R1 R2
          go_wp2_with (at_builtin; refine wpList_append_os _ rfl _ _ _ rfl 24 i0 _ 1 24 Try.underlying44 hi0 hz0 hz1 hz2 rfl (by omega) g off' k c ((List.range k).map (rowAt k r (cl es))) rfl R7 ⟨Y.heap.size, 0, none⟩ 1 1 [.slice (some ⟨wr.heap.size, 0, none⟩) 8 8] rfl rfl (World.news_of_block (cs := #[.slice (some ⟨wr.heap.size, 0, none⟩) 8 8]) (t := 24) (fr := (0, 0)) (heap_alloc_new Y _)) (by simp [Value.oneCell']) (by unfold maxLen; omega) (by omega) ?_; intro gA fA cA wA hoA hgA hatA)
          have HR : Hid (BuiltV w wA (.slice (some ⟨gA, fA, none⟩) (k + 1) cA) (k + 1) es) := by
            have sB := HB.out.size
            have hlen := cl_len es k
            refine ⟨gA, fA, cA, fun i => if i = k then (wr.heap.size, 0, 8) else r i, rfl, ?_, HV.out.push (G := wr.heap.size) (o := 0) (c := 8) R6.out HGV.out (Nat.le_trans sB HGV.out) (by rw [hlen]; exact R5.out) (by rw [rowV, hlen]; exact hoA) hgA hatA, ?_⟩
            · rcases hatA with h | h
              · rw [h]; exact hgB
              · rw [h]; exact Nat.le_trans sB R6.out.size
            · exact below_grown (HB.out.trans (R6.out.mono sB)) hgA hgB (Nat.le_trans sB R6.out.size)
          clear hoA hgA hatA R7 hY
          go_wp2
          go_roundw
          case rel => exact ⟨k + 1, by omega, by go_num, HR.out⟩
          case measure => simp [intOf]; omega
      | some l =>
        by_cases hk3 : (evAt es k).k = 3
        · have hll := (lastB_some hl).1
          rw [hl] at hL
          simp only [ixI] at hL
          have hl0 : (0 : Int) ≤ (l : Int) := by omega
          have hl1 : (l : Int) < (k : Int) := by omega
          obtain ⟨s, hs⟩ := Option.ne_none_iff_exists'.1 (okE_first (HALL.out k hlt) hk3)
          have hsl := (firstS_some hs).1
          have hS := fun (X : World) (hX : EvsAt X b off len es) => l2Send_any b off len cap (evAt es k).m es X hX hlm
          rw [firstS_mono hs len (by omega)] at hS
          simp only [ixI] at hS
          have hs1 : (s : Int) < (k : Int) := by omega
          have hs0 : (0 : Int) ≤ (s : Int) := by omega
          have hsn : sndO es k = some s := by unfold sndO; rw [if_pos hk3]; exact hs
          rw [hl, hsn, HPN.out] at hcl
          have HST : Hid (cl es k = tick (jn max (cl es l) (cl es s) 8) (p : Int)) := by
            rw [Hid, hcl]
            exact congrArg (fun z => tick z (p : Int)) (rfl)
          have HZB : Hid (∀ j, j < 8 → 0 ≤ el (jn max (cl es l) (cl es s) 8) j ∧ el (jn max (cl es l) (cl es s) 8) j ≤ 1000000) := fun j hj => by rw [jn_el _ _ _ hj]; have := cl_bound es l j hj; have := cl_bound es s j hj; omega
          clear hl hs hcl hsn
          go_wp2_with fail
          refine hL.mono ?_
          rintro e w1 ⟨rfl, n1, hw1⟩
          have HB1 : Hid (Below wr.heap.size wr w1) := by rw [Hid, hw1]; exact belowN (n := n1) HBA.out
          have HC1 : Hid (EvsAt w1 b off len es) := by rw [Hid, hw1]; exact HCA.out.drewN n1
          have HO1 : Hid (OI w1 wr.heap.size 0 8 8 zer8) := by rw [Hid, hw1]; exact HOA.out.drewN n1
          clear hw1 hL
          have V1 := HV.out.below HB1.out
          have hcell := V1.cell8 hll hll
          have hJ := specJoin8 (some ⟨wr.heap.size, 0, none⟩) (some ⟨(r l).1, (r l).2.1, none⟩) 8 (r l).2.2 zer8 (cl es l) w1 (HO1.out.vec HFZ.out) (V1.vec8 hll hlt h40) HBZ.out (cl_b6 es hll hlt h40)
          rw [jn_self0 (cl_len es l) (fun j hj => (cl_bound es l j hj).1)] at hJ
          clear V1
          go_wp2_with fail
          refine hJ.mono ?_
          rintro e w2 ⟨g2, c2, rfl, hg2, ho2, hb2⟩
          have HB2 : Hid (Below wr.heap.size wr w2) := HB1.out.trans (hb2.mono HB1.out.size)
          have HC2 : Hid (EvsAt w2 b off len es) := evs_below HC1.out hb2 (Nat.le_refl _)
          have HO2 : Hid (OI w2 g2 0 8 c2 (cl es l)) := ho2
          have HG2 : Hid (wr.heap.size ≤ g2) := Nat.le_trans HB1.out.size hg2
          clear hJ hg2 ho2 hb2 hcell
          have y1 := (HC2.out k hlt).2.1
          have y2 := (HC2.out k hlt).2.2
          rw [hk3] at y1
          go_wp2_with fail
          refine (hS w2 HC2.out).mono ?_
          rintro e w1' ⟨rfl, hw'⟩
          replace hw' := hw'.symm
          subst hw'
          have V3 := HV.out.below HB2.out
          have hcell := V3.cell8 hsl hsl
          have hJ := specJoin8 (some ⟨g2, 0, none⟩) (some ⟨(r s).1, (r s).2.1, none⟩) c2 (r s).2.2 (cl es l) (cl es s) w2 (HO2.out.vec (fits8 (cl_len es l) (cl_b6 es hll hlt h40))) (V3.vec8 hsl hlt h40) (cl_b6 es hll hlt h40) (cl_b6 es hsl hlt h40)
          clear V3 y1 y2
          go_wp2_with fail
          refine hJ.mono ?_
          rintro e w4 ⟨g4, c4, rfl, hg4, ho4, hb4⟩
          have HB4 : Hid (Below wr.heap.size wr w4) := HB2.out.trans (hb4.mono HB2.out.size)
          have HC4 : Hid (EvsAt w4 b off len es) := evs_below HC2.out hb4 (Nat.le_refl _)
          have HO4 : Hid (OI w4 g4 0 8 c4 (jn max (cl es l) (cl es s) 8)) := ho4
          have HG4 : Hid (wr.heap.size ≤ g4) := Nat.le_trans HB2.out.size hg4
          clear hJ hg4 ho4 hb4 hcell
          have HGV : Hid (wr.heap.size ≤ g4) := HG4.out
          go_wp2_with fail
          have x3 := HO4.out.cellAt (i := p) HP.out
          have hle := HO4.out.le
          have x4 := HO4.out.free p (by have := HP.out; omega)
          have y0 := (HC4.out k hlt).1
          rw [HPN.out] at y0
          simp only [Nat.zero_add] at x3 x4
          have hzb := HZB.out p HP.out
          have hbd : el (jn max (cl es l) (cl es s) 8) p + 1 ≤ 9223372036854775807 := by omega
          have hbd0 : -9223372036854775808 ≤ el (jn max (cl es l) (cl es s) 8) p + 1 := by omega
          go_region
          have R1 : Hid (OI (w4.setCell ⟨g4, p, none⟩ (.int .i64 (el (jn max (cl es l) (cl es s) 8) p + 1))) g4 0 8 c4 (cl es k)) := by
            rw [Hid, HST.out]; exact HO4.out.set0 HP.out _
          have R2 : Hid (Below wr.heap.size wr (w4.setCell ⟨g4, p, none⟩ (.int .i64 (el (jn max (cl es l) (cl es s) 8) p + 1)))) := HB4.out.setCell HGV.out _
          clear hle x3 x4 y0 hzb hbd hbd0
          obtain ⟨Y, hY⟩ : ∃ Y, (w4.setCell ⟨g4, p, none⟩ (.int .i64 (el (jn max (cl es l) (cl es s) 8) p + 1))).drew = Y := ⟨_, rfl⟩
          have R3 : Hid (OI Y g4 0 8 c4 (cl es k)) := by rw [Hid, ← hY]; exact R1.out.drewN 1
          have R4 : Hid (Below wr.heap.size wr Y) := by rw [Hid, ← hY]; exact belowN (n := 1) R2.out
          have R5 : Hid (OI (Y.alloc (.cells #[.slice (some ⟨g4, 0, none⟩) 8 c4] 24)) g4 0 8 c4 (cl es k)) := R3.out.below ((Below.refl _ _).alloc (Nat.le_refl _) _) R3.out.blk
          have R6 : Hid (Below wr.heap.size wr (Y.alloc (.cells #[.slice (some ⟨g4, 0, none⟩) 8 c4] 24))) := R4.out.alloc R4.out.size _
          have R7 := (HV.out.below R6.out).outer
          clear R1 R2
          go_wp2_with (at_builtin; refine wpList_append_os _ rfl _ _ _ rfl 24 i0 _ 1 24 Try.underlying44 hi0 hz0 hz1 hz2 rfl (by omega) g off' k c ((List.range k).map (rowAt k r (cl es))) rfl R7 ⟨Y.heap.size, 0, none⟩ 1 1 [.slice (some ⟨g4, 0, none⟩) 8 c4] rfl rfl (World.news_of_block (cs := #[.slice (some ⟨g4, 0, none⟩) 8 c4]) (t := 24) (fr := (0, 0)) (heap_alloc_new Y _)) (by simp [Value.oneCell']) (by unfold maxLen; omega) (by omega) ?_; intro gA fA cA wA hoA hgA hatA)
          have HR : Hid (BuiltV w wA (.slice (some ⟨gA, fA, none⟩) (k + 1) cA) (k + 1) es) := by
            have sB := HB.out.size
            have hlen := cl_len es k
            refine ⟨gA, fA, cA, fun i => if i = k then (g4, 0, c4) else r i, rfl, ?_, HV.out.push (G := g4) (o := 0) (c := c4) R6.out HGV.out (Nat.le_trans sB HGV.out) (by rw [hlen]; exact R5.out) (by rw [rowV, hlen]; exact hoA) hgA hatA, ?_⟩
            · rcases hatA with h | h
              · rw [h]; exact hgB
              · rw [h]; exact Nat.le_trans sB R6.out.size
            · exact below_grown (HB.out.trans (R6.out.mono sB)) hgA hgB (Nat.le_trans sB R6.out.size)
          clear hoA hgA hatA R7 hY
          go_wp2
          go_roundw
          case rel => exact ⟨k + 1, by omega, by go_num, HR.out⟩
          case measure => simp [intOf]; omega
        · have hll := (lastB_some hl).1
          rw [hl] at hL
          simp only [ixI] at hL
          have hl0 : (0 : Int) ≤ (l : Int) := by omega
          have hl1 : (l : Int) < (k : Int) := by omega
          have hk3b : ((evAt es k).k == 3) = false := by simpa using hk3
          have hsn : sndO es k = none := by unfold sndO; rw [if_neg hk3]
          rw [hl, hsn, HPN.out] at hcl
          have HST : Hid (cl es k = tick (cl es l) (p : Int)) := by
            rw [Hid, hcl]
            exact congrArg (fun z => tick z (p : Int)) (jn_self1 (cl_len es l) (fun j hj => (cl_bound es l j hj).1))
          have HZB : Hid (∀ j, j < 8 → 0 ≤ el (cl es l) j ∧ el (cl es l) j ≤ 1000000) := fun j hj => by have := cl_bound es l j hj; omega
          clear hl hk3 hcl hsn
          go_wp2_with fail
          refine hL.mono ?_
          rintro e w1 ⟨rfl, n1, hw1⟩
          have HB1 : Hid (Below wr.heap.size wr w1) := by rw [Hid, hw1]; exact belowN (n := n1) HBA.out
          have HC1 : Hid (EvsAt w1 b off len es) := by rw [Hid, hw1]; exact HCA.out.drewN n1
          have HO1 : Hid (OI w1 wr.heap.size 0 8 8 zer8) := by rw [Hid, hw1]; exact HOA.out.drewN n1
          clear hw1 hL
          have V1 := HV.out.below HB1.out
          have hcell := V1.cell8 hll hll
          have hJ := specJoin8 (some ⟨wr.heap.size, 0, none⟩) (some ⟨(r l).1, (r l).2.1, none⟩) 8 (r l).2.2 zer8 (cl es l) w1 (HO1.out.vec HFZ.out) (V1.vec8 hll hlt h40) HBZ.out (cl_b6 es hll hlt h40)
          rw [jn_self0 (cl_len es l) (fun j hj => (cl_bound es l j hj).1)] at hJ
          clear V1
          go_wp2_with fail
          refine hJ.mono ?_
          rintro e w2 ⟨g2, c2, rfl, hg2, ho2, hb2⟩
          have HB2 : Hid (Below wr.heap.size wr w2) := HB1.out.trans (hb2.mono HB1.out.size)
          have HC2 : Hid (EvsAt w2 b off len es) := evs_below HC1.out hb2 (Nat.le_refl _)
          have HO2 : Hid (OI w2 g2 0 8 c2 (cl es l)) := ho2
          have HG2 : Hid (wr.heap.size ≤ g2) := Nat.le_trans HB1.out.size hg2
          clear hJ hg2 ho2 hb2 hcell
          have HGV : Hid (wr.heap.size ≤ g2) := HG2.out
          have z1 := (HC2.out k hlt).2.1
          go_wp2_with fail
          clear z1
          have x3 := HO2.out.cellAt (i := p) HP.out
          have hle := HO2.out.le
          have x4 := HO2.out.free p (by have := HP.out; omega)
          have y0 := (HC2.out k hlt).1
          rw [HPN.out] at y0
          simp only [Nat.zero_add] at x3 x4
          have hzb := HZB.out p HP.out
          have hbd : el (cl es l) p + 1 ≤ 9223372036854775807 := by omega
          have hbd0 : -9223372036854775808 ≤ el (cl es l) p + 1 := by omega
          go_region
          have R1 : Hid (OI (w2.setCell ⟨g2, p, none⟩ (.int .i64 (el (cl es l) p + 1))) g2 0 8 c2 (cl es k)) := by
            rw [Hid, HST.out]; exact HO2.out.set0 HP.out _
          have R2 : Hid (Below wr.heap.size wr (w2.setCell ⟨g2, p, none⟩ (.int .i64 (el (cl es l) p + 1)))) := HB2.out.setCell HGV.out _
          clear hle x3 x4 y0 hzb hbd hbd0
          obtain ⟨Y, hY⟩ : ∃ Y, (w2.setCell ⟨g2, p, none⟩ (.int .i64 (el (cl es l) p + 1))).drew = Y := ⟨_, rfl⟩
          have R3 : Hid (OI Y g2 0 8 c2 (cl es k)) := by rw [Hid, ← hY]; exact R1.out.drewN 1
          have R4 : Hid (Below wr.heap.size wr Y) := by rw [Hid, ← hY]; exact belowN (n := 1) R2.out
          have R5 : Hid (OI (Y.alloc (.cells #[.slice (some ⟨g2, 0, none⟩) 8 c2] 24)) g2 0 8 c2 (cl es k)) := R3.out.below ((Below.refl _ _).alloc (Nat.le_refl _) _) R3.out.blk
          have R6 : Hid (Below wr.heap.size wr (Y.alloc (.cells #[.slice (some ⟨g2, 0, none⟩) 8 c2] 24))) := R4.out.alloc R4.out.size _
          have R7 := (HV.out.below R6.out).outer
          clear R1 R2
          go_wp2_with (at_builtin; refine wpList_append_os _ rfl _ _ _ rfl 24 i0 _ 1 24 Try.underlying44 hi0 hz0 hz1 hz2 rfl (by omega) g off' k c ((List.range k).map (rowAt k r (cl es))) rfl R7 ⟨Y.heap.size, 0, none⟩ 1 1 [.slice (some ⟨g2, 0, none⟩) 8 c2] rfl rfl (World.news_of_block (cs := #[.slice (some ⟨g2, 0, none⟩) 8 c2]) (t := 24) (fr := (0, 0)) (heap_alloc_new Y _)) (by simp [Value.oneCell']) (by unfold maxLen; omega) (by omega) ?_; intro gA fA cA wA hoA hgA hatA)
          have HR : Hid (BuiltV w wA (.slice (some ⟨gA, fA, none⟩) (k + 1) cA) (k + 1) es) := by
            have sB := HB.out.size
            have hlen := cl_len es k
            refine ⟨gA, fA, cA, fun i => if i = k then (g2, 0, c2) else r i, rfl, ?_, HV.out.push (G := g2) (o := 0) (c := c2) R6.out HGV.out (Nat.le_trans sB HGV.out) (by rw [hlen]; exact R5.out) (by rw [rowV, hlen]; exact hoA) hgA hatA, ?_⟩
            · rcases hatA with h | h
              · rw [h]; exact hgB
              · rw [h]; exact Nat.le_trans sB R6.out.size
            · exact below_grown (HB.out.trans (R6.out.mono sB)) hgA hgB (Nat.le_trans sB R6.out.size)
          clear hoA hgA hatA R7 hY
          go_wp2
          go_roundw
          case rel => exact ⟨k + 1, by omega, by go_num, HR.out⟩
          case measure => simp [intOf]; omega
    · have hkl : k = len := by omega
      subst hkl
      clear hvr hbel
      go_wp2
      go_ret
      exact ⟨g, off', c, r, rfl, hgB, HV.out, HB.out⟩
end Go.Proofs.Ytacjpebifacclaa

/-
  The contracts of the specification's Clocks and Newest; the walk of the law FnExactNewest.
-/
namespace Go.Proofs.Ytacjpebifacclaa
set_option linter.unusedSimpArgs false
set_option linter.unusedVariables false
open Go.RowKit Go.Sort

set_option maxRecDepth 100000 in
set_option maxHeartbeats 1600000 in
theorem specClocks_any (b off len cap : Nat) (es : List Ev) (w : World) (hc : EvsAt w b off len es) (hm : len ≤ maxLen) (hcap : len ≤ cap) :
    Calls Try.prog 46 #[.slice (some ⟨b, off, none⟩) len cap] w fun e w' => AnsV w w' e (ckN es len) (cl es) := by
  have hT := specTok_any b off len cap es w hc hm hcap
  cases ho : okT es len
  · rw [ho] at hT
    have HZ : Hid (ckN es len = 0) := by rw [Hid, ckN, ho]; rfl
    go_enter Try.func46, Try.ntmps46
    go_wp2_with fail
    refine hT.mono ?_
    rintro e w1 ⟨rfl, hg1⟩
    have HG : Hid (Grew w w1) := hg1
    clear hg1
    go_wp2
    go_ret
    rw [HZ.out]
    exact ⟨w1.heap.size, 0, 0, fun _ => (0, 0, 0), rfl, HG.out.1.size, vr_none (heap_alloc_new w1 _) _ _ _, (HG.out.alloc _).1⟩
  · rw [ho] at hT
    have HZ : Hid (ckN es len = len) := by rw [Hid, ckN, ho]; rfl
    go_enter Try.func46, Try.ntmps46
    go_wp2_with fail
    refine hT.mono ?_
    rintro e w1 ⟨rfl, hg1⟩
    have hA := l3Clocks_any b off len cap es w1 (hc.grew hg1) ho
    have HG : Hid (Grew w w1) := hg1
    clear hg1
    go_wp2_with fail
    refine hA.mono ?_
    rintro e w2 ⟨g, off', c, r, rfl, h1, h2, h3⟩
    have H1 : Hid (w1.heap.size ≤ g) := h1
    have H2 : Hid (VR w2 w1.heap.size g off' len c len r (cl es)) := h2
    have H3 : Hid (Below w1.heap.size w1 w2) := h3
    clear h1 h2 h3
    go_wp2
    go_ret
    rw [HZ.out]
    exact ⟨g, off', c, r, rfl, Nat.le_trans HG.out.1.size H1.out, H2.out.mono HG.out.1.size, HG.out.1.trans (H3.out.mono HG.out.1.size)⟩

theorem lastB_skip {es : List Ev} {node : Int} {j : Nat} : ∀ {len : Nat}, j ≤ len → (∀ i, j ≤ i → i < len → (evAt es i).n ≠ node) → lastB es node len = lastB es node j
  | 0, h, _ => by rw [show j = 0 by omega]
  | len + 1, h, hn => by
    by_cases e : j = len + 1
    · rw [e]
    · rw [lastB_succ, if_neg (hn len (by omega) (by omega))]
      exact lastB_skip (by omega) (fun i h1 h2 => hn i h1 (by omega))

set_option maxRecDepth 100000 in
set_option maxHeartbeats 1600000 in
theorem specNewest_any (b off len cap : Nat) (es : List Ev) (node : Int) (w : World) (hc : EvsAt w b off len es) (hm : len ≤ maxLen) (hcap : len ≤ cap) (hnode : -9223372036854775808 ≤ node ∧ node ≤ 9223372036854775807) :
    Calls Try.prog 45 #[.slice (some ⟨b, off, none⟩) len cap, .int .i64 node] w fun e w' => Ans w w' e (nwT es len node) := by
  have hT := specTok_any b off len cap es w hc hm hcap
  cases ho : okT es len
  · rw [ho] at hT
    have HZ : Hid (nwT es len node = []) := by rw [Hid, nwT, ho]; rfl
    go_enter Try.func45, Try.ntmps45
    go_wp2_with fail
    refine hT.mono ?_
    rintro e w1 ⟨rfl, hg1⟩
    have HG : Hid (Grew w w1) := hg1
    clear hg1
    go_wp2
    go_ret
    rw [HZ.out]
    exact ⟨w1.heap.size, 0, 0, rfl, HG.out.1.size, oi_empty w1 2, (HG.out.alloc _).1⟩
  · rw [ho] at hT
    have HOK : Hid (okT es len = true) := ho
    obtain ⟨h40, hall⟩ := okT_all ho
    clear hall
    go_enter Try.func45, Try.ntmps45
    go_wp2_with fail
    refine hT.mono ?_
    rintro e w1 ⟨rfl, hg1⟩
    have hA := l3Clocks_any b off len cap es w1 (hc.grew hg1) ho
    have HG : Hid (Grew w w1) := hg1
    have HC1 : Hid (EvsAt w1 b off len es) := hc.grew hg1
    clear hg1 ho hc hT
    go_wp2_with fail
    refine hA.mono ?_
    rintro e w2 ⟨g, off', c, r, rfl, h1, h2, h3⟩
    have H1 : Hid (w1.heap.size ≤ g) := h1
    have H2 : Hid (VR w2 w1.heap.size g off' len c len r (cl es)) := h2
    have H3 : Hid (Below w1.heap.size w1 w2) := h3
    have HC2 : Hid (EvsAt w2 b off len es) := evs_below HC1.out h3 (Nat.le_refl _)
    clear h1 h2 h3 hA
    have hl0 : -9223372036854775808 ≤ (len : Int) - 1 := by omega
    have hl1 : (len : Int) - 1 ≤ 9223372036854775807 := by omega
    go_wp2
    go_loopw [6] (fun i wr => ∃ j : Nat, j ≤ len ∧ i = .int .i64 ((j : Int) - 1) ∧ (∀ x, j ≤ x → x < len → (evAt es x).n ≠ node) ∧ wr = w2) (fun i _ => (intOf i + 1).toNat)
    case atStart => exact ⟨len, Nat.le_refl _, rfl, fun x h1 h2 => by omega, rfl⟩
    case round =>
      obtain ⟨j, hj, rfl, hskip, rfl⟩ := hrel
      have HSK : Hid (∀ x, j ≤ x → x < len → (evAt es x).n ≠ node) := hskip
      clear hskip
      by_cases hj0 : j = 0
      · have HZ : Hid (nwT es len node = []) := by
          rw [Hid, nwT, if_pos HOK.out, lastB_skip hj HSK.out, hj0]; rfl
        subst hj0
        go_wp2
        go_ret
        rw [HZ.out]
        have s2 := H3.out.size
        have s1 := HG.out.1.size
        exact ⟨wr.heap.size, 0, 0, rfl, by omega, oi_empty wr 2, HG.out.1.trans ((H3.out.alloc s2 _).mono s1)⟩
      · obtain ⟨q, rfl⟩ : ∃ q, j = q + 1 := ⟨j - 1, by omega⟩
        have hqi : ((q + 1 : Nat) : Int) - 1 = (q : Int) := by omega
        rw [hqi]
        have hql : q < len := by omega
        obtain ⟨c0, _, _⟩ := HC2.out q hql
        have hq0 : (0 : Int) ≤ (q : Int) := by omega
        have hq1 : (q : Int) < (len : Int) := by omega
        have hqm : -9223372036854775808 ≤ (q : Int) - 1 := by omega
        have hqm1 : (q : Int) - 1 ≤ 9223372036854775807 := by omega
        clear hqi hj0
        by_cases he : (evAt es q).n = node
        · have hd : ((evAt es q).n == node) = true := by simpa using he
          have HZ : Hid (nwT es len node = cl es q) := by
            rw [Hid, nwT, if_pos HOK.out, lastB_skip hj HSK.out, lastB_succ, if_pos he]
          have hcell := H2.out.cell hql hql
          unfold rowV at hcell
          clear he
          go_wp2
          go_ret
          rw [HZ.out]
          have s1 := HG.out.1.size
          exact ⟨(r q).1, (r q).2.1, (r q).2.2, rfl, Nat.le_trans s1 (H2.out.news q hql), H2.out.row q hql, HG.out.1.trans (H3.out.mono s1)⟩
        · have hd : ((evAt es q).n == node) = false := by simpa using he
          have HE : Hid ((evAt es q).n ≠ node) := he
          clear he
          go_wp2
          go_roundw
          case rel => exact ⟨q, by omega, by go_num, fun x h1 h2 => by
            by_cases e : x = q
            · rw [e]; exact HE.out
            · exact HSK.out x (by omega) h2, trivial⟩
          case measure => simp [intOf]

theorem nwT_len (es : List Ev) (len : Nat) (node : Int) : (nwT es len node).length ≤ 10000 := by
  unfold nwT
  split
  · split
    · simp
    · rw [cl_len]; omega
  · simp
theorem nwT_fits (es : List Ev) (len : Nat) (node : Int) : Fits (nwT es len node) := by
  unfold nwT
  split
  · rename_i ho
    split
    · intro x hx; simp at hx
    · rename_i i hi
      have := (okT_all ho).1
      have := (lastB_some hi).1
      exact fits8 (cl_len es i) (fun j hj => by have := cl_bound es i j hj; omega)
  · intro x hx; simp at hx

end Go.Proofs.Ytacjpebifacclaa

/-
  The laws' own functions on slices of rows: eqInt64SS, likeVectors, markInt64SS, heldInt64SS.
-/
namespace Go.Proofs.Ytacjpebifacclaa
set_option linter.unusedSimpArgs false
set_option linter.unusedVariables false
open Go.RowKit Go.Sort

theorem drew_more {w w' : World} {q x : Nat} (h : ∃ n, w' = (w.drewN (q + x)).drewN n) : ∃ n, w' = w.drewN (q + n) := by
  obtain ⟨n, rfl⟩ := h
  exact ⟨x + n, by rw [World.drewN_drewN, Nat.add_assoc]⟩
theorem VR.at8 {w : World} {Bs g off n cap k : Nat} {r : Nat → Nat × Nat × Nat} {Z : Nat → List Int} (h : VR w Bs g off n cap k r Z) (h8 : ∀ i, i < k → (Z i).length = 8) {i : Nat} (hi : i < k) (hn : i < n) : w.cell? ⟨g, off + i, none⟩ = some (.slice (some ⟨(r i).1, (r i).2.1, none⟩) 8 (r i).2.2) := by
  rw [h.cell hi hn, rowV, h8 i hi]
theorem VR.row8 {w : World} {Bs g off n cap k : Nat} {r : Nat → Nat × Nat × Nat} {Z : Nat → List Int} (h : VR w Bs g off n cap k r Z) (h8 : ∀ i, i < k → (Z i).length = 8) {i : Nat} (hi : i < k) : OI w (r i).1 (r i).2.1 8 (r i).2.2 (Z i) := by
  have := h.row i hi
  rwa [h8 i hi] at this
theorem VR.congr {w : World} {Bs g off n cap k : Nat} {r : Nat → Nat × Nat × Nat} {Z Z' : Nat → List Int} (h : VR w Bs g off n cap k r Z) (e : ∀ i, i < k → Z i = Z' i) : VR w Bs g off n cap k r Z' := by
  refine ⟨?_, fun i hi => by rw [← e i hi]; exact h.row i hi, h.apart, h.far, h.news⟩
  have : (List.range n).map (rowAt k r Z) = (List.range n).map (rowAt k r Z') := List.map_congr_left (fun i _ => by
    unfold rowAt
    split
    · rename_i hi; rw [e i hi]
    · rfl)
  rw [← this]; exact h.outer
theorem VR.mark {w w' : World} {Bs g off n cap j : Nat} {r : Nat → Nat × Nat × Nat} {Z : Nat → List Int} {zs : List Int} (h : VR w Bs g off n cap n r Z) (hj : j < n) (ht : Touch (r j).1 w w') (hl : zs.length = (Z j).length) (ho : OI w' (r j).1 (r j).2.1 zs.length (r j).2.2 zs) :
    VR w' Bs g off n cap n r (fun i => if i = j then zs else Z i) := by
  refine ⟨?_, ?_, h.apart, h.far, h.news⟩
  · have e : (List.range n).map (rowAt n r (fun i => if i = j then zs else Z i)) = (List.range n).map (rowAt n r Z) := List.map_congr_left (fun i _ => by
      unfold rowAt rowV
      by_cases e : i = j
      · subst e; simp only [if_true, hl]
      · simp only [if_neg e])
    rw [e]
    exact h.outer.of_block (ht.block g (Ne.symm (h.far j hj))) (by rw [ht.size]; exact h.outer.blk)
  · intro i hi
    by_cases e : i = j
    · subst e
      rw [if_pos rfl]; exact ho
    · rw [if_neg e]
      refine OSl.of_block (h.row i hi) (ht.block _ ?_) (by rw [ht.size]; exact (h.row i hi).blk)
      rcases Nat.lt_or_gt_of_ne e with hlt | hgt
      · exact h.apart i j hlt hj
      · exact Ne.symm (h.apart j i hgt hi)

end Go.Proofs.Ytacjpebifacclaa

/-
  The walk of the law FnExactClocks.
-/
namespace Go.Proofs.Ytacjpebifacclaa
set_option linter.unusedSimpArgs false
set_option linter.unusedVariables false
open Go.RowKit Go.Sort

theorem VR.belowB {w w' : World} {B Bs g off n cap k : Nat} {r : Nat → Nat × Nat × Nat} {Z : Nat → List Int} (h : VR w Bs g off n cap k r Z) (hb : Below B w w') (hg : g < B) (hr : ∀ i, i < k → (r i).1 < B) : VR w' Bs g off n cap k r Z :=
  h.of_blocks hb.size (fun b hb' _ => hb.block b (by
    rcases hb' with rfl | ⟨i, hi, rfl⟩
    · exact hg
    · exact hr i hi))
theorem VR.touch {w w' : World} {x Bs g off n cap k : Nat} {r : Nat → Nat × Nat × Nat} {Z : Nat → List Int} (h : VR w Bs g off n cap k r Z) (ht : Touch x w w') (hg : g ≠ x) (hr : ∀ i, i < k → (r i).1 ≠ x) : VR w' Bs g off n cap k r Z :=
  h.of_blocks (by rw [ht.size]; exact Nat.le_refl _) (fun b hb' _ => ht.block b (by
    rcases hb' with rfl | ⟨i, hi, rfl⟩
    · exact hg
    · exact hr i hi))
/-- What the law holds of its three parts as the world goes on. -/
structure TriV (w cur : World) (b n g og cg d od cd m Bs Bd : Nat) (rg rd : Nat → Nat × Nat × Nat) (es : List Ev) (G Z : Nat → List Int) : Prop where
  below : Below w.heap.size w cur
  x0 : EvRow cur b n es
  got : VR cur Bs g og m cg m rg G
  want : VR cur Bd d od m cd m rd Z
theorem TriV.step {w cur next : World} {b n g og cg d od cd m Bs Bd : Nat} {rg rd : Nat → Nat × Nat × Nat} {es : List Ev} {G Z : Nat → List Int} (h : TriV w cur b n g og cg d od cd m Bs Bd rg rd es G Z) (hb : Below cur.heap.size cur next) : TriV w next b n g og cg d od cd m Bs Bd rg rd es G Z :=
  ⟨h.below.trans (hb.mono h.below.size), h.x0.below hb h.x0.lt, h.got.below hb, h.want.below hb⟩
theorem TriV.drewN {w cur : World} {b n g og cg d od cd m Bs Bd : Nat} {rg rd : Nat → Nat × Nat × Nat} {es : List Ev} {G Z : Nat → List Int} (h : TriV w cur b n g og cg d od cd m Bs Bd rg rd es G Z) (k : Nat) : TriV w (cur.drewN k) b n g og cg d od cd m Bs Bd rg rd es G Z :=
  ⟨belowN h.below, h.x0, h.got.drewN k, h.want.drewN k⟩
theorem ckN_le (es : List Ev) (len : Nat) : ckN es len ≤ 40 := by
  unfold ckN
  split
  · rename_i h; exact (okT_all h).1
  · omega
theorem ckN_fits {es : List Ev} {len i : Nat} (h : i < ckN es len) : Fits (cl es i) := by
  have := ckN_le es len
  exact fits8 (cl_len es i) (fun j hj => by have := cl_bound es i j hj; omega)

end Go.Proofs.Ytacjpebifacclaa
