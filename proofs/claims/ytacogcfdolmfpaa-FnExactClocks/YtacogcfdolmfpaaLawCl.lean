/-
  The walk of the law FnExactClocks.
-/
import Derived.Test.YtacogcfdolmfpaaVvs
namespace Go.Proofs.Ytacogcfdolmfpaa
set_option linter.unusedSimpArgs false
set_option linter.unusedVariables false
open Go.RowKit Go.Sort

theorem VR.belowB {w w' : World} {B Bs g off n cap k : Nat} {r : Nat → Nat × Nat × Nat} {Z : Nat → List Int} (h : VR w Bs g off n cap k r Z) (hb : Below B w w') (hg : g < B) (hr : ∀ i, i < k → (r i).1 < B) : VR w' Bs g off n cap k r Z :=
  h.of_blocks hb.size (fun b hb' _ => hb.block b (by
    rcases hb' with rfl | ⟨i, hi, rfl⟩
    · exact hg
    · exact hr i hi))
theorem VR.touch {w w' : World} {x Bs g off n cap k : Nat} {r : Nat → Nat × Nat × Nat} {Z : Nat → List Int} (h : VR w Bs g off n cap k r Z) (ht : Touch x w w') (hg : g ≠ x) (hr : ∀ i, i < k → (r i).1 ≠ x) : VR w' Bs g off n cap k r Z :=
  h.of_blocks (by rw [ht.size]; exact Nat.le_refl _) (fun b hb' _ => ht.block b (by
    rcases hb' with rfl | ⟨i, hi, rfl⟩
    · exact hg
    · exact hr i hi))
/-- What the law holds of its three parts as the world goes on. -/
structure TriV (w cur : World) (b n g og cg d od cd m Bs Bd : Nat) (rg rd : Nat → Nat × Nat × Nat) (es : List Ev) (G Z : Nat → List Int) : Prop where
  below : Below w.heap.size w cur
  x0 : EvRow cur b n es
  got : VR cur Bs g og m cg m rg G
  want : VR cur Bd d od m cd m rd Z
theorem TriV.step {w cur next : World} {b n g og cg d od cd m Bs Bd : Nat} {rg rd : Nat → Nat × Nat × Nat} {es : List Ev} {G Z : Nat → List Int} (h : TriV w cur b n g og cg d od cd m Bs Bd rg rd es G Z) (hb : Below cur.heap.size cur next) : TriV w next b n g og cg d od cd m Bs Bd rg rd es G Z :=
  ⟨h.below.trans (hb.mono h.below.size), h.x0.below hb h.x0.lt, h.got.below hb, h.want.below hb⟩
theorem TriV.drewN {w cur : World} {b n g og cg d od cd m Bs Bd : Nat} {rg rd : Nat → Nat × Nat × Nat} {es : List Ev} {G Z : Nat → List Int} (h : TriV w cur b n g og cg d od cd m Bs Bd rg rd es G Z) (k : Nat) : TriV w (cur.drewN k) b n g og cg d od cd m Bs Bd rg rd es G Z :=
  ⟨belowN h.below, h.x0, h.got.drewN k, h.want.drewN k⟩
theorem ckN_le (es : List Ev) (len : Nat) : ckN es len ≤ 40 := by
  unfold ckN
  split
  · rename_i h; exact (okT_all h).1
  · omega
theorem ckN_fits {es : List Ev} {len i : Nat} (h : i < ckN es len) : Fits (cl es i) := by
  have := ckN_le es len
  exact fits8 (cl_len es i) (fun j hj => by have := cl_bound es i j hj; omega)

set_option maxRecDepth 100000 in
set_option maxHeartbeats 1600000 in
/-- The law FnExactClocks. -/
theorem lawClocks (a : Option Addr) (len cap : Nat) (es : List Ev) (w : World) (hv : EvS w a len es) (hcap : len ≤ cap) (hm : cap ≤ maxLen) :
    Calls Try.prog 7 #[.slice a len cap] w fun e w' => e = .returned (.bool true) ∧ Below w.heap.size w w' := by
  have hl : len ≤ maxLen := Nat.le_trans hcap hm
  by_cases hbig : (1048576 : Int) < (len : Int)
  · go_enter Try.func7, Try.ntmps7
    go_wp2_with fail
    refine (sz_big a len cap w hbig hl).mono ?_
    rintro e w1 ⟨rfl, hw1⟩
    have HW : Hid (w1 = w) := hw1
    clear hw1
    go_wp2
    go_ret
    exact ⟨rfl, by rw [HW.out]; exact Below.refl _ _⟩
  · have hsm : len ≤ 1048576 := by omega
    have hpos : decide ((1048576 : Int) - (len : Int) < 0) = false := by simp; omega
    have hn40 := ckN_le es len
    have H8 : Hid (∀ i, i < ckN es len → (cl es i).length = 8) := fun i _ => cl_len es i
    have HF : Hid (∀ i, i < ckN es len → Fits (cl es i)) := fun i hi => ckN_fits hi
    have hC := fun (b : Nat) (X : World) (hX : EvsAt X b 0 len es) => specClocks_any b 0 len len es X hX hl (Nat.le_refl _)
    have hI := fun (b : Nat) (X : World) (hX : EvsAt X b 0 len es) => implClocks_any b 0 len len es X hX hl (Nat.le_refl _)
    generalize ckN es len = N at *
    go_enter Try.func7, Try.ntmps7
    go_wp2_with fail
    refine (sz_small a len cap w (by omega)).mono ?_
    rintro e w1 ⟨rfl, hw1⟩
    have G1 : Grew w w1 := by rw [hw1]; exact Grew.refl _
    clear hw1
    go_wp2_with fail
    refine (copyE_any a len cap es w1 (hv.grew G1) hsm).mono ?_
    rintro e w2 ⟨b2, rfl, _, hr2, hg2⟩
    have G2 : Grew w w2 := G1.trans hg2
    go_wp2_with fail
    refine (hC b2 w2 hr2.at).mono ?_
    rintro e w3 ⟨d, od, cd, rd, rfl, hd, hwant, hb3⟩
    have B3 : Below w.heap.size w w3 := G2.1.trans (hb3.mono G2.1.size)
    have L1 : d < w3.heap.size := hwant.outer.blk
    have L2 : Hid (∀ i, i < N → (rd i).1 < w3.heap.size) := fun i hi => (hwant.row i hi).blk
    clear hr2 hg2 hb3 G1
    go_wp2_with fail
    refine (copyE_any a len cap es w3 (hv.below B3 (Nat.le_refl _)) hsm).mono ?_
    rintro e w4 ⟨b, rfl, hb4, hr4, hg4⟩
    have B4 : Below w.heap.size w w4 := B3.trans (hg4.1.mono B3.size)
    have L3 : Hid (∀ i, i < N → (rd i).1 < b) := fun i hi => Nat.lt_of_lt_of_le (L2.out i hi) hb4
    have L4 : d < b := Nat.lt_of_lt_of_le L1 hb4
    go_wp2_with fail
    refine (hI b w4 hr4.at).mono ?_
    rintro e w5 ⟨g, og, cg, rg, rfl, hg, hgot, hb5⟩
    have n2 : b < w4.heap.size := hr4.lt
    have n0 : w.heap.size ≤ b := Nat.le_trans B3.size hb4
    have T5 : TriV w w5 b len g og cg d od cd N w4.heap.size w2.heap.size rg rd es (cl es) (cl es) := ⟨B4.trans (hb5.mono B4.size), hr4.below hb5 hr4.lt, hgot, (hwant.below hg4.1).below hb5⟩
    have L5 : Hid (∀ i, i < N → b < (rg i).1) := fun i hi => Nat.lt_of_lt_of_le n2 (hgot.news i hi)
    have L6 : b < g := Nat.lt_of_lt_of_le n2 hg
    have L7 : Hid (w4.heap.size ≤ g) := hg
    have s5 : Hid (w4.heap.size ≤ w5.heap.size) := hb5.size
    have s4 : w.heap.size ≤ w4.heap.size := B4.size
    clear hwant hr4 hg4 hb5 hgot B3 B4 hb4 hg hd L1
    go_wp2_with fail
    refine (eqVV_any _ _ _ _ _ _ N _ _ rg rd (cl es) _ T5.got T5.want hn40 H8.out HF.out).mono ?_
    rintro e w5' ⟨rfl, n5, rfl⟩
    go_wp2_with fail
    refine (copyE_any a len cap es _ (hv.below (belowN (n := n5) T5.below) (Nat.le_refl _)) hsm).mono ?_
    rintro e w6 ⟨b6, rfl, _, hr6, hg6⟩
    have T6 := (T5.drewN n5).step hg6.1
    have s6 : Hid (w4.heap.size ≤ w6.heap.size) := Nat.le_trans s5.out hg6.1.size
    clear T5 hg6
    go_wp2_with fail
    refine (eqE_any b b6 0 0 len len len es w6 T6.x0.at hr6.at hl).mono ?_
    rintro e w7 ⟨rfl, hg7⟩
    have T7 := T6.step hg7.1
    have s7 : Hid (w4.heap.size ≤ w7.heap.size) := Nat.le_trans s6.out hg7.1.size
    clear T6 hg7 hr6
    go_wp2_with fail
    refine (markE_any b len 1 es w7 T7.x0 (by omega) (by omega)).mono ?_
    rintro e w8 ⟨rfl, ht8⟩
    have B8 : Below w.heap.size w w8 := T7.below.trans (ht8.below n0)
    have got8 := T7.got.touch ht8 (by omega) (fun i hi => by have := L5.out i hi; omega)
    have want8 := T7.want.touch ht8 (by omega) (fun i hi => by have := L3.out i hi; omega)
    have s8 : w4.heap.size ≤ w8.heap.size := by rw [ht8.size]; exact s7.out
    have hk0 : decide (((1 + len * 3 : Nat) : Int) < 0) = false := by simp; omega
    clear T7 ht8
    go_wp2_with fail
    refine (eqVV_any _ _ _ _ _ _ N _ _ rg rd (cl es) _ got8 want8 hn40 H8.out HF.out).mono ?_
    rintro e w8' ⟨rfl, n8, rfl⟩
    go_wp2_with fail
    refine (markVV_any g og cg N w4.heap.size rg (cl es) _ (got8.drewN n8) hn40 H8.out s8).mono ?_
    rintro e w9 ⟨rfl, got9, ht9⟩
    have B9 : Below w.heap.size w w9 := (belowN (n := n8) B8).trans (ht9.mono s4)
    have want9 := (want8.drewN n8).belowB ht9 (by omega) (fun i hi => by have := L3.out i hi; omega)
    have hp9 : decide (((1 + 8 * N : Nat) : Int) < 0) = false := by simp; omega
    clear B8 got8 want8 ht9 hk0
    go_wp2_with fail
    refine (heldVV_any g og cg N _ rg _ got9 hn40).mono ?_
    rintro e w9' ⟨rfl, hw9⟩
    replace hw9 := hw9.symm
    subst hw9
    go_wp2_with fail
    refine (copyE_any a len cap es _ (hv.below B9 (Nat.le_refl _)) hsm).mono ?_
    rintro e w10 ⟨b10, rfl, _, hr10, hg10⟩
    have B10 : Below w.heap.size w w10 := B9.trans (hg10.1.mono B9.size)
    have got10 := got9.below hg10.1
    have want10 := want9.below hg10.1
    clear B9 got9 want9 hg10
    go_wp2_with fail
    refine (hI b10 w10 hr10.at).mono ?_
    rintro e w11 ⟨g11, og11, cg11, rg11, rfl, _, hgot11, hb11⟩
    have B11 : Below w.heap.size w w11 := B10.trans (hb11.mono B10.size)
    have got11 := got10.below hb11
    have want11 := want10.below hb11
    clear B10 got10 want10 hb11 hr10
    go_wp2_with fail
    refine (eqVV_any _ _ _ _ _ _ N _ _ rg11 rd (cl es) _ hgot11 want11 hn40 H8.out HF.out).mono ?_
    rintro e w11' ⟨rfl, n11, rfl⟩
    go_wp2_with fail
    refine (heldVV_any g og cg N _ rg _ (got11.drewN n11) hn40).mono ?_
    rintro e w12 ⟨rfl, hw12⟩
    have B12 : Below w.heap.size w w12 := by rw [hw12]; exact belowN B11
    clear hw12
    go_wp2
    go_ret
    exact ⟨rfl, B12⟩
end Go.Proofs.Ytacogcfdolmfpaa
