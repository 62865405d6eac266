/-
  The contracts of the specification's Clocks and Newest; the walk of the law FnExactNewest.
-/
import Derived.Test.YtacogcfdolmfpaaKcs
import Derived.Test.YtacogcfdolmfpaaLawStp
namespace Go.Proofs.Ytacogcfdolmfpaa
set_option linter.unusedSimpArgs false
set_option linter.unusedVariables false
open Go.RowKit Go.Sort

set_option maxRecDepth 100000 in
set_option maxHeartbeats 1600000 in
theorem specClocks_any (b off len cap : Nat) (es : List Ev) (w : World) (hc : EvsAt w b off len es) (hm : len ≤ maxLen) (hcap : len ≤ cap) :
    Calls Try.prog 46 #[.slice (some ⟨b, off, none⟩) len cap] w fun e w' => AnsV w w' e (ckN es len) (cl es) := by
  have hT := specTok_any b off len cap es w hc hm hcap
  cases ho : okT es len
  · rw [ho] at hT
    have HZ : Hid (ckN es len = 0) := by rw [Hid, ckN, ho]; rfl
    go_enter Try.func46, Try.ntmps46
    go_wp2_with fail
    refine hT.mono ?_
    rintro e w1 ⟨rfl, hg1⟩
    have HG : Hid (Grew w w1) := hg1
    clear hg1
    go_wp2
    go_ret
    rw [HZ.out]
    exact ⟨w1.heap.size, 0, 0, fun _ => (0, 0, 0), rfl, HG.out.1.size, vr_none (heap_alloc_new w1 _) _ _ _, (HG.out.alloc _).1⟩
  · rw [ho] at hT
    have HZ : Hid (ckN es len = len) := by rw [Hid, ckN, ho]; rfl
    go_enter Try.func46, Try.ntmps46
    go_wp2_with fail
    refine hT.mono ?_
    rintro e w1 ⟨rfl, hg1⟩
    have hA := l3Clocks_any b off len cap es w1 (hc.grew hg1) ho
    have HG : Hid (Grew w w1) := hg1
    clear hg1
    go_wp2_with fail
    refine hA.mono ?_
    rintro e w2 ⟨g, off', c, r, rfl, h1, h2, h3⟩
    have H1 : Hid (w1.heap.size ≤ g) := h1
    have H2 : Hid (VR w2 w1.heap.size g off' len c len r (cl es)) := h2
    have H3 : Hid (Below w1.heap.size w1 w2) := h3
    clear h1 h2 h3
    go_wp2
    go_ret
    rw [HZ.out]
    exact ⟨g, off', c, r, rfl, Nat.le_trans HG.out.1.size H1.out, H2.out.mono HG.out.1.size, HG.out.1.trans (H3.out.mono HG.out.1.size)⟩

theorem lastB_skip {es : List Ev} {node : Int} {j : Nat} : ∀ {len : Nat}, j ≤ len → (∀ i, j ≤ i → i < len → (evAt es i).n ≠ node) → lastB es node len = lastB es node j
  | 0, h, _ => by rw [show j = 0 by omega]
  | len + 1, h, hn => by
    by_cases e : j = len + 1
    · rw [e]
    · rw [lastB_succ, if_neg (hn len (by omega) (by omega))]
      exact lastB_skip (by omega) (fun i h1 h2 => hn i h1 (by omega))

set_option maxRecDepth 100000 in
set_option maxHeartbeats 1600000 in
theorem specNewest_any (b off len cap : Nat) (es : List Ev) (node : Int) (w : World) (hc : EvsAt w b off len es) (hm : len ≤ maxLen) (hcap : len ≤ cap) (hnode : -9223372036854775808 ≤ node ∧ node ≤ 9223372036854775807) :
    Calls Try.prog 53 #[.slice (some ⟨b, off, none⟩) len cap, .int .i64 node] w fun e w' => Ans w w' e (nwT es len node) := by
  have hT := specTok_any b off len cap es w hc hm hcap
  cases ho : okT es len
  · rw [ho] at hT
    have HZ : Hid (nwT es len node = []) := by rw [Hid, nwT, ho]; rfl
    go_enter Try.func53, Try.ntmps53
    go_wp2_with fail
    refine hT.mono ?_
    rintro e w1 ⟨rfl, hg1⟩
    have HG : Hid (Grew w w1) := hg1
    clear hg1
    go_wp2
    go_ret
    rw [HZ.out]
    exact ⟨w1.heap.size, 0, 0, rfl, HG.out.1.size, oi_empty w1 2, (HG.out.alloc _).1⟩
  · rw [ho] at hT
    have HOK : Hid (okT es len = true) := ho
    obtain ⟨h40, hall⟩ := okT_all ho
    clear hall
    go_enter Try.func53, Try.ntmps53
    go_wp2_with fail
    refine hT.mono ?_
    rintro e w1 ⟨rfl, hg1⟩
    have hA := l3Clocks_any b off len cap es w1 (hc.grew hg1) ho
    have HG : Hid (Grew w w1) := hg1
    have HC1 : Hid (EvsAt w1 b off len es) := hc.grew hg1
    clear hg1 ho hc hT
    go_wp2_with fail
    refine hA.mono ?_
    rintro e w2 ⟨g, off', c, r, rfl, h1, h2, h3⟩
    have H1 : Hid (w1.heap.size ≤ g) := h1
    have H2 : Hid (VR w2 w1.heap.size g off' len c len r (cl es)) := h2
    have H3 : Hid (Below w1.heap.size w1 w2) := h3
    have HC2 : Hid (EvsAt w2 b off len es) := evs_below HC1.out h3 (Nat.le_refl _)
    clear h1 h2 h3 hA
    have hl0 : -9223372036854775808 ≤ (len : Int) - 1 := by omega
    have hl1 : (len : Int) - 1 ≤ 9223372036854775807 := by omega
    go_wp2
    go_loopw [6] (fun i wr => ∃ j : Nat, j ≤ len ∧ i = .int .i64 ((j : Int) - 1) ∧ (∀ x, j ≤ x → x < len → (evAt es x).n ≠ node) ∧ wr = w2) (fun i _ => (intOf i + 1).toNat)
    case atStart => exact ⟨len, Nat.le_refl _, rfl, fun x h1 h2 => by omega, rfl⟩
    case round =>
      obtain ⟨j, hj, rfl, hskip, rfl⟩ := hrel
      have HSK : Hid (∀ x, j ≤ x → x < len → (evAt es x).n ≠ node) := hskip
      clear hskip
      by_cases hj0 : j = 0
      · have HZ : Hid (nwT es len node = []) := by
          rw [Hid, nwT, if_pos HOK.out, lastB_skip hj HSK.out, hj0]; rfl
        subst hj0
        go_wp2
        go_ret
        rw [HZ.out]
        have s2 := H3.out.size
        have s1 := HG.out.1.size
        exact ⟨wr.heap.size, 0, 0, rfl, by omega, oi_empty wr 2, HG.out.1.trans ((H3.out.alloc s2 _).mono s1)⟩
      · obtain ⟨q, rfl⟩ : ∃ q, j = q + 1 := ⟨j - 1, by omega⟩
        have hqi : ((q + 1 : Nat) : Int) - 1 = (q : Int) := by omega
        rw [hqi]
        have hql : q < len := by omega
        obtain ⟨c0, _, _⟩ := HC2.out q hql
        have hq0 : (0 : Int) ≤ (q : Int) := by omega
        have hq1 : (q : Int) < (len : Int) := by omega
        have hqm : -9223372036854775808 ≤ (q : Int) - 1 := by omega
        have hqm1 : (q : Int) - 1 ≤ 9223372036854775807 := by omega
        clear hqi hj0
        by_cases he : (evAt es q).n = node
        · have hd : ((evAt es q).n == node) = true := by simpa using he
          have HZ : Hid (nwT es len node = cl es q) := by
            rw [Hid, nwT, if_pos HOK.out, lastB_skip hj HSK.out, lastB_succ, if_pos he]
          have hcell := H2.out.cell hql hql
          unfold rowV at hcell
          clear he
          go_wp2
          go_ret
          rw [HZ.out]
          have s1 := HG.out.1.size
          exact ⟨(r q).1, (r q).2.1, (r q).2.2, rfl, Nat.le_trans s1 (H2.out.news q hql), H2.out.row q hql, HG.out.1.trans (H3.out.mono s1)⟩
        · have hd : ((evAt es q).n == node) = false := by simpa using he
          have HE : Hid ((evAt es q).n ≠ node) := he
          clear he
          go_wp2
          go_roundw
          case rel => exact ⟨q, by omega, by go_num, fun x h1 h2 => by
            by_cases e : x = q
            · rw [e]; exact HE.out
            · exact HSK.out x (by omega) h2, trivial⟩
          case measure => simp [intOf]

theorem nwT_len (es : List Ev) (len : Nat) (node : Int) : (nwT es len node).length ≤ 10000 := by
  unfold nwT
  split
  · split
    · simp
    · rw [cl_len]; omega
  · simp
theorem nwT_fits (es : List Ev) (len : Nat) (node : Int) : Fits (nwT es len node) := by
  unfold nwT
  split
  · rename_i ho
    split
    · intro x hx; simp at hx
    · rename_i i hi
      have := (okT_all ho).1
      have := (lastB_some hi).1
      exact fits8 (cl_len es i) (fun j hj => by have := cl_bound es i j hj; omega)
  · intro x hx; simp at hx

set_option maxRecDepth 100000 in
set_option maxHeartbeats 1600000 in
/-- The law FnExactNewest. -/
theorem lawNewest (a : Option Addr) (len cap : Nat) (es : List Ev) (node : Int) (w : World) (hv : EvS w a len es) (hcap : len ≤ cap) (hm : cap ≤ maxLen) (hnode : -9223372036854775808 ≤ node ∧ node ≤ 9223372036854775807) :
    Calls Try.prog 10 #[.slice a len cap, .int .i64 node] w fun e w' => e = .returned (.bool true) ∧ Below w.heap.size w w' := by
  have hl : len ≤ maxLen := Nat.le_trans hcap hm
  by_cases hbig : (1048576 : Int) < (len : Int)
  · go_enter Try.func10, Try.ntmps10
    go_wp2_with fail
    refine (sz_big a len cap w hbig hl).mono ?_
    rintro e w1 ⟨rfl, hw1⟩
    have HW : Hid (w1 = w) := hw1
    clear hw1
    go_wp2
    go_ret
    exact ⟨rfl, by rw [HW.out]; exact Below.refl _ _⟩
  · have hsm : len ≤ 1048576 := by omega
    have hpos : decide ((1048576 : Int) - (len : Int) < 0) = false := by simp; omega
    have hfz : Fits (nwT es len node) := nwT_fits es len node
    have hz10 : (nwT es len node).length ≤ 10000 := nwT_len es len node
    have hzm : (nwT es len node).length ≤ maxLen := by unfold maxLen; omega
    go_enter Try.func10, Try.ntmps10
    go_wp2_with fail
    refine (sz_small a len cap w (by omega)).mono ?_
    rintro e w1 ⟨rfl, hw1⟩
    have G1 : Grew w w1 := by rw [hw1]; exact Grew.refl _
    clear hw1
    go_wp2_with fail
    refine (copyE_any a len cap es w1 (hv.grew G1) hsm).mono ?_
    rintro e w2 ⟨b2, rfl, _, hr2, hg2⟩
    have G2 : Grew w w2 := G1.trans hg2
    go_wp2_with fail
    refine (specNewest_any b2 0 len len es node w2 hr2.at hl (Nat.le_refl _) hnode).mono ?_
    rintro e w3 ⟨d, od, cd, rfl, hd, hwant, hb3⟩
    have B3 : Below w.heap.size w w3 := G2.1.trans (hb3.mono G2.1.size)
    clear hr2 hg2 hb3 G1
    go_wp2_with fail
    refine (copyE_any a len cap es w3 (hv.below B3 (Nat.le_refl _)) hsm).mono ?_
    rintro e w4 ⟨b, rfl, hb4, hr4, hg4⟩
    have B4 : Below w.heap.size w w4 := B3.trans (hg4.1.mono B3.size)
    go_wp2_with fail
    refine (implNewest_any b 0 len len es node w4 hr4.at hl (Nat.le_refl _) hnode).mono ?_
    rintro e w5 ⟨g, og, cg, rfl, hg, hgot, hb5⟩
    have n1 : d < b := Nat.lt_of_lt_of_le hwant.blk hb4
    have n2 : b < g := Nat.lt_of_lt_of_le hr4.lt hg
    have n0 : w.heap.size ≤ b := Nat.le_trans B3.size hb4
    have W4 := hwant.below hg4.1 hwant.blk
    have T5 : Tri w w5 b len g og cg d od cd es (nwT es len node) (nwT es len node) := ⟨B4.trans (hb5.mono B4.size), hr4.below hb5 hr4.lt, hgot, W4.below hb5 W4.blk⟩
    clear hwant hr4 hg4 hb5 hgot B3 B4 W4 hb4 hg hd
    generalize hZe : nwT es len node = Z at *
    have HZ : Hid (nwT es len node = Z) := hZe
    clear hZe
    go_wp2_with fail
    refine (eq_any _ _ _ _ _ _ Z Z _ (T5.got.vec hfz) (T5.want.vec hfz) hzm).mono ?_
    rintro e w5' ⟨rfl, n5, rfl⟩
    go_wp2_with fail
    refine (copyE_any a len cap es _ (hv.below (belowN (n := n5) T5.below) (Nat.le_refl _)) hsm).mono ?_
    rintro e w6 ⟨b6, rfl, _, hr6, hg6⟩
    have T6 := (T5.drewN n5).step hg6.1
    clear T5 hg6
    go_wp2_with fail
    refine (eqE_any b b6 0 0 len len len es w6 T6.x0.at hr6.at hl).mono ?_
    rintro e w7 ⟨rfl, hg7⟩
    have T7 := T6.step hg7.1
    clear T6 hg7 hr6
    go_wp2_with fail
    refine (markE_any b len 1 es w7 T7.x0 (by omega) (by omega)).mono ?_
    rintro e w8 ⟨rfl, ht8⟩
    have B8 : Below w.heap.size w w8 := T7.below.trans (ht8.below n0)
    have got8 := T7.got.touch ht8 (by omega)
    have want8 := T7.want.touch ht8 (by omega)
    have hk0 : decide (((1 + len * 3 : Nat) : Int) < 0) = false := by simp; omega
    clear T7 ht8
    go_wp2_with fail
    refine (eq_any _ _ _ _ _ _ Z Z _ (got8.vec hfz) (want8.vec hfz) hzm).mono ?_
    rintro e w8' ⟨rfl, n8, rfl⟩
    go_wp2_with fail
    refine (markO_any g og cg 1 _ _ Z _ (got8.drewN n8) (by rfl) (by omega) (by omega)).mono ?_
    rintro e w9 ⟨rfl, got9, ht9⟩
    have B9 : Below w.heap.size w w9 := (belowN (n := n8) B8).trans (ht9.below (by omega))
    have want9 := (want8.drewN n8).touch ht9 (by omega)
    clear B8 got8 want8 ht9 hk0
    go_wp2_with fail
    refine (heldO_any g og cg 1 _ _ _ got9 (by rfl) (by omega) (by omega)).mono ?_
    rintro e w9' ⟨rfl, rfl⟩
    go_wp2_with fail
    refine (copyE_any a len cap es _ (hv.below B9 (Nat.le_refl _)) hsm).mono ?_
    rintro e w10 ⟨b10, rfl, _, hr10, hg10⟩
    have B10 : Below w.heap.size w w10 := B9.trans (hg10.1.mono B9.size)
    have got10 := got9.below hg10.1 got9.blk
    have want10 := want9.below hg10.1 want9.blk
    clear B9 got9 want9 hg10
    go_wp2_with fail
    refine (implNewest_any b10 0 len len es node w10 hr10.at hl (Nat.le_refl _) hnode).mono ?_
    rintro e w11 ⟨g11, og11, cg11, he, _, hgot11, hb11⟩
    rw [HZ.out] at he hgot11
    subst he
    have B11 : Below w.heap.size w w11 := B10.trans (hb11.mono B10.size)
    have got11 := got10.below hb11 got10.blk
    have want11 := want10.below hb11 want10.blk
    clear B10 got10 want10 hb11 hr10
    go_wp2_with fail
    refine (eq_any _ _ _ _ _ _ Z Z _ (hgot11.vec hfz) (want11.vec hfz) hzm).mono ?_
    rintro e w11' ⟨rfl, n11, rfl⟩
    go_wp2_with fail
    refine (heldO_any g og cg 1 _ _ _ (got11.drewN n11) (by rfl) (by omega) (by omega)).mono ?_
    rintro e w12 ⟨rfl, hw12⟩
    have B12 : Below w.heap.size w w12 := by rw [hw12]; exact belowN B11
    clear hw12
    go_wp2
    go_ret
    exact ⟨rfl, B12⟩
end Go.Proofs.Ytacogcfdolmfpaa
