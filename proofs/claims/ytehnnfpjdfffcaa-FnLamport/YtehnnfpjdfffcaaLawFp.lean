/-
  The contract of the specification's DrawPast, and the walk of the law FnPast.
-/
import Derived.Test.YtehnnfpjdfffcaaDr4
namespace Go.Proofs.Ytehnnfpjdfffcaa
set_option linter.unusedSimpArgs false
set_option linter.unusedVariables false
open Go.RowKit Go.Sort

theorem IsRow.bvec {w : World} {a : Option Addr} {len cap : Nat} {zs : List Int} (h : IsRow .u8 w a len cap zs) : BVec w a len (fun i => zs.getD i 0) := by
  rcases h with ⟨rfl, rfl, rfl, rfl⟩ | ⟨x, rfl, hl, hm, hz, hcell, hwz⟩
  · exact ⟨fun i hi => by omega, .inl rfl⟩
  · refine ⟨fun i hi => ?_, ?_⟩
    · have := bounds_u8 (hwz (zs.getD i 0) (by
        have hi' : i < zs.length := by omega
        simp [hi']))
      omega
    · by_cases h0 : len = 0
      · exact .inl h0
      · obtain ⟨b, off, spot⟩ := x
        have hc := hcell 0 (by omega)
        have hspot : spot = none := by simpa [Addr.add] using World.cell?_spot hc
        subst hspot
        refine .inr ⟨b, off, rfl, fun i hi => ?_⟩
        have := hcell i (by omega)
        rwa [add_lit0] at this

set_option maxRecDepth 100000 in
set_option maxHeartbeats 1600000 in
theorem drawPast_any (a : Option Addr) (len cap : Nat) (bs : Nat → Int) (w : World) (hv : BVec w a len bs) (hl : len ≤ 4096) :
    Calls Try.prog 41 #[.slice a len cap] w fun e w' => ∃ g f c es k, e = .returned (.tuple #[.slice (some ⟨g, f, none⟩) es.length c, .int .i64 k]) ∧ es.length ≤ 14 ∧ -1 ≤ k ∧ k ≤ 20 ∧ OE w' g f c es ∧ Below w.heap.size w w' := by
  go_enter Try.func41, Try.ntmps41
  go_wp2_with fail
  refine (new_any a len cap bs w hv hl).mono ?_
  rintro e w1 ⟨p, rfl, hp, hc1, hb1⟩
  have hv1 := hv.below hb1 (Nat.le_refl _)
  have hoff : OffB a len p := fun h b off e => by have := hv.inB h b off e; omega
  go_wp2_with fail
  refine (l2DrawAny_any p a len cap bs w1 hc1 hv1 hoff hl).mono ?_
  rintro e w2 ⟨g, f, c, es, rfl, hes, L2⟩
  have hs1 := hb1.size
  go_wp2_with fail
  refine (from_any p a len cap bs (-1) ((es.length : Int) + 1) w2 L2.cur (hv1.grown L2.grown hoff) hoff hl (by omega) (by omega) (by omega)).mono ?_
  rintro e w3 ⟨k, rfl, hk0, hk1, hc3, hg3⟩
  have L3 := L2.step hc1.lt hc3 hg3
  have K1 : Hid (OE w3 g f c es) := L3.out
  have K2 : Hid (Below w.heap.size w w3) := below_grown hb1 L3.grown (by omega) hs1
  clear hc3 hg3 L3 L2 hv1 hc1
  go_wp2
  go_ret2
  exact ⟨g, f, c, es, k, rfl, hes, hk0, by omega, K1.out, K2.out⟩

theorem pastT_rises (es : List Ev) (len : Nat) (k : Int) : ∀ j, j + 1 < (pastT es len k).length → el (pastT es len k) j < el (pastT es len k) (j + 1) := by
  intro j hj
  unfold pastT at *
  split at hj
  · rename_i h
    rw [if_pos h]
    rw [nI_len] at hj
    rw [nI_el (by omega), nI_el hj]
    have := List.pairwise_iff_getElem.1 (pastL_sorted es k.toNat) j (j + 1) (by omega) hj (by omega)
    omega
  · simp at hj
theorem pastT_lt {es : List Ev} {len : Nat} {k x : Int} (h : x ∈ pastT es len k) : 0 ≤ x ∧ x < k ∧ numB len x = true ∧ okT es len = true ∧ numB len k = true ∧ Anc es x.toNat k.toNat := by
  unfold pastT at h
  split at h
  · rename_i hh
    have hk := numB_iff.1 hh.2
    simp only [nI, List.mem_map] at h
    obtain ⟨a, ha, rfl⟩ := h
    have hA := mem_pastL.1 ha
    have := hA.lt
    exact ⟨by omega, by omega, numB_iff.2 (by omega), hh.1, hh.2, by simpa using hA⟩
  · simp at h
theorem pastT_mem {es : List Ev} {len : Nat} {k x : Int} (h0 : 0 ≤ x) (ho : okT es len = true) (hk : numB len k = true) (hA : Anc es x.toNat k.toNat) : x ∈ pastT es len k := by
  rw [pastT_ok ho hk]
  have : ((x.toNat : Nat) : Int) ∈ nI (pastL es k.toNat) := nI_mem.2 (mem_pastL.2 hA)
  rwa [show ((x.toNat : Nat) : Int) = x by omega] at this
theorem pastT_trans {es : List Ev} {len : Nat} {k x z : Int} (h : x ∈ pastT es len k) (hz : z ∈ pastT es len x) : z ∈ pastT es len k := by
  obtain ⟨a1, a2, a3, a4, a5, a6⟩ := pastT_lt h
  obtain ⟨b1, b2, b3, b4, b5, b6⟩ := pastT_lt hz
  exact pastT_mem b1 a4 a5 (b6.trans a6)

set_option maxRecDepth 100000 in
set_option maxHeartbeats 3200000 in
/-- The law FnPast. -/
theorem lawFnPast (a : Option Addr) (len cap : Nat) (bs : Nat → Int) (w : World) (hv : BVec w a len bs) :
    Calls Try.prog 5 #[.slice a len cap] w fun e w' => e = .returned (.bool true) ∧ Below w.heap.size w w' := by
  by_cases hbig : (4096 : Int) < (len : Int)
  · have hB := big_any a len cap w
    rw [decide_eq_true hbig] at hB
    go_enter Try.func5, Try.ntmps5
    go_wp2_with fail
    refine hB.mono ?_
    rintro e w1 ⟨rfl, hw1⟩
    have HW : Hid (w1 = w) := hw1
    clear hw1
    go_wp2
    go_ret
    exact ⟨rfl, by rw [HW.out]; exact Below.refl _ _⟩
  · have hB := big_any a len cap w
    rw [decide_eq_false hbig] at hB
    have hl : len ≤ 4096 := by omega
    go_enter Try.func5, Try.ntmps5
    go_wp2_with fail
    refine hB.mono ?_
    rintro e w0 ⟨rfl, hw0⟩
    have hv0 : BVec w0 a len bs := by rw [hw0]; exact hv
    have B0 : Below w.heap.size w w0 := by rw [hw0]; exact Below.refl _ _
    clear hw0 hB
    go_wp2_with fail
    refine (drawPast_any a len cap bs w0 hv0 hl).mono ?_
    rintro e w1 ⟨g, f, c, es, k, rfl, hes, hk0, hk1, ho1, hb1⟩
    have B1 : Below w.heap.size w w1 := B0.trans (hb1.mono B0.size)
    have hcap := ho1.le
    have hem : es.length ≤ maxLen := by unfold maxLen; omega
    have E1 : EvsAt w1 g f es.length es := ho1.at
    have KE : Hid (∀ X, Below w1.heap.size w1 X → EvsAt X g f es.length es) := fun X hX => evs_below E1 hX (Nat.le_refl _)
    clear hb1 ho1 hv0 B0
    go_wp2_with fail
    refine (implPast_any g f es.length c es k w1 E1 hem hcap (by omega)).mono ?_
    rintro e w2 ⟨gp, fp, cp, rfl, hgp, hp2, hb2⟩
    go_wp2_with fail
    refine (specPast_any g f es.length c es k w2 (KE.out w2 hb2) hem hcap (by omega)).mono ?_
    rintro e w3 ⟨gs, fs, cs, rfl, hgs, hs3, hb3⟩
    have hp3 := hp2.below hb3 hp2.blk
    have b13 : Below w1.heap.size w1 w3 := hb2.trans (hb3.mono hb2.size)
    have hfit := pastT_fits es es.length k
    have hlen := pastT_len es es.length k
    have hris := pastT_rises es es.length k
    have hmem : ∀ x, x ∈ pastT es es.length k → 0 ≤ x ∧ x < k := fun x hx => ⟨(pastT_lt hx).1, (pastT_lt hx).2.1⟩
    have htr : ∀ x z, x ∈ pastT es es.length k → z ∈ pastT es es.length x → z ∈ pastT es es.length k := fun x z hx hz => pastT_trans hx hz
    have hP := fun x X (hX : Below w1.heap.size w1 X) (hx : -9223372036854775808 ≤ x ∧ x ≤ 9223372036854775807) => implPast_any g f es.length c es x X (KE.out X hX) hem hcap hx
    have hAh := fun i j X (hX : Below w1.heap.size w1 X) => implAhead_any g f es.length c es i j X (KE.out X hX) hem hcap
    have KP : Hid (∀ x X (hX : Below w1.heap.size w1 X) (hx : -9223372036854775808 ≤ x ∧ x ≤ 9223372036854775807), Calls Try.prog 42 #[.slice (some ⟨g, f, none⟩) es.length c, .int .i64 x] X fun e w' => Ans X w' e (pastT es es.length x)) := hP
    have KA : Hid (∀ i j X (hX : Below w1.heap.size w1 X), Calls Try.prog 35 #[.slice (some ⟨g, f, none⟩) es.length c, .int .i64 i, .int .i64 j] X fun e w' => e = .returned (.bool (decide (i ∈ pastT es es.length j))) ∧ Below X.heap.size X w') := hAh
    have KM : Hid (∀ x, x ∈ pastT es es.length k → 0 ≤ x ∧ x < k) := hmem
    have KT : Hid (∀ x z, x ∈ pastT es es.length k → z ∈ pastT es es.length x → z ∈ pastT es es.length k) := htr
    clear hP hAh hmem htr hp2 hb2 hgp hgs E1
    generalize hPe : pastT es es.length k = P at *
    have HPe : Hid (pastT es es.length k = P) := hPe
    clear hPe
    go_wp2_with fail
    refine (like_any _ _ _ _ _ _ P P w3 (hp3.vec hfit) (hs3.vec hfit) (by unfold maxLen; omega)).mono ?_
    rintro e w4 ⟨rfl, n4, rfl⟩
    have hsame := sameB_self P
    go_wp2_with fail
    refine (rises_any gp fp P.length cp P (w3.drewN n4) rfl (fun j hj => (hp3.drewN n4).cellAt hj) (by omega) hris).mono ?_
    rintro e w5 ⟨rfl, n5, rfl⟩
    have hH5 := has_any gp fp P.length cp k P (w3.drewN (n4 + n5)) rfl (fun j hj => (hp3.drewN (n4 + n5)).cellAt hj) (by unfold maxLen; omega)
    rw [decide_eq_false (show k ∉ P from fun h => by have := KM.out k h; omega)] at hH5
    go_wp2_with fail
    refine hH5.mono ?_
    rintro e w6 ⟨rfl, hw6⟩
    have K6 : Hid (OI w6 gp fp P.length cp P) := by rw [Hid, hw6]; exact hp3.drewN (n4 + n5)
    have KB6 : Hid (Below w1.heap.size w1 w6) := by rw [Hid, hw6]; exact belowN (n := n4 + n5) b13
    clear hw6 hH5 hp3 hs3 hb3 b13 hris hsame
    go_wp2
    go_loopw [6] (fun i wr => ∃ q : Nat, q ≤ P.length ∧ i = .int .i64 q ∧ OI wr gp fp P.length cp P ∧ Below w1.heap.size w1 wr) (fun i _ => P.length - (intOf i).toNat)
    case atStart => exact ⟨0, Nat.zero_le _, rfl, K6.out, KB6.out⟩
    case round =>
      obtain ⟨q, hq, rfl, hown, hbel⟩ := hrel
      clear K6 KB6
      by_cases hlt : q < P.length
      · have cq := hown.cellAt hlt
        have hxm : el P q ∈ P := el_mem hlt
        generalize hx : el P q = x at *
        clear hx
        have hxr := KM.out x hxm
        have hq1 : (q : Int) < (P.length : Int) := by omega
        have KX : Hid (x ∈ P) := hxm
        go_wp2_with fail
        refine (KP.out x wr hbel (by omega)).mono ?_
        rintro e w7 ⟨gx, fx, cx, rfl, hgx, hx7, hb7⟩
        have hown7 := hown.below hb7 hown.blk
        have b7 : Below w1.heap.size w1 w7 := hbel.trans (hb7.mono hbel.size)
        have cq7 := hown7.cellAt hlt
        have hlx := pastT_len es es.length x
        have KTX : Hid (∀ z, z ∈ pastT es es.length x → z ∈ P) := fun z hz => KT.out x z KX.out hz
        have hA1 := KA.out x k w7 b7
        rw [HPe.out, decide_eq_true KX.out] at hA1
        have hcq : el P q = x := by
          have h1 := hown.cellAt hlt
          rw [cq] at h1
          simpa using h1.symm
        rw [hcq] at cq7
        clear hown hbel hb7 hgx hcq cq hxm
        go_wp2_with fail
        refine hA1.mono ?_
        rintro e w8 ⟨rfl, hb8⟩
        have hown8 := hown7.below hb8 hown7.blk
        have hx8 := hx7.below hb8 hx7.blk
        have b8 : Below w1.heap.size w1 w8 := b7.trans (hb8.mono b7.size)
        have cq8 := (hb8.cell (World.block_lt_of_cell? _ _ cq7)).trans cq7
        have hA2 := KA.out k x w8 b8
        rw [decide_eq_false (show k ∉ pastT es es.length x from fun h => by have := (pastT_lt h).2.1; omega)] at hA2
        clear hown7 hx7 b7 hb8 cq7 hA1
        go_wp2_with fail
        refine hA2.mono ?_
        rintro e w9 ⟨rfl, hb9⟩
        have K9 : Hid (OI w9 gp fp P.length cp P) := hown8.below hb9 hown8.blk
        have X9 : Hid (OI w9 gx fx (pastT es es.length x).length cx (pastT es es.length x)) := hx8.below hb9 hx8.blk
        have KB9 : Hid (Below w1.heap.size w1 w9) := b8.trans (hb9.mono b8.size)
        clear hown8 hx8 b8 hb9 cq8 hA2
        generalize hQ : pastT es es.length x = Q at *
        go_wp2
        go_loopw [8] (fun i wx => ∃ t : Nat, t ≤ Q.length ∧ i = .int .i64 t ∧ OI wx gp fp P.length cp P ∧ OI wx gx fx Q.length cx Q ∧ Below w1.heap.size w1 wx) (fun i _ => Q.length - (intOf i).toNat)
        case atStart => exact ⟨0, Nat.zero_le _, rfl, K9.out, X9.out, KB9.out⟩
        case round =>
          obtain ⟨t, ht, rfl, hp9, hx9, hb9⟩ := hrel
          clear K9 X9 KB9
          by_cases htl : t < Q.length
          · have ct := hx9.cellAt htl
            have hin := KTX.out (el Q t) (el_mem htl)
            have ht1 : (t : Int) < (Q.length : Int) := by omega
            have hHs := has_any gp fp P.length cp (el Q t) P wr rfl (fun j hj => hp9.cellAt hj) (by unfold maxLen; omega)
            rw [decide_eq_true hin] at hHs
            have Kp : Hid (OI wr gp fp P.length cp P) := hp9
            have Kx : Hid (OI wr gx fx Q.length cx Q) := hx9
            have Kb : Hid (Below w1.heap.size w1 wr) := hb9
            clear hp9 hx9 hb9 hin
            go_wp2_with fail
            refine hHs.mono ?_
            rintro e wz ⟨rfl, hwz⟩
            have Zp : Hid (OI wz gp fp P.length cp P) := by rw [Hid, hwz]; exact Kp.out
            have Zx : Hid (OI wz gx fx Q.length cx Q) := by rw [Hid, hwz]; exact Kx.out
            have Zb : Hid (Below w1.heap.size w1 wz) := by rw [Hid, hwz]; exact Kb.out
            clear hwz hHs ct
            go_wp2
            go_roundw
            case rel => exact ⟨t + 1, by omega, by go_num, Zp.out, Zx.out, Zb.out⟩
            case measure => simp [intOf]; omega
          · have Kp : Hid (OI wr gp fp P.length cp P) := hp9
            have Kb : Hid (Below w1.heap.size w1 wr) := hb9
            clear hp9 hx9 hb9
            go_wp2
            go_roundw
            case rel => exact ⟨q + 1, by omega, by go_num, Kp.out, Kb.out⟩
            case measure => simp [intOf]; omega
      · have Kb : Hid (Below w1.heap.size w1 wr) := hbel
        clear hown hbel
        go_wp2
        go_ret
        exact ⟨rfl, B1.trans (Kb.out.mono B1.size)⟩
end Go.Proofs.Ytehnnfpjdfffcaa
