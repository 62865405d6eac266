/-
  Texts in one: Mcg Tlr Tlt Mbo Rcy Mbc Mbf Olx Qtl Mbg Mbd Mbh Mcl Mcm Mcn Mco Mcp Mch Mbn Mcc Mbl Plo Mbi Mbj Mbz Mba Ear Mbr Mbb Mbe Rns Rwo Mca Sdk Dvo Rdk Drt Rdw Rdr Rds Mci Mcj Mck.
-/
import Derived.Test.YtgfeabgmllkdeaaJac
import Derived.Test.YtgfeabgmllkdeaaJaa
import Derived.Test.YtgfeabgmllkdeaaJab
import Derived.StillTail
import Derived.OrdersHeld
import Derived.Deep.RegionHeld
import Derived.Deep.Cut
import Derived.Deep.CutRange
import Derived.Deep.Quiet
import Derived.BigQuiet
import Derived.Deep.LoopGhost
import Derived.Deep.RegionHeld3
/-
  The laws' own szRowS and szMember.
-/
namespace Go.Proofs.Ytgfeabgmllkdeaa
set_option linter.unusedVariables false
set_option linter.unusedSimpArgs false
open Go.RowKit Go.Sort

/-- How much the first k rows hold. -/
def szP (R : List Rw) (k : Nat) : Nat := ((R.take k).map szRw).sum
theorem szP_next {R : List Rw} {k : Nat} (hk : k < R.length) : szP R (k + 1) = szP R k + szRw (rowN R k) := by
  have e : rowN R k = R[k] := by simp [rowN, List.getD, hk]
  unfold szP
  rw [List.take_succ_eq_append_getElem hk, List.map_append, List.sum_append, e]
  simp
def szRs (R : List Rw) : Nat := R.length + szP R R.length
/-- How much a member holds. -/
def szMb (m : Mb) : Nat := szRs m.rows + m.sung.length
set_option maxRecDepth 100000 in
set_option maxHeartbeats 3200000 in
theorem szRs_any (a : Option Addr) (cap : Nat) (R : List Rw) (left : Int) (w : World) (hv : Cel.vw w (lcl 8 rw8 R) (.slice a R.length cap)) (hf : ∀ r ∈ R, FitR r) (hlg : ∀ r ∈ R, LongT r.txt) (hm : R.length ≤ maxLen) (hl : 0 ≤ left ∧ left ≤ 1048576) :
    Calls Try.prog 68 #[.slice a R.length cap, .int .i64 left] w fun e w' => ∃ q : Int, e = .returned (.int .i64 q) ∧ (q = -1 ∨ 0 ≤ q ∧ q + (szRs R : Int) = left) ∧ Below w.heap.size w w' := by
  have HV : Hid (Cel.vw w (lcl 8 rw8 R) (.slice a R.length cap)) := hv
  unfold maxLen at hm
  have wl : wrap64 (left - (R.length : Int)) = left - (R.length : Int) := by unfold wrap64; omega
  clear hv
  by_cases h0 : left - (R.length : Int) < 0
  · go_enter Try.func68, Try.ntmps68
    go_wp2
    go_ret
    exact ⟨-1, rfl, .inl rfl, Below.refl _ _⟩
  · obtain ⟨l0, hl0⟩ : ∃ l0 : Int, Hid (left - (R.length : Int) = l0) := ⟨_, rfl⟩
    rw [hl0.out] at h0 wl
    go_enter Try.func68, Try.ntmps68
    have hl1 := hl0.out
    rw [← hl1] at wl h0
    go_wp2_with fail
    rw [hl1] at *
    clear hl1 wl
    go_loopw [1, 5] (fun lv v wr => ∃ (k : Nat) (l : Int), k ≤ R.length ∧ v = .int .i64 (k : Int) ∧ lv = .int .i64 l ∧ 0 ≤ l ∧ l ≤ 1048576 ∧ Hid (l + (szP R k : Int) = l0) ∧ Below w.heap.size w wr) (fun _ v _ => R.length - (intOf v).toNat)
    case atStart => exact ⟨0, l0, Nat.zero_le _, rfl, rfl, by omega, by have := hl0.out; omega, by simp [Hid, szP], Below.refl _ _⟩
    case round =>
      obtain ⟨k, l, hk, rfl, rfl, hlp, hlm, hS, hb⟩ := hrel
      by_cases hlt : k < R.length
      · have k1 : (k : Int) < (R.length : Int) := by omega
        have k0 : (0 : Int) ≤ (k : Int) := by omega
        have hmem : rowN R k ∈ R := rowN_mem hlt
        obtain ⟨g, off, hra, hpv⟩ := vw_elF rw8_len (Cel.vw_below HV.out hb) (k := k) (x := rowN R k) (by simp [rowN, List.getD, hlt])
        obtain ⟨Ak, ⟨⟨d0, d1, d2, d3⟩, d4, d5, d6, d7⟩, hrs⟩ := hpv.row (hf _ hmem)
        subst hra
        have hC := szRw_any Ak (rowN R k) l wr hrs (hlg _ hmem) ⟨hlp, hlm⟩
        unfold rwV rwC at hC
        have HN : Hid (szP R (k + 1) = szP R k + szRw (rowN R k)) := szP_next hlt
        have HB : Hid (Below w.heap.size w wr) := hb
        generalize rowN R k = r at *
        clear hrs hpv hb
        go_wp2_with fail
        refine hC.mono ?_
        rintro e w1 ⟨q, rfl, hq, hb1⟩
        have HB1 : Hid (Below w.heap.size w w1) := HB.out.trans (hb1.mono HB.out.size)
        clear d0 d1 d2 d3 d4 d5 d6 d7 hC hb1
        rcases hq with rfl | ⟨hq0, hq1⟩
        · go_wp2
          go_ret
          exact ⟨-1, rfl, .inl rfl, HB1.out⟩
        · have n1 : ¬ (q < 0) := by omega
          have HS2 : Hid (q + (szP R (k + 1) : Int) = l0) := by
            have h1 := HN.out
            have h2 := hS.out
            rw [Hid, h1]
            omega
          have hqm : q ≤ 1048576 := by omega
          clear hq1
          go_wp2
          go_roundw
          case rel => exact ⟨k + 1, q, by omega, by go_num, rfl, by omega, hqm, HS2, HB1.out⟩
          case measure => simp [intOf]; omega
      · have k1 : ¬ ((k : Int) < (R.length : Int)) := by omega
        have ek : k = R.length := by omega
        have HE : Hid (l + (szRs R : Int) = left) := by
          have h1 := hS.out
          have h2 := hl0.out
          rw [ek] at h1
          rw [Hid, szRs]
          omega
        have HB : Hid (Below w.heap.size w wr) := hb
        clear hb ek
        go_wp2
        go_ret
        exact ⟨l, rfl, .inr ⟨hlp, HE.out⟩, HB.out⟩
set_option maxRecDepth 100000 in
set_option maxHeartbeats 3200000 in
theorem szMb_any (A : Ma) (m : Mb) (left : Int) (w : World) (hv : MbS w A m) (hlg : ∀ r ∈ m.rows, LongT r.txt) (hl : 0 ≤ left ∧ left ≤ 1048576) :
    Calls Try.prog 27 #[mbV A m, .int .i64 left] w fun e w' => ∃ q : Int, e = .returned (.int .i64 q) ∧ (q = -1 ∨ 0 ≤ q ∧ q + (szMb m : Int) = left) ∧ Below w.heap.size w w' := by
  have hb := oneA16 w (.cells (mbC A m) 35)
  have hx := Bx.new w 35 (mbC A m)
  have hv0 := hv.below hb
  have hS := szRs_any A.ra A.rc m.rows left _ hv0.rows hv0.fit hlg hv0.mr hl
  have hms := hv.ms
  unfold mbV
  unfold mbC at *
  generalize hWW : w.alloc (.cells #[.int .i64 m.id, .int .i64 m.n, .slice A.ra m.rows.length A.rc, .slice A.sa m.sung.length A.sc, .bool m.done] 35) = W at *
  have c2 := (Bx.r5 hx).2.2.1
  have HX : Hid (Bx W w.heap.size 35 #[.int .i64 m.id, .int .i64 m.n, .slice A.ra m.rows.length A.rc, .slice A.sa m.sung.length A.sc, .bool m.done]) := hx
  have HB : Hid (Below w.heap.size w W) := hb
  clear hv hv0 hb hx
  go_enter Try.func27, Try.ntmps27
  go_wp2_with fail
  refine hS.mono ?_
  rintro e w1 ⟨q1, rfl, hq1, hb1⟩
  have HB1 : Hid (Below w.heap.size w w1) := HB.out.trans (hb1.mono HB.out.size)
  have c3 := (Bx.r5 (HX.out.below hb1)).2.2.2.1
  clear hS hb1 c2
  rcases hq1 with rfl | ⟨hq0, hq1⟩
  · go_wp2
    go_ret
    exact ⟨-1, rfl, .inl rfl, HB1.out⟩
  have n1 : ¬ (q1 < 0) := by omega
  have b1 : q1 ≤ 1048576 := by omega
  have HQ1 : Hid (q1 + (szRs m.rows : Int) = left) := hq1
  clear hq1
  have hs2 := szI14_any A.sa m.sung.length A.sc q1 w1 hms ⟨by omega, by omega⟩
  by_cases g2 : (m.sung.length : Int) ≤ q1
  rotate_left
  · rw [if_neg g2] at hs2
    go_wp2_with (go_at_call 69; refine hs2.mono ?_; rintro e w' ⟨rfl, hw'⟩; rw [hw']; clear hw')
    go_ret
    exact ⟨-1, rfl, .inl rfl, HB1.out⟩
  rw [if_pos g2] at hs2
  obtain ⟨q2, hq2⟩ : ∃ x : Int, q1 - (m.sung.length : Int) = x := ⟨_, rfl⟩
  rw [hq2] at hs2
  have n2 : ¬ (q2 < 0) := by omega
  have Hq2 : Hid (q1 - (m.sung.length : Int) = q2) := hq2
  clear hq2 g2
  go_wp2_with fail
  refine hs2.mono ?_
  rintro e w' ⟨rfl, hw'⟩
  rw [hw']
  clear hw' hs2
  go_wp2
  go_ret
  refine ⟨q2, rfl, .inr ⟨by omega, ?_⟩, HB1.out⟩
  have h1 := HQ1.out
  have h2 := Hq2.out
  rw [szMb]
  omega
end Go.Proofs.Ytgfeabgmllkdeaa

/-
  A region that draws its order and whose last store waits for all that reads: what reads may be taken first under a condition that the store need not keep; what hangs on no world at all may be taken first anyway.
-/
namespace Go.Proofs.Ytgfeabgmllkdeaa
set_option linter.unusedSimpArgs false
set_option linter.unusedVariables false
open Go.RowKit Go.Sort

section
variable {P : Program} {ops : Array Oper} {Q : Exit → Act → World → Prop} {md : Region.Mode} {S : World → Prop}
/-- Whatever order is picked from here on, and every operation but number z keeps S. -/
def wpAnyT (P : Program) (md : Region.Mode) (ops : Array Oper) (Q : Exit → Act → World → Prop) (S : World → Prop) (z : Nat) : Nat → Array Bool → Act → World → Prop
  | 0, listed, a, w => Region.ready md ops listed = [] ∧ Q .normal a w
  | fuel + 1, listed, a, w =>
    (Region.ready md ops listed = [] → Q .normal a w) ∧
    ∀ i ∈ Region.ready md ops listed, wpOp P ops Q i (fun a' w' => (i ≠ z → S w → S w') ∧ wpAnyT P md ops Q S z fuel (listed.setIfInBounds i true) a' w') a w
theorem wpAny_of_T {z : Nat} : ∀ (fuel : Nat) (listed : Array Bool) (a : Act) (w : World), wpAnyT P md ops Q S z fuel listed a w → wpAny P md ops Q fuel listed a w
  | 0, _, _, _, h => h
  | fuel + 1, _, _, _, h => ⟨h.1, fun i hi => wpOp_mono (fun a' w' h' => wpAny_of_T fuel _ a' w' h'.2) (h.2 i hi)⟩
/-- What reads, under S: number z waits for it. -/
theorem wpAnyT_first {i z : Nat} {oi : Oper} {v : Value} (hi : ops[i]? = some oi) (hsel : ∀ (j : Nat) (o : Oper) cs b, ops[j]? = some o → o.op ≠ .select cs b)
    (hQ : ∀ c a w, Q (.panic c) (a.put oi.dst v) w → Q (.panic c) a w) (hz : Region.waitsFor md ops z i = true) (hiz : i ≠ z) :
    ∀ (fuel : Nat) (listed : Array Bool) (a : Act) (w : World),
      (∀ j oj, ops[j]? = some oj → j ≠ i → listed.getD j true = false → (∀ e ∈ oj.after, Region.binds md e = true → e.on ≠ i) → oi.apart ops oj = true) →
      i ∈ Region.ready md ops listed → YieldsIf P ops S oi v a → S w →
      wpAnyT P md ops Q S z fuel (listed.setIfInBounds i true) (a.put oi.dst v) w → wpAnyT P md ops Q S z (fuel + 1) listed a w := by
  intro fuel
  induction fuel with
  | zero =>
    intro listed a w _ hr hy hS H
    refine ⟨fun h => (by rw [h] at hr; cases hr), fun j hj => ?_⟩
    by_cases hji : j = i
    · subst hji; exact hy.wpOp hi hS ⟨fun _ h => h, H⟩
    · have := ready_mono hj hji
      rw [H.1] at this
      cases this
  | succ fuel ih =>
    intro listed a w hfree hr hy hS H
    have hun := (mem_ready.1 hr).1
    refine ⟨fun h => (by rw [h] at hr; cases hr), fun j hj => ?_⟩
    by_cases hji : j = i
    · subst hji; exact hy.wpOp hi hS ⟨fun _ h => h, H⟩
    · obtain ⟨hjun, oj, hoj, hall⟩ := mem_ready.1 hj
      have hnot : ∀ e ∈ oj.after, Region.binds md e = true → e.on ≠ i := fun e he hb heq => by
        have h3 := hall e he hb
        rw [heq, getD_both hun] at h3
        cases h3
      have hjz : j ≠ z := fun e => by
        subst e
        obtain ⟨o', ho', e, he, hb, hon⟩ := Region.waitsFor_spec hz
        have : o' = oj := Option.some.inj (ho'.symm.trans hoj)
        subst this
        exact hnot e he hb hon
      have h1 := H.2 j (ready_mono hj hji)
      have h2 := wpOp_putIf hoj (hfree j oj hoj hji hjun hnot) (fun cs b => hsel i oi cs b hi) (fun cs b => hsel j oj cs b hoj) hQ hy h1
      have hfree' : ∀ k ok, ops[k]? = some ok → k ≠ i → (listed.setIfInBounds j true).getD k true = false →
          (∀ e ∈ ok.after, Region.binds md e = true → e.on ≠ i) → oi.apart ops ok = true := fun k ok hk hki hun hno => by
        refine hfree k ok hk hki ?_ hno
        by_cases hjk : j = k
        · subst hjk; exact hjun
        · rw [getD_set_ne true hjk] at hun; exact hun
      refine wpOp_mono (fun a' w' h3 => ⟨h3.2.1, ih (listed.setIfInBounds j true) a' w' hfree' (ready_mono hr (Ne.symm hji)) h3.1 (h3.2.1 hjz hS) ?_⟩) h2
      rw [Array.setIfInBounds_comm _ _ hji]
      exact h3.2.2
end

section
variable {P : Program} {l : List Oper} {Q : Exit → Act → World → Prop} {S : World → Prop}
/-- What a walk holds. -/
def GT (P : Program) (l : List Oper) (Q : Exit → Act → World → Prop) (S : World → Prop) (z fuel : Nat) (listed : Array Bool) (a : Act) (w : World) : Prop := wpAnyT P .any l.toArray Q S z fuel listed a w
theorem gt_begin {id : Nat} {a : Act} {w : World} (z : Nat) (hm : P.follows .mixedOrders = true) (hlen : (l.length == l.length) = true)
    (h : GT P l Q S z l.length (Array.replicate l.length false) a w.drew) : (Code.region id l.toArray true).wp P Q a w := by
  refine wp_region_any hm (wpAny_of_T (z := z) (S := S) _ _ _ _ ?_)
  unfold GT at h
  simpa using h
theorem gt_take {i z : Nat} {oi : Oper} {v : Value} {fuel : Nat} {listed : Array Bool} {a : Act} {w : World} (hi : l[i]? = some oi) (hs : Region.noSelect l.toArray = true)
    (hsk : (Region.waitsFor .any l.toArray z i && (i != z)) = true) (hf : Region.free .any l.toArray listed i = true) (hr : (Region.ready .any l.toArray listed).contains i = true)
    (hQ : ∀ c a w, Q (.panic c) (a.put oi.dst v) w → Q (.panic c) a w) (hy : YieldsIf P l.toArray S oi v a) (hS : S w)
    (h : GT P l Q S z fuel (listed.setIfInBounds i true) (a.put oi.dst v) w) : GT P l Q S z (fuel + 1) listed a w := by
  simp only [Bool.and_eq_true, bne_iff_ne] at hsk
  have hi' : l.toArray[i]? = some oi := by simpa using hi
  exact wpAnyT_first hi' (Region.noSelect_spec hs) hQ hsk.1 hsk.2 fuel listed a w (Region.free_spec hi' hf) (by simpa using hr) hy hS h
/-- One alone may come up, and it is not the last. -/
theorem gt_one {i z : Nat} {o : Oper} {fuel : Nat} {listed : Array Bool} {a : Act} {w : World} (hi : l[i]? = some o) (hr : Region.ready .any l.toArray listed = [i]) (hiz : (i != z) = true)
    (h : ∀ K' : Act → World → Prop, Shut (∀ a w, S w → (S w → GT P l Q S z fuel (listed.setIfInBounds i true) a w) → K' a w) → if Region.wanted o (yielded l.toArray a.tmps) = true then Oper.wp P o a w K' Q else K' (a.put o.dst undef) w) : GT P l Q S z (fuel + 1) listed a w := by
  have hi' : l.toArray[i]? = some o := by simpa using hi
  refine ⟨fun h0 => (by rw [hr] at h0; cases h0), fun j hj => ?_⟩
  rw [hr] at hj
  simp at hj
  subst hj
  exact wpOp_step hi' (fun K' hK => h K' (fun a w hS hW => hK a w ⟨fun _ _ => hS, hW hS⟩))
/-- The last one. -/
theorem gt_last {z : Nat} {o : Oper} {fuel : Nat} {listed : Array Bool} {a : Act} {w : World} (hi : l[z]? = some o) (hr : Region.ready .any l.toArray listed = [z]) (hr2 : Region.ready .any l.toArray (listed.setIfInBounds z true) = [])
    (h : ∀ K' : Act → World → Prop, Shut (∀ a w, Q .normal a w → K' a w) → if Region.wanted o (yielded l.toArray a.tmps) = true then Oper.wp P o a w K' Q else K' (a.put o.dst undef) w) : GT P l Q S z (fuel + 1) listed a w := by
  have hi' : l.toArray[z]? = some o := by simpa using hi
  refine ⟨fun h0 => (by rw [hr] at h0; cases h0), fun j hj => ?_⟩
  rw [hr] at hj
  simp at hj
  subst hj
  refine wpOp_step hi' (fun K' hK => h K' (fun a w hq => hK a w ⟨fun h => absurd rfl h, ?_⟩))
  cases fuel with
  | zero => exact ⟨hr2, hq⟩
  | succ f => exact ⟨fun _ => hq, by rw [hr2]; simp⟩
end
end Go.Proofs.Ytgfeabgmllkdeaa

/-
  More steps of the text Tlr's machine: two operations may come up; a region in which every operation keeps S; an append under a guard.
-/
namespace Go.Proofs.Ytgfeabgmllkdeaa
set_option linter.unusedVariables false
set_option linter.unusedSimpArgs false
open Go.RowKit Go.Sort

section
variable {P : Program} {l : List Oper} {Q : Exit → Act → World → Prop} {S : World → Prop}
end
section
variable {P : Program} {ops : Array Oper} {Q : Exit → Act → World → Prop} {md : Region.Mode} {S : World → Prop}
end
section
variable {P : Program} {l : List Oper} {Q : Exit → Act → World → Prop} {S : World → Prop}
end
end Go.Proofs.Ytgfeabgmllkdeaa

/-
  A member under way in a box of its own: a row is appended; the answer.
-/
namespace Go.Proofs.Ytgfeabgmllkdeaa
set_option linter.unusedVariables false
set_option linter.unusedSimpArgs false
open Go.RowKit Go.Sort

theorem mixed17 : Try.prog.follows .mixedOrders = true := by kernel_rfl
theorem owL_v {w : World} {x : Value} {cs : List Cel} {us : List Value} {f : Fp} (h : owL w cs us f) : owL w (.v x :: cs) (x :: us) f := ⟨x, us, fun _ => False, f, rfl, ⟨rfl, fun _ h => h⟩, h, fun _ h => absurd h id, fun b => by simp⟩
theorem owL_v' {w : World} {x : Value} {cs : List Cel} {us : List Value} {f : Fp} (h : owL w (.v x :: cs) us f) : ∃ us', us = x :: us' ∧ owL w cs us' f := by
  obtain ⟨u, us', f1, f2, rfl, ⟨rfl, h1⟩, h2, hd, hf⟩ := h
  exact ⟨us', rfl, owL_congr h2 (fun b => (hf b).trans ⟨fun h => h.elim (fun h => absurd h (h1 b)) id, .inr⟩)⟩
/-- The four lists of a row and its eight cells are the same thing. -/
theorem ow_rw8 {w : World} {A : Ra} {r : Rw} {f : Fp} (h : owL w (rwCels r) (rwVals A r) f) : owL w (rw8 r) (rwC A r).toList f := by
  obtain ⟨u1, us1, f1, g1, e1, o1, h2, d1, i1⟩ := h
  cases e1
  obtain ⟨u2, us2, f2, g2, e2, o2, h3, d2, i2⟩ := h2
  cases e2
  obtain ⟨u3, us3, f3, g3, e3, o3, h4, d3, i3⟩ := h3
  cases e3
  exact owL_v ⟨_, _, f1, g1, rfl, o1, ⟨_, _, f2, g2, rfl, o2, ⟨_, _, f3, g3, rfl, o3, owL_v (owL_v (owL_v h4)), d3, i3⟩, d2, i2⟩, d1, i1⟩
theorem rw8_ow {w : World} {r : Rw} {us : List Value} {f : Fp} (h : owL w (rw8 r) us f) : ∃ A : Ra, us = (rwC A r).toList ∧ owL w (rwCels r) (rwVals A r) f := by
  obtain ⟨us0, rfl, hq0⟩ := owL_v' h
  obtain ⟨u1, us1, f1, g1, rfl, o1, h2, d1, i1⟩ := hq0
  obtain ⟨u2, us2, f2, g2, rfl, o2, h3, d2, i2⟩ := h2
  obtain ⟨u3, us3, f3, g3, rfl, o3, h4, d3, i3⟩ := h3
  obtain ⟨us4, rfl, hq4⟩ := owL_v' h4
  obtain ⟨us5, rfl, hq5⟩ := owL_v' hq4
  obtain ⟨us6, rfl, hq6⟩ := owL_v' hq5
  obtain ⟨u7, us7, f7, g7, rfl, o7, ⟨rfl, h8⟩, d7, i7⟩ := hq6
  obtain ⟨ta, tc, _, rfl, _⟩ := ow_scl.1 o1
  obtain ⟨ga, gc, _, rfl, _⟩ := ow_icl.1 o2
  obtain ⟨sa, sc, _, rfl, _⟩ := ow_icl.1 o3
  obtain ⟨ma, mc, _, rfl, _⟩ := ow_icl.1 o7
  exact ⟨⟨ta, tc, ga, gc, sa, sc, ma, mc⟩, rfl, ⟨_, _, f1, g1, rfl, o1, ⟨_, _, f2, g2, rfl, o2, ⟨_, _, f3, g3, rfl, o3, ⟨_, _, f7, g7, rfl, o7, ⟨rfl, h8⟩, d7, i7⟩, d3, i3⟩, d2, i2⟩, d1, i1⟩⟩
/-- A member as an answer, in memory of its own. -/
def AnsMb (w w' : World) (e : Ending) (m : Mb) : Prop := ∃ A : Ma, e = .returned (mbV A m) ∧ NewL w w' (mbCels m) (mbVals A m)
theorem wrt5 (w : World) (g : Nat) {a b c d e : Value} : Wrt (fun x => x = g) w (((((w.setCell ⟨g, 0, none⟩ a).setCell ⟨g, 1, none⟩ b).setCell ⟨g, 2, none⟩ c).setCell ⟨g, 3, none⟩ d).setCell ⟨g, 4, none⟩ e) :=
  ((((Wrt.set w g 0 a).trans (Wrt.set _ g 1 b) (fun _ _ h => h)).trans (Wrt.set _ g 2 c) (fun _ _ h => h)).trans (Wrt.set _ g 3 d) (fun _ _ h => h)).trans (Wrt.set _ g 4 e) (fun _ _ h => h)
theorem Bx.f5 {w : World} {B : Nat} {T : TypeId} {cs : Array Value} (h : Bx w B T cs) : w.frozen? ⟨B, 0, none⟩ = false ∧ w.frozen? ⟨B, 1, none⟩ = false ∧ w.frozen? ⟨B, 2, none⟩ = false ∧ w.frozen? ⟨B, 3, none⟩ = false ∧ w.frozen? ⟨B, 4, none⟩ = false := ⟨h.f 0, h.f 1, h.f 2, h.f 3, h.f 4⟩
end Go.Proofs.Ytgfeabgmllkdeaa

/-
  The specification's l16Copy.
-/
namespace Go.Proofs.Ytgfeabgmllkdeaa
set_option linter.unusedVariables false
set_option linter.unusedSimpArgs false
open Go.RowKit Go.Sort

attribute [local irreducible] sv
end Go.Proofs.Ytgfeabgmllkdeaa

/-
  The specification's l17Copy; what a right member is small enough for.
-/
namespace Go.Proofs.Ytgfeabgmllkdeaa
set_option linter.unusedVariables false
set_option linter.unusedSimpArgs false
open Go.RowKit Go.Sort

theorem pair_len {hi : Int} : ∀ {l : List Int} {lo : Int}, l.Pairwise (· < ·) → (∀ x ∈ l, lo ≤ x ∧ x < hi) → (l.length : Int) ≤ max 0 (hi - lo)
  | [], lo, _, _ => by simp; omega
  | x :: l, lo, hp, h => by
    have h1 := List.pairwise_cons.1 hp
    have hx := h x List.mem_cons_self
    have := pair_len (lo := x + 1) h1.2 (fun y hy => ⟨by have := h1.1 y hy; omega, (h y (List.mem_cons_of_mem _ hy)).2⟩)
    simp only [List.length_cons]
    omega
theorem OkR.sl {r : Rw} {n : Nat} (h : OkR r n) : r.sus.length ≤ n := by
  have := pair_len (lo := 0) (hi := (n : Int)) (ris_iff.1 h.ris) h.sus
  omega
theorem OkR.ml {r : Rw} {n : Nat} (h : OkR r n) : r.trm.length ≤ n := by
  cases e : r.rdy with
  | true => have := (h.rdy e).2.2.2.1; omega
  | false => rw [(h.not e).2]; simp
theorem OkM.rowOk {m : Mb} {i n : Nat} (h : OkM m i n) : ∀ r ∈ m.rows, OkR r n := by
  intro r hr
  obtain ⟨j, hj, rfl⟩ := List.mem_iff_getElem.1 hr
  have := h.ok j (by rw [← h.len]; exact hj)
  simpa [rowN, List.getD, hj] using this
end Go.Proofs.Ytgfeabgmllkdeaa

/-
  A member that is worked on through a pointer: its own cells, its rows, one field of one row.
-/
namespace Go.Proofs.Ytgfeabgmllkdeaa
set_option linter.unusedVariables false
set_option linter.unusedSimpArgs false
open Go.RowKit Go.Sort

theorem OkR.fit {r : Rw} {n : Nat} (h : OkR r n) : FitR r := by
  have h5 := h.n5
  have ok : ∀ v, okB v = true → Fits v := fun v h1 x hx => by
    simp only [okB, Bool.and_eq_true, decide_eq_true_eq, List.all_eq_true] at h1
    have := inB7.1 (h1.2 x hx)
    omega
  refine ⟨ok _ h.got, fun x hx => by have := h.sus x hx; omega, ?_⟩
  cases e : r.rdy with
  | true => exact ok _ (h.rdy e).2.2.1
  | false => rw [(h.not e).2]; exact fun x hx => absurd hx List.not_mem_nil
theorem OkM.fit {m : Mb} {i n : Nat} (h : OkM m i n) : FitM m := ⟨fun r hr => (h.rowOk r hr).fit, fun x hx => by
  obtain ⟨j, hj, rfl⟩ := List.mem_iff_getElem.1 hx
  have := (h.sg j hj).1
  simp [el, hj] at this
  omega⟩
end Go.Proofs.Ytgfeabgmllkdeaa

/-
  Lists of one's own: one element more, one element anew (general).
-/
namespace Go.Proofs.Ytgfeabgmllkdeaa
set_option linter.unusedVariables false
set_option linter.unusedSimpArgs false
open Go.RowKit Go.Sort

/-- A text more. -/
theorem ow_txt_app {w : World} {u : Value} {T : List (List UInt8)} {f : Fp} (t : List UInt8) (h : Cel.ow w (scl T) u f) (hl : T.length ≤ 1000000) : ∃ a c, u = .slice a T.length c ∧ ∀ Y, Same Y (w.alloc (.cells #[.string (sv t)] 9)) →
    ∃ v' w4, (Builtin.append_ #[50, 50] 50 #[u, .slice (some ⟨w.heap.size, 0, none⟩) 1 1]).run Try.prog Y = .ok v' w4 ∧ ∃ a' c' f', v' = .slice a' (T.length + 1) c' ∧ Cel.ow w4 (scl (T ++ [t])) v' f' ∧ (∀ b, f' b → f b ∨ w.heap.size ≤ b) ∧ Wrt f w w4 := by
  obtain ⟨i0, hi0, hz0, hz1, hz2⟩ := info_parts9 Try.info9
  have h' := h
  obtain ⟨a, c, G, rfl, ho, hf⟩ := ow_scl.1 h'
  refine ⟨a, c, rfl, fun Y hY => ?_⟩
  have hbY : Below w.heap.size w Y := (oneA16 w _).trans (hY.below.mono (oneA16 w _).size)
  have hlt := Cel.ow_lt h
  obtain ⟨a', c', w4, fp', k1, k2, k3, k4⟩ := ow_push (P := Try.prog) (w := Y) 50 50 9 i0 _ 1 16 Try.underlying50 hi0 hz0 hz1 hz2 rfl (by omega) (Cel.ow_below h hbY) (owL_pl (vs := [.string (sv t)]).2 ⟨rfl, fun (b : Nat) (h : False) => h⟩ : owL Y (pl [.string (sv t)]) [.string (sv t)] (fun _ => False)) (fun _ _ h => h) rfl (by intro u hu; simp at hu; rw [hu]; rfl) w.heap.size 9 (by rw [hY.heap]; exact heap_alloc_new w _) (by unfold maxLen; omega) (by omega)
  refine ⟨_, w4, k1, a', c', fp', rfl, ?_, fun b hb => ?_, (Wrt.of_below (f := f) hbY).trans k3 (fun _ _ h => h)⟩
  · have e : scl (T ++ [t]) = .sl 1 (T.length + 1) (pl (svs T) ++ pl [.string (sv t)]) := by simp [scl, svs, pl]
    rw [e]
    exact k2
  · rcases k4 b hb with k | k | k
    · exact .inl k
    · exact k.elim
    · exact .inr (by have := hbY.size; omega)
end Go.Proofs.Ytgfeabgmllkdeaa

/-
  A region that draws its order, whose last operations (a store, say) come up in one order alone and whose others only read or call what only reads or lays blocks of its own: one walk in the order of the text serves every order.
-/
namespace Go.Proofs.Ytgfeabgmllkdeaa
set_option linter.unusedSimpArgs false
set_option linter.unusedVariables false
open Go.RowKit Go.Sort

section
variable {P : Program} {ops : Array Oper} {md : Region.Mode} {C : World → Prop}
/-- The head of the region in whatever order, each operation quiet in the class; L: what holds where the head is done. -/
def HeadQ (P : Program) (md : Region.Mode) (ops : Array Oper) (C : World → Prop) (n : Nat) (L : Array Bool → Act → Prop) : Nat → Array Bool → Act → Prop
  | 0, listed, a => L listed a
  | f + 1, listed, a => Region.ready md ops listed ≠ [] ∧ ∀ i ∈ Region.ready md ops listed, i < n ∧ qOp P ops C i (HeadQ P md ops C n L f (listed.setIfInBounds i true)) a
theorem any_of_headQ {n g : Nat} {L : Array Bool → Act → Prop} {Q : Exit → Act → World → Prop} (hL : ∀ listed a w, C w → L listed a → wpAny P md ops Q g listed a w) (f : Nat) :
    ∀ (listed : Array Bool) (a : Act) (w : World), C w → HeadQ P md ops C n L f listed a → wpAny P md ops Q (f + g) listed a w := by
  induction f with
  | zero => intro listed a w hw h; rw [Nat.zero_add]; exact hL _ _ _ hw h
  | succ f ih =>
    intro listed a w hw h
    rw [show f + 1 + g = (f + g) + 1 by omega]
    exact ⟨fun h0 => absurd h0 h.1, fun i hi => wpOp_of_qOp hw (fun a' w' hw' h' => ih _ a' w' hw' h') (h.2 i hi).2⟩
theorem headQ_first {n i : Nat} {oi : Oper} {v : Value} {L : Array Bool → Act → Prop} (hi : ops[i]? = some oi) (hsel : ∀ (j : Nat) (o : Oper) cs b, ops[j]? = some o → o.op ≠ .select cs b)
    (hs : Region.sinkB md ops n = true) (hc : Region.chainB md ops n = true) (hn : n < ops.size) (hin : i < n) (hdone : ∀ listed a, L listed a → ∀ j ∈ Region.ready md ops listed, n ≤ j) (f : Nat) :
    ∀ (listed : Array Bool) (a : Act), HeadInv md ops n listed →
      (∀ j oj, ops[j]? = some oj → j ≠ i → listed.getD j true = false → (∀ e ∈ oj.after, Region.binds md e = true → e.on ≠ i) → oi.apart ops oj = true) →
      i ∈ Region.ready md ops listed → YieldsIn P ops C oi v a →
      HeadQ P md ops C n L f (listed.setIfInBounds i true) (a.put oi.dst v) → HeadQ P md ops C n L (f + 1) listed a := by
  induction f with
  | zero =>
    intro listed a inv _ hr hy H
    have hun := (mem_ready.1 hr).1
    refine ⟨fun h => (by rw [h] at hr; cases hr), fun j hj => ?_⟩
    have hjn : j < n := Nat.lt_of_not_le fun h => absurd hj (tail_waits hs hc hn inv _ i rfl hin hun j h)
    refine ⟨hjn, ?_⟩
    by_cases hji : j = i
    · subst hji; exact hy.qOp hi H
    · have := hdone _ _ H j (ready_mono hj hji)
      omega
  | succ f ih =>
    intro listed a inv hfree hr hy H
    have hun := (mem_ready.1 hr).1
    refine ⟨fun h => (by rw [h] at hr; cases hr), fun j hj => ?_⟩
    have hjn : j < n := Nat.lt_of_not_le fun h => absurd hj (tail_waits hs hc hn inv _ i rfl hin hun j h)
    refine ⟨hjn, ?_⟩
    by_cases hji : j = i
    · subst hji; exact hy.qOp hi H
    · have h1 := (H.2 j (ready_mono hj hji)).2
      obtain ⟨hjun, oj, hoj, hall⟩ := mem_ready.1 hj
      have hnot : ∀ e ∈ oj.after, Region.binds md e = true → e.on ≠ i := fun e he hb heq => by
        have h3 := hall e he hb
        rw [heq, getD_both hun] at h3
        cases h3
      have h2 := qOp_put hoj (hfree j oj hoj hji hjun hnot) (fun cs b => hsel i oi cs b hi) (fun cs b => hsel j oj cs b hoj) hy h1
      refine qOp_mono (fun a' h3 => ih (listed.setIfInBounds j true) a' (inv.set hj hjn) (fun k ok hk hki hu hno => hfree k ok hk hki ?_ hno) (ready_mono hr (Ne.symm hji)) h3.1 ?_) h2
      · by_cases hjk : j = k
        · subst hjk; exact hjun
        · rw [getD_set_ne true hjk] at hu; exact hu
      · rw [Array.setIfInBounds_comm _ _ hji]
        exact h3.2
theorem headQ_lex {n g : Nat} {Lq : Act → Prop} (hsel : Region.noSelect ops = true) (hs : Region.sinkB md ops n = true) (hc : Region.chainB md ops n = true) (hn : n < ops.size) :
    ∀ (l : List Oper) (k : Nat) (listed : Array Bool) (a : Act), (∀ j, j < l.length → l[j]? = ops[k + j]?) → k + l.length = n → HeadInv md ops n listed →
    Region.lexHead md ops g l.length k listed = true → wpQuiet P ops C Lq l a → HeadQ P md ops C n (fun listed' a' => Region.seqB md ops g n listed' = true ∧ Lq a') l.length listed a
  | [], k, listed, a, _, hk, _, hB, h => by
    have : k = n := by simpa using hk
    subst this
    exact ⟨by simpa [Region.lexHead] using hB, h⟩
  | o :: l, k, listed, a, hl, hk, inv, hB, h => by
    have h0 : ops[k]? = some o := by simpa using (hl 0 (by simp)).symm
    simp only [List.length_cons, Region.lexHead, Bool.and_eq_true] at hB
    obtain ⟨⟨hr, hf⟩, hB'⟩ := hB
    have hkn : k < n := by simp only [List.length_cons] at hk; omega
    have hr' : k ∈ Region.ready md ops listed := by simpa using hr
    have hst : qOp P ops C k (wpQuiet P ops C Lq l) a := by unfold qOp; simp only [h0]; exact h
    obtain ⟨v, hy, hK⟩ := yieldsIn_of_qOp h0 hst
    exact headQ_first h0 (Region.noSelect_spec hsel) hs hc hn hkn (fun listed' a' hL => seqB_ready hL.1) l.length listed a inv (Region.free_spec h0 hf) hr' hy
      (headQ_lex hsel hs hc hn l (k + 1) _ _ (fun j hj => by have := hl (j + 1) (by simp; omega); simpa [Nat.add_assoc, Nat.add_comm 1 j] using this) (by simp only [List.length_cons] at hk; omega) (inv.set hr' hkn) hB' hK)
end
/-- The law: the first n operations quiet in the class, the rest in their order. -/
theorem wp_region_quiet_tail {P : Program} {C : World → Prop} {id : Nat} {Q : Exit → Act → World → Prop} {a : Act} {w : World} {l : List Oper} (n : Nat) (hm : P.follows .mixedOrders = true) (hB : Region.lexTailB .any l.toArray n = true) (hC : C (w.drewN 1))
    (h : wpQuiet P l.toArray C (fun a' => ∀ w', C w' → wpList P l.toArray Q (l.drop n) a' w') (l.take n) a) : (Code.region id l.toArray true).wp P Q a w := by
  simp only [Region.lexTailB, Bool.and_eq_true, decide_eq_true_eq] at hB
  obtain ⟨⟨⟨⟨hsel, hn⟩, hs⟩, hc⟩, hlex⟩ := hB
  have htl : (l.take n).length = n := by have : n < l.length := by simpa using hn
                                         simp; omega
  have hdl : (l.drop n).length = l.toArray.size - n := by simp
  have inv0 : HeadInv .any l.toArray n (Array.replicate l.toArray.size false) :=
    ⟨by simp, fun j oj _ hl => (by rw [getD_replicate_false] at hl; cases hl), fun t _ ht => getD_in (by simpa using ht) (getD_replicate_false _ _)⟩
  have H := headQ_lex (md := .any) (g := l.toArray.size - n) hsel hs hc hn (l.take n) 0 _ a (fun j hj => by
    have hj' : j < n := by rw [htl] at hj; exact hj
    simp [hj']) (by simpa using htl) inv0 (by rw [htl]; exact hlex) h
  refine wp_region_any hm ?_
  have := any_of_headQ (C := C) (Q := Q) (g := l.toArray.size - n) (fun listed a' w' hw' hL => by
    have := wpAny_of_seq (md := .any) (Q' := Q) (l.drop n) n listed a' w' (fun j => by simp [List.getElem?_drop]) (by rw [hdl]; exact hL.1) (hL.2 w' hw')
    rwa [hdl] at this) _ _ _ (w.drewN 1) hC H
  rw [htl, show n + (l.toArray.size - n) = l.toArray.size by have : n < l.toArray.size := hn; omega] at this
  exact this
end Go.Proofs.Ytgfeabgmllkdeaa

/-
  The specification's l17Say.
-/
namespace Go.Proofs.Ytgfeabgmllkdeaa
set_option linter.unusedVariables false
set_option linter.unusedSimpArgs false
open Go.RowKit Go.Sort

attribute [local irreducible] sv
end Go.Proofs.Ytgfeabgmllkdeaa

/-
  The specification's l17Doubt.
-/
namespace Go.Proofs.Ytgfeabgmllkdeaa
set_option linter.unusedVariables false
set_option linter.unusedSimpArgs false
open Go.RowKit Go.Sort

end Go.Proofs.Ytgfeabgmllkdeaa

/-
  A whole row is stored; the specification's l17Heard.
-/
namespace Go.Proofs.Ytgfeabgmllkdeaa
set_option linter.unusedVariables false
set_option linter.unusedSimpArgs false
open Go.RowKit Go.Sort

theorem Wrt.setCells (g : Nat) : ∀ (vs : List Value) (o : Nat) (w : World), Wrt (fun b => b = g) w (w.setCells g o vs)
  | [], o, w => Wrt.refl _ _
  | v :: vs, o, w => (Wrt.set w g o v).trans (Wrt.setCells g vs (o + 1) _) (fun _ _ h => h)
theorem frz_setCells (g : Nat) : ∀ (vs : List Value) (o : Nat) (w : World) (x : Addr), (w.setCells g o vs).frozen? x = w.frozen? x
  | [], o, w, x => rfl
  | v :: vs, o, w, x => by rw [World.setCells, frz_setCells g vs (o + 1), World.frozen?_setCell]
/-- The whole place becomes another thing, in new memory. -/
theorem Plc.all {w w1 : World} {B o : Nat} {cs cs' : List Cel} {fp f' : Fp} {vs' : List Value} (h : Plc w B o cs fp) (hb : Below w.heap.size w w1) (h' : owL w1 cs' vs' f') (hl : cs'.length = cs.length) (hf : ∀ b, f' b → w.heap.size ≤ b) : Bcm w (w1.setCells B o vs') B o cs' fp := by
  obtain ⟨vs, h1, h2, h3⟩ := h
  have e := hb.block B h1.lt
  have hP1 := h1.of_block e hb.size
  have hlen := owL_len h2
  have hlen' := owL_len h'
  have hw := Wrt.setCells B vs' o w1
  have hlt := h1.lt
  have hf'B : ¬ f' B := fun k => by have := hf B k; omega
  have hsome : ∀ j, j < vs'.length → (w1.cell? ⟨B, o + j, none⟩).isSome = true := fun j hj => by
    rw [hP1.cell j (by omega), List.getElem?_eq_getElem (by omega)]
    rfl
  refine ⟨⟨f', ⟨vs', ⟨fun j hj => ?_, fun j hj => ?_, Nat.lt_of_lt_of_le hP1.lt hw.size⟩, owL_wrt h' hw (fun b hb' e' => hf'B (e' ▸ hb')), hf'B⟩, fun b hb' => .inr (hf b hb')⟩, fun j hj => ?_, fun j => ?_, ?_⟩
  · rw [World.cell?_setCells_in B vs' o w1 hsome j hj, List.getElem?_eq_getElem hj]
  · rw [frz_setCells]; exact hP1.free j (by omega)
  · rw [World.cell?_setCells_out B vs' o w1 _ (fun _ _ => by simp only; omega)]
    exact World.cell?_of_block e
  · rw [frz_setCells]; simp only [World.frozen?, e]
  · exact (Wrt.of_below (f := fun b => fp b ∨ b = B) hb).trans hw (fun b _ k => .inr k)
end Go.Proofs.Ytgfeabgmllkdeaa

/-
  The laws' own toRowS and toMember.
-/
namespace Go.Proofs.Ytgfeabgmllkdeaa
set_option linter.unusedVariables false
set_option linter.unusedSimpArgs false
open Go.RowKit Go.Sort

theorem infoRow17 : (Try.prog.info? 55).map (fun i => (i.zero, i.size, i.bytes)) = some (some (.agg zero8), 8, 120) := by kernel_rfl
theorem make_rs (n : Nat) (hn : n ≤ 1048576) (w : World) :
    (Instr.makeSlice 38 (.int .i64 (n : Int)) (.int .i64 (n : Int))).run Try.prog w = .ok (.slice (some ⟨w.heap.size, 0, none⟩) n n) (w.alloc (.cells (madeCells zero8 (n * 8)) 55)) := by
  obtain ⟨i, hi, hz, hs, hb⟩ := info_parts2n infoRow17
  have hr := run_make (P := Try.prog) w 38 55 i _ Try.underlying38 hi hz .i64 .i64 n n (by omega) (Int.le_refl _) (by rw [hb]; omega) (by omega)
  simp only [Int.toNat_natCast, hs] at hr
  exact hr
theorem flat_rep {α : Type} (F : α → List Cel) (x : α) : ∀ n, (List.replicate n x).flatMap F = (List.replicate n (F x)).flatten
  | 0 => rfl
  | n + 1 => by rw [List.replicate_succ, List.replicate_succ, List.flatMap_cons, List.flatten_cons, flat_rep F x n]
theorem ow_zero8 (w : World) : owL w (rw8 zeroRw) zero8.toList (fun _ => False) := by
  have h : owL w (rwCels zeroRw) (rwVals ⟨none, 0, none, 0, none, 0, none, 0⟩ zeroRw) (fun _ => False) := owL_congr (owL4 (ow_none_s w) (ow_none_i w) (ow_none_i w) (ow_none_i w) (fun _ h => h.elim) (fun _ h => h.elim) (fun _ h => h.elim)) (fun b => by simp)
  exact ow_rw8 h
/-- A list of rows as it is made. -/
theorem rows_made (w : World) (n : Nat) (hn : n ≤ 1048576) : Cel.ow (w.alloc (.cells (madeCells zero8 (n * 8)) 55)) (lcl 8 rw8 (List.replicate n zeroRw)) (.slice (some ⟨w.heap.size, 0, none⟩) n n) (fun b => b = w.heap.size) := by
  have h := osl_made w zero8 8 n 55 rfl (by omega) (by unfold maxLen; omega)
  unfold lcl
  rw [flat_rep, List.length_replicate]
  exact ⟨_, n, _, some w.heap.size, fun _ => False, rfl, OSo.of h, owL_zeros (ow_zero8 _) (fun b h => h) n, fun _ _ h => h, fun b => by simp [eq_comm]⟩
/-- The first k rows, zeros behind. -/
def prR (R : List Rw) (k : Nat) : List Rw := R.take k ++ List.replicate (R.length - k) zeroRw
theorem prR_len {R : List Rw} {k : Nat} (hk : k ≤ R.length) : (prR R k).length = R.length := by simp [prR]; omega
theorem prR_at {R : List Rw} {k : Nat} (hk : k < R.length) : (prR R k)[k]? = some zeroRw := by
  have e2 : R.length - k = (R.length - (k + 1)) + 1 := by omega
  have e3 : (R.take k).length = k := by simp; omega
  rw [prR, List.getElem?_append_right (by omega), e2, List.replicate_succ, e3, Nat.sub_self]
  rfl
theorem prR_set {R : List Rw} {k : Nat} (hk : k < R.length) : (prR R k).set k (rowN R k) = prR R (k + 1) := by
  have e : rowN R k = R[k] := by simp [rowN, List.getD, hk]
  have e2 : R.length - k = (R.length - (k + 1)) + 1 := by omega
  have e3 : (R.take k).length = k := by simp; omega
  rw [prR, prR, e, e2, List.replicate_succ, List.set_append_right _ _ (by omega), List.take_succ_eq_append_getElem hk, e3, Nat.sub_self, List.set_cons_zero, List.append_assoc]
  rfl
theorem szP_mono (R : List Rw) {a b : Nat} (h : a ≤ b) : szP R a ≤ szP R b := by
  unfold szP
  obtain ⟨c, rfl⟩ := Nat.exists_eq_add_of_le h
  rw [List.take_add, List.map_append, List.sum_append]
  omega
theorem prR_all (R : List Rw) : prR R R.length = R := by simp [prR]
set_option maxRecDepth 100000 in
set_option maxHeartbeats 3200000 in
theorem toRs_any (a : Option Addr) (cap : Nat) (R : List Rw) (w : World) (hv : Cel.vw w (lcl 8 rw8 R) (.slice a R.length cap)) (hf : ∀ r ∈ R, FitR r) (hs : szRs R ≤ 1048576) :
    Calls Try.prog 73 #[.slice a R.length cap] w fun e w' => ∃ a' c', e = .returned (.slice a' R.length c') ∧ NewO w w' (lcl 8 rw8 R) (.slice a' R.length c') := by
  have HV : Hid (Cel.vw w (lcl 8 rw8 R) (.slice a R.length cap)) := hv
  have hl : R.length ≤ 1048576 := by unfold szRs at hs; omega
  have HSZ : Hid (∀ k, k < R.length → szRw (rowN R k) ≤ 1048576) := fun k hk => by
    have h1 : szP R (k + 1) ≤ szP R R.length := szP_mono R (by omega)
    rw [szP_next hk] at h1
    unfold szRs at hs
    omega
  have hmk := make_rs R.length hl
  have HS : Hid (Cel.ow (w.alloc (.cells (madeCells zero8 (R.length * 8)) 55)) (lcl 8 rw8 (prR R 0)) (.slice (some ⟨w.heap.size, 0, none⟩) R.length R.length) (fun b => b = w.heap.size) ∧ Below w.heap.size w (w.alloc (.cells (madeCells zero8 (R.length * 8)) 55))) := by
    refine ⟨?_, oneA16 w _⟩
    have := rows_made w R.length hl
    have e : prR R 0 = List.replicate R.length zeroRw := by simp [prR]
    rw [e]
    exact this
  clear hv
  go_enter Try.func73, Try.ntmps73
  go_wp2_with fail
  clear hmk
  generalize w.alloc (.cells (madeCells zero8 (R.length * 8)) 55) = W0 at *
  go_loopw [4] (fun i wr => ∃ (k : Nat) (fp : Fp), k ≤ R.length ∧ i = .int .i64 k ∧ Cel.ow wr (lcl 8 rw8 (prR R k)) (.slice (some ⟨w.heap.size, 0, none⟩) R.length R.length) fp ∧ (∀ b, fp b → w.heap.size ≤ b) ∧ Below w.heap.size w wr) (fun i _ => R.length - (intOf i).toNat)
  case atStart => exact ⟨0, _, Nat.zero_le _, rfl, HS.out.1, fun b h => by rw [h]; exact Nat.le_refl _, HS.out.2⟩
  case round =>
    obtain ⟨k, fp, hk, rfl, ho, hfp, hb⟩ := hrel
    by_cases hlt : k < R.length
    · have k1 : (k : Int) < (R.length : Int) := by omega
      have k0 : (0 : Int) ≤ (k : Int) := by omega
      have hmem : rowN R k ∈ R := rowN_mem hlt
      obtain ⟨g, off, hra, hpv⟩ := vw_elF rw8_len (Cel.vw_below HV.out hb) (k := k) (x := rowN R k) (by simp [rowN, List.getD, hlt])
      obtain ⟨Ak, ⟨⟨d0, d1, d2, d3⟩, d4, d5, d6, d7⟩, hrs⟩ := hpv.row (hf _ hmem)
      subst hra
      have hz := HSZ.out k hlt
      unfold szRw at hz
      have hC := toRw_any Ak (rowN R k) wr hrs (by omega) (by omega) (by omega) (by omega)
      unfold rwV rwC at hC
      have hpl := prR_len hk
      rw [← hpl] at ho
      obtain ⟨g1, off1, f1, e1, hfg, hfs, hP, hglt, hput⟩ := ow_elF rw8_len (by omega) ho (prR_at hlt)
      cases e1
      have hput := fun w1 => hput w1 (rowN R k)
      rw [prR_set hlt, hpl] at hput
      simp only [Nat.zero_add] at hP hput
      have HPut : Hid (∀ w1 : World, Bcm wr w1 w.heap.size (k * 8) (rw8 (rowN R k)) f1 → ∃ fp', Cel.ow w1 (lcl 8 rw8 (prR R (k + 1))) (.slice (some ⟨w.heap.size, 0, none⟩) R.length R.length) fp' ∧ (∀ b, fp' b → fp b ∨ wr.heap.size ≤ b) ∧ Wrt fp wr w1) := hput
      have HP : Hid (Plc wr w.heap.size (k * 8) (rw8 zeroRw) f1) := hP
      have HB : Hid (Below w.heap.size w wr) := hb
      have HFP : Hid (∀ b, fp b → w.heap.size ≤ b) := hfp
      generalize rowN R k = r at *
      clear hrs hpv hb ho hput hP hz hpl hfs hmem
      go_wp2_with fail
      refine hC.mono ?_
      rintro e w1 ⟨A1, rfl, fr, hl1, hfr, hb1⟩
      have HA := HP.out.all hb1 (ow_rw8 hl1) rfl hfr
      obtain ⟨vs0, hpc, hov, _⟩ := HP.out
      have hl8 : vs0.length = 8 := owL_len hov
      have hpc1 := hpc.of_block (hb1.block _ hpc.lt) hb1.size
      have cc : ∀ j, j < 8 → ∃ u, w1.cell? ⟨w.heap.size, k * 8 + j, none⟩ = some u ∧ w1.frozen? ⟨w.heap.size, k * 8 + j, none⟩ = false := fun j hj => ⟨_, (hpc1.cell j (by omega)).trans (List.getElem?_eq_getElem (by omega)), hpc1.free j (by omega)⟩
      obtain ⟨u0, e0, f0⟩ := cc 0 (by omega)
      obtain ⟨u1, e1, f1'⟩ := cc 1 (by omega)
      obtain ⟨u2, e2, f2⟩ := cc 2 (by omega)
      obtain ⟨u3, e3, f3⟩ := cc 3 (by omega)
      obtain ⟨u4, e4, f4⟩ := cc 4 (by omega)
      obtain ⟨u5, e5, f5⟩ := cc 5 (by omega)
      obtain ⟨u6, e6, f6⟩ := cc 6 (by omega)
      obtain ⟨u7, e7, f7⟩ := cc 7 (by omega)
      simp only [Nat.add_zero] at e0 f0
      obtain ⟨fp', hN1, hN2, hN3⟩ := HPut.out _ HA
      have HN1 : Hid (Cel.ow _ (lcl 8 rw8 (prR R (k + 1))) (.slice (some ⟨w.heap.size, 0, none⟩) R.length R.length) fp') := hN1
      have HN3 : Hid (Wrt fp wr _) := hN3
      have HN2 : Hid (∀ b, fp' b → fp b ∨ wr.heap.size ≤ b) := hN2
      have hsz := HB.out.size
      clear d0 d1 d2 d3 d4 d5 d6 d7 hC hb1 hl1 hN1 hN2 hN3 HA cc hpc1 hov hpc
      unfold rwV rwC
      go_wp2
      go_roundw
      case rel => exact ⟨k + 1, fp', by omega, by go_num, HN1.out, fun b hb => by have := HFP.out b; rcases HN2.out b hb with h | h; exact this h; omega, HN3.out.below HB.out hsz HFP.out⟩
      case measure => simp [intOf]; omega
    · obtain rfl : k = R.length := by omega
      have k1 : ¬ ((R.length : Int) < (R.length : Int)) := by omega
      have HE : Hid (NewO w wr (lcl 8 rw8 R) (.slice (some ⟨w.heap.size, 0, none⟩) R.length R.length)) := by rw [prR_all] at ho; exact ⟨fp, ho, hfp, hb⟩
      clear ho hb
      go_wp2
      go_ret
      exact ⟨_, _, rfl, HE.out⟩
end Go.Proofs.Ytgfeabgmllkdeaa

/-
  The laws' own toMember.
-/
namespace Go.Proofs.Ytgfeabgmllkdeaa
set_option linter.unusedVariables false
set_option linter.unusedSimpArgs false
open Go.RowKit Go.Sort

/-- What toMember holds: what came, the answer's room, the member under way, its lists. -/
structure TM (w X : World) (S O : Array Value) (cs : List Cel) (vs : List Value) (fp : Fp) : Prop where
  src : Bx X w.heap.size 35 S
  res : Bx X (w.heap.size + 1) 40 #[.int .i64 0, .int .i64 0, .slice none 0 0, .slice none 0 0, .bool false]
  out : Bx X (w.heap.size + 1 + 1) 40 O
  own : owL X cs vs fp
  fpl : ∀ b, fp b → w.heap.size + 1 + 1 < b
  below : Below w.heap.size w X
theorem TM.set {w X : World} {S O : Array Value} {cs : List Cel} {vs : List Value} {fp : Fp} (h : TM w X S O cs vs fp) (i : Nat) (v : Value) : TM w (X.setCell ⟨w.heap.size + 1 + 1, i, none⟩ v) S (O.setIfInBounds i v) cs vs fp :=
  ⟨h.src.far (by omega) v, h.res.far (by omega) v, h.out.setC i v, owL_wrt h.own (Wrt.set X (w.heap.size + 1 + 1) i v) (fun b hb e => by have := h.fpl b hb; omega), h.fpl, h.below.setCell (p := ⟨w.heap.size + 1 + 1, i, none⟩) (show w.heap.size ≤ w.heap.size + 1 + 1 by omega) v⟩
theorem TM.add {w X X' : World} {S O : Array Value} {cs : List Cel} {vs : List Value} {fp : Fp} (h : TM w X S O cs vs fp) {c : Cel} {v : Value} (hN : NewO X X' c v) : ∃ fp', TM w X' S O (cs ++ [c]) (vs ++ [v]) fp' := by
  obtain ⟨f, ho, hf, hb⟩ := hN
  have hol := h.out.lt
  refine ⟨fun b => fp b ∨ f b, h.src.below hb, h.res.below hb, h.out.below hb, owL_append (owL_below h.own hb) (owL_one.2 ho) (fun b h1 h2 => ?_), fun b hb => ?_, h.below.trans (hb.mono h.below.size)⟩
  · have := owL_lt h.own b h1
    have := hf b h2
    omega
  · rcases hb with hb | hb
    · exact h.fpl b hb
    · have := hf b hb; omega
set_option maxRecDepth 100000 in
set_option maxHeartbeats 3200000 in
theorem toMb_any (A : Ma) (m : Mb) (w : World) (hv : MbS w A m) (hs : szMb m ≤ 1048576) :
    Calls Try.prog 29 #[mbV A m] w fun e w' => AnsMb w w' e m := by
  have HR : Hid (∀ X, Below w.heap.size w X → Calls Try.prog 73 #[.slice A.ra m.rows.length A.rc] X fun e w' => ∃ a' c', e = .returned (.slice a' m.rows.length c') ∧ NewO X w' (lcl 8 rw8 m.rows) (.slice a' m.rows.length c')) := fun X h => toRs_any A.ra A.rc m.rows X (hv.below h).rows hv.fit (by unfold szMb at hs; omega)
  have HG : Hid (∀ X, Below w.heap.size w X → Calls Try.prog 74 #[.slice A.sa m.sung.length A.sc] X fun e w' => ∃ a' c', e = .returned (.slice a' m.sung.length c') ∧ NewO X w' (icl m.sung) (.slice a' m.sung.length c')) := fun X h => toI16 A.sa A.sc m.sung X (hv.below h).sung (by unfold szMb at hs; omega)
  obtain ⟨id, n, rows, sung, done⟩ := m
  obtain ⟨ra, rc, sa, sc⟩ := A
  simp only at HR HG
  have T0 : TM w (((w.alloc (.cells #[.int .i64 id, .int .i64 n, .slice ra rows.length rc, .slice sa sung.length sc, .bool done] 35)).alloc (.cells #[.int .i64 0, .int .i64 0, .slice none 0 0, .slice none 0 0, .bool false] 40)).alloc (.cells #[.int .i64 id, .int .i64 n, .slice none 0 0, .slice none 0 0, .bool false] 40)) #[.int .i64 id, .int .i64 n, .slice ra rows.length rc, .slice sa sung.length sc, .bool done] #[.int .i64 id, .int .i64 n, .slice none 0 0, .slice none 0 0, .bool false] [] [] (fun _ => False) := by
    have x0 := ((Bx.new w 35 #[.int .i64 id, .int .i64 n, .slice ra rows.length rc, .slice sa sung.length sc, .bool done]).alloc (.cells #[.int .i64 0, .int .i64 0, .slice none 0 0, .slice none 0 0, .bool false] 40)).alloc (.cells #[.int .i64 id, .int .i64 n, .slice none 0 0, .slice none 0 0, .bool false] 40)
    have x1 := (Bx.new (w.alloc (.cells #[.int .i64 id, .int .i64 n, .slice ra rows.length rc, .slice sa sung.length sc, .bool done] 35)) 40 #[.int .i64 0, .int .i64 0, .slice none 0 0, .slice none 0 0, .bool false]).alloc (.cells #[.int .i64 id, .int .i64 n, .slice none 0 0, .slice none 0 0, .bool false] 40)
    have x2 := Bx.new ((w.alloc (.cells #[.int .i64 id, .int .i64 n, .slice ra rows.length rc, .slice sa sung.length sc, .bool done] 35)).alloc (.cells #[.int .i64 0, .int .i64 0, .slice none 0 0, .slice none 0 0, .bool false] 40)) 40 #[.int .i64 id, .int .i64 n, .slice none 0 0, .slice none 0 0, .bool false]
    simp only [World.size_alloc] at x1 x2
    exact ⟨x0, x1, x2, ⟨rfl, fun _ h => h⟩, fun b h => h.elim, ((Below.refl _ _).alloc (Nat.le_refl _) _).alloc (by simp) _ |>.alloc (by simp only [World.size_alloc]; omega) _⟩
  have hC1 := HR.out _ T0.below
  have HT0 : Hid (TM w (((w.alloc (.cells #[.int .i64 id, .int .i64 n, .slice ra rows.length rc, .slice sa sung.length sc, .bool done] 35)).alloc (.cells #[.int .i64 0, .int .i64 0, .slice none 0 0, .slice none 0 0, .bool false] 40)).alloc (.cells #[.int .i64 id, .int .i64 n, .slice none 0 0, .slice none 0 0, .bool false] 40)) #[.int .i64 id, .int .i64 n, .slice ra rows.length rc, .slice sa sung.length sc, .bool done] #[.int .i64 id, .int .i64 n, .slice none 0 0, .slice none 0 0, .bool false] [] [] (fun _ => False)) := T0
  unfold mbV mbC
  simp only
  clear hv T0
  go_enter Try.func29, Try.ntmps29
  go_wp2_with fail
  refine hC1.mono ?_
  rintro e w1 ⟨a1, c1, rfl, hN1⟩
  obtain ⟨fp1, T1⟩ := HT0.out.add hN1
  obtain ⟨s0, s1, s2, s3, s4⟩ := Bx.r5 T1.src
  obtain ⟨o0, o1, o2, o3, o4⟩ := Bx.r5 (show Bx _ _ _ #[.int .i64 id, .int .i64 n, .slice none 0 0, .slice none 0 0, .bool false] from T1.out)
  obtain ⟨f0, f1, f2, f3, f4⟩ := T1.out.f5
  have T1s := T1.set 2 (.slice a1 rows.length c1)
  have T1' : TM w (w1.setCell ⟨w.heap.size + 1 + 1, 2, none⟩ (.slice a1 rows.length c1)) #[.int .i64 id, .int .i64 n, .slice ra rows.length rc, .slice sa sung.length sc, .bool done] #[.int .i64 id, .int .i64 n, .slice a1 rows.length c1, .slice none 0 0, .bool false] ([] ++ [lcl 8 rw8 rows]) ([] ++ [.slice a1 rows.length c1]) fp1 := by simpa using T1s
  have hC2 := HG.out _ T1'.below
  have HT1 : Hid (TM w (w1.setCell ⟨w.heap.size + 1 + 1, 2, none⟩ (.slice a1 rows.length c1)) #[.int .i64 id, .int .i64 n, .slice ra rows.length rc, .slice sa sung.length sc, .bool done] #[.int .i64 id, .int .i64 n, .slice a1 rows.length c1, .slice none 0 0, .bool false] ([] ++ [lcl 8 rw8 rows]) ([] ++ [.slice a1 rows.length c1]) fp1) := T1'
  have x0 : (w1.setCell ⟨w.heap.size + 1 + 1, 2, none⟩ (.slice a1 rows.length c1)).cell? ⟨w.heap.size, 3, none⟩ = some (.slice sa sung.length sc) := T1'.src.at 3 rfl
  clear hN1 T1 T1s T1' hC1 HT0
  go_wp2_with fail
  refine hC2.mono ?_
  rintro e w2 ⟨a2, c2, rfl, hN2⟩
  clear s0 s1 s2 s3 s4 o0 o1 o2 o3 o4 f0 f1 f2 f3 f4 x0
  obtain ⟨fp2, T2⟩ := HT1.out.add hN2
  have p0 := (show Bx _ _ _ #[.int .i64 id, .int .i64 n, .slice a1 rows.length c1, .slice none 0 0, .bool false] from T2.out).at 3 rfl
  have q0 := T2.out.f 3
  have T2as := T2.set 3 (.slice a2 sung.length c2)
  have T2a : TM w (w2.setCell ⟨w.heap.size + 1 + 1, 3, none⟩ (.slice a2 sung.length c2)) #[.int .i64 id, .int .i64 n, .slice ra rows.length rc, .slice sa sung.length sc, .bool done] #[.int .i64 id, .int .i64 n, .slice a1 rows.length c1, .slice a2 sung.length c2, .bool false] (([] ++ [lcl 8 rw8 rows]) ++ [icl sung]) (([] ++ [.slice a1 rows.length c1]) ++ [.slice a2 sung.length c2]) fp2 := by simpa using T2as
  have s4 : (w2.setCell ⟨w.heap.size + 1 + 1, 3, none⟩ (.slice a2 sung.length c2)).cell? ⟨w.heap.size, 4, none⟩ = _ := T2a.src.at 4 rfl
  have p4 := T2a.out.at 4 rfl
  have q4 := T2a.out.f 4
  have T2bs := T2a.set 4 (.bool done)
  have T2b : TM w ((w2.setCell ⟨w.heap.size + 1 + 1, 3, none⟩ (.slice a2 sung.length c2)).setCell ⟨w.heap.size + 1 + 1, 4, none⟩ (.bool done)) #[.int .i64 id, .int .i64 n, .slice ra rows.length rc, .slice sa sung.length sc, .bool done] #[.int .i64 id, .int .i64 n, .slice a1 rows.length c1, .slice a2 sung.length c2, .bool done] (([] ++ [lcl 8 rw8 rows]) ++ [icl sung]) (([] ++ [.slice a1 rows.length c1]) ++ [.slice a2 sung.length c2]) fp2 := by simpa using T2bs
  obtain ⟨o0, o1, o2, o3, o4⟩ := Bx.r5 (show Bx _ _ _ #[.int .i64 id, .int .i64 n, .slice a1 rows.length c1, .slice a2 sung.length c2, .bool done] from T2b.out)
  obtain ⟨r0, r1, r2, r3, r4⟩ := Bx.r5 T2b.res
  obtain ⟨f0, f1, f2, f3, f4⟩ := T2b.res.f5
  have HT3 : Hid (TM w ((w2.setCell ⟨w.heap.size + 1 + 1, 3, none⟩ (.slice a2 sung.length c2)).setCell ⟨w.heap.size + 1 + 1, 4, none⟩ (.bool done)) #[.int .i64 id, .int .i64 n, .slice ra rows.length rc, .slice sa sung.length sc, .bool done] #[.int .i64 id, .int .i64 n, .slice a1 rows.length c1, .slice a2 sung.length c2, .bool done] (([] ++ [lcl 8 rw8 rows]) ++ [icl sung]) (([] ++ [.slice a1 rows.length c1]) ++ [.slice a2 sung.length c2]) fp2) := T2b
  clear hN2 T2 T2as T2a T2bs T2b hC2 HT1
  go_wp2
  refine bodyPost_ret (v := .agg #[.int .i64 id, .int .i64 n, .slice a1 rows.length c1, .slice a2 sung.length c2, .bool done]) (by simp [results, Try.results29, go_sem, *]) rfl ?_
  refine ⟨⟨a1, c1, a2, c2⟩, rfl, fp2, owL_wrt HT3.out.own (wrt5 _ (w.heap.size + 1)) (fun b hb e => by have := HT3.out.fpl b hb; omega), fun b hb => by have := HT3.out.fpl b hb; omega, (wrt5 _ (w.heap.size + 1)).below HT3.out.below HT3.out.below.size (fun b e => by rw [e]; omega)⟩
end Go.Proofs.Ytgfeabgmllkdeaa

/-
  The laws' own markRowS: each row of a list is marked, in its place.
-/
namespace Go.Proofs.Ytgfeabgmllkdeaa
set_option linter.unusedVariables false
set_option linter.unusedSimpArgs false
open Go.RowKit Go.Sort

/-- One cell of a place that was written before. -/
theorem Bcm.at {w X : World} {B o : Nat} {cs : List Cel} {fp : Fp} (h : Bcm w X B o cs fp) {j : Nat} {c : Cel} (hj : cs[j]? = some c) : ∃ u f, X.cell? ⟨B, o + j, none⟩ = some u ∧ X.frozen? ⟨B, o + j, none⟩ = false ∧ Cel.ow X c u f ∧
    ∀ (X1 : World) (c' : Cel) (u' : Value) (f' : Fp), Wrt f X X1 → Cel.ow X1 c' u' f' → (∀ b, f' b → f b ∨ X.heap.size ≤ b) → X1.cell? ⟨B, o + j, none⟩ = some u ∧ X1.frozen? ⟨B, o + j, none⟩ = false ∧ Bcm w (X1.setCell ⟨B, o + j, none⟩ u') B o (cs.set j c') fp ∧ (u' = u → Bcm w X1 B o (cs.set j c') fp) := by
  obtain ⟨fp1, hp, _, hgo⟩ := h.next
  obtain ⟨u, f, h1, h2, h3, h4, h5, h6⟩ := hp.at hj
  refine ⟨u, f, h1, h2, h3, fun X1 c' u' f' hw hc hf => ?_⟩
  obtain ⟨k1, k2, k3, k4⟩ := h6 X1 c' u' f' hw hc hf
  exact ⟨k1, k2, hgo _ _ (by simp) k3, fun e => hgo _ _ (by simp) (k4 e)⟩
/-- A plain cell of it is stored. -/
theorem Bcm.put {w X : World} {B o : Nat} {cs : List Cel} {fp : Fp} (h : Bcm w X B o cs fp) {j : Nat} {x : Value} (hj : cs[j]? = some (.v x)) (y : Value) : X.cell? ⟨B, o + j, none⟩ = some x ∧ X.frozen? ⟨B, o + j, none⟩ = false ∧ Bcm w (X.setCell ⟨B, o + j, none⟩ y) B o (cs.set j (.v y)) fp := by
  obtain ⟨u, f, h1, h2, ⟨rfl, _⟩, h4⟩ := h.at hj
  exact ⟨h1, h2, (h4 X (.v y) y (fun _ => False) (Wrt.refl _ _) ⟨rfl, fun _ h => h⟩ (fun b hb => hb.elim)).2.2.1⟩
def m3 (k : Int) : Bool := k % 3 == 0
/-- A row with marks from k on. -/
def mk8 (r : Rw) (k : Nat) : Rw :=
  { ver := (k : Int), txt := marksS r.txt.length (k + 1), got := marks r.got.length (k + 1 + r.txt.length), sus := marks r.sus.length (k + 1 + r.txt.length + r.got.length), wed := m3 ((k + 1 + r.txt.length + r.got.length + r.sus.length : Nat) : Int), rdy := m3 (((k + 1 + r.txt.length + r.got.length + r.sus.length : Nat) : Int) + 1), by_ := ((k + 1 + r.txt.length + r.got.length + r.sus.length : Nat) : Int) + 1 + 1, trm := marks r.trm.length (k + 1 + r.txt.length + r.got.length + r.sus.length + 1 + 1 + 1) }
def cnt8 (r : Rw) : Nat := 1 + r.txt.length + r.got.length + r.sus.length + 1 + 1 + 1 + r.trm.length
/-- How many marks the first k rows bear. -/
def cP (R : List Rw) (k : Nat) : Nat := ((R.take k).map cnt8).sum
theorem cP_next {R : List Rw} {k : Nat} (hk : k < R.length) : cP R (k + 1) = cP R k + cnt8 (rowN R k) := by
  have e : rowN R k = R[k] := by simp [rowN, List.getD, hk]
  unfold cP
  rw [List.take_succ_eq_append_getElem hk, List.map_append, List.sum_append, e]
  simp
theorem cP_mono (R : List Rw) {a b : Nat} (h : a ≤ b) : cP R a ≤ cP R b := by
  unfold cP
  obtain ⟨c, rfl⟩ := Nat.exists_eq_add_of_le h
  rw [List.take_add, List.map_append, List.sum_append]
  omega
/-- The rows, the first j of them with marks. -/
def mkP (R : List Rw) (k : Nat) : Nat → List Rw
  | 0 => R
  | j + 1 => (mkP R k j).set j (mk8 (rowN R j) (k + cP R j))
theorem mkP_len (R : List Rw) (k : Nat) : ∀ j, (mkP R k j).length = R.length
  | 0 => rfl
  | j + 1 => by rw [mkP, List.length_set, mkP_len R k j]
theorem mkP_row {R : List Rw} {k : Nat} : ∀ {j i : Nat}, j ≤ R.length → rowN (mkP R k j) i = if i < j then mk8 (rowN R i) (k + cP R i) else rowN R i
  | 0, i, _ => by simp [mkP]
  | j + 1, i, h => by
    rw [mkP, rowN_set (by rw [mkP_len]; omega), mkP_row (by omega)]
    by_cases e : i = j
    · subst e; rw [if_pos rfl, if_pos (by omega)]
    · rw [if_neg e]
      by_cases h2 : i < j
      · rw [if_pos h2, if_pos (by omega)]
      · rw [if_neg h2, if_neg (by omega)]
set_option maxRecDepth 100000 in
set_option maxHeartbeats 6400000 in
theorem markRs_ow (a : Option Addr) (cap k0 : Nat) (R : List Rw) (fp : Fp) (w : World) (h : Cel.ow w (lcl 8 rw8 R) (.slice a R.length cap) fp) (hk1 : 1 ≤ k0) (hk : k0 + cP R R.length ≤ 10000000) (hm : R.length ≤ maxLen) :
    Calls Try.prog 81 #[.slice a R.length cap, .int .i64 (k0 : Int)] w fun e w' => e = .returned (.int .i64 ((k0 + cP R R.length : Nat) : Int)) ∧ ∃ fp', Cel.ow w' (lcl 8 rw8 (mkP R k0 R.length)) (.slice a R.length cap) fp' ∧ (∀ b, fp' b → fp b ∨ w.heap.size ≤ b) ∧ Wrt fp w w' := by
  unfold maxLen at hm
  have HH : Hid (Cel.ow w (lcl 8 rw8 R) (.slice a R.length cap) fp) := h
  clear h
  go_enter Try.func81, Try.ntmps81
  go_wp2_with fail
  go_loopw [1, 5] (fun kv v wr => ∃ (j K : Nat) (fpj : Fp), j ≤ R.length ∧ v = .int .i64 (j : Int) ∧ kv = .int .i64 (K : Int) ∧ Hid (K = k0 + cP R j) ∧ Cel.ow wr (lcl 8 rw8 (mkP R k0 j)) (.slice a R.length cap) fpj ∧ (∀ b, fpj b → fp b ∨ w.heap.size ≤ b) ∧ Wrt fp w wr) (fun _ v _ => R.length - (intOf v).toNat)
  case atStart => exact ⟨0, k0, fp, Nat.zero_le _, rfl, rfl, by simp [Hid, cP], HH.out, fun b hb => .inl hb, Wrt.refl _ _⟩
  case round =>
    obtain ⟨j, K0, fpj, hj, rfl, rfl, hK, ho, hfj, hwj⟩ := hrel
    have HWj : Hid (Wrt fp w wr) := hwj
    have HFj : Hid (∀ b, fpj b → fp b ∨ w.heap.size ≤ b) := hfj
    by_cases hlt : j < R.length
    · have j1 : (j : Int) < (R.length : Int) := by omega
      have j0 : (0 : Int) ≤ (j : Int) := by omega
      have hlen := mkP_len R k0 j
      have hat : (mkP R k0 j)[j]? = some (rowN R j) := by
        have := mkP_row (k := k0) (i := j) hj
        rw [if_neg (Nat.lt_irrefl _)] at this
        rw [← this]
        simp [rowN, List.getD, hlen, hlt]
      rw [← hlen] at ho
      obtain ⟨g, off, f, rfl, hfg, hfs, hP, hglt, hput⟩ := ow_elF rw8_len (by omega) ho hat
      have hput := fun X => hput X (mk8 (rowN R j) (k0 + cP R j))
      rw [show (mkP R k0 j).set j (mk8 (rowN R j) (k0 + cP R j)) = mkP R k0 (j + 1) from rfl, hlen] at hput
      rw [← hK.out] at hput
      have hKb : K0 + cnt8 (rowN R j) ≤ 10000000 := by
        have h1 := cP_mono R (show j + 1 ≤ R.length from hlt)
        rw [cP_next hlt] at h1
        have := hK.out
        omega
      have HKn : Hid (K0 + cnt8 (rowN R j) = k0 + cP R (j + 1)) := by rw [Hid, cP_next hlt, hK.out]; omega
      have hK1 : 1 ≤ K0 := by have := hK.out; omega
      have HPut : Hid (∀ X, Bcm wr X g (off + j * 8) (rw8 (mk8 (rowN R j) K0)) f → ∃ fp', Cel.ow X (lcl 8 rw8 (mkP R k0 (j + 1))) (.slice (some ⟨g, off, none⟩) R.length cap) fp' ∧ (∀ b, fp' b → fpj b ∨ wr.heap.size ≤ b) ∧ Wrt fpj wr X) := hput
      have B0 : Bcm wr wr g (off + j * 8) (rw8 (rowN R j)) f := Bcm.refl hP
      clear ho hput hP hat hlen hfj hwj hK hfs
      generalize rowN R j = r at *
      obtain ⟨v0, z0, B1⟩ := B0.put (j := 0) (x := .int .i64 r.ver) rfl (.int .i64 (K0 : Int))
      simp only [Nat.add_zero] at v0 z0 B1
      have HB1 : Hid (Bcm wr (wr.setCell ⟨g, off + j * 8, none⟩ (.int .i64 (K0 : Int))) g (off + j * 8) ((rw8 r).set 0 (.v (.int .i64 (K0 : Int)))) f) := B1
      unfold cnt8 at hKb
      obtain ⟨Ka, hKa⟩ : ∃ Ka : Nat, Hid (Ka = K0 + 1) := ⟨_, rfl⟩
      have eKa : (Ka : Int) = (K0 : Int) + 1 := by have := hKa.out; omega
      obtain ⟨u1, f1, t1, _, ho1, hp1⟩ := B1.at (j := 1) (c := scl r.txt) rfl
      have hM1 := markS_ow u1 Ka r.txt f1 _ ho1 (by have := hKa.out; omega) (by have := hKa.out; omega) (by omega)
      clear B0 B1 ho1
      obtain ⟨K2, hK2⟩ : ∃ K2 : Nat, Hid (K2 = Ka + r.txt.length) := ⟨_, rfl⟩
      have eK2 : (Ka : Int) + (r.txt.length : Int) = (K2 : Int) := by have := hK2.out; omega
      rw [eK2, eKa] at hM1
      go_wp2_with fail
      refine hM1.mono ?_
      rintro e X1 ⟨rfl, hm1, hw1⟩
      have B2 := (hp1 X1 _ u1 f1 hw1 hm1 (fun b hb => .inl hb)).2.2.2 rfl
      clear hM1 hp1 hm1 hw1 t1 v0 z0 eKa eK2
      obtain ⟨u2, f2, t2, _, ho2, hp2⟩ := B2.at (j := 2) (c := icl r.got) rfl
      have hM2 := markI_ow u2 K2 r.got f2 _ ho2 (by have := hKa.out; have := hK2.out; omega) (by omega)
      obtain ⟨K3, hK3⟩ : ∃ K3 : Nat, Hid (K3 = K2 + r.got.length) := ⟨_, rfl⟩
      have eK3 : (K2 : Int) + (r.got.length : Int) = (K3 : Int) := by have := hK3.out; omega
      rw [eK3] at hM2
      clear B2 ho2
      go_wp2_with fail
      refine hM2.mono ?_
      rintro e X2 ⟨rfl, hm2, hw2⟩
      have B3 := (hp2 X2 _ u2 f2 hw2 hm2 (fun b hb => .inl hb)).2.2.2 rfl
      clear hM2 hp2 hm2 hw2 t2 eK3
      obtain ⟨u3, f3, t3, _, ho3, hp3⟩ := B3.at (j := 3) (c := icl r.sus) rfl
      have hM3 := markI_ow u3 K3 r.sus f3 _ ho3 (by have := hKa.out; have := hK2.out; have := hK3.out; omega) (by omega)
      obtain ⟨K4, hK4⟩ : ∃ K4 : Nat, Hid (K4 = K3 + r.sus.length) := ⟨_, rfl⟩
      have eK4 : (K3 : Int) + (r.sus.length : Int) = (K4 : Int) := by have := hK4.out; omega
      rw [eK4] at hM3
      clear B3 ho3
      go_wp2_with fail
      refine hM3.mono ?_
      rintro e X3 ⟨rfl, hm3, hw3⟩
      have B4 := (hp3 X3 _ u3 f3 hw3 hm3 (fun b hb => .inl hb)).2.2.2 rfl
      clear hM3 hp3 hm3 hw3 t3 eK4
      have hK4b : K4 + 3 ≤ K0 + (1 + r.txt.length + r.got.length + r.sus.length + 1 + 1 + 1 + r.trm.length) := by have := hKa.out; have := hK2.out; have := hK3.out; have := hK4.out; omega
      obtain ⟨v4, z4, B5⟩ := B4.put (j := 4) (x := .bool r.wed) rfl (.bool ((K4 : Int) % 3 == 0))
      obtain ⟨v5, z5, B6⟩ := B5.put (j := 5) (x := .bool r.rdy) rfl (.bool (((K4 : Int) + 1) % 3 == 0))
      obtain ⟨v6, z6, B7⟩ := B6.put (j := 6) (x := .int .i64 r.by_) rfl (.int .i64 ((K4 : Int) + 1 + 1))
      obtain ⟨u7, f7, t7, _, ho7, hp7⟩ := B7.at (j := 7) (c := icl r.trm) rfl
      obtain ⟨K7, hK7⟩ : ∃ K7 : Nat, Hid (K7 = K4 + 1 + 1 + 1) := ⟨_, rfl⟩
      have eK7 : (K7 : Int) = (K4 : Int) + 1 + 1 + 1 := by have := hK7.out; omega
      have hM7 := markI_ow u7 K7 r.trm f7 _ ho7 (by have := hK7.out; omega) (by omega)
      obtain ⟨K8, hK8⟩ : ∃ K8 : Nat, Hid (K8 = K7 + r.trm.length) := ⟨_, rfl⟩
      have eK8 : (K7 : Int) + (r.trm.length : Int) = (K8 : Int) := by have := hK8.out; omega
      rw [eK8, eK7] at hM7
      have HK8 : Hid (K8 = k0 + cP R (j + 1)) := by
        have h1 := HKn.out
        unfold cnt8 at h1
        have := hKa.out; have := hK2.out; have := hK3.out; have := hK4.out; have := hK7.out; have := hK8.out
        rw [Hid]
        omega
      have wj : wrap64 ((j : Int) + 1) = (j : Int) + 1 := by unfold wrap64; omega
      clear B4 B5 B6 B7 ho7 HB1 eK8 eK7
      go_wp2_with fail
      refine hM7.mono ?_
      rintro e X7 ⟨rfl, hm7, hw7⟩
      have B8 := (hp7 X7 _ u7 f7 hw7 hm7 (fun b hb => .inl hb)).2.2.2 rfl
      have hE : rw8 (mk8 r K0) = (((((((((rw8 r).set 0 (.v (.int .i64 (K0 : Int)))).set 1 (scl (marksS r.txt.length Ka))).set 2 (icl (marks r.got.length K2))).set 3 (icl (marks r.sus.length K3))).set 4 (.v (.bool ((K4 : Int) % 3 == 0)))).set 5 (.v (.bool (((K4 : Int) + 1) % 3 == 0)))).set 6 (.v (.int .i64 ((K4 : Int) + 1 + 1)))).set 7 (icl (marks r.trm.length K7))) := by
        rw [hK7.out, hK4.out, hK3.out, hK2.out, hKa.out]
        rfl
      rw [← hE] at B8
      obtain ⟨fp', n1, n2, n3⟩ := HPut.out X7 B8
      have HN1 : Hid (Cel.ow X7 (lcl 8 rw8 (mkP R k0 (j + 1))) (.slice (some ⟨g, off, none⟩) R.length cap) fp') := n1
      have HN2 : Hid (∀ b, fp' b → fpj b ∨ wr.heap.size ≤ b) := n2
      have HN3 : Hid (Wrt fpj wr X7) := n3
      clear hM7 hp7 hm7 hw7 t7 v4 z4 v5 z5 v6 z6 B8 hE n1 n2 n3 HPut
      have hws := HWj.out.size
      clear hKb hK4b hk hK1 hk1
      go_wp2
      go_roundw
      case rel => exact ⟨j + 1, K8, fp', by omega, by go_num, rfl, HK8, HN1.out, fun b hb => by
        rcases HN2.out b hb with h | h
        · exact HFj.out b h
        · exact .inr (by omega), HWj.out.trans HN3.out (fun b hb h => by
          rcases HFj.out b h with h | h
          · exact h
          · omega)⟩
      case measure => simp [intOf]; omega
    · obtain rfl : j = R.length := by omega
      have k1 : ¬ ((R.length : Int) < (R.length : Int)) := by omega
      have HE : Hid (Cel.ow wr (lcl 8 rw8 (mkP R k0 R.length)) (.slice a R.length cap) fpj) := ho
      clear ho hfj hwj hk hk1
      go_wp2
      go_ret
      exact ⟨ret_int (by rw [hK.out]; omega), fpj, HE.out, HFj.out, HWj.out⟩
end Go.Proofs.Ytgfeabgmllkdeaa

/-
  The laws' own heldRowS, markMember and heldMember.
-/
namespace Go.Proofs.Ytgfeabgmllkdeaa
set_option linter.unusedVariables false
set_option linter.unusedSimpArgs false
open Go.RowKit Go.Sort

end Go.Proofs.Ytgfeabgmllkdeaa

/-
  The laws' own markMember and heldMember.
-/
namespace Go.Proofs.Ytgfeabgmllkdeaa
set_option linter.unusedVariables false
set_option linter.unusedSimpArgs false
open Go.RowKit Go.Sort

/-- Two things of one's own. -/
theorem owL_two {w : World} {c1 c2 : Cel} {v1 v2 : Value} {f : Fp} (h : owL w [c1, c2] [v1, v2] f) : ∃ f1 f2, Cel.ow w c1 v1 f1 ∧ Cel.ow w c2 v2 f2 ∧ (∀ b, f1 b → ¬ f2 b) ∧ ∀ b, f b ↔ f1 b ∨ f2 b := by
  obtain ⟨u1, us1, f1, g1, e1, o1, h2, d1, i1⟩ := h
  cases e1
  obtain ⟨u2, us2, f2, g2, e2, o2, h3, d2, i2⟩ := h2
  cases e2
  have hg : ∀ b, ¬ g2 b := h3.2
  refine ⟨f1, f2, o1, o2, fun b h1 h2 => d1 b h1 ((i2 b).2 (.inl h2)), fun b => ?_⟩
  rw [i1, i2]
  exact ⟨fun h => h.imp id (fun h => h.elim id (fun h => absurd h (hg b))), fun h => h.imp id .inl⟩
theorem owL_both {w : World} {c1 c2 : Cel} {v1 v2 : Value} {f1 f2 : Fp} (h1 : Cel.ow w c1 v1 f1) (h2 : Cel.ow w c2 v2 f2) (hd : ∀ b, f1 b → ¬ f2 b) : owL w [c1, c2] [v1, v2] (fun b => f1 b ∨ f2 b) :=
  ⟨v1, [v2], f1, f2, rfl, h1, ⟨v2, [], f2, fun _ => False, rfl, h2, ⟨rfl, fun _ h => h⟩, fun _ _ h => h, fun b => by simp⟩, hd, fun b => Iff.rfl⟩
def mkMb (m : Mb) (k : Nat) : Mb := { m with rows := mkP m.rows k m.rows.length, sung := marks m.sung.length (k + cP m.rows m.rows.length) }
def cntMb (m : Mb) : Nat := cP m.rows m.rows.length + m.sung.length
set_option maxRecDepth 100000 in
set_option maxHeartbeats 1600000 in
theorem markMb_it (A : Ma) (m : Mb) (k0 lo hi : Nat) (w : World) (h : It w (mbCels m) (mbVals A m) lo hi) (hlo : lo ≤ w.heap.size) (hh : hi ≤ w.heap.size) (hk1 : 1 ≤ k0) (hk : k0 + cntMb m ≤ 10000000) (hm : m.rows.length ≤ maxLen) :
    Calls Try.prog 34 #[mbV A m, .int .i64 (k0 : Int)] w fun e w' => e = .returned (.int .i64 ((k0 + cntMb m : Nat) : Int)) ∧ It w' (mbCels (mkMb m k0)) (mbVals A m) lo w'.heap.size ∧ Wrt (Iv lo hi) w w' := by
  have hb := oneA16 w (.cells (mbC A m) 40)
  have hx := Bx.new w 40 (mbC A m)
  obtain ⟨fp, hl, hfp⟩ := h.below hb
  obtain ⟨f1, f2, o1, o2, hd, hi2⟩ := owL_two hl
  have HF1 : Hid (∀ b, f1 b → lo ≤ b ∧ b < hi) := fun b hb => hfp b ((hi2 b).2 (.inl hb))
  have HF2 : Hid (∀ b, f2 b → lo ≤ b ∧ b < hi) := fun b hb => hfp b ((hi2 b).2 (.inr hb))
  have HD : Hid (∀ b, f1 b → ¬ f2 b) := hd
  obtain ⟨id, n, rows, sung, done⟩ := m
  obtain ⟨ra, rc, sa, sc⟩ := A
  unfold cntMb at hk ⊢
  simp only at hk hm o1 o2 ⊢
  unfold mbV
  unfold mbC at *
  simp only at *
  have HW0 : Hid (Wrt (Iv lo hi) w (w.alloc (.cells #[.int .i64 id, .int .i64 n, .slice ra rows.length rc, .slice sa sung.length sc, .bool done] 40))) := Wrt.of_below hb
  have hws := hb.size
  generalize hWW : w.alloc (.cells #[.int .i64 id, .int .i64 n, .slice ra rows.length rc, .slice sa sung.length sc, .bool done] 40) = W at *
  have HX : Hid (∀ X, Wrt f1 W X → Bx X w.heap.size 40 #[.int .i64 id, .int .i64 n, .slice ra rows.length rc, .slice sa sung.length sc, .bool done]) := fun X hX => hx.wrt hX (fun k => by have := (HF1.out _ k).2; omega)
  obtain ⟨c0, c1, c2, c3, c4⟩ := Bx.r5 (HX.out W (Wrt.refl _ _))
  obtain ⟨KR, hKR⟩ : ∃ KR : Nat, Hid (KR = k0 + cP rows rows.length) := ⟨_, rfl⟩
  have hM1 := markRs_ow ra rc k0 rows f1 W o1 hk1 (by omega) hm
  rw [← hKR.out] at hM1
  have HO2 : Hid (Cel.ow W (icl sung) (.slice sa sung.length sc) f2) := o2
  have hsb : sung.length ≤ 10000000 := by omega
  have HKb : Hid (KR + sung.length ≤ 10000000) := by have := hKR.out; rw [Hid]; omega
  clear h hl hfp hi2 o1 o2 hx hb hd hk
  go_enter Try.func34, Try.ntmps34
  go_wp2_with fail
  refine hM1.mono ?_
  rintro e X1 ⟨rfl, g1, q1, hg1, hw1⟩
  have HQ1 : Hid (Cel.ow X1 (lcl 8 rw8 (mkP rows k0 rows.length)) (.slice ra rows.length rc) g1) := q1
  have HG1 : Hid (∀ b, g1 b → f1 b ∨ W.heap.size ≤ b) := hg1
  have HW1 : Hid (Wrt f1 W X1) := hw1
  have p2 := Cel.ow_wrt HO2.out hw1 (fun b hb k => HD.out b k hb)
  have hM2 := markI_ow _ KR sung f2 X1 p2 (by have := HKb.out; omega) hsb
  have hK2 : (KR : Int) + (sung.length : Int) = ((KR + sung.length : Nat) : Int) := by omega
  rw [hK2] at hM2
  clear c0 c1 c2 c3 c4
  obtain ⟨c0, c1, c2, c3, c4⟩ := Bx.r5 (HX.out X1 hw1)
  clear hM1 q1 hg1 hw1 p2 hk1 hsb hK2
  go_wp2_with fail
  refine hM2.mono ?_
  rintro e X2 ⟨rfl, q2, hw2⟩
  have hs1 := HW1.out.size
  have hs2 := hw2.size
  have HE : Hid (It X2 (mbCels (mkMb ⟨id, n, rows, sung, done⟩ k0)) [.slice ra rows.length rc, .slice sa sung.length sc] lo X2.heap.size) := by
    have hd2 : ∀ b, g1 b → ¬ f2 b := fun b h1 h2 => by
      rcases HG1.out b h1 with h | h
      · exact HD.out b h h2
      · have := (HF2.out b h2).2; omega
    have o1' := Cel.ow_wrt HQ1.out hw2 (fun b hb k => hd2 b hb k)
    rw [hKR.out] at q2
    refine ⟨_, owL_both o1' q2 hd2, fun b hb => ?_⟩
    have hlt : b < X2.heap.size := owL_lt (owL_both o1' q2 hd2) b hb
    rcases hb with hb | hb
    · rcases HG1.out b hb with h | h
      · exact ⟨(HF1.out b h).1, hlt⟩
      · exact ⟨by omega, hlt⟩
    · exact ⟨(HF2.out b hb).1, hlt⟩
  have HWf : Hid (Wrt (Iv lo hi) w X2) := (HW0.out.trans (HW1.out.mono (fun b _ h => HF1.out b h)) (fun _ _ h => h)).trans (hw2.mono (fun b _ h => HF2.out b h)) (fun _ _ h => h)
  clear hM2 q2 hw2 c0 c1 c2 c3 c4
  go_wp2
  go_ret
  exact ⟨ret_int (by rw [hKR.out]; omega), HE.out, HWf.out⟩
end Go.Proofs.Ytgfeabgmllkdeaa

/-
  The laws' own eqRowS and eqMember.
-/
namespace Go.Proofs.Ytgfeabgmllkdeaa
set_option linter.unusedVariables false
set_option linter.unusedSimpArgs false
open Go.RowKit Go.Sort

set_option maxRecDepth 100000 in
set_option maxHeartbeats 3200000 in
theorem eqRs_any (a a' : Option Addr) (cap cap' : Nat) (R : List Rw) (w : World) (hv : Cel.vw w (lcl 8 rw8 R) (.slice a R.length cap)) (hu : Cel.vw w (lcl 8 rw8 R) (.slice a' R.length cap')) (hf : ∀ r ∈ R, FitR r) (hm : R.length ≤ maxLen) :
    Calls Try.prog 77 #[.slice a R.length cap, .slice a' R.length cap'] w fun e w' => e = .returned (.bool true) ∧ Below w.heap.size w w' := by
  have HV : Hid (Cel.vw w (lcl 8 rw8 R) (.slice a R.length cap)) := hv
  have HU : Hid (Cel.vw w (lcl 8 rw8 R) (.slice a' R.length cap')) := hu
  have hbb : ((R.length : Int) != (R.length : Int)) = false := by simp
  unfold maxLen at hm
  clear hv hu
  go_enter Try.func77, Try.ntmps77
  go_wp2_with fail
  go_loopw [5] (fun v wr => ∃ k : Nat, k ≤ R.length ∧ v = .int .i64 (k : Int) ∧ Below w.heap.size w wr) (fun v _ => R.length - (intOf v).toNat)
  case atStart => exact ⟨0, Nat.zero_le _, rfl, Below.refl _ _⟩
  case round =>
    obtain ⟨k, hk, rfl, hb⟩ := hrel
    by_cases hlt : k < R.length
    · have k1 : (k : Int) < (R.length : Int) := by omega
      have k0 : (0 : Int) ≤ (k : Int) := by omega
      have hmem : rowN R k ∈ R := rowN_mem hlt
      have hkx : R[k]? = some (rowN R k) := by simp [rowN, List.getD, hlt]
      obtain ⟨g, off, hra, hpv⟩ := vw_elF rw8_len (Cel.vw_below HV.out hb) hkx
      obtain ⟨g', off', hra', hpv'⟩ := vw_elF rw8_len (Cel.vw_below HU.out hb) hkx
      obtain ⟨A, ⟨⟨d0, d1, d2, d3⟩, d4, d5, d6, d7⟩, hrs⟩ := hpv.row (hf _ hmem)
      obtain ⟨A', ⟨⟨e0, e1, e2, e3⟩, e4, e5, e6, e7⟩, hrs'⟩ := hpv'.row (hf _ hmem)
      subst hra hra'
      have C : ∀ q : Bk wr, Calls Try.prog 42 #[rwV A (rowN R k), rwV A' (rowN R k)] q.w fun e w' => e = .returned (.bool true) ∧ Below q.w.heap.size q.w w' := fun q => eqRw_any A A' _ q.w (hrs.below q.h) (hrs'.below q.h)
      unfold rwV rwC at C
      have T : ∀ {x v}, wr.cell? x = some v → ∀ q : Bk wr, q.w.cell? x = some v := fun h q => (q.h.cell (World.block_lt_of_cell? _ _ h)).trans h
      have dp0 := T d0
      have dp1 := T d1
      have dp2 := T d2
      have dp3 := T d3
      have dp4 := T d4
      have dp5 := T d5
      have dp6 := T d6
      have dp7 := T d7
      have ep0 := T e0
      have ep1 := T e1
      have ep2 := T e2
      have ep3 := T e3
      have ep4 := T e4
      have ep5 := T e5
      have ep6 := T e6
      have ep7 := T e7
      have HB : Hid (Below w.heap.size w wr) := hb
      generalize rowN R k = r at *
      clear hrs hrs' hpv hpv' hb T d0 d1 d2 d3 d4 d5 d6 d7 e0 e1 e2 e3 e4 e5 e6 e7 hkx
      go_wp2_with fail
      refine wp_region_bk (by kernel_rfl) (by kernel_rfl) ?_
      repeat (go_big_quiet_step ((first | (go_at_call 42; exact bk_call _ (C _)) | rfl)))
      refine wpQuiet_nil ?_
      intro wE hw'
      obtain ⟨⟨w11, hb11⟩, hw''⟩ := hw'
      have hwe : wE = w11 := hw''
      clear hw''
      subst hwe
      have HB1 : Hid (Below w.heap.size w wE) := HB.out.trans (hb11.mono HB.out.size)
      clear C hb11 dp0 dp1 dp2 dp3 dp4 dp5 dp6 dp7 ep0 ep1 ep2 ep3 ep4 ep5 ep6 ep7
      go_wp2
      go_roundw
      case rel => exact ⟨k + 1, by omega, by go_num, HB1.out⟩
      case measure => simp [intOf]; omega
    · have k1 : ¬ ((k : Int) < (R.length : Int)) := by omega
      have HB : Hid (Below w.heap.size w wr) := hb
      clear hb
      go_wp2
      go_ret
      exact ⟨rfl, HB.out⟩
set_option maxRecDepth 100000 in
set_option maxHeartbeats 3200000 in
theorem eqMb_any (A D : Ma) (m : Mb) (w : World) (hv : MbS w A m) (hu : MbS w D m) :
    Calls Try.prog 31 #[mbV A m, mbV D m] w fun e w' => e = .returned (.bool true) ∧ Below w.heap.size w w' := by
  have hB0 : Below w.heap.size w ((w.alloc (.cells #[.int .i64 m.id, .int .i64 m.n, .slice A.ra m.rows.length A.rc, .slice A.sa m.sung.length A.sc, .bool m.done] 40)).alloc (.cells #[.int .i64 m.id, .int .i64 m.n, .slice D.ra m.rows.length D.rc, .slice D.sa m.sung.length D.sc, .bool m.done] 40)) := (oneA16 w _).trans ((oneA16 _ _).mono (oneA16 w _).size)
  have hx : Bx ((w.alloc (.cells #[.int .i64 m.id, .int .i64 m.n, .slice A.ra m.rows.length A.rc, .slice A.sa m.sung.length A.sc, .bool m.done] 40)).alloc (.cells #[.int .i64 m.id, .int .i64 m.n, .slice D.ra m.rows.length D.rc, .slice D.sa m.sung.length D.sc, .bool m.done] 40)) w.heap.size 40 #[.int .i64 m.id, .int .i64 m.n, .slice A.ra m.rows.length A.rc, .slice A.sa m.sung.length A.sc, .bool m.done] := (Bx.new w _ _).alloc _
  have hy : Bx ((w.alloc (.cells #[.int .i64 m.id, .int .i64 m.n, .slice A.ra m.rows.length A.rc, .slice A.sa m.sung.length A.sc, .bool m.done] 40)).alloc (.cells #[.int .i64 m.id, .int .i64 m.n, .slice D.ra m.rows.length D.rc, .slice D.sa m.sung.length D.sc, .bool m.done] 40)) (w.heap.size + 1) 40 #[.int .i64 m.id, .int .i64 m.n, .slice D.ra m.rows.length D.rc, .slice D.sa m.sung.length D.sc, .bool m.done] := by
    have := Bx.new (w.alloc (.cells #[.int .i64 m.id, .int .i64 m.n, .slice A.ra m.rows.length A.rc, .slice A.sa m.sung.length A.sc, .bool m.done] 40)) 40 #[.int .i64 m.id, .int .i64 m.n, .slice D.ra m.rows.length D.rc, .slice D.sa m.sung.length D.sc, .bool m.done]
    simpa using this
  have h0 := hv.below hB0
  have g0 := hu.below hB0
  have hR := eqRs_any A.ra D.ra A.rc D.rc m.rows _ h0.rows g0.rows h0.fit h0.mr
  have hE : ∀ X, Below w.heap.size w X → Calls Try.prog 78 #[.slice A.sa m.sung.length A.sc, .slice D.sa m.sung.length D.sc] X fun e w' => e = .returned (.bool true) ∧ Below X.heap.size X w' := fun X h => (eq_any A.sa D.sa m.sung.length A.sc m.sung.length D.sc m.sung m.sung X (hv.sung.below h (Nat.le_refl _)) (hu.sung.below h (Nat.le_refl _)) hv.ms).mono (fun e w' ⟨h4, n, h5⟩ => ⟨by rw [h4]; simp, by rw [h5]; exact belowN (Below.refl _ _)⟩)
  unfold mbV mbC
  generalize hWW : (w.alloc (.cells #[.int .i64 m.id, .int .i64 m.n, .slice A.ra m.rows.length A.rc, .slice A.sa m.sung.length A.sc, .bool m.done] 40)).alloc (.cells #[.int .i64 m.id, .int .i64 m.n, .slice D.ra m.rows.length D.rc, .slice D.sa m.sung.length D.sc, .bool m.done] 40) = W at *
  have n1 : (m.id != m.id) = false := by simp
  have n2 : (m.n != m.n) = false := by simp
  have n3 : (m.done != m.done) = false := by simp
  have HX : Hid (Bx W w.heap.size 40 #[.int .i64 m.id, .int .i64 m.n, .slice A.ra m.rows.length A.rc, .slice A.sa m.sung.length A.sc, .bool m.done]) := hx
  have HY : Hid (Bx W (w.heap.size + 1) 40 #[.int .i64 m.id, .int .i64 m.n, .slice D.ra m.rows.length D.rc, .slice D.sa m.sung.length D.sc, .bool m.done]) := hy
  have HB : Hid (Below w.heap.size w W) := hB0
  obtain ⟨c0, c1, c2, c3, c4⟩ := Bx.r5 hx
  obtain ⟨d0, d1, d2, d3, d4⟩ := Bx.r5 hy
  clear hv hu h0 g0 hB0 hx hy
  go_enter Try.func31, Try.ntmps31
  go_wp2_with fail
  refine hR.mono ?_
  rintro e w1 ⟨rfl, hb1⟩
  have HB1 : Hid (Below w.heap.size w w1) := HB.out.trans (hb1.mono HB.out.size)
  have HX1 : Hid (Bx w1 w.heap.size 40 #[.int .i64 m.id, .int .i64 m.n, .slice A.ra m.rows.length A.rc, .slice A.sa m.sung.length A.sc, .bool m.done]) := HX.out.below hb1
  have HY1 : Hid (Bx w1 (w.heap.size + 1) 40 #[.int .i64 m.id, .int .i64 m.n, .slice D.ra m.rows.length D.rc, .slice D.sa m.sung.length D.sc, .bool m.done]) := HY.out.below hb1
  clear c0 c1 c2 c3 c4 d0 d1 d2 d3 d4 hR hb1
  obtain ⟨c0, c1, c2, c3, c4⟩ := Bx.r5 HX1.out
  obtain ⟨d0, d1, d2, d3, d4⟩ := Bx.r5 HY1.out
  go_wp2_with fail
  refine (hE _ HB1.out).mono ?_
  rintro e w2 ⟨rfl, hb2⟩
  have HB2 : Hid (Below w.heap.size w w2) := HB1.out.trans (hb2.mono HB1.out.size)
  clear c0 c1 c2 c3 c4 d0 d1 d2 d3 d4 hE
  obtain ⟨c0, c1, c2, c3, c4⟩ := Bx.r5 (HX1.out.below hb2)
  obtain ⟨d0, d1, d2, d3, d4⟩ := Bx.r5 (HY1.out.below hb2)
  clear hb2
  go_wp2
  go_ret
  exact ⟨rfl, HB2.out⟩
end Go.Proofs.Ytgfeabgmllkdeaa

/-
  The specification's NewMember.
-/
namespace Go.Proofs.Ytgfeabgmllkdeaa
set_option linter.unusedVariables false
set_option linter.unusedSimpArgs false
open Go.RowKit Go.Sort

end Go.Proofs.Ytgfeabgmllkdeaa

/-
  The specification's Say, Doubt and Heard.
-/
namespace Go.Proofs.Ytgfeabgmllkdeaa
set_option linter.unusedVariables false
set_option linter.unusedSimpArgs false
open Go.RowKit Go.Sort

attribute [local irreducible] sv
end Go.Proofs.Ytgfeabgmllkdeaa

/-
  The specification's l17Left.
-/
namespace Go.Proofs.Ytgfeabgmllkdeaa
set_option linter.unusedVariables false
set_option linter.unusedSimpArgs false
open Go.RowKit Go.Sort

end Go.Proofs.Ytgfeabgmllkdeaa

/-
  Places: two elements of one list; what becomes of one leaves the other as it is (general).
-/
namespace Go.Proofs.Ytgfeabgmllkdeaa
set_option linter.unusedVariables false
set_option linter.unusedSimpArgs false
open Go.RowKit Go.Sort

end Go.Proofs.Ytgfeabgmllkdeaa

/-
  The specification's l17Learn: what is plain of it, and what a part of the work on a member holds.
-/
namespace Go.Proofs.Ytgfeabgmllkdeaa
set_option linter.unusedVariables false
set_option linter.unusedSimpArgs false
open Go.RowKit Go.Sort

end Go.Proofs.Ytgfeabgmllkdeaa

/-
  The specification's l17Learn.
-/
namespace Go.Proofs.Ytgfeabgmllkdeaa
set_option linter.unusedVariables false
set_option linter.unusedSimpArgs false
open Go.RowKit Go.Sort

end Go.Proofs.Ytgfeabgmllkdeaa

/-
  The specification's l17Sing.
-/
namespace Go.Proofs.Ytgfeabgmllkdeaa
set_option linter.unusedVariables false
set_option linter.unusedSimpArgs false
open Go.RowKit Go.Sort

end Go.Proofs.Ytgfeabgmllkdeaa

/-
  The specification's l17Adopt.
-/
namespace Go.Proofs.Ytgfeabgmllkdeaa
set_option linter.unusedVariables false
set_option linter.unusedSimpArgs false
open Go.RowKit Go.Sort

end Go.Proofs.Ytgfeabgmllkdeaa

/-
  The contracts of Earlier and Apart, the specification's and the program's, and the walks of the laws FnExactEarlier and FnExactApart.
-/
namespace Go.Proofs.Ytgfeabgmllkdeaa
set_option linter.unusedSimpArgs false
set_option linter.unusedVariables false
open Go.RowKit

end Go.Proofs.Ytgfeabgmllkdeaa

/-
  The specification's l17SameRow.
-/
namespace Go.Proofs.Ytgfeabgmllkdeaa
set_option linter.unusedVariables false
set_option linter.unusedSimpArgs false
open Go.RowKit Go.Sort

end Go.Proofs.Ytgfeabgmllkdeaa

/-
  Lists of rows that lie in no block of the rows themselves; the plain words of l17Lead.
-/
namespace Go.Proofs.Ytgfeabgmllkdeaa
set_option linter.unusedVariables false
set_option linter.unusedSimpArgs false
open Go.RowKit Go.Sort

end Go.Proofs.Ytgfeabgmllkdeaa

/-
  The specification's l17Lead.
-/
namespace Go.Proofs.Ytgfeabgmllkdeaa
set_option linter.unusedVariables false
set_option linter.unusedSimpArgs false
open Go.RowKit Go.Sort

end Go.Proofs.Ytgfeabgmllkdeaa

/-
  The contracts of the specification's SeqOf, SenderOf, IndexOf, l7Counts and Ready.
-/
namespace Go.Proofs.Ytgfeabgmllkdeaa
set_option linter.unusedVariables false
set_option linter.unusedSimpArgs false
open Go.RowKit Go.Sort

end Go.Proofs.Ytgfeabgmllkdeaa

/-
  The contract of the specification's Woven.
-/
namespace Go.Proofs.Ytgfeabgmllkdeaa
set_option linter.unusedVariables false
set_option linter.unusedSimpArgs false
open Go.RowKit Go.Sort

end Go.Proofs.Ytgfeabgmllkdeaa

/-
  The specification's l17End.
-/
namespace Go.Proofs.Ytgfeabgmllkdeaa
set_option linter.unusedVariables false
set_option linter.unusedSimpArgs false
open Go.RowKit Go.Sort

end Go.Proofs.Ytgfeabgmllkdeaa

/-
  A draw that holds a struct of any size (general): the cursor, the answer's room, the struct's own block, its lists.
-/
namespace Go.Proofs.Ytgfeabgmllkdeaa
set_option linter.unusedVariables false
set_option linter.unusedSimpArgs false
open Go.RowKit Go.Sort

section
variable {w X Y Y' : World} {p : Nat} {a : Option Addr} {len cap : Nat} {bs : Nat → Int} {T : TypeId} {o : Nat} {Z C : Array Value} {cs : List Cel} {vs : List Value} {fp : Fp}
end
end Go.Proofs.Ytgfeabgmllkdeaa

/-
  The specification's l1DrawVector once more: its answer lies in memory of its own.
-/
namespace Go.Proofs.Ytgfeabgmllkdeaa
set_option linter.unusedVariables false
set_option linter.unusedSimpArgs false
open Go.RowKit Go.Sort

end Go.Proofs.Ytgfeabgmllkdeaa

/-
  What l16Draw holds: a row under way.
-/
namespace Go.Proofs.Ytgfeabgmllkdeaa
set_option linter.unusedVariables false
set_option linter.unusedSimpArgs false
open Go.RowKit Go.Sort

section
variable {w X Y Y' : World} {p : Nat} {a : Option Addr} {len cap : Nat} {bs : Nat → Int} {o : Nat} {Zr : Array Value} {A : Ra} {r : Rw} {fp : Fp}
end
end Go.Proofs.Ytgfeabgmllkdeaa

/-
  Slices of bytes in memory of one's own; the contract of the specification's l1DrawText.
-/
namespace Go.Proofs.Ytgfeabgmllkdeaa
set_option linter.unusedSimpArgs false
set_option linter.unusedVariables false
open Go.RowKit Go.Sort

attribute [local irreducible] sv
end Go.Proofs.Ytgfeabgmllkdeaa

/-
  The draw l16Draw.
-/
namespace Go.Proofs.Ytgfeabgmllkdeaa
set_option linter.unusedVariables false
set_option linter.unusedSimpArgs false
open Go.RowKit Go.Sort

attribute [local irreducible] sv
end Go.Proofs.Ytgfeabgmllkdeaa

/-
  The draws of stage 16: l16DrawCount, DrawNewRow, DrawRowOk, DrawLater.
-/
namespace Go.Proofs.Ytgfeabgmllkdeaa
set_option linter.unusedVariables false
set_option linter.unusedSimpArgs false
open Go.RowKit Go.Sort

theorem totS_le {T : List (List UInt8)} {m : Nat} (h : ∀ i, i < T.length → (T.getD i []).length ≤ m) : ∀ k, k ≤ T.length → totS T k ≤ k * m
  | 0, _ => by simp [totS]
  | k + 1, hk => by
    have := totS_le h k (by omega)
    have := h k (by omega)
    rw [totS, Nat.add_mul]
    omega
theorem owL_it {w : World} {cs : List Cel} {vs : List Value} {fp : Fp} (h : owL w cs vs fp) {lo : Nat} (hl : ∀ b, fp b → lo ≤ b) : It w cs vs lo w.heap.size := ⟨fp, h, fun b hb => ⟨hl b hb, owL_lt h b hb⟩⟩
end Go.Proofs.Ytgfeabgmllkdeaa

/-
  The draw DrawLater.
-/
namespace Go.Proofs.Ytgfeabgmllkdeaa
set_option linter.unusedVariables false
set_option linter.unusedSimpArgs false
open Go.RowKit Go.Sort

end Go.Proofs.Ytgfeabgmllkdeaa

/-
  The stages of a step, plain: at each of them the member is right.
-/
namespace Go.Proofs.Ytgfeabgmllkdeaa
set_option linter.unusedVariables false
set_option linter.unusedSimpArgs false
open Go.RowKit Go.Sort

end Go.Proofs.Ytgfeabgmllkdeaa

/-
  The specification's l17Step.
-/
namespace Go.Proofs.Ytgfeabgmllkdeaa
set_option linter.unusedVariables false
set_option linter.unusedSimpArgs false
open Go.RowKit Go.Sort

theorem OkR.sz {r : Rw} {n : Nat} (h : OkR r n) : szRw r ≤ 1048576 := by
  have h5 := h.n5
  have h1 := h.gl
  have h2 := h.sl
  have h3 := h.ml
  have h4 := h.tl
  have h6 : totS r.txt r.txt.length ≤ r.txt.length * 20 := totS_le (fun i hi => h.ts _ (by rw [List.getD_eq_getElem?_getD, List.getElem?_eq_getElem hi]; exact List.getElem_mem hi)) _ (Nat.le_refl _)
  unfold szRw
  omega
end Go.Proofs.Ytgfeabgmllkdeaa

/-
  The specification's Step.
-/
namespace Go.Proofs.Ytgfeabgmllkdeaa
set_option linter.unusedVariables false
set_option linter.unusedSimpArgs false
open Go.RowKit Go.Sort

end Go.Proofs.Ytgfeabgmllkdeaa
