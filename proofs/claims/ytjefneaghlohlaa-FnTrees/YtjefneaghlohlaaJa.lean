/-
  Several texts in one: Hud.
-/
import Derived.Test.YtjefneaghlohlaaIz
/-
  container/heap over a heap of numbers: up, down, Push, Pop.
-/
namespace Go.Proofs.Ytjefneaghlohlaa
set_option linter.unusedVariables false
set_option linter.unusedSimpArgs false
open Go.RowKit Go.Sort

/-- The key of a number is itself. -/
def kI (x : Int) : Int := x
theorem kI_ga (xs : List Int) (i : Nat) : kI (ga xs i) = el xs i := el_ga xs i
theorem Hs.open {w0 w : World} {B g0 : Nat} {xs : List Int} (h : Hs w0 B g0 w xs) : ∃ g og cap, w.cell? ⟨B, 0, none⟩ = some (.slice (some ⟨g, og, none⟩) xs.length cap) ∧ OI w g og xs.length cap xs ∧
    ∀ i j m m', i < xs.length → j < xs.length → Hs w0 B g0 ((((w.drewN m').setCell ⟨g, og + i, none⟩ (.int .i64 (el xs j))).setCell ⟨g, og + j, none⟩ (.int .i64 (el xs i))).drewN m) (sw xs i j) := by
  obtain ⟨g, og, cap, hbx, ho, hgB, hg0, hB0, hfr⟩ := h
  refine ⟨g, og, cap, hbx.at 0 rfl, ho, fun i j m m' hi hj => ?_⟩
  refine Hs.drewN ⟨g, og, cap, ?_, ?_, hgB, hg0, hB0, ?_⟩ m
  · rw [sw_len]; exact ((hbx.drewN m').setOther hgB).setOther hgB
  · rw [sw_len, sw_el]
    exact num_set (num_set (ho.drewN m') hi _) hj _
  · have : g = B ∨ g = g0 ∨ w0.heap.size ≤ g := by rcases hg0 with e | e <;> omega
    exact ((hfr.drewN m').set this _ _).set this _ _

set_option maxRecDepth 100000 in
set_option maxHeartbeats 1600000 in
theorem heapUp_any (w0 : World) (B g0 j0 : Nat) (xs : List Int) (w : World) (h : Hs w0 B g0 w xs) (hj0 : j0 < xs.length) (hn : xs.length ≤ 1000000) (h1 : HpX kI xs xs.length j0) (h2 : Gr kI xs xs.length j0) :
    Calls Try.prog 88 #[.iface 73 (.pointer (some ⟨B, 0, none⟩)), .int .i64 (j0 : Int)] w fun e w' => (∃ v, e = .returned v) ∧ ∃ ys, ys.Perm xs ∧ Hp kI ys ys.length ∧ Hs w0 B g0 w' ys := by
  go_enter Try.func88, Try.ntmps88
  go_wp2_with fail
  go_loopw [1] (fun v wr => ∃ (j : Nat) (ys : List Int), j < ys.length ∧ v = .int .i64 (j : Int) ∧ ys.Perm xs ∧ HpX kI ys ys.length j ∧ Gr kI ys ys.length j ∧ Hs w0 B g0 wr ys) (fun v _ => (intOf v).toNat)
  case atStart => exact ⟨j0, xs, hj0, rfl, List.Perm.refl _, h1, h2, h⟩
  case round =>
    obtain ⟨j, ys, hj, rfl, hp, hx, hgr, hh⟩ := hrel
    have hyl : ys.length ≤ 1000000 := by rw [hp.length_eq]; exact hn
    obtain ⟨g, og, cap, c0, ho, hsw⟩ := hh.open
    rcases Nat.eq_zero_or_pos j with e0 | e0
    · subst e0
      have HE : Hid (Hp kI ys ys.length) := hp_of_top kI hx
      have HH : Hid (ys.Perm xs ∧ Hs w0 B g0 wr ys) := ⟨hp, hh⟩
      have hd : Int.tdiv (-1) 2 = 0 := rfl
      clear hp hx hgr hh ho hsw h h1 h2
      go_wp2
      go_end0
      exact ⟨⟨_, rfl⟩, ys, HH.out.1, HE.out, HH.out.2⟩
    · have hd : ((j : Int) - 1).tdiv 2 = (((j - 1) / 2 : Nat) : Int) := by rw [Int.tdiv_eq_ediv_of_nonneg (by omega)]; omega
      have hlt : (j - 1) / 2 < j := by omega
      have mL := meth_less c0
      have HU : Hid (el ys j < el ys ((j - 1) / 2) → HpX kI (sw ys ((j - 1) / 2) j) (sw ys ((j - 1) / 2) j).length ((j - 1) / 2) ∧ Gr kI (sw ys ((j - 1) / 2) j) (sw ys ((j - 1) / 2) j).length ((j - 1) / 2)) := fun hl => by
        rw [sw_len]
        exact up_step kI (Nat.le_refl _) hj e0 hx hgr (by rw [kI_ga, kI_ga]; exact hl)
      have HN : Hid (¬ (el ys j < el ys ((j - 1) / 2)) → Hp kI ys ys.length) := fun hl => hp_of_le kI hx (fun _ => by rw [kI_ga, kI_ga]; omega)
      have HS : Hid (∀ m m', Hs w0 B g0 ((((wr.drewN m').setCell ⟨g, og + (j - 1) / 2, none⟩ (.int .i64 (el ys j))).setCell ⟨g, og + j, none⟩ (.int .i64 (el ys ((j - 1) / 2)))).drewN m) (sw ys ((j - 1) / 2) j)) := fun m m' => hsw _ _ m m' (by omega) hj
      have HPm : Hid ((sw ys ((j - 1) / 2) j).Perm xs) := (sw_perm (by omega) hj).trans hp
      have HL : Hid ((sw ys ((j - 1) / 2) j).length = ys.length) := sw_len _ _ _
      have HH : Hid (ys.Perm xs ∧ Hs w0 B g0 wr ys) := ⟨hp, hh⟩
      have HO : Hid (OI wr g og ys.length cap ys) := ho
      clear hp hx hgr hh ho hsw h h1 h2
      generalize (j - 1) / 2 = p at *
      have hne : ((p : Int) == (j : Int)) = false := by simp; omega
      have hpl : p < ys.length := by omega
      have hLs := ndLess_any g og _ cap j p ys wr HO.out hj hpl
      by_cases hl : el ys j < el ys p
      · have hdl : decide (el ys j < el ys p) = true := by simpa using hl
        rw [hdl] at hLs
        go_wp2_with (go_at_call 105; refine hLs.mono ?_; rintro e w1 ⟨rfl, m1, rfl⟩; have c1 : (wr.drewN m1).cell? ⟨B, 0, none⟩ = some (.slice (some ⟨g, og, none⟩) ys.length cap) := c0; have mS := meth_swap c1)
        refine (ndSwap_any g og _ cap p j ys (wr.drewN m1) (HO.out.drewN m1) hpl hj).mono ?_
        rintro e w2 ⟨⟨v, rfl⟩, m2, rfl⟩
        have HR := HU.out hl
        have HW := HS.out m2 m1
        clear HO HU HN HS mL mS hLs c0 c1
        go_wp2
        go_roundw
        case rel => exact ⟨p, _, by rw [HL.out]; exact hpl, rfl, HPm.out, HR.1, HR.2, HW⟩
        case measure => simp [intOf]; omega
      · have hdl : decide (el ys j < el ys p) = false := by simpa using hl
        rw [hdl] at hLs
        have HE := HN.out hl
        go_wp2_with (go_at_call 105; refine hLs.mono ?_; rintro e w1 ⟨rfl, m1, rfl⟩)
        go_end0
        exact ⟨⟨_, rfl⟩, ys, HH.out.1, HE, HH.out.2.drewN _⟩

set_option maxRecDepth 100000 in
set_option maxHeartbeats 3200000 in
theorem heapDown_any (w0 : World) (B g0 x0 n : Nat) (xs : List Int) (w : World) (h : Hs w0 B g0 w xs) (hx0 : x0 < xs.length) (hnl : n ≤ xs.length) (hn : xs.length ≤ 1000000) (h1 : HdX kI xs n x0) (h2 : Gr kI xs n x0) :
    Calls Try.prog 87 #[.iface 73 (.pointer (some ⟨B, 0, none⟩)), .int .i64 (x0 : Int), .int .i64 (n : Int)] w fun e w' => (∃ v, e = .returned v) ∧ ∃ ys, ys.Perm xs ∧ Hp kI ys n ∧ (∀ k, n ≤ k → k < xs.length → el ys k = el xs k) ∧ Hs w0 B g0 w' ys := by
  go_enter Try.func87, Try.ntmps87
  go_wp2_with fail
  go_loopw [7] (fun v wr => ∃ (x : Nat) (ys : List Int), x < ys.length ∧ v = .int .i64 (x : Int) ∧ ys.Perm xs ∧ HdX kI ys n x ∧ Gr kI ys n x ∧ (∀ k, n ≤ k → k < xs.length → el ys k = el xs k) ∧ Hs w0 B g0 wr ys) (fun v _ => xs.length - (intOf v).toNat)
  case atStart => exact ⟨x0, xs, hx0, rfl, List.Perm.refl _, h1, h2, fun _ _ _ => rfl, h⟩
  case round =>
    obtain ⟨x, ys, hx, rfl, hp, hd, hgr, hrest, hh⟩ := hrel
    have hyl := hp.length_eq
    have HYL : Hid (ys.length = xs.length) := hyl
    have hy6 : ys.length ≤ 1000000 := by omega
    have hny : n ≤ ys.length := by omega
    have hx6 : (x : Int) ≤ 1000000 := by omega
    have hn6 : (n : Int) ≤ 1000000 := by omega
    clear hyl
    obtain ⟨g, og, cap, c0, ho, hsw⟩ := hh.open
    by_cases hc : 2 * x + 1 < n
    · have mL := fun m => meth_less (w := wr.drewN m) (B := B) (v := .slice (some ⟨g, og, none⟩) ys.length cap) c0
      have mS := fun m => meth_swap (w := wr.drewN m) (B := B) (v := .slice (some ⟨g, og, none⟩) ys.length cap) c0
      have mL0 := meth_less c0
      have hLs : Hid (∀ m i j, i < ys.length → j < ys.length → Calls Try.prog 105 #[.slice (some ⟨g, og, none⟩) ys.length cap, .int .i64 (i : Int), .int .i64 (j : Int)] (wr.drewN m) fun e w' => e = .returned (.bool (decide (el ys i < el ys j))) ∧ ∃ m', w' = wr.drewN m') := fun m i j hi hj => (ndLess_any g og _ cap i j ys (wr.drewN m) (ho.drewN m) hi hj).mono (fun e w' ⟨h1, k, h2⟩ => ⟨h1, m + k, by rw [h2]; simp⟩)
      have hLw : Hid (∀ i j, i < ys.length → j < ys.length → Calls Try.prog 105 #[.slice (some ⟨g, og, none⟩) ys.length cap, .int .i64 (i : Int), .int .i64 (j : Int)] wr fun e w' => e = .returned (.bool (decide (el ys i < el ys j))) ∧ ∃ m', w' = wr.drewN m') := fun i j hi hj => ndLess_any g og _ cap i j ys wr ho hi hj
      have HNX : Hid (∀ j, j = 2 * x + 1 ∨ j = 2 * x + 2 → j < n → (∀ c, 0 < c → c < n → (c - 1) / 2 = x → el ys j ≤ el ys c) → (¬ (el ys j < el ys x) → Hp kI ys n) ∧ (el ys j < el ys x → HdX kI (sw ys x j) n j ∧ Gr kI (sw ys x j) n j ∧ (∀ k, n ≤ k → k < xs.length → el (sw ys x j) k = el xs k) ∧ (sw ys x j).Perm xs ∧ (sw ys x j).length = ys.length)) := fun j hj hjn hmin => by
        have hjx : (j - 1) / 2 = x := by omega
        refine ⟨fun hl => hp_of_down kI hd (fun c c0 hc hcx => by rw [kI_ga, kI_ga]; have := hmin c c0 hc hcx; omega), fun hl => ?_⟩
        obtain ⟨r1, r2⟩ := down_step kI hny hjn hjx (by omega) hd hgr (by rw [kI_ga, kI_ga]; exact hl) (fun c c0 hc hcx => by rw [kI_ga, kI_ga]; exact hmin c c0 hc hcx)
        refine ⟨r1, r2, fun k hk hkx => ?_, (sw_perm hx (by omega)).trans hp, sw_len _ _ _⟩
        have := ga_sw (xs := ys) (i := x) (j := j) (k := k) hx (by omega) (by have := HYL.out; omega)
        rw [el_ga, el_ga, el_ga, el_ga, if_neg (by omega), if_neg (by omega)] at this
        rw [this]; exact hrest k hk hkx
      have HSW : Hid (∀ j m m', j < ys.length → Hs w0 B g0 ((((wr.drewN m').setCell ⟨g, og + x, none⟩ (.int .i64 (el ys j))).setCell ⟨g, og + j, none⟩ (.int .i64 (el ys x))).drewN m) (sw ys x j)) := fun j m m' hj => hsw x j m m' hx hj
      have HSC : Hid (∀ j m, j < ys.length → Calls Try.prog 108 #[.slice (some ⟨g, og, none⟩) ys.length cap, .int .i64 (x : Int), .int .i64 (j : Int)] (wr.drewN m) fun e w' => (∃ v, e = .returned v) ∧ ∃ m', w' = (((wr.drewN m).setCell ⟨g, og + x, none⟩ (.int .i64 (el ys j))).setCell ⟨g, og + j, none⟩ (.int .i64 (el ys x))).drewN m') := fun j m hj => ndSwap_any g og _ cap x j ys (wr.drewN m) (ho.drewN m) hx hj
      have HH : Hid (ys.Perm xs ∧ (∀ k, n ≤ k → k < xs.length → el ys k = el xs k) ∧ Hs w0 B g0 wr ys) := ⟨hp, hrest, hh⟩
      clear hp hd hgr hrest hh ho hsw h h1 h2
      have hk1 : (2 : Int) * (x : Int) + 1 < (n : Int) := by omega
      by_cases hc2 : 2 * x + 2 < n
      · have hk2 : (2 : Int) * (x : Int) + 1 + 1 < (n : Int) := by omega
        have hA := hLw.out (2 * x + 2) (2 * x + 1) (by omega) (by omega)
        rw [show ((2 * x + 2 : Nat) : Int) = 2 * (x : Int) + 1 + 1 by omega, show ((2 * x + 1 : Nat) : Int) = 2 * (x : Int) + 1 by omega] at hA
        by_cases hls : el ys (2 * x + 2) < el ys (2 * x + 1)
        · have hdd : decide (el ys (2 * x + 2) < el ys (2 * x + 1)) = true := by simpa using hls
          rw [hdd] at hA
          go_wp2_with fail
          refine hA.mono ?_
          rintro e w4 ⟨rfl, m1, rfl⟩
          clear hA hdd
          have hE : (((2 * x + 2) : Nat) : Int) = 2 * (x : Int) + 1 + 1 := by omega
          have hC := hLs.out m1 (2 * x + 2) x (by omega) hx
          have hSw := fun m => HSC.out (2 * x + 2) m (by omega)
          rw [hE] at hC hSw
          have HSe : Hid (∀ m m', Hs w0 B g0 ((((wr.drewN m').setCell ⟨g, og + x, none⟩ (.int .i64 (el ys (2 * x + 2)))).setCell ⟨g, og + (2 * x + 2), none⟩ (.int .i64 (el ys x))).drewN m) (sw ys x (2 * x + 2))) := fun m m' => HSW.out (2 * x + 2) m m' (by omega)
          obtain ⟨hno, hyes⟩ := HNX.out (2 * x + 2) (by omega) (by omega) (fun c c0 hcn hcx => by rcases (show c = 2 * x + 1 ∨ c = 2 * x + 2 by omega) with e | e <;> (rw [e]; omega))
          have hjn : (2 * x + 2) < n := by omega
          have hjx : x < (2 * x + 2) := by omega
          clear HNX HSC HSW hLs hLw
          generalize hjj : 2 * x + 2 = jj at *
          have HJJ : Hid (2 * x + 2 = jj) := hjj
          clear hjj
          by_cases hl : el ys jj < el ys x
          · have hdl : decide (el ys jj < el ys x) = true := by simpa using hl
            rw [hdl] at hC
            obtain ⟨r1, r2, r3, r4, r5⟩ := hyes hl
            have HR : Hid (HdX kI (sw ys x jj) n jj ∧ Gr kI (sw ys x jj) n jj ∧ (∀ k, n ≤ k → k < xs.length → el (sw ys x jj) k = el xs k) ∧ (sw ys x jj).Perm xs ∧ (sw ys x jj).length = ys.length) := ⟨r1, r2, r3, r4, r5⟩
            clear r1 r2 r3 r4 r5 hyes hno
            go_wp2_with fail
            refine hC.mono ?_
            rintro e w5 ⟨rfl, m5, rfl⟩
            go_wp2_with fail
            refine (hSw m5).mono ?_
            rintro e w6 ⟨⟨v, rfl⟩, m6, rfl⟩
            have HW := HSe.out m6 m5
            have hEj : (jj : Int) = 2 * (x : Int) + 1 + 1 := by have := HJJ.out; omega
            have hj6 : (jj : Int) ≤ 1000000 := by omega
            clear HSe hSw hC mL mS mL0 c0
            go_wp2
            go_roundw
            case rel => exact ⟨jj, _, by rw [HR.out.2.2.2.2]; omega, by rw [hEj], HR.out.2.2.2.1, HR.out.1, HR.out.2.1, HR.out.2.2.1, HW⟩
            case measure => have := HYL.out; simp [intOf]; omega
          · have hdl : decide (el ys jj < el ys x) = false := by simpa using hl
            rw [hdl] at hC
            have HE := hno (by omega)
            clear hyes hno HSe hSw
            go_wp2_with fail
            refine hC.mono ?_
            rintro e w5 ⟨rfl, m5, rfl⟩
            clear hC
            go_wp2
            go_ret
            exact ⟨⟨_, rfl⟩, ys, HH.out.1, HE, HH.out.2.1, HH.out.2.2.drewN _⟩
        · have hdd : decide (el ys (2 * x + 2) < el ys (2 * x + 1)) = false := by simpa using hls
          rw [hdd] at hA
          go_wp2_with fail
          refine hA.mono ?_
          rintro e w4 ⟨rfl, m1, rfl⟩
          clear hA hdd
          have hE : (((2 * x + 1) : Nat) : Int) = 2 * (x : Int) + 1 := by omega
          have hC := hLs.out m1 (2 * x + 1) x (by omega) hx
          have hSw := fun m => HSC.out (2 * x + 1) m (by omega)
          rw [hE] at hC hSw
          have HSe : Hid (∀ m m', Hs w0 B g0 ((((wr.drewN m').setCell ⟨g, og + x, none⟩ (.int .i64 (el ys (2 * x + 1)))).setCell ⟨g, og + (2 * x + 1), none⟩ (.int .i64 (el ys x))).drewN m) (sw ys x (2 * x + 1))) := fun m m' => HSW.out (2 * x + 1) m m' (by omega)
          obtain ⟨hno, hyes⟩ := HNX.out (2 * x + 1) (by omega) (by omega) (fun c c0 hcn hcx => by rcases (show c = 2 * x + 1 ∨ c = 2 * x + 2 by omega) with e | e <;> (rw [e]; omega))
          have hjn : (2 * x + 1) < n := by omega
          have hjx : x < (2 * x + 1) := by omega
          clear HNX HSC HSW hLs hLw
          generalize hjj : 2 * x + 1 = jj at *
          have HJJ : Hid (2 * x + 1 = jj) := hjj
          clear hjj
          by_cases hl : el ys jj < el ys x
          · have hdl : decide (el ys jj < el ys x) = true := by simpa using hl
            rw [hdl] at hC
            obtain ⟨r1, r2, r3, r4, r5⟩ := hyes hl
            have HR : Hid (HdX kI (sw ys x jj) n jj ∧ Gr kI (sw ys x jj) n jj ∧ (∀ k, n ≤ k → k < xs.length → el (sw ys x jj) k = el xs k) ∧ (sw ys x jj).Perm xs ∧ (sw ys x jj).length = ys.length) := ⟨r1, r2, r3, r4, r5⟩
            clear r1 r2 r3 r4 r5 hyes hno
            go_wp2_with fail
            refine hC.mono ?_
            rintro e w5 ⟨rfl, m5, rfl⟩
            go_wp2_with fail
            refine (hSw m5).mono ?_
            rintro e w6 ⟨⟨v, rfl⟩, m6, rfl⟩
            have HW := HSe.out m6 m5
            have hEj : (jj : Int) = 2 * (x : Int) + 1 := by have := HJJ.out; omega
            have hj6 : (jj : Int) ≤ 1000000 := by omega
            clear HSe hSw hC mL mS mL0 c0
            go_wp2
            go_roundw
            case rel => exact ⟨jj, _, by rw [HR.out.2.2.2.2]; omega, by rw [hEj], HR.out.2.2.2.1, HR.out.1, HR.out.2.1, HR.out.2.2.1, HW⟩
            case measure => have := HYL.out; simp [intOf]; omega
          · have hdl : decide (el ys jj < el ys x) = false := by simpa using hl
            rw [hdl] at hC
            have HE := hno (by omega)
            clear hyes hno HSe hSw
            go_wp2_with fail
            refine hC.mono ?_
            rintro e w5 ⟨rfl, m5, rfl⟩
            clear hC
            go_wp2
            go_ret
            exact ⟨⟨_, rfl⟩, ys, HH.out.1, HE, HH.out.2.1, HH.out.2.2.drewN _⟩
      · have hk2 : ¬ ((2 : Int) * (x : Int) + 1 + 1 < (n : Int)) := by omega
        have hk3 : decide ((2 : Int) * (x : Int) + 1 + 1 < (n : Int)) = false := by simpa using hk2
        have hE : (((2 * x + 1) : Nat) : Int) = 2 * (x : Int) + 1 := by omega
        have hC := hLw.out (2 * x + 1) x (by omega) hx
        have hSw := fun m => HSC.out (2 * x + 1) m (by omega)
        rw [hE] at hC hSw
        have HSe : Hid (∀ m m', Hs w0 B g0 ((((wr.drewN m').setCell ⟨g, og + x, none⟩ (.int .i64 (el ys (2 * x + 1)))).setCell ⟨g, og + (2 * x + 1), none⟩ (.int .i64 (el ys x))).drewN m) (sw ys x (2 * x + 1))) := fun m m' => HSW.out (2 * x + 1) m m' (by omega)
        obtain ⟨hno, hyes⟩ := HNX.out (2 * x + 1) (by omega) (by omega) (fun c c0 hcn hcx => by rw [show c = 2 * x + 1 by omega]; omega)
        have hjn : (2 * x + 1) < n := by omega
        have hjx : x < (2 * x + 1) := by omega
        clear HNX HSC HSW hLs hLw
        generalize hjj : 2 * x + 1 = jj at *
        have HJJ : Hid (2 * x + 1 = jj) := hjj
        clear hjj
        by_cases hl : el ys jj < el ys x
        · have hdl : decide (el ys jj < el ys x) = true := by simpa using hl
          rw [hdl] at hC
          obtain ⟨r1, r2, r3, r4, r5⟩ := hyes hl
          have HR : Hid (HdX kI (sw ys x jj) n jj ∧ Gr kI (sw ys x jj) n jj ∧ (∀ k, n ≤ k → k < xs.length → el (sw ys x jj) k = el xs k) ∧ (sw ys x jj).Perm xs ∧ (sw ys x jj).length = ys.length) := ⟨r1, r2, r3, r4, r5⟩
          clear r1 r2 r3 r4 r5 hyes hno
          go_wp2_with fail
          refine hC.mono ?_
          rintro e w5 ⟨rfl, m5, rfl⟩
          go_wp2_with fail
          refine (hSw m5).mono ?_
          rintro e w6 ⟨⟨v, rfl⟩, m6, rfl⟩
          have HW := HSe.out m6 m5
          have hEj : (jj : Int) = 2 * (x : Int) + 1 := by have := HJJ.out; omega
          have hj6 : (jj : Int) ≤ 1000000 := by omega
          clear HSe hSw hC mL mS mL0 c0
          go_wp2
          go_roundw
          case rel => exact ⟨jj, _, by rw [HR.out.2.2.2.2]; omega, by rw [hEj], HR.out.2.2.2.1, HR.out.1, HR.out.2.1, HR.out.2.2.1, HW⟩
          case measure => have := HYL.out; simp [intOf]; omega
        · have hdl : decide (el ys jj < el ys x) = false := by simpa using hl
          rw [hdl] at hC
          have HE := hno (by omega)
          clear hyes hno HSe hSw
          go_wp2_with fail
          refine hC.mono ?_
          rintro e w5 ⟨rfl, m5, rfl⟩
          clear hC
          go_wp2
          go_ret
          exact ⟨⟨_, rfl⟩, ys, HH.out.1, HE, HH.out.2.1, HH.out.2.2.drewN _⟩
    · have HE : Hid (Hp kI ys n) := hp_of_down kI hd (fun c c0 hcn hcx => by omega)
      have HH : Hid (ys.Perm xs ∧ (∀ k, n ≤ k → k < xs.length → el ys k = el xs k) ∧ Hs w0 B g0 wr ys) := ⟨hp, hrest, hh⟩
      have hk1 : ¬ ((2 : Int) * (x : Int) + 1 < (n : Int)) := by omega
      have hk2 : decide ((n : Int) ≤ 2 * (x : Int) + 1) = true := by simp; omega
      clear hp hd hgr hrest hh ho hsw h h1 h2
      go_wp2
      go_ret
      exact ⟨⟨_, rfl⟩, ys, HH.out.1, HE.out, HH.out.2.1, HH.out.2.2⟩
end Go.Proofs.Ytjefneaghlohlaa
