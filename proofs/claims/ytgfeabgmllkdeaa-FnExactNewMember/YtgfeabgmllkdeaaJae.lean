/-
  Texts in one: Nmc Nmp.
-/
import Derived.Test.YtgfeabgmllkdeaaJad
/-
  The program's check and MemberOk.
-/
namespace Go.Proofs.Ytgfeabgmllkdeaa
set_option linter.unusedVariables false
set_option linter.unusedSimpArgs false
open Go.RowKit Go.Sort

theorem okMb_chk (m : Mb) : okMb m = ((inB m.n 1 5 && (inB m.id 0 (m.n - 1) && decide ((m.rows.length : Int) = m.n))) && (m.rows.all (fun r => okRw r m.n) && ((decide (el m.own.got m.i = (m.own.txt.length : Int)) && decide (m.id ∉ m.own.sus)) && (susB m.sung 60 && (if m.done = true then m.own.rdy else (List.range m.sung.length).all (fun i => decide (el m.sung i = (i : Int)))))))) := by
  have hel : (∀ i, i < m.sung.length → inB (el m.sung i) 0 59 = true) ↔ ∀ x ∈ m.sung, inB x 0 59 = true := by
    constructor
    · intro h x hx
      obtain ⟨j, hj, rfl⟩ := List.mem_iff_getElem.1 hx
      have := h j hj
      simpa [el, hj] using this
    · intro h i hi
      exact h _ (el_mem hi)
  rw [Bool.eq_iff_iff]
  unfold okMb okSg susB
  simp only [Bool.and_eq_true, List.all_eq_true, decide_eq_true_eq, List.mem_range, Bool.or_eq_true, Bool.not_eq_true']
  rw [show (60 : Int) - 1 = 59 from rfl]
  constructor
  · rintro ⟨h1, h2, h3, h4, h5, h6, h7, h8, h9, h10⟩
    refine ⟨⟨h1, h2, h3⟩, h6, ⟨h8, h9⟩, ⟨hel.1 (fun i hi => (h7 i hi).1), h5⟩, ?_⟩
    split
    · rename_i hd
      rcases h10 with h | h
      · rw [hd] at h; cases h
      · exact h
    · rename_i hd
      simp only [List.all_eq_true, List.mem_range, decide_eq_true_eq]
      exact fun i hi => ((h7 i hi).2).resolve_left hd
  · rintro ⟨⟨h1, h2, h3⟩, h6, ⟨h8, h9⟩, ⟨h7, h5⟩, h10⟩
    refine ⟨h1, h2, h3, ?_, h5, h6, fun i hi => ⟨hel.2 h7 i hi, ?_⟩, h8, h9, ?_⟩
    · refine ris_short (k := 60) (ris_iff.1 h5) (fun x hx => ?_)
      have := inB7.1 (h7 x hx)
      omega
    · by_cases hd : m.done = true
      · exact .inl hd
      · rw [if_neg hd] at h10
        simp only [List.all_eq_true, List.mem_range, decide_eq_true_eq] at h10
        exact .inr (h10 i hi)
    · by_cases hd : m.done = true
      · rw [if_pos hd] at h10; exact .inr h10
      · exact .inl (by simpa using hd)
theorem MbP.below {w w' : World} {A : Ma} {m : Mb} (h : MbP w A m) (hb : Below w.heap.size w w') : MbP w' A m := by
  obtain ⟨f, hf⟩ := h.own
  exact ⟨⟨f, owL_below hf hb⟩, h.fit, h.i64, h.sz⟩
theorem sum_mem_le {F : Rw → Nat} {r : Rw} : ∀ {R : List Rw}, r ∈ R → F r ≤ (R.map F).sum
  | x :: R, h => by
    rw [List.map_cons, List.sum_cons]
    rcases List.mem_cons.1 h with h | h
    · rw [h]; omega
    · have := sum_mem_le (F := F) h; omega
theorem szRw_mem {m : Mb} {r : Rw} (h : r ∈ m.rows) : szRw r ≤ szMb m := by
  have := sum_mem_le (F := szRw) h
  unfold szMb szRs szP
  rw [List.take_length]
  omega
/-- A row of a member that a program is handed. -/
theorem MbP.row {w : World} {A : Ma} {m : Mb} (h : MbP w A m) {k : Nat} (hk : k < m.rows.length) : ∃ g off Ak, A.ra = some ⟨g, off, none⟩ ∧ C8 w g (off + k * 8) (.int .i64 (rowN m.rows k).ver) (.slice Ak.ta (rowN m.rows k).txt.length Ak.tc) (.slice Ak.ga (rowN m.rows k).got.length Ak.gc) (.slice Ak.sa (rowN m.rows k).sus.length Ak.sc) (.bool (rowN m.rows k).wed) (.bool (rowN m.rows k).rdy) (.int .i64 (rowN m.rows k).by_) (.slice Ak.ma (rowN m.rows k).trm.length Ak.mc) ∧ RwP w Ak (rowN m.rows k) := by
  obtain ⟨f, hf⟩ := h.own
  obtain ⟨f1, f2, o1, o2, _, _⟩ := owL_two hf
  obtain ⟨g, off, f3, hra, _, _, ⟨vs, hpc, hov, _⟩, _⟩ := ow_elF rw8_len (by omega) o1 (rowN_at hk)
  obtain ⟨Ak, rfl, hl⟩ := rw8_ow hov
  have hl8 : (rwC Ak (rowN m.rows k)).toList.length = 8 := rfl
  have c := hpc.cell
  have hfit : FitR (rowN m.rows k) := h.fit.1 _ (rowN_mem hk)
  have hs := szRw_mem (rowN_mem hk)
  exact ⟨g, off, Ak, hra, ⟨⟨c 0 (by rw [hl8]; omega), c 1 (by rw [hl8]; omega), c 2 (by rw [hl8]; omega), c 3 (by rw [hl8]; omega)⟩, c 4 (by rw [hl8]; omega), c 5 (by rw [hl8]; omega), c 6 (by rw [hl8]; omega), c 7 (by rw [hl8]; omega)⟩, it_rwp (owL_it hl (lo := 0) (fun b _ => Nat.zero_le b)) hfit (h.i64.2.2 _ (rowN_mem hk)) (Nat.le_trans hs h.sz)⟩
theorem MbP.mbs {w : World} {A : Ma} {m : Mb} (h : MbP w A m) : MbS w A m := by
  obtain ⟨f, hf⟩ := h.own
  exact mbs_of (owL_vw hf) h.fit
def fromN (s : List Int) : Bool := (List.range s.length).all (fun i => decide (el s i = (i : Int)))
set_option maxRecDepth 100000 in
set_option maxHeartbeats 800000 in
theorem cfn_any (a : Option Addr) (cap : Nat) (xs : List Int) (w : World) (hv : Vec w a xs.length xs) (hm : xs.length ≤ maxLen) :
    Calls Try.prog 110 #[.slice a xs.length cap] w fun e w' => e = .returned (.bool (fromN xs)) ∧ w' = w := by
  obtain ⟨_, _, hc⟩ := hv
  unfold maxLen at hm
  have HT : Hid ((∀ j, j < xs.length → el xs j = (j : Int)) → fromN xs = true) := fun h => by
    simp only [Hid, fromN, List.all_eq_true, List.mem_range, decide_eq_true_eq]
    exact h
  have HF : Hid (∀ k, k < xs.length → el xs k ≠ (k : Int) → fromN xs = false) := fun k hk h => by
    rw [Bool.eq_false_iff]
    intro hq
    simp only [fromN, List.all_eq_true, List.mem_range, decide_eq_true_eq] at hq
    exact h (hq k hk)
  generalize fromN xs = Q at *
  go_enter Try.func110, Try.ntmps110
  go_wp2
  go_loopw [7] (fun i wr => ∃ k : Nat, k ≤ xs.length ∧ i = .int .i64 k ∧ (∀ j, j < k → el xs j = (j : Int)) ∧ wr = w) (fun i _ => xs.length - (intOf i).toNat)
  case atStart => exact ⟨0, Nat.zero_le _, rfl, fun j hj => by omega, rfl⟩
  case round =>
    obtain ⟨k, hk, rfl, hall, rfl⟩ := hrel
    have HA : Hid (∀ j, j < k → el xs j = (j : Int)) := hall
    clear hall
    by_cases hlt : k < xs.length
    · rcases hc with h0 | ⟨b, off, rfl, hc⟩
      · omega
      have hck := hc k hlt
      have k1 : (k : Int) < (xs.length : Int) := by omega
      have k0 : (0 : Int) ≤ (k : Int) := by omega
      by_cases he : el xs k = (k : Int)
      · have HK : Hid (∀ j, j < k + 1 → el xs j = (j : Int)) := fun j hj => by
          by_cases e : j = k
          · subst e; exact he
          · exact HA.out j (by omega)
        have e1 : ((el xs k) != (k : Int)) = false := by simp [he]
        clear he hc
        generalize el xs k = x at *
        go_wp2
        go_roundw
        case rel => exact ⟨k + 1, by omega, by go_num, HK.out, by first | rfl | trivial⟩
        case measure => simp [intOf]; omega
      · have HK : Hid (Q = false) := HF.out k hlt he
        have e1 : ((el xs k) != (k : Int)) = true := by simp [he]
        clear he hc
        generalize el xs k = x at *
        go_wp2
        go_ret
        exact ⟨ret_bool (by rw [HK.out]), by first | rfl | trivial⟩
    · have k1 : ¬ ((k : Int) < (xs.length : Int)) := by omega
      obtain rfl : k = xs.length := by omega
      have HK : Hid (Q = true) := HT.out HA.out
      clear hc
      go_wp2
      go_ret
      exact ⟨ret_bool (by rw [HK.out]), by first | rfl | trivial⟩
theorem okMb_1 {m : Mb} (h : (inB m.n 1 5 && (inB m.id 0 (m.n - 1) && decide ((m.rows.length : Int) = m.n))) = false) : okMb m = false := by rw [okMb_chk, h]; rfl
theorem okMb_2 {m : Mb} {k : Nat} (hk : k < m.rows.length) (h : okRw (rowN m.rows k) m.n = false) : okMb m = false := by
  have : m.rows.all (fun r => okRw r m.n) = false := by
    rw [Bool.eq_false_iff]
    intro hq
    rw [List.all_eq_true.1 hq _ (rowN_mem hk)] at h
    cases h
  rw [okMb_chk, this]
  simp
theorem okMb_3 {m : Mb} (h : (decide (el m.own.got m.i = (m.own.txt.length : Int)) && decide (m.id ∉ m.own.sus)) = false) : okMb m = false := by rw [okMb_chk, h]; simp
theorem okMb_4 {m : Mb} (h : susB m.sung 60 = false) : okMb m = false := by rw [okMb_chk, h]; simp
theorem okMb_5 {m : Mb} (h1 : (inB m.n 1 5 && (inB m.id 0 (m.n - 1) && decide ((m.rows.length : Int) = m.n))) = true) (h2 : ∀ k, k < m.rows.length → okRw (rowN m.rows k) m.n = true) (h3 : (decide (el m.own.got m.i = (m.own.txt.length : Int)) && decide (m.id ∉ m.own.sus)) = true) (h4 : susB m.sung 60 = true) : okMb m = (if m.done = true then m.own.rdy else fromN m.sung) := by
  have : m.rows.all (fun r => okRw r m.n) = true := by
    rw [List.all_eq_true]
    intro r hr
    obtain ⟨k, hk, rfl⟩ := List.mem_iff_getElem.1 hr
    have := h2 k hk
    simpa [rowN, List.getD, hk] using this
  rw [okMb_chk, h1, this, h3, h4]
  rfl
set_option maxRecDepth 100000 in
set_option maxHeartbeats 1600000 in
theorem chk_any (A : Ma) (m : Mb) (w : World) (hv : MbP w A m) :
    Calls Try.prog 76 #[mbV A m] w fun e w' => ((okMb m = true ∧ e = .returned (.tuple #[])) ∨ (okMb m = false ∧ Gu e)) ∧ Below w.heap.size w w' := by
  have hmix := mixed17
  have hb0 := oneA16 w (.cells (mbC A m) 40)
  have hx0 := Bx.new w 40 (mbC A m)
  have h0 := hv.below hb0
  unfold mbV mbC at *
  generalize hWW : w.alloc (.cells #[.int .i64 m.id, .int .i64 m.n, .slice A.ra m.rows.length A.rc, .slice A.sa m.sung.length A.sc, .bool m.done] 40) = W at *
  have HB0 : Hid (Below w.heap.size w W) := hb0
  have HP : Hid (MbP W A m) := h0
  have HX : Hid (Bx W w.heap.size 40 #[.int .i64 m.id, .int .i64 m.n, .slice A.ra m.rows.length A.rc, .slice A.sa m.sung.length A.sc, .bool m.done]) := hx0
  obtain ⟨c0, c1, c2, c3, c4⟩ := Bx.r5 hx0
  have hsl := h0.mbs.ms
  have hrl := h0.mbs.mr
  unfold maxLen at hsl hrl
  clear hb0 h0 hx0 hv
  cases e1 : inB m.n 1 5 with
  | false =>
    have HZ : Hid (okMb m = false) := okMb_1 (by rw [e1]; rfl)
    go_enter Try.func76, Try.ntmps76
    go_wp2_with (first | (go_at_call 105; refine (isRl_any _ _).mono ?_; rintro e w' ⟨rfl, hw'⟩; rw [hw', e1]; clear hw') | (go_at_call 104; refine (wantF _).mono ?_; rintro e w' ⟨⟨T, v, rfl⟩, hw'⟩; rw [hw']; clear hw'))
    exact ⟨rfl, .inr ⟨HZ.out, _, _, rfl⟩, HB0.out⟩
  | true =>
  have hn5 := inB7.1 e1
  have hwn : wrap64 (m.n - 1) = m.n - 1 := by unfold wrap64; omega
  cases e2 : inB m.id 0 (m.n - 1) with
  | false =>
    have HZ : Hid (okMb m = false) := okMb_1 (by rw [e1, e2]; rfl)
    go_enter Try.func76, Try.ntmps76
    go_wp2_with (first | (go_at_call 105; refine (isRl_any _ _).mono ?_; rintro e w' ⟨rfl, hw'⟩; rw [hw', e1]; clear hw') | (go_at_call 106; refine (isW14_any _ _ _).mono ?_; rintro e w' ⟨rfl, hw'⟩; rw [hw', e2]; clear hw') | (go_at_call 104; refine (wantF _).mono ?_; rintro e w' ⟨⟨T, v, rfl⟩, hw'⟩; rw [hw']; clear hw'))
    exact ⟨rfl, .inr ⟨HZ.out, _, _, rfl⟩, HB0.out⟩
  | true =>
  have hid := inB7.1 e2
  by_cases e3 : (m.rows.length : Int) = m.n
  case neg =>
    have HZ : Hid (okMb m = false) := okMb_1 (by rw [e1, e2, decide_eq_false e3]; rfl)
    have e3' : ((m.rows.length : Int) == m.n) = false := by simpa using e3
    go_enter Try.func76, Try.ntmps76
    go_wp2_with (first | (go_at_call 105; refine (isRl_any _ _).mono ?_; rintro e w' ⟨rfl, hw'⟩; rw [hw', e1]; clear hw') | (go_at_call 106; refine (isW14_any _ _ _).mono ?_; rintro e w' ⟨rfl, hw'⟩; rw [hw', e2]; clear hw') | (go_at_call 104; refine (wantF _).mono ?_; rintro e w' ⟨⟨T, v, rfl⟩, hw'⟩; rw [hw']; clear hw'))
    exact ⟨rfl, .inr ⟨HZ.out, _, _, rfl⟩, HB0.out⟩
  have H1 : Hid ((inB m.n 1 5 && (inB m.id 0 (m.n - 1) && decide ((m.rows.length : Int) = m.n))) = true) := by rw [Hid, e1, e2, decide_eq_true e3]; rfl
  have e3' : ((m.rows.length : Int) == m.n) = true := by simpa using e3
  have hRl : ∀ X, Calls Try.prog 105 #[.int .i64 m.n] X fun e w' => e = .returned (.bool true) ∧ w' = X := fun X => by
    have := isRl_any m.n X
    rw [e1] at this
    exact this
  have hWi : ∀ X, Calls Try.prog 106 #[.int .i64 m.id, .int .i64 (m.n - 1)] X fun e w' => e = .returned (.bool true) ∧ w' = X := fun X => by
    have := isW14_any m.id (m.n - 1) X
    rw [e2] at this
    exact this
  have HI : Hid (∃ i : Nat, m.id = (i : Int) ∧ i < m.rows.length ∧ m.i = i) := ⟨m.id.toNat, by omega, by omega, rfl⟩
  have HN : Hid (∃ n : Nat, m.n = (n : Int) ∧ m.rows.length = n ∧ 1 ≤ n ∧ n ≤ 5) := ⟨m.n.toNat, by omega, by omega, by omega, by omega⟩
  clear e1 e2 e3 hid
  go_enter Try.func76, Try.ntmps76
  go_wp2_with (first | (go_at_call 105; refine (hRl _).mono ?_; rintro e w' ⟨rfl, hw'⟩; rw [hw']; clear hw') | (go_at_call 106; refine (hWi _).mono ?_; rintro e w' ⟨rfl, hw'⟩; rw [hw']; clear hw') | (go_at_call 104; refine (wantT _).mono ?_; rintro e w' ⟨rfl, hw'⟩; rw [hw']; clear hw'))
  clear hRl hWi c0 c1 c2 c3 c4
  go_loopw [28] (fun v wr => ∃ k : Nat, k ≤ m.rows.length ∧ v = .int .i64 (k : Int) ∧ (∀ j, j < k → okRw (rowN m.rows j) m.n = true) ∧ Below W.heap.size W wr) (fun v _ => m.rows.length - (intOf v).toNat)
  case atStart => exact ⟨0, Nat.zero_le _, rfl, fun j hj => by omega, Below.refl _ _⟩
  case round =>
    obtain ⟨k, hk, rfl, hall, hbr⟩ := hrel
    have HA : Hid (∀ j, j < k → okRw (rowN m.rows j) m.n = true) := hall
    have HBr : Hid (Below W.heap.size W wr) := hbr
    obtain ⟨c0, c1, c2, c3, c4⟩ := Bx.r5 (HX.out.below hbr)
    by_cases hlt : k < m.rows.length
    · obtain ⟨g, off, Ak, hra, ⟨⟨d0, d1, d2, d3⟩, d4, d5, d6, d7⟩, hrp⟩ := (HP.out.below hbr).row hlt
      have HZ : Hid (okRw (rowN m.rows k) m.n = false → okMb m = false) := fun h => okMb_2 hlt h
      rw [hra] at *
      have k0 : (0 : Int) ≤ (k : Int) := by omega
      have k1 : (k : Int) < (m.rows.length : Int) := by omega
      have HK : Hid (okRw (rowN m.rows k) m.n = true → ∀ j, j < k + 1 → okRw (rowN m.rows j) m.n = true) := fun h j hj => by
        by_cases e : j = k
        · subst e; exact h
        · exact HA.out j (by omega)
      generalize rowN m.rows k = r at *
      have hbl := oneA16 wr (.cells #[.int .i64 r.ver, .slice Ak.ta r.txt.length Ak.tc, .slice Ak.ga r.got.length Ak.gc, .slice Ak.sa r.sus.length Ak.sc, .bool r.wed, .bool r.rdy, .int .i64 r.by_, .slice Ak.ma r.trm.length Ak.mc] 55)
      have hxr := Bx.new wr 55 #[.int .i64 r.ver, .slice Ak.ta r.txt.length Ak.tc, .slice Ak.ga r.got.length Ak.gc, .slice Ak.sa r.sus.length Ak.sc, .bool r.wed, .bool r.rdy, .int .i64 r.by_, .slice Ak.ma r.trm.length Ak.mc]
      have hRo := rowI_any Ak r m.n _ (hrp.below hbl)
      unfold rwV rwC at hRo
      have HBw : Hid (Below W.heap.size W (wr.alloc (.cells #[.int .i64 r.ver, .slice Ak.ta r.txt.length Ak.tc, .slice Ak.ga r.got.length Ak.gc, .slice Ak.sa r.sus.length Ak.sc, .bool r.wed, .bool r.rdy, .int .i64 r.by_, .slice Ak.ma r.trm.length Ak.mc] 55))) := HBr.out.trans (hbl.mono HBr.out.size)
      have c1' := (hbl.cell (World.block_lt_of_cell? _ _ c1)).trans c1
      obtain ⟨⟨x0, x1, x2, x3⟩, x4, x5, x6, x7⟩ := Bx.r8 hxr
      clear hrp hall hbl hxr
      go_upto_region 5 with fail
      generalize wr.alloc (.cells #[.int .i64 r.ver, .slice Ak.ta r.txt.length Ak.tc, .slice Ak.ga r.got.length Ak.gc, .slice Ak.sa r.sus.length Ak.sc, .bool r.wed, .bool r.rdy, .int .i64 r.by_, .slice Ak.ma r.trm.length Ak.mc] 55) = W5 at *
      clear c0 c1 c2 c3 c4 d0 d1 d2 d3 d4 d5 d6 d7
      cases hb : okRw r m.n with
      | false =>
        have HZ1 : Hid (okMb m = false) := HZ.out hb
        rw [hb] at hRo
        go_wp2_with (first | (go_at_call 107; refine hRo.mono ?_; rintro e w1 ⟨rfl, hb1⟩; have HB1 : Hid (Below w.heap.size w w1) := (HB0.out.trans (HBw.out.mono HB0.out.size)).trans (hb1.mono (HB0.out.trans (HBw.out.mono HB0.out.size)).size); clear hb1) | (go_at_call 104; refine (wantF _).mono ?_; rintro e w' ⟨⟨T, v, rfl⟩, hw'⟩; rw [hw']; clear hw'))
        exact ⟨rfl, .inr ⟨HZ1.out, _, _, rfl⟩, HB1.out⟩
      | true =>
        have HK1 := HK.out hb
        have HK2 : Hid (∀ j, j < k + 1 → okRw (rowN m.rows j) m.n = true) := HK1
        rw [hb] at hRo
        clear HK HK1
        go_wp2_with (first | (go_at_call 107; refine hRo.mono ?_; rintro e w1 ⟨rfl, hb1⟩; have HB1 : Hid (Below W.heap.size W w1) := HBw.out.trans (hb1.mono HBw.out.size); clear hb1) | (go_at_call 104; refine (wantT _).mono ?_; rintro e w' ⟨rfl, hw'⟩; rw [hw']; clear hw'))
        go_roundw
        case rel => exact ⟨k + 1, by omega, by go_num, HK2.out, HB1.out⟩
        case measure => simp [intOf]; omega
    · have k1 : ¬ ((k : Int) < (m.rows.length : Int)) := by omega
      obtain rfl : k = m.rows.length := by omega
      have H2 : Hid (∀ j, j < m.rows.length → okRw (rowN m.rows j) m.n = true) := HA.out
      obtain ⟨i, hi, hil, hmi⟩ := HI.out
      obtain ⟨n, hn, hln, hn1, hn5'⟩ := HN.out
      obtain ⟨g, off, Ak, hra, ⟨⟨d0, d1, d2, d3⟩, d4, d5, d6, d7⟩, hrp⟩ := (HP.out.below hbr).row hil
      have hgl : i < (rowN m.rows i).got.length := by
        have := okRw_iff.1 (by rw [← hn]; exact HA.out i hil : okRw (rowN m.rows i) (n : Int) = true)
        rw [this.gl]; omega
      have HOwn : Hid (m.own = rowN m.rows i) := by rw [Hid, Mb.own, hmi]
      have i0 : (0 : Int) ≤ (i : Int) := by omega
      have i1 : (i : Int) < (m.rows.length : Int) := by omega
      have i2 : (i : Int) < ((rowN m.rows i).got.length : Int) := by omega
      have hsu : ∀ X, Below W.heap.size W X → Calls Try.prog 109 #[.slice A.sa m.sung.length A.sc, .int .i64 59] X fun e w' => e = .returned (.bool (susB m.sung 60)) ∧ w' = X := fun X hX => by
        have := rw14_any A.sa m.sung.length A.sc 60 m.sung X (HP.out.mbs.sung.below hX (Nat.le_refl _)) HP.out.mbs.ms
        rw [sus_row] at this
        exact this
      have hcf : ∀ X, Below W.heap.size W X → Calls Try.prog 110 #[.slice A.sa m.sung.length A.sc] X fun e w' => e = .returned (.bool (fromN m.sung)) ∧ w' = X := fun X hX => cfn_any A.sa A.sc m.sung X (HP.out.mbs.sung.below hX (Nat.le_refl _)) HP.out.mbs.ms
      have H3 : Hid ((decide (el (rowN m.rows i).got i = ((rowN m.rows i).txt.length : Int)) && decide ((i : Int) ∉ (rowN m.rows i).sus)) = false → okMb m = false) := fun h => okMb_3 (by rw [HOwn.out, hmi, hi]; exact h)
      have H4 : Hid (susB m.sung 60 = false → okMb m = false) := okMb_4
      have H5 : Hid ((decide (el (rowN m.rows i).got i = ((rowN m.rows i).txt.length : Int)) && decide ((i : Int) ∉ (rowN m.rows i).sus)) = true → susB m.sung 60 = true → okMb m = (if m.done = true then (rowN m.rows i).rdy else fromN m.sung)) := fun h1 h2 => by
        have := okMb_5 H1.out H2.out (by rw [HOwn.out, hmi, hi]; exact h1) h2
        rw [HOwn.out] at this
        exact this
      have hgc : ∀ X, Below wr.heap.size wr X → ∃ gb go, Ak.ga = some ⟨gb, go, none⟩ ∧ X.cell? ⟨gb, go + i, none⟩ = some (.int .i64 (el (rowN m.rows i).got i)) := fun X hX => by
        rcases (hrp.below hX).got.vec.2.2 with h | ⟨gb, go, e, h⟩
        · omega
        · exact ⟨gb, go, e, h i hgl⟩
      have hCon : ∀ X, Below wr.heap.size wr X → Calls Try.prog 108 #[.slice Ak.sa (rowN m.rows i).sus.length Ak.sc, .int .i64 (i : Int)] X fun e w' => e = .returned (.bool (decide ((i : Int) ∈ (rowN m.rows i).sus))) ∧ w' = X := fun X hX => con14_any Ak.sa Ak.sc (rowN m.rows i).sus (i : Int) X (hrp.below hX).sus.vec (hrp.below hX).rws.ms
      rw [hi] at c0
      rw [hra] at c2
      generalize hOK : okMb m = OK at *
      have HOk : Hid (okMb m = OK) := hOK
      clear hOK
      generalize rowN m.rows i = r at *
      generalize hge : el r.got i = gi at *
      generalize susB m.sung 60 = sb at *
      generalize fromN m.sung = fb at *
      have hbl := oneA16 wr (.cells #[.int .i64 r.ver, .slice Ak.ta r.txt.length Ak.tc, .slice Ak.ga r.got.length Ak.gc, .slice Ak.sa r.sus.length Ak.sc, .bool r.wed, .bool r.rdy, .int .i64 r.by_, .slice Ak.ma r.trm.length Ak.mc] 55)
      have hxr := Bx.new wr 55 #[.int .i64 r.ver, .slice Ak.ta r.txt.length Ak.tc, .slice Ak.ga r.got.length Ak.gc, .slice Ak.sa r.sus.length Ak.sc, .bool r.wed, .bool r.rdy, .int .i64 r.by_, .slice Ak.ma r.trm.length Ak.mc]
      have HXr : Hid (Bx (wr.alloc (.cells #[.int .i64 r.ver, .slice Ak.ta r.txt.length Ak.tc, .slice Ak.ga r.got.length Ak.gc, .slice Ak.sa r.sus.length Ak.sc, .bool r.wed, .bool r.rdy, .int .i64 r.by_, .slice Ak.ma r.trm.length Ak.mc] 55)) wr.heap.size 55 #[.int .i64 r.ver, .slice Ak.ta r.txt.length Ak.tc, .slice Ak.ga r.got.length Ak.gc, .slice Ak.sa r.sus.length Ak.sc, .bool r.wed, .bool r.rdy, .int .i64 r.by_, .slice Ak.ma r.trm.length Ak.mc]) := hxr
      have HBw : Hid (Below W.heap.size W (wr.alloc (.cells #[.int .i64 r.ver, .slice Ak.ta r.txt.length Ak.tc, .slice Ak.ga r.got.length Ak.gc, .slice Ak.sa r.sus.length Ak.sc, .bool r.wed, .bool r.rdy, .int .i64 r.by_, .slice Ak.ma r.trm.length Ak.mc] 55))) := HBr.out.trans (hbl.mono HBr.out.size)
      have HBl : Hid (Below wr.heap.size wr (wr.alloc (.cells #[.int .i64 r.ver, .slice Ak.ta r.txt.length Ak.tc, .slice Ak.ga r.got.length Ak.gc, .slice Ak.sa r.sus.length Ak.sc, .bool r.wed, .bool r.rdy, .int .i64 r.by_, .slice Ak.ma r.trm.length Ak.mc] 55))) := hbl
      have HMX : Hid (∀ X, Below W.heap.size W X → Bx X w.heap.size 40 #[.int .i64 m.id, .int .i64 m.n, .slice A.ra m.rows.length A.rc, .slice A.sa m.sung.length A.sc, .bool m.done]) := fun X h => HX.out.below h
      clear hrp hall hbl hxr HP HA hbr H1 H2 HOwn
      have hwl := HX.out.lt
      have hwr2 := HBr.out.size
      go_upto_region 8 with fail
      generalize wr.alloc (.cells #[.int .i64 r.ver, .slice Ak.ta r.txt.length Ak.tc, .slice Ak.ga r.got.length Ak.gc, .slice Ak.sa r.sus.length Ak.sc, .bool r.wed, .bool r.rdy, .int .i64 r.by_, .slice Ak.ma r.trm.length Ak.mc] 55) = W5 at *
      clear c0 c1 c2 c3 c4 d0 d1 d2 d3 d4 d5 d6 d7 hra
      have facts : ∀ X, Below W5.heap.size W5 X → Below W.heap.size W X ∧ Below w.heap.size w X := fun X h => ⟨HBw.out.trans (h.mono HBw.out.size), (HB0.out.trans (HBw.out.mono HB0.out.size)).trans (h.mono (HB0.out.trans (HBw.out.mono HB0.out.size)).size)⟩
      have HFa : Hid (∀ X, Below W5.heap.size W5 X → Below W.heap.size W X ∧ Below w.heap.size w X) := facts
      obtain ⟨⟨x0, x1, x2, x3⟩, x4, x5, x6, x7⟩ := Bx.r8 HXr.out
      obtain ⟨c0, c1, c2, c3, c4⟩ := Bx.r5 (HMX.out _ HBw.out)
      rw [hi] at c0
      obtain ⟨gb, go, hga, hgcell⟩ := hgc _ HBl.out
      rw [hga] at x2
      have T : ∀ {x v}, W5.cell? x = some v → ∀ q : Bk W5, q.w.cell? x = some v := fun h q => (q.h.cell (World.block_lt_of_cell? _ _ h)).trans h
      have y0 := T c0
      have y1 := T x1
      have y2 := T x2
      have y3 := T x3
      have y4 := T hgcell
      have hCn : ∀ q : Bk W5, Calls Try.prog 108 #[.slice Ak.sa r.sus.length Ak.sc, .int .i64 (i : Int)] q.w fun e w' => e = .returned (.bool (decide ((i : Int) ∈ r.sus))) ∧ Below q.w.heap.size q.w w' := fun q => (hCon q.w (HBl.out.trans (q.h.mono HBl.out.size))).mono (fun e w' h => ⟨h.1, by rw [h.2]; exact Below.refl _ _⟩)
      have HL : Hid (m.rows.length = n) := hln
      clear T x0 x1 x2 x3 x4 x5 x6 x7 c0 c1 c2 c3 c4 facts hCon hgc hga hgcell hln hi hmi
      by_cases e7 : gi = (r.txt.length : Int)
      case neg =>
        have HZ : Hid (OK = false) := H3.out (by rw [decide_eq_false e7]; rfl)
        have e7' : (gi == (r.txt.length : Int)) = false := by simpa using e7
        clear e7 H3 H4 H5
        refine wp_region_quiet_tail (C := fun w' => ∃ p : Bk W5, w' = p.w) 18 hmix (by kernel_rfl) ⟨⟨W5.drewN 1, belowN (Below.refl _ _)⟩, rfl⟩ ?_
        simp only [List.take_succ_cons, List.take_zero]
        repeat (go_big_quiet_step ((first | (go_at_call 108; exact bk_call _ (hCn _)) | rfl)))
        refine wpQuiet_nil ?_
        intro wE hw'
        obtain ⟨⟨w11, hb11⟩, hw''⟩ := hw'
        have hwe : wE = w11 := hw''
        clear hw''
        subst hwe
        simp only [List.drop_succ_cons, List.drop_zero]
        have HB9 : Hid (Below w.heap.size w wE) := (HFa.out _ hb11).2
        clear y0 y1 y2 y3 y4 hb11
        go_wp2_with (go_at_call 104; refine (wantF _).mono ?_; rintro e w' ⟨⟨T, v, rfl⟩, hw'⟩; rw [hw']; clear hw')
        exact ⟨rfl, .inr ⟨HOk.out.trans HZ.out, _, _, rfl⟩, HB9.out⟩
      have e7' : (gi == (r.txt.length : Int)) = true := by simpa using e7
      by_cases e8 : (i : Int) ∈ r.sus
      · have HZ : Hid (OK = false) := H3.out (by rw [decide_eq_true e7, decide_eq_false (by simpa using e8)]; rfl)
        rw [decide_eq_true e8] at hCn
        clear e7 H3 H4 H5 e8
        refine wp_region_quiet_tail (C := fun w' => ∃ p : Bk W5, w' = p.w) 18 hmix (by kernel_rfl) ⟨⟨W5.drewN 1, belowN (Below.refl _ _)⟩, rfl⟩ ?_
        simp only [List.take_succ_cons, List.take_zero]
        repeat (go_big_quiet_step ((first | (go_at_call 108; exact bk_call _ (hCn _)) | rfl)))
        refine wpQuiet_nil ?_
        intro wE hw'
        obtain ⟨⟨w11, hb11⟩, hw''⟩ := hw'
        have hwe : wE = w11 := hw''
        clear hw''
        subst hwe
        simp only [List.drop_succ_cons, List.drop_zero]
        have HB9 : Hid (Below w.heap.size w wE) := (HFa.out _ hb11).2
        clear y0 y1 y2 y3 y4 hb11
        go_wp2_with (go_at_call 104; refine (wantF _).mono ?_; rintro e w' ⟨⟨T, v, rfl⟩, hw'⟩; rw [hw']; clear hw')
        exact ⟨rfl, .inr ⟨HOk.out.trans HZ.out, _, _, rfl⟩, HB9.out⟩
      have HZ5 : Hid (sb = true → OK = (if m.done = true then r.rdy else fb)) := H5.out (by rw [decide_eq_true e7, decide_eq_true e8]; rfl)
      rw [decide_eq_false e8] at hCn
      clear e7 H3 H5 e8
      refine wp_region_quiet_tail (C := fun w' => ∃ p : Bk W5, w' = p.w) 18 hmix (by kernel_rfl) ⟨⟨W5.drewN 1, belowN (Below.refl _ _)⟩, rfl⟩ ?_
      simp only [List.take_succ_cons, List.take_zero]
      repeat (go_big_quiet_step ((first | (go_at_call 108; exact bk_call _ (hCn _)) | rfl)))
      refine wpQuiet_nil ?_
      intro wE hw'
      obtain ⟨⟨w11, hb11⟩, hw''⟩ := hw'
      have hwe : wE = w11 := hw''
      clear hw''
      subst hwe
      simp only [List.drop_succ_cons, List.drop_zero]
      have HB9 : Hid (Below w.heap.size w wE) := (HFa.out _ hb11).2
      have hBW := (HFa.out _ hb11).1
      have hsu9 := hsu _ hBW
      have hcf9 := hcf _ hBW
      obtain ⟨c0, c1, c2, c3, c4⟩ := Bx.r5 (HMX.out _ hBW)
      obtain ⟨⟨x0, x1, x2, x3⟩, x4, x5, x6, x7⟩ := Bx.r8 (HXr.out.below hb11)
      clear y0 y1 y2 y3 y4 hb11 hBW hCn hsu hcf
      cases sb with
      | false =>
        have HZ : Hid (OK = false) := H4.out rfl
        go_wp2_with (first | (go_at_call 109; refine hsu9.mono ?_; rintro e w' ⟨rfl, hw'⟩; rw [hw']; clear hw') | (go_at_call 104; first | (refine (wantT _).mono ?_; rintro e w' ⟨rfl, hw'⟩; rw [hw']; clear hw') | (refine (wantF _).mono ?_; rintro e w' ⟨⟨T, v, rfl⟩, hw'⟩; rw [hw']; clear hw')))
        exact ⟨rfl, .inr ⟨HOk.out.trans HZ.out, _, _, rfl⟩, HB9.out⟩
      | true =>
        have HZ := HZ5.out rfl
        have HZ6 : Hid (OK = (if m.done = true then r.rdy else fb)) := HZ
        clear HZ HZ5 H4
        cases hd : m.done with
        | true =>
          rw [hd] at c4
          cases hr : r.rdy with
          | true =>
            have HZ : Hid (OK = true) := by rw [Hid, HZ6.out, hd, hr]; rfl
            rw [hr] at x5
            clear hd hr
            go_wp2_with (first | (go_at_call 109; refine hsu9.mono ?_; rintro e w' ⟨rfl, hw'⟩; rw [hw']; clear hw') | (go_at_call 104; refine (wantT _).mono ?_; rintro e w' ⟨rfl, hw'⟩; rw [hw']; clear hw'))
            first | go_end0 | go_ret
            exact ⟨.inl ⟨HOk.out.trans HZ.out, rfl⟩, HB9.out⟩
          | false =>
            have HZ : Hid (OK = false) := by rw [Hid, HZ6.out, hd, hr]; rfl
            rw [hr] at x5
            clear hd hr
            go_wp2_with (first | (go_at_call 109; refine hsu9.mono ?_; rintro e w' ⟨rfl, hw'⟩; rw [hw']; clear hw') | (go_at_call 104; first | (refine (wantT _).mono ?_; rintro e w' ⟨rfl, hw'⟩; rw [hw']; clear hw') | (refine (wantF _).mono ?_; rintro e w' ⟨⟨T, v, rfl⟩, hw'⟩; rw [hw']; clear hw')))
            exact ⟨rfl, .inr ⟨HOk.out.trans HZ.out, _, _, rfl⟩, HB9.out⟩
        | false =>
          rw [hd] at c4
          cases fb with
          | true =>
            have HZ : Hid (OK = true) := by rw [Hid, HZ6.out, hd]; rfl
            clear hd
            go_wp2_with (first | (go_at_call 109; refine hsu9.mono ?_; rintro e w' ⟨rfl, hw'⟩; rw [hw']; clear hw') | (go_at_call 110; refine hcf9.mono ?_; rintro e w' ⟨rfl, hw'⟩; rw [hw']; clear hw') | (go_at_call 104; refine (wantT _).mono ?_; rintro e w' ⟨rfl, hw'⟩; rw [hw']; clear hw'))
            first | go_end0 | go_ret
            exact ⟨.inl ⟨HOk.out.trans HZ.out, rfl⟩, HB9.out⟩
          | false =>
            have HZ : Hid (OK = false) := by rw [Hid, HZ6.out, hd]; rfl
            clear hd
            go_wp2_with (first | (go_at_call 109; refine hsu9.mono ?_; rintro e w' ⟨rfl, hw'⟩; rw [hw']; clear hw') | (go_at_call 110; refine hcf9.mono ?_; rintro e w' ⟨rfl, hw'⟩; rw [hw']; clear hw') | (go_at_call 104; first | (refine (wantT _).mono ?_; rintro e w' ⟨rfl, hw'⟩; rw [hw']; clear hw') | (refine (wantF _).mono ?_; rintro e w' ⟨⟨T, v, rfl⟩, hw'⟩; rw [hw']; clear hw')))
            exact ⟨rfl, .inr ⟨HOk.out.trans HZ.out, _, _, rfl⟩, HB9.out⟩
set_option maxRecDepth 100000 in
set_option maxHeartbeats 800000 in
theorem memI_any (A : Ma) (m : Mb) (w : World) (hv : MbP w A m) :
    Calls Try.prog 30 #[mbV A m] w fun e w' => e = .returned (.bool (okMb m)) ∧ Below w.heap.size w w' := by
  have hmf : ∀ (fn : Fn) (first cap : Array Value) (w : World), (Instr.makeFunc fn first cap).run Try.prog w = .ok (.func fn first cap) w := fun _ _ _ _ => rfl
  have hb0 := oneA16 w (.cells (mbC A m) 40)
  have hx0 := Bx.new w 40 (mbC A m)
  have h0 := hv.below hb0
  have hb1 := oneA16 (w.alloc (.cells (mbC A m) 40)) (.cells #[.bool false] 4)
  have hT := told_any 76 #[mbV A m] #[] (w.alloc (.cells (mbC A m) 40)) (fun b X => b = okMb m ∧ Below ((w.alloc (.cells (mbC A m) 40)).alloc (.cells #[.bool false] 4)).heap.size ((w.alloc (.cells (mbC A m) 40)).alloc (.cells #[.bool false] 4)) X) (fun _ _ => enters_of Try.func76 (by kernel_rfl) rfl _ _) ((chk_any A m _ (h0.below hb1)).mono (fun e w' ⟨h1, h2⟩ => by
    rcases h1 with ⟨h, h1⟩ | ⟨h, h1⟩
    · exact .inl ⟨h1, h.symm, h2⟩
    · exact .inr ⟨h1, h.symm, h2⟩)) (fun b X h => (Bx.new _ _ _).below h.2)
  have hF : ∀ e w', (∃ b X, e = Ending.returned (.bool b) ∧ (b = okMb m ∧ Below ((w.alloc (.cells (mbC A m) 40)).alloc (.cells #[.bool false] 4)).heap.size ((w.alloc (.cells (mbC A m) 40)).alloc (.cells #[.bool false] 4)) X) ∧ Wrt (fun x => x = (w.alloc (.cells (mbC A m) 40)).heap.size) X w') → e = .returned (.bool (okMb m)) ∧ Below w.heap.size w w' := by
    rintro e w' ⟨b, X, rfl, ⟨rfl, h1⟩, h2⟩
    have hs := hb0.size
    have hbX := (hb0.trans (hb1.mono hb0.size)).trans (h1.mono (hb0.trans (hb1.mono hb0.size)).size)
    exact ⟨rfl, h2.below hbX hbX.size (fun b e => by omega)⟩
  have hT2 := hT.mono hF
  obtain ⟨c0, c1, c2, c3, c4⟩ := Bx.r5 hx0
  clear hF hT hb1 h0 hx0 hb0 hv
  unfold mbV mbC at *
  generalize okMb m = OK at *
  generalize hWW : w.alloc (.cells #[.int .i64 m.id, .int .i64 m.n, .slice A.ra m.rows.length A.rc, .slice A.sa m.sung.length A.sc, .bool m.done] 40) = W at *
  go_enter Try.func30, Try.ntmps30
  go_wp2_with (go_at_call 75; refine hT2.mono ?_; rintro e w1 ⟨rfl, hb1⟩; have HB1 : Hid (Below w.heap.size w w1) := hb1; clear hb1)
  go_ret
  exact ⟨rfl, HB1.out⟩
end Go.Proofs.Ytgfeabgmllkdeaa

/-
  The program's NewMember.
-/
namespace Go.Proofs.Ytgfeabgmllkdeaa
set_option linter.unusedVariables false
set_option linter.unusedSimpArgs false
open Go.RowKit Go.Sort

/-- What NewMember asks MemberOk of. -/
def nmM (id n : Int) : Mb := ⟨id, n, List.replicate (newRw n).got.length (newRw n), [], false⟩
theorem newRw_len (n : Int) : (newRw n).got.length = if inB n 1 5 = true then n.toNat else 0 := by
  unfold newRw
  split <;> rename_i h <;> simp [h, zeroRw]
theorem nm_ok (id n : Int) : okMb (nmM id n) = (newMb id n).2 ∧ ((newMb id n).2 = true → (newMb id n).1 = nmM id n) ∧ ((newMb id n).2 = false → (newMb id n).1 = zeroMb) := by
  cases e1 : inB n 1 5 with
  | false =>
    rw [newMb_no (.inl e1)]
    exact ⟨okMb_1 (by show (inB n 1 5 && _) = false; rw [e1]; rfl), (fun h => by cases h), fun _ => rfl⟩
  | true =>
    cases e2 : inB id 0 (n - 1) with
    | false =>
      rw [newMb_no (.inr e2)]
      exact ⟨okMb_1 (by show (inB n 1 5 && (inB id 0 (n - 1) && _)) = false; rw [e1, e2]; rfl), (fun h => by cases h), fun _ => rfl⟩
    | true =>
      have hq := newMb_yes e1 e2
      have hM : (newMb id n).1 = nmM id n := by rw [hq, nmM, newRw_len, if_pos e1]
      have h2 : (newMb id n).2 = true := by rw [hq]
      exact ⟨by rw [← hM, h2]; exact new_okM h2, fun _ => hM, fun h => by rw [h2] at h; cases h⟩
theorem nm_p (id n : Int) (h1 : I64v id) (h2 : I64v n) : FitM (nmM id n) ∧ Mb64 (nmM id n) ∧ szMb (nmM id n) ≤ 1048576 ∧ (newRw n).got.length ≤ 5 := by
  cases e1 : inB n 1 5 with
  | false =>
    have e : nmM id n = ⟨id, n, [], [], false⟩ := by rw [nmM, newRw_len, if_neg (by rw [e1]; decide)]; rfl
    rw [e]
    exact ⟨⟨fun r hr => absurd hr List.not_mem_nil, fun x hx => absurd hx List.not_mem_nil⟩, ⟨h1, h2, fun r hr => absurd hr List.not_mem_nil⟩, by simp [szMb, szRs, szP], by rw [newRw_len, if_neg (by rw [e1]; decide)]; omega⟩
  | true =>
    have hn := inB7.1 e1
    have hq := newMb_yes e1 (inB7.2 (by omega) : inB 0 0 (n - 1) = true)
    obtain ⟨i, k, ok⟩ := okMb_iff.1 (new_okM (id := 0) (n := n) (by rw [hq]))
    have hr : (newMb 0 n).1.rows = (nmM id n).rows := by rw [hq, nmM, newRw_len, if_pos e1]
    have hlen : (newRw n).got.length ≤ 5 := by rw [newRw_len, if_pos e1]; omega
    have hk : ∀ r ∈ (nmM id n).rows, OkR r k := fun r h => ok.rowOk r (by rw [hr]; exact h)
    refine ⟨⟨fun r h => (hk r h).fit, fun x hx => absurd hx List.not_mem_nil⟩, ⟨h1, h2, fun r h => ?_⟩, ?_, hlen⟩
    · have hr := hk r h
      have hv := hr.ver
      cases e : r.rdy with
      | true => have := (hr.rdy e).2.1; have := hr.n5; exact ⟨⟨by omega, by omega⟩, by omega, by omega⟩
      | false => rw [Rw64, (hr.not e).1]; exact ⟨⟨by omega, by omega⟩, by omega, by omega⟩
    · have e2 : szP (nmM id n).rows (nmM id n).rows.length ≤ 300 * (nmM id n).rows.length := by
        unfold szP
        rw [List.take_length]
        exact sum_le szRw 300 _ (fun r h => (hk r h).c8.2)
      have hl : (nmM id n).rows.length ≤ 5 := by show (List.replicate _ _).length ≤ 5; rw [List.length_replicate]; exact hlen
      unfold szMb szRs
      have : (nmM id n).sung.length = 0 := rfl
      omega
theorem fld_got (x0 x1 x3 x4 x5 x6 x7 : Value) (a : Option Addr) (k c : Nat) (w : World) : (Instr.field 55 (.agg #[x0, x1, .slice a k c, x3, x4, x5, x6, x7]) 2).run Try.prog w = .ok (.slice a k c) w := by kernel_rfl
set_option maxRecDepth 100000 in
set_option maxHeartbeats 1600000 in
theorem implNewMember : ImplNewMember := by
  intro id n w h1 h2
  have hmix := mixed17
  have hfd := fld_got
  have T0 := mb_start w id n
  have hx := Bx.new w 40 #[.int .i64 0, .int .i64 0, .slice none 0 0, .slice none 0 0, .bool false]
  have HR0 : Hid (Bx ((w.alloc (.cells #[.int .i64 0, .int .i64 0, .slice none 0 0, .slice none 0 0, .bool false] 40)).alloc (.cells #[.int .i64 id, .int .i64 n, .slice none 0 0, .slice none 0 0, .bool false] 40)) w.heap.size 40 #[.int .i64 0, .int .i64 0, .slice none 0 0, .slice none 0 0, .bool false]) := hx.alloc _
  have HT0 : Hid (MO w ((w.alloc (.cells #[.int .i64 0, .int .i64 0, .slice none 0 0, .slice none 0 0, .bool false] 40)).alloc (.cells #[.int .i64 id, .int .i64 n, .slice none 0 0, .slice none 0 0, .bool false] 40)) (w.heap.size + 1) ⟨none, 0, none, 0⟩ ⟨id, n, [], [], false⟩ (fun _ => False)) := T0
  have hNr : ∀ X, Calls Try.prog 80 #[.int .i64 n] X fun e w' => AnsRw X w' e (newRw n) := fun X => implNewRow n X h2
  obtain ⟨k1, k2, k3⟩ := nm_ok id n
  have HK : Hid (okMb (nmM id n) = (newMb id n).2 ∧ ((newMb id n).2 = true → (newMb id n).1 = nmM id n) ∧ ((newMb id n).2 = false → (newMb id n).1 = zeroMb)) := ⟨k1, k2, k3⟩
  have HP : Hid (FitM (nmM id n) ∧ Mb64 (nmM id n) ∧ szMb (nmM id n) ≤ 1048576 ∧ (newRw n).got.length ≤ 5) := nm_p id n h1 h2
  have hN5 := HP.out.2.2.2
  have HNN : Hid (nmM id n = ⟨id, n, List.replicate (newRw n).got.length (newRw n), [], false⟩) := rfl
  clear hx T0 k1 k2 k3 h1 h2
  generalize hNr0 : newRw n = rr at *
  clear hNr0
  go_enter Try.func33, Try.ntmps33
  go_wp2_with fail
  refine (hNr _).mono ?_
  rintro e wN ⟨Ar, rfl, fr, hr1, hr2, hr3⟩
  have HTN : Hid (MO w wN (w.heap.size + 1) ⟨none, 0, none, 0⟩ ⟨id, n, [], [], false⟩ (fun _ => False)) := HT0.out.step hr3
  have HRN : Hid (Bx wN w.heap.size 40 #[.int .i64 0, .int .i64 0, .slice none 0 0, .slice none 0 0, .bool false]) := HR0.out.below hr3
  clear hr1 hr2 hr3
  unfold rwV rwC
  go_wp2_with fail
  clear HT0 HR0
  go_loopw [14] (fun v wr => ∃ k : Nat, k ≤ rr.got.length ∧ v = .int .i64 (k : Int) ∧ ∃ A R fp, Hid (R = List.replicate k rr) ∧ MO w wr (w.heap.size + 1) A ⟨id, n, R, [], false⟩ fp ∧ Bx wr w.heap.size 40 #[.int .i64 0, .int .i64 0, .slice none 0 0, .slice none 0 0, .bool false]) (fun v _ => rr.got.length - (intOf v).toNat)
  case atStart => exact ⟨0, Nat.zero_le _, rfl, _, [], _, rfl, HTN.out, HRN.out⟩
  case round =>
    obtain ⟨k, hk, rfl, A, R, fp, hR, M, hres⟩ := hrel
    clear HTN HRN
    by_cases hlt : k < rr.got.length
    · have k1 : (k : Int) < (rr.got.length : Int) := by omega
      have HRl : Hid (R.length ≤ 1000000) := Nat.le_trans (by rw [hR.out, List.length_replicate]; omega : R.length ≤ 100) (by decide)
      have HRes : Hid (Bx wr w.heap.size 40 #[.int .i64 0, .int .i64 0, .slice none 0 0, .slice none 0 0, .bool false]) := hres
      have HM : Hid (MO w wr (w.heap.size + 1) A ⟨id, n, R, [], false⟩ fp) := M
      have c2 : wr.drew.cell? ⟨w.heap.size + 1, 2, none⟩ = some (.slice A.ra R.length A.rc) := M.own.at 2 rfl
      have hbd : Below wr.heap.size wr wr.drew := (Same.drewN wr 1).below
      clear M hres
      go_wp2_with fail
      refine gt_begin (S := fun X : World => X.cell? ⟨w.heap.size + 1, 2, none⟩ = some (.slice A.ra R.length A.rc)) 7 hmix (by kernel_rfl) ?_
      have hHeld : (fun X : World => X.cell? ⟨w.heap.size + 1, 2, none⟩ = some (.slice A.ra R.length A.rc)) wr.drew := c2
      refine gt_take (i := 0) (v := ?_) rfl (by kernel_rfl) (by kernel_rfl) (by kernel_rfl) (by kernel_rfl) (fun _ _ _ h => h) (Or.inl ⟨by rfl, ?_⟩) hHeld ?_
      rotate_left
      · (intro X hSX; (try dsimp only at hSX); have g0 := hSX; go_simp; try with_reducible rfl)
      try simp only [Act.put, List.setIfInBounds_toArray, List.set_cons_zero, List.set_cons_succ]
      refine gt_take (i := 1) (v := ?_) rfl (by kernel_rfl) (by kernel_rfl) (by kernel_rfl) (by kernel_rfl) (fun _ _ _ h => h) (Or.inl ⟨by rfl, ?_⟩) hHeld ?_
      rotate_left
      · (intro X hSX; (try dsimp only at hSX); have g0 := hSX; go_simp; try with_reducible rfl)
      try simp only [Act.put, List.setIfInBounds_toArray, List.set_cons_zero, List.set_cons_succ]
      refine gt_pure (i := 2) (v := ?_) rfl (by kernel_rfl) (by kernel_rfl) (by kernel_rfl) (fun _ _ _ h => h) (Or.inl ⟨by rfl, ?_⟩) ?_
      rotate_left
      · (intro X; go_simp; try with_reducible rfl)
      try simp only [Act.put, List.setIfInBounds_toArray, List.set_cons_zero, List.set_cons_succ]
      refine gt_one (i := 3) rfl (by kernel_rfl) (by kernel_rfl) (fun K hK => ?_)
      go_simp
      go_at_call 80
      refine (hNr _).mono ?_
      rintro e w1 ⟨Ar, rfl, fr, hr1, hr2, hr3⟩
      have hb1 : Below wr.heap.size wr w1 := hbd.trans (hr3.mono hbd.size)
      have hA := HM.out.push hb1 hr1 (fun b hb => hr2 b hb) HRl.out
      have d2 : w1.cell? ⟨w.heap.size + 1, 2, none⟩ = some (.slice A.ra R.length A.rc) := (HM.out.own.below hb1).at 2 rfl
      have d3 := ((HM.out.own.below hb1).alloc (.cells (rwC Ar rr) 55)).at 2 rfl
      refine hK.out _ _ d2 (fun hHeldN => ?_)
      clear hK hHeld
      have hHeld := hHeldN
      try simp only [Act.put, List.setIfInBounds_toArray, List.set_cons_zero, List.set_cons_succ]
      unfold rwV
      unfold rwC at hA d3 ⊢
      refine gt_one (i := 4) rfl (by kernel_rfl) (by kernel_rfl) (fun K hK => ?_)
      go_simp
      refine hK.out _ _ d3 (fun hHeldN => ?_)
      clear hK hHeld
      have hHeld := hHeldN
      try simp only [Act.put, List.setIfInBounds_toArray, List.set_cons_zero, List.set_cons_succ]
      refine gt_one (i := 5) rfl (by kernel_rfl) (by kernel_rfl) (fun K hK => ?_)
      refine step_append_of (by rfl) _ _ _ _ (by rfl) (.slice A.ra R.length A.rc) _ (by rfl) (by rfl) hA ⟨rfl, rfl, rfl, rfl⟩ ?_
      rintro v9 w4 ⟨a9, c9, rfl, q1, q2, b4, b5, fp9, hM9⟩
      refine hK.out _ _ q1 (fun hHeldN => ?_)
      clear hK hHeld
      have hHeld := hHeldN
      try simp only [Act.put, List.setIfInBounds_toArray, List.set_cons_zero, List.set_cons_succ]
      refine gt_take (i := 6) (v := ?_) rfl (by kernel_rfl) (by kernel_rfl) (by kernel_rfl) (by kernel_rfl) (fun _ _ _ h => h) (Or.inl ⟨by rfl, ?_⟩) hHeld ?_
      rotate_left
      · (intro X hSX; (try dsimp only at hSX); have g0 := hSX; go_simp; try with_reducible rfl)
      try simp only [Act.put, List.setIfInBounds_toArray, List.set_cons_zero, List.set_cons_succ]
      refine gt_last rfl (by kernel_rfl) (by kernel_rfl) (fun K hK => ?_)
      go_simp
      refine hK.out _ _ ?_
      have HM9 : Hid (MO w (w4.setCell ⟨w.heap.size + 1, 2, none⟩ (.slice a9 (R.length + 1) c9)) (w.heap.size + 1) ⟨a9, c9, A.sa, A.sc⟩ ⟨id, n, R ++ [rr], [], false⟩ fp9) := hM9
      have HRes9 : Hid (Bx (w4.setCell ⟨w.heap.size + 1, 2, none⟩ (.slice a9 (R.length + 1) c9)) w.heap.size 40 #[.int .i64 0, .int .i64 0, .slice none 0 0, .slice none 0 0, .bool false]) := (b5.block w.heap.size (Nat.lt_succ_self _)).trans HRes.out
      have HR9 : Hid (R ++ [rr] = List.replicate (k + 1) rr) := by rw [Hid, hR.out, List.replicate_succ']
      clear hM9 hA d2 d3 hr1 hr2 hr3
      generalize w4.setCell ⟨w.heap.size + 1, 2, none⟩ (.slice a9 (R.length + 1) c9) = W9 at *
      go_wp2
      go_roundw
      case rel => exact ⟨k + 1, by omega, by go_num, _, _, _, HR9, HM9.out, HRes9.out⟩
      case measure => simp [intOf]; omega
    · have k1 : ¬ ((k : Int) < (rr.got.length : Int)) := by omega
      have hM : ((⟨id, n, R, [], false⟩ : Mb)) = nmM id n := by rw [HNN.out, hR.out, show k = rr.got.length by omega]
      have HMm : Hid ((⟨id, n, R, [], false⟩ : Mb) = nmM id n) := hM
      have hMP : MbP wr A (⟨id, n, R, [], false⟩ : Mb) := ⟨⟨fp, M.ls⟩, by rw [hM]; exact HP.out.1, by rw [hM]; exact HP.out.2.1, by rw [hM]; exact HP.out.2.2.1⟩
      have hCk := memI_any A (⟨id, n, R, [], false⟩ : Mb) wr hMP
      have HOk : Hid (okMb (⟨id, n, R, [], false⟩ : Mb) = (newMb id n).2) := by rw [Hid, hM]; exact HK.out.1
      rw [HOk.out] at hCk
      unfold mbV mbC at hCk
      have HMM : Hid (MO w wr (w.heap.size + 1) A (⟨id, n, R, [], false⟩ : Mb) fp) := M
      have HRs : Hid (Bx wr w.heap.size 40 #[.int .i64 0, .int .i64 0, .slice none 0 0, .slice none 0 0, .bool false]) := hres
      obtain ⟨o0, o1, o2, o3, o4⟩ := Bx.r5 M.own
      simp only [List.length_nil] at o0 o1 o2 o3 o4 hCk
      clear M hres hR hM hMP
      cases hb : (newMb id n).2 with
      | false =>
        have HZ : Hid ((newMb id n).1 = zeroMb) := HK.out.2.2 hb
        have HZb : Hid ((newMb id n).2 = false) := hb
        rw [hb] at hCk
        go_wp2_with fail
        refine hCk.mono ?_
        rintro e w2 ⟨rfl, hb2⟩
        have hR2 := HRs.out.below hb2
        have HB2 : Hid (Below w.heap.size w w2) := HMM.out.below.trans (hb2.mono HMM.out.below.size)
        obtain ⟨z0, z1, z2, z3, z4⟩ := Bx.r5 hR2
        obtain ⟨f0, f1, f2, f3, f4⟩ := hR2.f5
        clear hCk hR2 hb2 o0 o1 o2 o3 o4
        go_wp2
        refine bodyPost_ret (v := .tuple #[mbV ⟨none, 0, none, 0⟩ zeroMb, .bool false]) (by simp [results, Try.results33, go_sem, mbV, mbC, zeroMb, *]) rfl ?_
        rw [HZ.out, HZb.out]
        exact ⟨_, rfl, ansM_zero ((wrt5 w2 w.heap.size).below HB2.out HB2.out.size (fun b h => by omega))⟩
      | true =>
        have HZ : Hid ((newMb id n).1 = (⟨id, n, R, [], false⟩ : Mb)) := by rw [Hid, HMm.out]; exact HK.out.2.1 hb
        have HZb : Hid ((newMb id n).2 = true) := hb
        rw [hb] at hCk
        go_wp2_with fail
        refine hCk.mono ?_
        rintro e w2 ⟨rfl, hb2⟩
        have hR2 := HRs.out.below hb2
        have M2 := HMM.out.step hb2
        obtain ⟨z0, z1, z2, z3, z4⟩ := Bx.r5 hR2
        obtain ⟨f0, f1, f2, f3, f4⟩ := hR2.f5
        have HA : Hid (NewL w (((((w2.setCell ⟨w.heap.size, 0, none⟩ (.int .i64 id)).setCell ⟨w.heap.size, 1, none⟩ (.int .i64 n)).setCell ⟨w.heap.size, 2, none⟩ (.slice A.ra R.length A.rc)).setCell ⟨w.heap.size, 3, none⟩ (.slice A.sa 0 A.sc)).setCell ⟨w.heap.size, 4, none⟩ (.bool false)) (mbCels (⟨id, n, R, [], false⟩ : Mb)) (mbVals A (⟨id, n, R, [], false⟩ : Mb))) := M2.ans (Nat.le_refl _) (Nat.le_succ _)
        clear o0 o1 o2 o3 o4
        obtain ⟨o0, o1, o2, o3, o4⟩ := Bx.r5 M2.own
        simp only [List.length_nil] at o0 o1 o2 o3 o4
        clear hCk hR2 hb2 M2
        go_wp2
        refine bodyPost_ret (v := .tuple #[mbV A (⟨id, n, R, [], false⟩ : Mb), .bool true]) (by simp [results, Try.results33, go_sem, mbV, mbC, *]) rfl ?_
        rw [HZ.out, HZb.out]
        exact ⟨_, rfl, HA.out⟩
end Go.Proofs.Ytgfeabgmllkdeaa
