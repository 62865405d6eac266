/-
  Several texts in one: Rzo Rzf Rzn.
-/
import Derived.Test.YtgaibngaincahaaMm
import Derived.Test.YtgaibngaincahaaJn
import Derived.Deep.QuietTactic
/-
  The specification's RowOk, Later, NewRow.
-/
namespace Go.Proofs.Ytgaibngaincahaa
set_option linter.unusedVariables false
set_option linter.unusedSimpArgs false
open Go.RowKit Go.Sort

theorem okRw_n {r : Rw} {n : Int} (h : inB n 1 5 = false) : okRw r n = false := by rw [okRw, h]; rfl
theorem okRw_v {r : Rw} {n : Int} (h : inB r.ver 0 1000000 = false) : okRw r n = false := by rw [okRw, h]; simp
theorem okRw_t {r : Rw} {n : Int} (h : ¬ r.txt.length ≤ 12) : okRw r n = false := by rw [okRw, decide_eq_false h]; simp
theorem okRw_g {r : Rw} {n : Int} (h : smB r.got n = false) : okRw r n = false := by rw [okRw, h]; simp
theorem okRw_s {r : Rw} {n : Int} (h : susB r.sus n = false) : okRw r n = false := by rw [okRw, h]; simp
theorem okRw_x {r : Rw} {n : Int} {k : Nat} (hk : k < r.txt.length) (h : ¬ (r.txt.getD k []).length ≤ 20) : okRw r n = false := by
  have : r.txt.all (fun t => decide (t.length ≤ 20)) = false := by
    rw [List.all_eq_false]
    refine ⟨r.txt[k], List.getElem_mem hk, ?_⟩
    rw [List.getD_eq_getElem?_getD, List.getElem?_eq_getElem hk] at h
    simpa using h
  rw [okRw, this]
  simp
/-- What is left to be asked. -/
def endB (r : Rw) (n : Int) : Bool := if r.rdy then r.wed && (inB r.by_ 0 (n - 1) && smB r.trm n) else decide (r.by_ = 0) && decide (r.trm = [])
theorem okRw_end {r : Rw} {n : Int} (h1 : inB n 1 5 = true) (h2 : inB r.ver 0 1000000 = true) (h3 : r.txt.length ≤ 12) (h4 : smB r.got n = true) (h5 : susB r.sus n = true) (h6 : ∀ k, k < r.txt.length → (r.txt.getD k []).length ≤ 20) : okRw r n = endB r n := by
  have : r.txt.all (fun t => decide (t.length ≤ 20)) = true := by
    rw [List.all_eq_true]
    intro t ht
    obtain ⟨j, hj, rfl⟩ := List.mem_iff_getElem.1 ht
    have := h6 j hj
    rw [List.getD_eq_getElem?_getD, List.getElem?_eq_getElem hj] at this
    simpa using this
  rw [okRw, h1, h2, decide_eq_true h3, h4, h5, this]
  rfl
attribute [local irreducible] sv
set_option maxRecDepth 100000 in
set_option maxHeartbeats 3200000 in
theorem rowS_any (A : Ra) (r : Rw) (n : Int) (w : World) (hv : RwS w A r) :
    Calls Try.prog 36 #[rwV A r, .int .i64 n] w fun e w' => e = .returned (.bool (okRw r n)) ∧ Below w.heap.size w w' := by
  have hB0 := oneA16 w (.cells (rwC A r) 35)
  have hx := Bx.new w 35 (rwC A r)
  have h0 := hv.below hB0
  generalize hW : w.alloc (.cells (rwC A r) 35) = W at *
  have hsz : w.heap.size < W.heap.size := hx.lt
  obtain ⟨ver, txt, got, sus, wed, rdy, by_, trm⟩ := r
  obtain ⟨ta, tc, ga, gc, sa, sc, ma, mc⟩ := A
  have hw0 : w.alloc (.cells #[.int .i64 ver, .slice ta txt.length tc, .slice ga got.length gc, .slice sa sus.length sc, .bool wed, .bool rdy, .int .i64 by_, .slice ma trm.length mc] 35) = W := hW
  obtain ⟨⟨c0, c1, c2, c3⟩, c4, c5, c6, c7⟩ := Bx.r8 hx
  have HX : Hid (Bx W w.heap.size 35 #[.int .i64 ver, .slice ta txt.length tc, .slice ga got.length gc, .slice sa sus.length sc, .bool wed, .bool rdy, .int .i64 by_, .slice ma trm.length mc]) := hx
  obtain ⟨htx, hgo, hsu, htr, mt, mg, ms, mm⟩ := h0
  simp only at htx hgo hsu htr mt mg ms mm c0 c1 c2 c3 c4 c5 c6 c7
  have HB0 : Hid (Below w.heap.size w W) := hB0
  unfold rwV rwC
  clear hv hx hW hB0
  have hVo := specOk_any ga got.length gc got W hgo mg
  simp only
  cases e1 : inB n 1 5 with
  | false =>
    have HZ : Hid (okRw ⟨ver, txt, got, sus, wed, rdy, by_, trm⟩ n = false) := okRw_n e1
    go_enter Try.func36, Try.ntmps36
    go_wp2_with (first | (go_at_call 62; refine (l1In_any _ _ _ _).mono ?_; rintro e w' ⟨rfl, hw'⟩; rw [hw']; clear hw'))
    go_ret
    exact ⟨ret_bool (by rw [HZ.out]), HB0.out⟩
  | true =>
  have hn5 := inB7.1 e1
  have hSu := susS_any sa sc sus n W hsu ms (by omega)
  have HN1 : Hid (inB n 1 5 = true) := e1
  cases e2 : inB ver 0 1000000 with
  | false =>
    have HZ : Hid (okRw ⟨ver, txt, got, sus, wed, rdy, by_, trm⟩ n = false) := okRw_v e2
    go_enter Try.func36, Try.ntmps36
    go_wp2_with (first | (go_at_call 62; refine (l1In_any _ _ _ _).mono ?_; rintro e w' ⟨rfl, hw'⟩; rw [hw']; clear hw'))
    go_ret
    exact ⟨ret_bool (by rw [HZ.out]), HB0.out⟩
  | true =>
  have HN2 : Hid (inB ver 0 1000000 = true) := e2
  by_cases h12 : txt.length ≤ 12
  rotate_left
  · have g12 : (12 : Int) < (txt.length : Int) := by omega
    have HZ : Hid (okRw ⟨ver, txt, got, sus, wed, rdy, by_, trm⟩ n = false) := okRw_t h12
    go_enter Try.func36, Try.ntmps36
    go_wp2_with (first | (go_at_call 62; refine (l1In_any _ _ _ _).mono ?_; rintro e w' ⟨rfl, hw'⟩; rw [hw']; clear hw'))
    go_ret
    exact ⟨ret_bool (by rw [HZ.out]), HB0.out⟩
  have g12 : ¬ ((12 : Int) < (txt.length : Int)) := by omega
  cases e4 : okB got with
  | false =>
    rw [e4] at hVo
    have HZ : Hid (okRw ⟨ver, txt, got, sus, wed, rdy, by_, trm⟩ n = false) := okRw_g (by simp [smB, e4])
    go_enter Try.func36, Try.ntmps36
    go_wp2_with (first | (go_at_call 62; refine (l1In_any _ _ _ _).mono ?_; rintro e w' ⟨rfl, hw'⟩; rw [hw']; clear hw') | (go_at_call 25; refine hVo.mono ?_; rintro e w' ⟨rfl, hw'⟩; rw [hw']; clear hw'))
    go_ret
    exact ⟨ret_bool (by rw [HZ.out]), HB0.out⟩
  | true =>
  rw [e4] at hVo
  by_cases h5 : (got.length : Int) = n
  rotate_left
  · have g5 : ((got.length : Int) != n) = true := by simpa using h5
    have HZ : Hid (okRw ⟨ver, txt, got, sus, wed, rdy, by_, trm⟩ n = false) := okRw_g (by simp [smB, h5])
    go_enter Try.func36, Try.ntmps36
    go_wp2_with (first | (go_at_call 62; refine (l1In_any _ _ _ _).mono ?_; rintro e w' ⟨rfl, hw'⟩; rw [hw']; clear hw') | (go_at_call 25; refine hVo.mono ?_; rintro e w' ⟨rfl, hw'⟩; rw [hw']; clear hw'))
    go_ret
    exact ⟨ret_bool (by rw [HZ.out]), HB0.out⟩
  have g5 : ((got.length : Int) != n) = false := by simpa using h5
  have HSM : Hid ((∀ k, k < got.length → el got k ≤ 12) → smB got n = true) := fun h => smB_parts e4 h5 h
  have HG5 : Hid ((got.length : Int) = n) := h5
  clear h5 e4
  cases e6 : susB sus n with
  | false =>
    rw [e6] at hSu
    have HZ : Hid (okRw ⟨ver, txt, got, sus, wed, rdy, by_, trm⟩ n = false) := okRw_s e6
    go_enter Try.func36, Try.ntmps36
    go_wp2_with (first | (go_at_call 62; refine (l1In_any _ _ _ _).mono ?_; rintro e w' ⟨rfl, hw'⟩; rw [hw']; clear hw') | (go_at_call 25; refine hVo.mono ?_; rintro e w' ⟨rfl, hw'⟩; rw [hw']; clear hw') | (go_at_call 70; refine hSu.mono ?_; rintro e w2 ⟨rfl, hb2⟩; obtain ⟨⟨d0, d1, d2, d3⟩, d4, d5, d6, d7⟩ := Bx.r8 (HX.out.below hb2)))
    go_ret
    exact ⟨ret_bool (by rw [HZ.out]), HB0.out.trans (hb2.mono HB0.out.size)⟩
  | true =>
  rw [e6] at hSu
  have HN6 : Hid (susB sus n = true) := e6
  clear e6
  have HTX : Hid (TxS W ta txt) := htx
  have HGO : Hid (Vec W ga got.length got) := hgo
  have HTR : Hid (Vec W ma trm.length trm) := htr
  clear htx hgo hsu htr
  go_enter Try.func36, Try.ntmps36
  go_wp2_with (first | (go_at_call 62; refine (l1In_any _ _ _ _).mono ?_; rintro e w' ⟨rfl, hw'⟩; rw [hw']; clear hw') | (go_at_call 25; refine hVo.mono ?_; rintro e w' ⟨rfl, hw'⟩; rw [hw']; clear hw') | (go_at_call 70; refine hSu.mono ?_; rintro e w2 ⟨rfl, hb2⟩; obtain ⟨⟨d0, d1, d2, d3⟩, d4, d5, d6, d7⟩ := Bx.r8 (HX.out.below hb2)))
  have HB2 : Hid (Below w.heap.size w w2) := HB0.out.trans (hb2.mono HB0.out.size)
  have HT2 : Hid (TxS w2 ta txt) := HTX.out.below hb2
  have HG2 : Hid (Vec w2 ga got.length got) := HGO.out.below hb2 (Nat.le_refl _)
  have hTr := trmS16_any ma mc trm n w2 (HTR.out.below hb2 (Nat.le_refl _)) mm
  unfold maxLen at mt mg ms mm
  clear hVo hSu hb2 c0 c1 c2 c3 c4 c5 c6 c7 hw0 g5 e1 e2 HTX HGO HTR
  go_loop [5] (fun i => ∃ k : Nat, k ≤ txt.length ∧ i = .int .i64 k ∧ ∀ j, j < k → (txt.getD j []).length ≤ 20) (fun i => txt.length - (intOf i).toNat)
  case atStart => exact ⟨0, Nat.zero_le _, rfl, fun j hj => by omega⟩
  case round =>
    obtain ⟨k, hk, rfl, hall⟩ := hrel
    have HA : Hid (∀ j, j < k → (txt.getD j []).length ≤ 20) := hall
    clear hall
    by_cases hlt : k < txt.length
    · rcases HT2.out with h0 | ⟨b, off, rfl, hc⟩
      · omega
      have hck := hc k hlt
      have k1 : (k : Int) < (txt.length : Int) := by omega
      have k0 : (0 : Int) ≤ (k : Int) := by omega
      clear hc
      have hszt := sv_size (txt.getD k [])
      by_cases h20 : (txt.getD k []).length ≤ 20
      · have g20 : ¬ ((20 : Int) < ((txt.getD k []).length : Int)) := by omega
        have HN : Hid (∀ j, j < k + 1 → (txt.getD j []).length ≤ 20) := fun j hj => by
          rcases Nat.lt_succ_iff_lt_or_eq.1 hj with h1 | h1
          · exact HA.out j h1
          · rw [h1]; exact h20
        generalize txt.getD k [] = t at *
        clear h20
        go_wp2
        go_round
        case rel => exact ⟨k + 1, by omega, by go_num, HN.out⟩
        case measure => simp [intOf]; omega
      · have g20 : (20 : Int) < ((txt.getD k []).length : Int) := by omega
        have HZ : Hid (okRw ⟨ver, txt, got, sus, wed, rdy, by_, trm⟩ n = false) := okRw_x (k := k) hlt h20
        generalize txt.getD k [] = t at *
        clear h20
        go_wp2
        go_ret
        exact ⟨ret_bool (by rw [HZ.out]), HB2.out⟩
    · have k1 : ¬ ((k : Int) < (txt.length : Int)) := by omega
      have HAll : Hid (∀ j, j < txt.length → (txt.getD j []).length ≤ 20) := fun j hj => HA.out j (by omega)
      clear HA HT2
      go_wp2
      go_loop [6] (fun i => ∃ m : Nat, m ≤ got.length ∧ i = .int .i64 m ∧ ∀ j, j < m → el got j ≤ 12) (fun i => got.length - (intOf i).toNat)
      case atStart => exact ⟨0, Nat.zero_le _, rfl, fun j hj => by omega⟩
      case round =>
        obtain ⟨m, hm, rfl, hall⟩ := hrel
        have HA : Hid (∀ j, j < m → el got j ≤ 12) := hall
        clear hall
        by_cases hlt2 : m < got.length
        · rcases HG2.out.2.2 with h0 | ⟨b, off, rfl, hc⟩
          · omega
          have hck := hc m hlt2
          have k1 : (m : Int) < (got.length : Int) := by omega
          have k0 : (0 : Int) ≤ (m : Int) := by omega
          clear hc
          by_cases h12' : el got m ≤ 12
          · have g12' : ¬ (12 < el got m) := by omega
            have HN : Hid (∀ j, j < m + 1 → el got j ≤ 12) := fun j hj => by
              rcases Nat.lt_succ_iff_lt_or_eq.1 hj with h1 | h1
              · exact HA.out j h1
              · rw [h1]; exact h12'
            generalize el got m = x at *
            clear h12'
            go_wp2
            go_round
            case rel => exact ⟨m + 1, by omega, by go_num, HN.out⟩
            case measure => simp [intOf]; omega
          · have g12' : 12 < el got m := by omega
            have HZ : Hid (okRw ⟨ver, txt, got, sus, wed, rdy, by_, trm⟩ n = false) := okRw_g (smB_not (v := got) hlt2 h12')
            generalize el got m = x at *
            clear h12'
            go_wp2
            go_ret
            exact ⟨ret_bool (by rw [HZ.out]), HB2.out⟩
        · have k1 : ¬ ((m : Int) < (got.length : Int)) := by omega
          have HE : Hid (okRw ⟨ver, txt, got, sus, wed, rdy, by_, trm⟩ n = endB ⟨ver, txt, got, sus, wed, rdy, by_, trm⟩ n) := okRw_end HN1.out HN2.out h12 (HSM.out (fun j hj => HA.out j (by omega))) HN6.out HAll.out
          clear HA HG2 HAll
          have hwn : wrap64 (n - 1) = n - 1 := by unfold wrap64; omega
          cases rdy with
          | true =>
            cases wed with
            | false =>
              have HZ : Hid (okRw ⟨ver, txt, got, sus, false, true, by_, trm⟩ n = false) := by rw [Hid, HE.out]; rfl
              go_wp2
              go_ret
              exact ⟨ret_bool (by rw [HZ.out]), HB2.out⟩
            | true =>
              cases e7 : inB by_ 0 (n - 1) with
              | false =>
                have HZ : Hid (okRw ⟨ver, txt, got, sus, true, true, by_, trm⟩ n = false) := by rw [Hid, HE.out, endB]; simp [e7]
                go_wp2_with (first | (go_at_call 62; refine (l1In_any _ _ _ _).mono ?_; rintro e w' ⟨rfl, hw'⟩; rw [hw']; clear hw'))
                go_ret
                exact ⟨ret_bool (by rw [HZ.out]), HB2.out⟩
              | true =>
                have HZ : Hid (okRw ⟨ver, txt, got, sus, true, true, by_, trm⟩ n = smB trm n) := by rw [Hid, HE.out, endB]; simp [e7]
                generalize smB trm n = Q at *
                go_wp2_with (first | (go_at_call 62; refine (l1In_any _ _ _ _).mono ?_; rintro e w' ⟨rfl, hw'⟩; rw [hw']; clear hw') | (go_at_call 71; refine hTr.mono ?_; rintro e w' ⟨rfl, hw'⟩; rw [hw']; clear hw'))
                go_ret
                exact ⟨ret_bool (by rw [HZ.out]), HB2.out⟩
          | false =>
            have HZ : Hid (okRw ⟨ver, txt, got, sus, wed, false, by_, trm⟩ n = (decide (by_ = 0) && decide (trm = []))) := by rw [Hid, HE.out]; rfl
            by_cases h7 : by_ = 0
            · have g7 : (by_ == 0) = true := by simpa using h7
              have HZ2 : Hid (okRw ⟨ver, txt, got, sus, wed, false, by_, trm⟩ n = decide (trm = [])) := by rw [Hid, HZ.out, decide_eq_true h7]; rfl
              by_cases h8 : trm = []
              · have g8 : ((trm.length : Int) == 0) = true := by rw [h8]; rfl
                have HZ3 : Hid (okRw ⟨ver, txt, got, sus, wed, false, by_, trm⟩ n = true) := by rw [Hid, HZ2.out, decide_eq_true h8]
                clear h7 h8
                go_wp2
                go_ret
                exact ⟨ret_bool (by rw [HZ3.out]), HB2.out⟩
              · have g8 : ((trm.length : Int) == 0) = false := by
                  have := List.length_pos_iff.2 h8
                  simp; omega
                have HZ3 : Hid (okRw ⟨ver, txt, got, sus, wed, false, by_, trm⟩ n = false) := by rw [Hid, HZ2.out, decide_eq_false h8]
                clear h7 h8
                go_wp2
                go_ret
                exact ⟨ret_bool (by rw [HZ3.out]), HB2.out⟩
            · have g7 : (by_ == 0) = false := by simpa using h7
              have HZ3 : Hid (okRw ⟨ver, txt, got, sus, wed, false, by_, trm⟩ n = false) := by rw [Hid, HZ.out, decide_eq_false h7]; rfl
              clear h7
              go_wp2
              go_ret
              exact ⟨ret_bool (by rw [HZ3.out]), HB2.out⟩
end Go.Proofs.Ytgaibngaincahaa

/-
  The specification's Later, l16All, Follows, NewRow.
-/
namespace Go.Proofs.Ytgaibngaincahaa
set_option linter.unusedVariables false
set_option linter.unusedSimpArgs false
open Go.RowKit Go.Sort

set_option maxRecDepth 100000 in
set_option maxHeartbeats 800000 in
theorem latS_any (A B : Ra) (r s : Rw) (w : World) :
    Calls Try.prog 34 #[rwV A r, rwV B s] w fun e w' => e = .returned (.bool (decide (s.ver < r.ver))) ∧ Below w.heap.size w w' := by
  have hB0 : Below w.heap.size w ((w.alloc (.cells (rwC A r) 35)).alloc (.cells (rwC B s) 35)) := (oneA16 w _).trans ((oneA16 _ _).mono (oneA16 w _).size)
  have hx : Bx ((w.alloc (.cells (rwC A r) 35)).alloc (.cells (rwC B s) 35)) w.heap.size 35 (rwC A r) := (Bx.new w _ _).alloc _
  have hy : Bx ((w.alloc (.cells (rwC A r) 35)).alloc (.cells (rwC B s) 35)) (w.heap.size + 1) 35 (rwC B s) := by
    have := Bx.new (w.alloc (.cells (rwC A r) 35)) 35 (rwC B s)
    simpa using this
  have c0 := hx.at 0 (v := .int .i64 r.ver) rfl
  have d0 := hy.at 0 (v := .int .i64 s.ver) rfl
  have HB : Hid (Below w.heap.size w ((w.alloc (.cells (rwC A r) 35)).alloc (.cells (rwC B s) 35))) := hB0
  unfold rwV
  unfold rwC at *
  clear hx hy hB0
  by_cases h : s.ver < r.ver
  · have HZ : Hid (decide (s.ver < r.ver) = true) := decide_eq_true h
    go_enter Try.func34, Try.ntmps34
    go_wp2
    go_ret
    exact ⟨ret_bool (by rw [HZ.out]), HB.out⟩
  · have HZ : Hid (decide (s.ver < r.ver) = false) := decide_eq_false h
    go_enter Try.func34, Try.ntmps34
    go_wp2
    go_ret
    exact ⟨ret_bool (by rw [HZ.out]), HB.out⟩
theorem all_miss16 {l o : List Int} {k : Nat} (hk : k < o.length) (h : el o k ∉ l) : o.all (fun x => decide (x ∈ l)) = false := by
  rw [List.all_eq_false]
  exact ⟨el o k, el_mem hk, by simpa using h⟩
theorem all_hit16 {l o : List Int} (h : ∀ k, k < o.length → el o k ∈ l) : o.all (fun x => decide (x ∈ l)) = true := by
  rw [List.all_eq_true]
  intro x hx
  obtain ⟨j, hj, rfl⟩ := List.mem_iff_getElem.1 hx
  have := h j hj
  simpa [el, hj] using this
set_option maxRecDepth 100000 in
set_option maxHeartbeats 1600000 in
theorem allS_any (a b : Option Addr) (c d : Nat) (l o : List Int) (w : World) (hv : Vec w a l.length l) (hu : Vec w b o.length o) (hm : l.length ≤ maxLen) (hm2 : o.length ≤ maxLen) :
    Calls Try.prog 69 #[.slice a l.length c, .slice b o.length d] w fun e w' => e = .returned (.bool (o.all (fun x => decide (x ∈ l)))) ∧ w' = w := by
  have hH := fun x => l1Has_any a l.length c x l w hv hm
  have HU : Hid (Vec w b o.length o) := hu
  unfold maxLen at hm hm2
  clear hu hv
  go_enter Try.func69, Try.ntmps69
  go_wp2
  go_loop [5] (fun i => ∃ k : Nat, k ≤ o.length ∧ i = .int .i64 k ∧ ∀ j, j < k → el o j ∈ l) (fun i => o.length - (intOf i).toNat)
  case atStart => exact ⟨0, Nat.zero_le _, rfl, fun j hj => by omega⟩
  case round =>
    obtain ⟨k, hk, rfl, hall⟩ := hrel
    have HA : Hid (∀ j, j < k → el o j ∈ l) := hall
    clear hall
    by_cases hlt : k < o.length
    · rcases HU.out.2.2 with h0 | ⟨b', off, rfl, hc⟩
      · omega
      have hck := hc k hlt
      have k1 : (k : Int) < (o.length : Int) := by omega
      have k0 : (0 : Int) ≤ (k : Int) := by omega
      have hI := hH (el o k)
      clear hc hH
      by_cases hb : el o k ∈ l
      · rw [decide_eq_true hb] at hI
        have HN : Hid (∀ j, j < k + 1 → el o j ∈ l) := fun j hj => by
          rcases Nat.lt_succ_iff_lt_or_eq.1 hj with h1 | h1
          · exact HA.out j h1
          · rw [h1]; exact hb
        generalize el o k = x at *
        clear hb
        go_wp2_with (go_at_call 94; refine hI.mono ?_; rintro e w' ⟨rfl, hw'⟩; rw [hw']; clear hw')
        go_round
        case rel => exact ⟨k + 1, by omega, by go_num, HN.out⟩
        case measure => simp [intOf]; omega
      · rw [decide_eq_false hb] at hI
        have HZ : Hid (o.all (fun x => decide (x ∈ l)) = false) := all_miss16 hlt hb
        generalize el o k = x at *
        clear hb
        go_wp2_with (go_at_call 94; refine hI.mono ?_; rintro e w' ⟨rfl, hw'⟩; rw [hw']; clear hw')
        go_ret
        exact ⟨ret_bool (by rw [HZ.out]), rfl⟩
    · have k1 : ¬ ((k : Int) < (o.length : Int)) := by omega
      have HZ : Hid (o.all (fun x => decide (x ∈ l)) = true) := all_hit16 (fun j hj => HA.out j (by omega))
      go_wp2
      go_ret
      exact ⟨ret_bool (by rw [HZ.out]), rfl⟩
theorem fol_1 {r s : Rw} {n : Int} (h : okRw r n = false) : folB r s n = false := by rw [folB, h]; rfl
theorem fol_2 {r s : Rw} {n : Int} (h : okRw s n = false) : folB r s n = false := by rw [folB, h]; simp
theorem fol_3 {r s : Rw} {n : Int} (h : ¬ r.ver ≤ s.ver) : folB r s n = false := by rw [folB, decide_eq_false h]; simp
theorem fol_4 {r s : Rw} {n : Int} (h : ¬ r.txt.length ≤ s.txt.length) : folB r s n = false := by rw [folB, decide_eq_false h]; simp
theorem fol_5 {r s : Rw} {n : Int} (h : underB r.got s.got = false) : folB r s n = false := by rw [folB, h]; simp
theorem fol_6 {r s : Rw} {n : Int} (h : r.sus.all (fun x => decide (x ∈ s.sus)) = false) : folB r s n = false := by rw [folB, h]; simp
theorem fol_7 {r s : Rw} {n : Int} {k : Nat} (hk : k < r.txt.length) (hl : r.txt.length ≤ s.txt.length) (h : r.txt.getD k [] ≠ s.txt.getD k []) : folB r s n = false := by
  have : s.txt.take r.txt.length ≠ r.txt := fun e => h (by
    have e2 := congrArg (fun l : List (List UInt8) => l.getD k []) e
    simp only [List.getD_eq_getElem?_getD, List.getElem?_take, hk, if_true] at e2 ⊢
    exact e2.symm)
  rw [folB, decide_eq_false this]
  simp
theorem take_same16 {a b : List (List UInt8)} (hl : a.length ≤ b.length) (h : ∀ k, k < a.length → a.getD k [] = b.getD k []) : b.take a.length = a := by
  apply List.ext_getElem
  · rw [List.length_take]; omega
  · intro i h1 h2
    have := h i h2
    rw [List.getD_eq_getElem?_getD, List.getD_eq_getElem?_getD, List.getElem?_eq_getElem h2, List.getElem?_eq_getElem (by omega)] at this
    rw [List.getElem_take]
    simpa using this.symm
def endF (r s : Rw) : Bool := (!r.wed || s.wed) && (!r.rdy || (s.rdy && decide (r.by_ ≤ s.by_)))
theorem fol_end {r s : Rw} {n : Int} (h1 : okRw r n = true) (h2 : okRw s n = true) (h3 : r.ver ≤ s.ver) (h4 : r.txt.length ≤ s.txt.length) (h5 : underB r.got s.got = true) (h6 : r.sus.all (fun x => decide (x ∈ s.sus)) = true) (h7 : ∀ k, k < r.txt.length → r.txt.getD k [] = s.txt.getD k []) : folB r s n = endF r s := by
  rw [folB, h1, h2, decide_eq_true h3, decide_eq_true h4, h5, h6, decide_eq_true (take_same16 h4 h7)]
  rfl
attribute [local irreducible] sv
set_option maxRecDepth 100000 in
set_option maxHeartbeats 6400000 in
theorem folS_any (A B : Ra) (r s : Rw) (n : Int) (w : World) (hv : RwS w A r) (hu : RwS w B s) :
    Calls Try.prog 32 #[rwV A r, rwV B s, .int .i64 n] w fun e w' => e = .returned (.bool (folB r s n)) ∧ Below w.heap.size w w' := by
  have hB0 : Below w.heap.size w ((w.alloc (.cells (rwC A r) 35)).alloc (.cells (rwC B s) 35)) := (oneA16 w _).trans ((oneA16 _ _).mono (oneA16 w _).size)
  have hx : Bx ((w.alloc (.cells (rwC A r) 35)).alloc (.cells (rwC B s) 35)) w.heap.size 35 (rwC A r) := (Bx.new w _ _).alloc _
  have hy : Bx ((w.alloc (.cells (rwC A r) 35)).alloc (.cells (rwC B s) 35)) (w.heap.size + 1) 35 (rwC B s) := by
    have := Bx.new (w.alloc (.cells (rwC A r) 35)) 35 (rwC B s)
    simpa using this
  have h0 := hv.below hB0
  have g0 := hu.below hB0
  obtain ⟨pv, pt, pg, ps, pw, pd, py, pm⟩ := r
  obtain ⟨qv, qt, qg, qs, qw, qd, qy, qm⟩ := s
  obtain ⟨pA, pa, pB, pb, pC, pc, pD, pe⟩ := A
  obtain ⟨qA, qa, qB, qb, qC, qc, qD, qe⟩ := B
  have hWe : ∃ W, ((w.alloc (.cells #[.int .i64 pv, .slice pA pt.length pa, .slice pB pg.length pb, .slice pC ps.length pc, .bool pw, .bool pd, .int .i64 py, .slice pD pm.length pe] 35)).alloc (.cells #[.int .i64 qv, .slice qA qt.length qa, .slice qB qg.length qb, .slice qC qs.length qc, .bool qw, .bool qd, .int .i64 qy, .slice qD qm.length qe] 35)) = W := ⟨_, rfl⟩
  obtain ⟨W, hW⟩ := hWe
  have hx' : Bx W w.heap.size 35 #[.int .i64 pv, .slice pA pt.length pa, .slice pB pg.length pb, .slice pC ps.length pc, .bool pw, .bool pd, .int .i64 py, .slice pD pm.length pe] := hW ▸ hx
  have hy' : Bx W (w.heap.size + 1) 35 #[.int .i64 qv, .slice qA qt.length qa, .slice qB qg.length qb, .slice qC qs.length qc, .bool qw, .bool qd, .int .i64 qy, .slice qD qm.length qe] := hW ▸ hy
  have hB0' : Below w.heap.size w W := hW ▸ hB0
  have h0' : RwS W ⟨pA, pa, pB, pb, pC, pc, pD, pe⟩ ⟨pv, pt, pg, ps, pw, pd, py, pm⟩ := hW ▸ h0
  have g0' : RwS W ⟨qA, qa, qB, qb, qC, qc, qD, qe⟩ ⟨qv, qt, qg, qs, qw, qd, qy, qm⟩ := hW ▸ g0
  have HX : Hid (∀ X, Below W.heap.size W X → Bx X w.heap.size 35 #[.int .i64 pv, .slice pA pt.length pa, .slice pB pg.length pb, .slice pC ps.length pc, .bool pw, .bool pd, .int .i64 py, .slice pD pm.length pe] ∧ Bx X (w.heap.size + 1) 35 #[.int .i64 qv, .slice qA qt.length qa, .slice qB qg.length qb, .slice qC qs.length qc, .bool qw, .bool qd, .int .i64 qy, .slice qD qm.length qe]) := fun X h => ⟨hx'.below h, hy'.below h⟩
  have HBW : Hid (∀ X, Below W.heap.size W X → Below w.heap.size w X) := fun X h => hB0'.trans (h.mono hB0'.size)
  have HP : Hid (∀ X, Below W.heap.size W X → RwS X ⟨pA, pa, pB, pb, pC, pc, pD, pe⟩ ⟨pv, pt, pg, ps, pw, pd, py, pm⟩) := fun X h => h0'.below h
  have HQ : Hid (∀ X, Below W.heap.size W X → RwS X ⟨qA, qa, qB, qb, qC, qc, qD, qe⟩ ⟨qv, qt, qg, qs, qw, qd, qy, qm⟩) := fun X h => g0'.below h
  have mtp := h0'.mt
  have mtq := g0'.mt
  unfold maxLen at mtp mtq
  simp only at mtp mtq
  have hR1 : Calls Try.prog 36 #[.agg #[.int .i64 pv, .slice pA pt.length pa, .slice pB pg.length pb, .slice pC ps.length pc, .bool pw, .bool pd, .int .i64 py, .slice pD pm.length pe], .int .i64 n] W fun e w' => e = .returned (.bool (okRw (⟨pv, pt, pg, ps, pw, pd, py, pm⟩ : Rw) n)) ∧ Below W.heap.size W w' := rowS_any ⟨pA, pa, pB, pb, pC, pc, pD, pe⟩ ⟨pv, pt, pg, ps, pw, pd, py, pm⟩ n W h0'
  have hR2f : ∀ X, Below W.heap.size W X → Calls Try.prog 36 #[.agg #[.int .i64 qv, .slice qA qt.length qa, .slice qB qg.length qb, .slice qC qs.length qc, .bool qw, .bool qd, .int .i64 qy, .slice qD qm.length qe], .int .i64 n] X fun e w' => e = .returned (.bool (okRw (⟨qv, qt, qg, qs, qw, qd, qy, qm⟩ : Rw) n)) ∧ Below X.heap.size X w' := fun X h => rowS_any ⟨qA, qa, qB, qb, qC, qc, qD, qe⟩ ⟨qv, qt, qg, qs, qw, qd, qy, qm⟩ n X (HQ.out X h)
  have hUf : ∀ X, Below W.heap.size W X → Calls Try.prog 19 #[.slice pB pg.length pb, .slice qB qg.length qb] X fun e w' => e = .returned (.bool (underB pg qg)) ∧ ∃ q, w' = X.drewN q := fun X h => specUnder_any pB qB pg.length pb qg.length qb pg qg X (HP.out X h).got (HQ.out X h).got (HP.out X h).mg (HQ.out X h).mg
  have hAf : ∀ X, Below W.heap.size W X → Calls Try.prog 69 #[.slice qC qs.length qc, .slice pC ps.length pc] X fun e w' => e = .returned (.bool (ps.all (fun x => decide (x ∈ qs)))) ∧ w' = X := fun X h => allS_any qC pC qc pc qs ps X (HQ.out X h).sus (HP.out X h).sus (HQ.out X h).ms (HP.out X h).ms
  have B0 : Below W.heap.size W W := Below.refl _ _
  obtain ⟨⟨c0, c1, c2, c3⟩, c4, c5, c6, c7⟩ := Bx.r8 hx'
  obtain ⟨⟨d0, d1, d2, d3⟩, d4, d5, d6, d7⟩ := Bx.r8 hy'
  unfold rwV rwC
  simp only
  clear hv hu hx hy hx' hy' h0 g0 h0' g0' hB0 hB0'
  cases e1 : okRw (⟨pv, pt, pg, ps, pw, pd, py, pm⟩ : Rw) n with
  | false =>
    rw [e1] at hR1
    have HZ : Hid (folB (⟨pv, pt, pg, ps, pw, pd, py, pm⟩ : Rw) (⟨qv, qt, qg, qs, qw, qd, qy, qm⟩ : Rw) n = false) := fol_1 e1
    go_enter Try.func32, Try.ntmps32
    go_wp2_with (first | (go_at_call 36; refine hR1.mono ?_; rintro e w1 ⟨rfl, hb1⟩; clear c0 c1 c2 c3 c4 c5 c6 c7 d0 d1 d2 d3 d4 d5 d6 d7; obtain ⟨⟨c0, c1, c2, c3⟩, c4, c5, c6, c7⟩ := Bx.r8 (HX.out w1 hb1).1; obtain ⟨⟨d0, d1, d2, d3⟩, d4, d5, d6, d7⟩ := Bx.r8 (HX.out w1 hb1).2; have hR2 := hR2f w1 hb1))
    go_ret
    exact ⟨ret_bool (by rw [HZ.out]), HBW.out _ hb1⟩
  | true =>
  rw [e1] at hR1
  have E1 : Hid (okRw (⟨pv, pt, pg, ps, pw, pd, py, pm⟩ : Rw) n = true) := e1
  clear e1
  cases e2 : okRw (⟨qv, qt, qg, qs, qw, qd, qy, qm⟩ : Rw) n with
  | false =>
    rw [e2] at hR2f
    have HZ : Hid (folB (⟨pv, pt, pg, ps, pw, pd, py, pm⟩ : Rw) (⟨qv, qt, qg, qs, qw, qd, qy, qm⟩ : Rw) n = false) := fol_2 e2
    go_enter Try.func32, Try.ntmps32
    go_wp2_with (first | (go_at_call 36; refine hR2.mono ?_; rintro e w2 ⟨rfl, hb2⟩; have hB2 : Below W.heap.size W w2 := hb1.trans (hb2.mono hb1.size); clear c0 c1 c2 c3 c4 c5 c6 c7 d0 d1 d2 d3 d4 d5 d6 d7; obtain ⟨⟨c0, c1, c2, c3⟩, c4, c5, c6, c7⟩ := Bx.r8 (HX.out w2 hB2).1; obtain ⟨⟨d0, d1, d2, d3⟩, d4, d5, d6, d7⟩ := Bx.r8 (HX.out w2 hB2).2; have hU := hUf w2 hB2) | (go_at_call 36; refine hR1.mono ?_; rintro e w1 ⟨rfl, hb1⟩; clear c0 c1 c2 c3 c4 c5 c6 c7 d0 d1 d2 d3 d4 d5 d6 d7; obtain ⟨⟨c0, c1, c2, c3⟩, c4, c5, c6, c7⟩ := Bx.r8 (HX.out w1 hb1).1; obtain ⟨⟨d0, d1, d2, d3⟩, d4, d5, d6, d7⟩ := Bx.r8 (HX.out w1 hb1).2; have hR2 := hR2f w1 hb1))
    go_ret
    exact ⟨ret_bool (by rw [HZ.out]), HBW.out _ hB2⟩
  | true =>
  rw [e2] at hR2f
  have E2 : Hid (okRw (⟨qv, qt, qg, qs, qw, qd, qy, qm⟩ : Rw) n = true) := e2
  clear e2
  by_cases h3 : pv ≤ qv
  rotate_left
  · have g3 : qv < pv := by omega
    have HZ : Hid (folB (⟨pv, pt, pg, ps, pw, pd, py, pm⟩ : Rw) (⟨qv, qt, qg, qs, qw, qd, qy, qm⟩ : Rw) n = false) := fol_3 (r := ⟨pv, pt, pg, ps, pw, pd, py, pm⟩) (s := ⟨qv, qt, qg, qs, qw, qd, qy, qm⟩) h3
    go_enter Try.func32, Try.ntmps32
    go_wp2_with (first | (go_at_call 36; refine hR2.mono ?_; rintro e w2 ⟨rfl, hb2⟩; have hB2 : Below W.heap.size W w2 := hb1.trans (hb2.mono hb1.size); clear c0 c1 c2 c3 c4 c5 c6 c7 d0 d1 d2 d3 d4 d5 d6 d7; obtain ⟨⟨c0, c1, c2, c3⟩, c4, c5, c6, c7⟩ := Bx.r8 (HX.out w2 hB2).1; obtain ⟨⟨d0, d1, d2, d3⟩, d4, d5, d6, d7⟩ := Bx.r8 (HX.out w2 hB2).2; have hU := hUf w2 hB2) | (go_at_call 36; refine hR1.mono ?_; rintro e w1 ⟨rfl, hb1⟩; clear c0 c1 c2 c3 c4 c5 c6 c7 d0 d1 d2 d3 d4 d5 d6 d7; obtain ⟨⟨c0, c1, c2, c3⟩, c4, c5, c6, c7⟩ := Bx.r8 (HX.out w1 hb1).1; obtain ⟨⟨d0, d1, d2, d3⟩, d4, d5, d6, d7⟩ := Bx.r8 (HX.out w1 hb1).2; have hR2 := hR2f w1 hb1))
    go_ret
    exact ⟨ret_bool (by rw [HZ.out]), HBW.out _ hB2⟩
  have g3 : ¬ (qv < pv) := by omega
  by_cases h4 : pt.length ≤ qt.length
  rotate_left
  · have g4 : (qt.length : Int) < (pt.length : Int) := by omega
    have HZ : Hid (folB (⟨pv, pt, pg, ps, pw, pd, py, pm⟩ : Rw) (⟨qv, qt, qg, qs, qw, qd, qy, qm⟩ : Rw) n = false) := fol_4 (r := ⟨pv, pt, pg, ps, pw, pd, py, pm⟩) (s := ⟨qv, qt, qg, qs, qw, qd, qy, qm⟩) h4
    go_enter Try.func32, Try.ntmps32
    go_wp2_with (first | (go_at_call 36; refine hR2.mono ?_; rintro e w2 ⟨rfl, hb2⟩; have hB2 : Below W.heap.size W w2 := hb1.trans (hb2.mono hb1.size); clear c0 c1 c2 c3 c4 c5 c6 c7 d0 d1 d2 d3 d4 d5 d6 d7; obtain ⟨⟨c0, c1, c2, c3⟩, c4, c5, c6, c7⟩ := Bx.r8 (HX.out w2 hB2).1; obtain ⟨⟨d0, d1, d2, d3⟩, d4, d5, d6, d7⟩ := Bx.r8 (HX.out w2 hB2).2; have hU := hUf w2 hB2) | (go_at_call 36; refine hR1.mono ?_; rintro e w1 ⟨rfl, hb1⟩; clear c0 c1 c2 c3 c4 c5 c6 c7 d0 d1 d2 d3 d4 d5 d6 d7; obtain ⟨⟨c0, c1, c2, c3⟩, c4, c5, c6, c7⟩ := Bx.r8 (HX.out w1 hb1).1; obtain ⟨⟨d0, d1, d2, d3⟩, d4, d5, d6, d7⟩ := Bx.r8 (HX.out w1 hb1).2; have hR2 := hR2f w1 hb1))
    go_ret
    exact ⟨ret_bool (by rw [HZ.out]), HBW.out _ hB2⟩
  have g4 : ¬ ((qt.length : Int) < (pt.length : Int)) := by omega
  cases e5 : underB pg qg with
  | false =>
    rw [e5] at hUf
    have HZ : Hid (folB (⟨pv, pt, pg, ps, pw, pd, py, pm⟩ : Rw) (⟨qv, qt, qg, qs, qw, qd, qy, qm⟩ : Rw) n = false) := fol_5 (r := ⟨pv, pt, pg, ps, pw, pd, py, pm⟩) (s := ⟨qv, qt, qg, qs, qw, qd, qy, qm⟩) e5
    go_enter Try.func32, Try.ntmps32
    go_wp2_with (first | (go_at_call 36; refine hR2.mono ?_; rintro e w2 ⟨rfl, hb2⟩; have hB2 : Below W.heap.size W w2 := hb1.trans (hb2.mono hb1.size); clear c0 c1 c2 c3 c4 c5 c6 c7 d0 d1 d2 d3 d4 d5 d6 d7; obtain ⟨⟨c0, c1, c2, c3⟩, c4, c5, c6, c7⟩ := Bx.r8 (HX.out w2 hB2).1; obtain ⟨⟨d0, d1, d2, d3⟩, d4, d5, d6, d7⟩ := Bx.r8 (HX.out w2 hB2).2; have hU := hUf w2 hB2) | (go_at_call 36; refine hR1.mono ?_; rintro e w1 ⟨rfl, hb1⟩; clear c0 c1 c2 c3 c4 c5 c6 c7 d0 d1 d2 d3 d4 d5 d6 d7; obtain ⟨⟨c0, c1, c2, c3⟩, c4, c5, c6, c7⟩ := Bx.r8 (HX.out w1 hb1).1; obtain ⟨⟨d0, d1, d2, d3⟩, d4, d5, d6, d7⟩ := Bx.r8 (HX.out w1 hb1).2; have hR2 := hR2f w1 hb1) | (go_at_call 19; refine hU.mono ?_; rintro e w3 ⟨rfl, q3, hw3⟩; have hB3 : Below W.heap.size W w3 := (by rw [hw3]; exact belowN hB2); clear hw3; clear c0 c1 c2 c3 c4 c5 c6 c7 d0 d1 d2 d3 d4 d5 d6 d7; obtain ⟨⟨c0, c1, c2, c3⟩, c4, c5, c6, c7⟩ := Bx.r8 (HX.out w3 hB3).1; obtain ⟨⟨d0, d1, d2, d3⟩, d4, d5, d6, d7⟩ := Bx.r8 (HX.out w3 hB3).2; have hA := hAf w3 hB3))
    go_ret
    exact ⟨ret_bool (by rw [HZ.out]), HBW.out _ hB3⟩
  | true =>
  rw [e5] at hUf
  have E5 : Hid (underB pg qg = true) := e5
  clear e5
  cases e6 : ps.all (fun x => decide (x ∈ qs)) with
  | false =>
    rw [e6] at hAf
    have HZ : Hid (folB (⟨pv, pt, pg, ps, pw, pd, py, pm⟩ : Rw) (⟨qv, qt, qg, qs, qw, qd, qy, qm⟩ : Rw) n = false) := fol_6 (r := ⟨pv, pt, pg, ps, pw, pd, py, pm⟩) (s := ⟨qv, qt, qg, qs, qw, qd, qy, qm⟩) e6
    go_enter Try.func32, Try.ntmps32
    go_wp2_with (first | (go_at_call 36; refine hR2.mono ?_; rintro e w2 ⟨rfl, hb2⟩; have hB2 : Below W.heap.size W w2 := hb1.trans (hb2.mono hb1.size); clear c0 c1 c2 c3 c4 c5 c6 c7 d0 d1 d2 d3 d4 d5 d6 d7; obtain ⟨⟨c0, c1, c2, c3⟩, c4, c5, c6, c7⟩ := Bx.r8 (HX.out w2 hB2).1; obtain ⟨⟨d0, d1, d2, d3⟩, d4, d5, d6, d7⟩ := Bx.r8 (HX.out w2 hB2).2; have hU := hUf w2 hB2) | (go_at_call 36; refine hR1.mono ?_; rintro e w1 ⟨rfl, hb1⟩; clear c0 c1 c2 c3 c4 c5 c6 c7 d0 d1 d2 d3 d4 d5 d6 d7; obtain ⟨⟨c0, c1, c2, c3⟩, c4, c5, c6, c7⟩ := Bx.r8 (HX.out w1 hb1).1; obtain ⟨⟨d0, d1, d2, d3⟩, d4, d5, d6, d7⟩ := Bx.r8 (HX.out w1 hb1).2; have hR2 := hR2f w1 hb1) | (go_at_call 19; refine hU.mono ?_; rintro e w3 ⟨rfl, q3, hw3⟩; have hB3 : Below W.heap.size W w3 := (by rw [hw3]; exact belowN hB2); clear hw3; clear c0 c1 c2 c3 c4 c5 c6 c7 d0 d1 d2 d3 d4 d5 d6 d7; obtain ⟨⟨c0, c1, c2, c3⟩, c4, c5, c6, c7⟩ := Bx.r8 (HX.out w3 hB3).1; obtain ⟨⟨d0, d1, d2, d3⟩, d4, d5, d6, d7⟩ := Bx.r8 (HX.out w3 hB3).2; have hA := hAf w3 hB3) | (go_at_call 69; refine hA.mono ?_; rintro e w' ⟨rfl, hw'⟩; rw [hw']; clear hw'))
    go_ret
    exact ⟨ret_bool (by rw [HZ.out]), HBW.out _ hB3⟩
  | true =>
  rw [e6] at hAf
  have E6 : Hid (ps.all (fun x => decide (x ∈ qs)) = true) := e6
  clear e6
  go_enter Try.func32, Try.ntmps32
  go_wp2_with (first | (go_at_call 36; refine hR2.mono ?_; rintro e w2 ⟨rfl, hb2⟩; have hB2 : Below W.heap.size W w2 := hb1.trans (hb2.mono hb1.size); clear c0 c1 c2 c3 c4 c5 c6 c7 d0 d1 d2 d3 d4 d5 d6 d7; obtain ⟨⟨c0, c1, c2, c3⟩, c4, c5, c6, c7⟩ := Bx.r8 (HX.out w2 hB2).1; obtain ⟨⟨d0, d1, d2, d3⟩, d4, d5, d6, d7⟩ := Bx.r8 (HX.out w2 hB2).2; have hU := hUf w2 hB2) | (go_at_call 36; refine hR1.mono ?_; rintro e w1 ⟨rfl, hb1⟩; clear c0 c1 c2 c3 c4 c5 c6 c7 d0 d1 d2 d3 d4 d5 d6 d7; obtain ⟨⟨c0, c1, c2, c3⟩, c4, c5, c6, c7⟩ := Bx.r8 (HX.out w1 hb1).1; obtain ⟨⟨d0, d1, d2, d3⟩, d4, d5, d6, d7⟩ := Bx.r8 (HX.out w1 hb1).2; have hR2 := hR2f w1 hb1) | (go_at_call 19; refine hU.mono ?_; rintro e w3 ⟨rfl, q3, hw3⟩; have hB3 : Below W.heap.size W w3 := (by rw [hw3]; exact belowN hB2); clear hw3; clear c0 c1 c2 c3 c4 c5 c6 c7 d0 d1 d2 d3 d4 d5 d6 d7; obtain ⟨⟨c0, c1, c2, c3⟩, c4, c5, c6, c7⟩ := Bx.r8 (HX.out w3 hB3).1; obtain ⟨⟨d0, d1, d2, d3⟩, d4, d5, d6, d7⟩ := Bx.r8 (HX.out w3 hB3).2; have hA := hAf w3 hB3) | (go_at_call 69; refine hA.mono ?_; rintro e w' ⟨rfl, hw'⟩; rw [hw']; clear hw'))
  clear hR1 hR2 hR2f hU hUf hA hAf
  have HB3 : Hid (Below W.heap.size W w3) := hB3
  clear hB3 hB2 hb1 hb2 B0
  have HTP : Hid (TxS w3 pA pt) := (HP.out w3 HB3.out).txt
  have HTQ : Hid (TxS w3 qA qt) := (HQ.out w3 HB3.out).txt
  have HW : Hid (Below w.heap.size w w3) := HBW.out w3 HB3.out
  have HL : Hid (pt.length ≤ qt.length) := h4
  have HV3 : Hid (pv ≤ qv) := h3
  clear HP HQ HX HBW HB3 hW g3 g4 h3 h4
  go_loopw [7] (fun i wr => ∃ k q : Nat, k ≤ pt.length ∧ i = .int .i64 k ∧ wr = w3.drewN q ∧ ∀ j, j < k → pt.getD j [] = qt.getD j []) (fun i _ => pt.length - (intOf i).toNat)
  case atStart => exact ⟨0, 0, Nat.zero_le _, rfl, rfl, fun j hj => by omega⟩
  case round =>
    obtain ⟨k, q, hk, rfl, rfl, hall⟩ := hrel
    have HA : Hid (∀ j, j < k → pt.getD j [] = qt.getD j []) := hall
    clear hall
    by_cases hlt : k < pt.length
    · have hlq : k < qt.length := Nat.lt_of_lt_of_le hlt HL.out
      rcases HTP.out with h0 | ⟨b, off, rfl, hc⟩
      · omega
      rcases HTQ.out with h0 | ⟨b2, off2, rfl, hc2⟩
      · omega
      have hck := hc k hlt
      have hck2 := hc2 k hlq
      have k1 : (k : Int) < (pt.length : Int) := by omega
      have k2 : (k : Int) < (qt.length : Int) := by omega
      have k0 : (0 : Int) ≤ (k : Int) := by omega
      clear hc hc2
      by_cases he : pt.getD k [] = qt.getD k []
      · have HN : Hid (∀ j, j < k + 1 → pt.getD j [] = qt.getD j []) := fun j hj => by
          rcases Nat.lt_succ_iff_lt_or_eq.1 hj with h1 | h1
          · exact HA.out j h1
          · rw [h1]; exact he
        rw [← he] at hck2
        generalize pt.getD k [] = t at *
        have ns : ((sv t).toList == (sv t).toList) = true := by simp
        clear he
        go_wp2_with fail
        go_quiet (fail)
        go_wp2
        go_roundw
        case rel => exact ⟨k + 1, _, by omega, by go_num, rfl, HN.out⟩
        case measure => simp [intOf]; omega
      · have HZ : Hid (folB (⟨pv, pt, pg, ps, pw, pd, py, pm⟩ : Rw) (⟨qv, qt, qg, qs, qw, qd, qy, qm⟩ : Rw) n = false) := fol_7 (r := ⟨pv, pt, pg, ps, pw, pd, py, pm⟩) (s := ⟨qv, qt, qg, qs, qw, qd, qy, qm⟩) hlt HL.out he
        have ns : ((sv (pt.getD k [])).toList == (sv (qt.getD k [])).toList) = false := by rw [sv_list, sv_list]; simpa using he
        generalize pt.getD k [] = t at *
        generalize qt.getD k [] = t2 at *
        clear he
        go_wp2_with fail
        go_quiet (fail)
        go_wp2
        go_ret
        exact ⟨ret_bool (by rw [HZ.out]), belowN (belowN HW.out)⟩
    · have k1 : ¬ ((k : Int) < (pt.length : Int)) := by omega
      have HE : Hid (folB (⟨pv, pt, pg, ps, pw, pd, py, pm⟩ : Rw) (⟨qv, qt, qg, qs, qw, qd, qy, qm⟩ : Rw) n = endF (⟨pv, pt, pg, ps, pw, pd, py, pm⟩ : Rw) (⟨qv, qt, qg, qs, qw, qd, qy, qm⟩ : Rw)) := fol_end E1.out E2.out HV3.out HL.out E5.out E6.out (fun j hj => HA.out j (by simp only at hj; omega))
      clear HA HTP HTQ
      cases pw <;> cases qw <;> cases pd <;> cases qd
      all_goals
        by_cases h9 : py ≤ qy
        · have HD : Hid (decide (py ≤ qy) = true) := decide_eq_true h9
          go_wp2
          go_ret
          refine ⟨ret_bool ?_, belowN HW.out⟩
          rw [HE.out, endF]
          simp [HD.out]
        · have HD : Hid (decide (py ≤ qy) = false) := decide_eq_false h9
          go_wp2
          go_ret
          refine ⟨ret_bool ?_, belowN HW.out⟩
          rw [HE.out, endF]
          simp [HD.out]
end Go.Proofs.Ytgaibngaincahaa

/-
  A row as an answer, in memory of its own; the specification's NewRow.
-/
namespace Go.Proofs.Ytgaibngaincahaa
set_option linter.unusedVariables false
set_option linter.unusedSimpArgs false
open Go.RowKit Go.Sort

def rwCels (r : Rw) : List Cel := [scl r.txt, icl r.got, icl r.sus, icl r.trm]
def rwVals (A : Ra) (r : Rw) : List Value := [.slice A.ta r.txt.length A.tc, .slice A.ga r.got.length A.gc, .slice A.sa r.sus.length A.sc, .slice A.ma r.trm.length A.mc]
/-- A row as an answer, in memory of its own. -/
def AnsRw (w w' : World) (e : Ending) (r : Rw) : Prop := ∃ A : Ra, e = .returned (rwV A r) ∧ NewL w w' (rwCels r) (rwVals A r)
theorem owL4 {w : World} {c1 c2 c3 c4 : Cel} {v1 v2 v3 v4 : Value} {f1 f2 f3 f4 : Fp} (h1 : Cel.ow w c1 v1 f1) (h2 : Cel.ow w c2 v2 f2) (h3 : Cel.ow w c3 v3 f3) (h4 : Cel.ow w c4 v4 f4) (d1 : ∀ b, f1 b → ¬ (f2 b ∨ f3 b ∨ f4 b)) (d2 : ∀ b, f2 b → ¬ (f3 b ∨ f4 b)) (d3 : ∀ b, f3 b → ¬ f4 b) :
    owL w [c1, c2, c3, c4] [v1, v2, v3, v4] (fun b => f1 b ∨ f2 b ∨ f3 b ∨ f4 b) :=
  ⟨v1, _, f1, fun b => f2 b ∨ f3 b ∨ f4 b, rfl, h1, ⟨v2, _, f2, fun b => f3 b ∨ f4 b, rfl, h2, ⟨v3, _, f3, f4, rfl, h3, ⟨v4, [], f4, fun _ => False, rfl, h4, ⟨rfl, fun _ h => h⟩, fun _ _ h => h, fun b => by simp⟩, d3, fun b => Iff.rfl⟩, d2, fun b => Iff.rfl⟩, d1, fun b => Iff.rfl⟩
theorem ow_none_s (w : World) : Cel.ow w (scl []) (.slice none 0 0) (fun _ => False) := ow_scl.2 ⟨none, 0, none, rfl, OSo.nil _ _ plainN, fun b => by simp⟩
theorem ow_none_i (w : World) : Cel.ow w (icl []) (.slice none 0 0) (fun _ => False) := ow_icl.2 ⟨none, 0, none, rfl, OSo.nil _ _ plainN, fun b => by simp⟩
theorem ans_zero {w w' : World} (hb : Below w.heap.size w w') : NewL w w' (rwCels zeroRw) (rwVals ⟨none, 0, none, 0, none, 0, none, 0⟩ zeroRw) :=
  ⟨_, owL4 (ow_none_s w') (ow_none_i w') (ow_none_i w') (ow_none_i w') (fun b h => absurd h id) (fun b h => absurd h id) (fun b h => absurd h id), fun b h => by rcases h with h | h | h | h <;> exact absurd h id, hb⟩
theorem made_oi (w : World) (n : Nat) (hn : n ≤ maxLen) : OI (w.alloc (.cells (madeCells #[.int .i64 0] n) 2)) w.heap.size 0 n n (List.replicate n 0) := by
  have h := osl_made w #[.int .i64 0] 1 n 2 rfl (by omega) hn
  rw [Nat.mul_one] at h
  have e : (List.replicate n (#[Value.int .i64 0] : Array Value).toList).flatten = (List.replicate n (0 : Int)).map (Value.int .i64) := by
    rw [List.map_replicate]
    clear h hn
    induction n with
    | zero => rfl
    | succ n ih => rw [List.replicate_succ, List.replicate_succ, List.flatten_cons, ih]; rfl
  rw [e] at h
  exact h
/-- What writes into one block. -/
theorem wrt8 (w : World) (g : Nat) {a b c d e f h i : Value} : Wrt (fun x => x = g) w ((((((((w.setCell ⟨g, 0, none⟩ a).setCell ⟨g, 1, none⟩ b).setCell ⟨g, 2, none⟩ c).setCell ⟨g, 3, none⟩ d).setCell ⟨g, 4, none⟩ e).setCell ⟨g, 5, none⟩ f).setCell ⟨g, 6, none⟩ h).setCell ⟨g, 7, none⟩ i) :=
  (((((((Wrt.set w g 0 a).trans (Wrt.set _ g 1 b) (fun _ _ h => h)).trans (Wrt.set _ g 2 c) (fun _ _ h => h)).trans (Wrt.set _ g 3 d) (fun _ _ h => h)).trans (Wrt.set _ g 4 e) (fun _ _ h => h)).trans (Wrt.set _ g 5 f) (fun _ _ h => h)).trans (Wrt.set _ g 6 h) (fun _ _ h => h)).trans (Wrt.set _ g 7 i) (fun _ _ h => h)
theorem Bx.f8 {w : World} {B : Nat} {T : TypeId} {cs : Array Value} (h : Bx w B T cs) : (w.frozen? ⟨B, 0, none⟩ = false ∧ w.frozen? ⟨B, 1, none⟩ = false ∧ w.frozen? ⟨B, 2, none⟩ = false ∧ w.frozen? ⟨B, 3, none⟩ = false) ∧ w.frozen? ⟨B, 4, none⟩ = false ∧ w.frozen? ⟨B, 5, none⟩ = false ∧ w.frozen? ⟨B, 6, none⟩ = false ∧ w.frozen? ⟨B, 7, none⟩ = false :=
  ⟨⟨h.f 0, h.f 1, h.f 2, h.f 3⟩, h.f 4, h.f 5, h.f 6, h.f 7⟩
set_option maxRecDepth 100000 in
set_option maxHeartbeats 3200000 in
theorem nrwS_any (n : Int) (w : World) :
    Calls Try.prog 39 #[.int .i64 n] w fun e w' => AnsRw w w' e (newRw n) := by
  have hb0 := oneA16 w (.cells #[.int .i64 0, .slice none 0 0, .slice none 0 0, .slice none 0 0, .bool false, .bool false, .int .i64 0, .slice none 0 0] 35)
  have hx := Bx.new w 35 #[.int .i64 0, .slice none 0 0, .slice none 0 0, .slice none 0 0, .bool false, .bool false, .int .i64 0, .slice none 0 0]
  have HB0 : Hid (Below w.heap.size w (w.alloc (.cells #[.int .i64 0, .slice none 0 0, .slice none 0 0, .slice none 0 0, .bool false, .bool false, .int .i64 0, .slice none 0 0] 35))) := hb0
  generalize hW : w.alloc (.cells #[.int .i64 0, .slice none 0 0, .slice none 0 0, .slice none 0 0, .bool false, .bool false, .int .i64 0, .slice none 0 0] 35) = W at *
  have hlt := hx.lt
  cases e1 : inB n 1 5 with
  | false =>
    have HZ : Hid (newRw n = zeroRw) := by rw [Hid, newRw, e1]; rfl
    obtain ⟨⟨c0, c1, c2, c3⟩, c4, c5, c6, c7⟩ := hx.r8
    obtain ⟨⟨f0, f1, f2, f3⟩, f4, f5, f6, f7⟩ := hx.f8
    clear hx hb0
    go_enter Try.func39, Try.ntmps39
    go_wp2_with (go_at_call 62; refine (l1In_any _ _ _ _).mono ?_; rintro e w' ⟨rfl, hw'⟩; rw [hw']; clear hw')
    refine bodyPost_ret (v := rwV ⟨none, 0, none, 0, none, 0, none, 0⟩ zeroRw) (by simp [results, Try.results39, go_sem, rwV, rwC, zeroRw, *]) rfl ?_
    rw [HZ.out]
    exact ⟨_, rfl, ans_zero ((wrt8 W w.heap.size).below HB0.out HB0.out.size (fun b h => by rw [h]; exact Nat.le_refl _))⟩
  | true =>
    have hn := inB7.1 e1
    obtain ⟨N, rfl⟩ : ∃ N : Nat, n = (N : Int) := ⟨n.toNat, by omega⟩
    have HZ : Hid (newRw (N : Int) = ⟨0, [], List.replicate N 0, [], false, false, 0, []⟩) := by rw [Hid, newRw, e1]; simp
    have hmk := run_make_row' (P := Try.prog) 24 2 (.int .i64 0) 8 Try.underlying24 Try.info2 rfl .i64 .i64 N (by omega) (by omega)
    have hM := made_oi (w.alloc (.cells #[.int .i64 0, .slice none 0 0, .slice (some ⟨w.heap.size + 1, 0, none⟩) N N, .slice none 0 0, .bool false, .bool false, .int .i64 0, .slice none 0 0] 35)) N (by unfold maxLen; omega)
    have hbM : Below w.heap.size w ((w.alloc (.cells #[.int .i64 0, .slice none 0 0, .slice (some ⟨w.heap.size + 1, 0, none⟩) N N, .slice none 0 0, .bool false, .bool false, .int .i64 0, .slice none 0 0] 35)).alloc (.cells (madeCells #[.int .i64 0] N) 2)) := (oneA16 w _).trans ((oneA16 _ _).mono (oneA16 w _).size)
    rw [World.size_alloc] at hM
    have HA : Hid (NewL w ((w.alloc (.cells #[.int .i64 0, .slice none 0 0, .slice (some ⟨w.heap.size + 1, 0, none⟩) N N, .slice none 0 0, .bool false, .bool false, .int .i64 0, .slice none 0 0] 35)).alloc (.cells (madeCells #[.int .i64 0] N) 2)) (rwCels ⟨0, [], List.replicate N 0, [], false, false, 0, []⟩) (rwVals ⟨none, 0, some ⟨w.heap.size + 1, 0, none⟩, N, none, 0, none, 0⟩ ⟨0, [], List.replicate N 0, [], false, false, 0, []⟩)) := by
      refine ⟨_, owL4 (ow_none_s _) (f2 := fun b => b = w.heap.size + 1) ?_ (ow_none_i _) (ow_none_i _) (fun b h => absurd h id) (fun b _ h => by rcases h with h | h <;> exact absurd h id) (fun b h => absurd h id), fun b h => ?_, hbM⟩
      · refine ow_icl.2 ⟨_, N, some (w.heap.size + 1), rfl, OSo.of ?_, fun b => by simp [eq_comm]⟩
        have e : (List.replicate N (0 : Int)).length = N := List.length_replicate
        simp only [e]
        exact hM
      · rcases h with h | h | h | h
        · exact absurd h id
        · rw [h]; omega
        · exact absurd h id
        · exact absurd h id
    clear hx hb0 hM hbM hW hlt HB0
    go_enter Try.func39, Try.ntmps39
    go_wp2_with (go_at_call 62; refine (l1In_any _ _ _ _).mono ?_; rintro e w' ⟨rfl, hw'⟩; rw [hw']; clear hw')
    refine bodyPost_ret (v := rwV ⟨none, 0, some ⟨w.heap.size + 1, 0, none⟩, N, none, 0, none, 0⟩ ⟨0, [], List.replicate N 0, [], false, false, 0, []⟩) (by simp [results, Try.results39, go_sem, rwV, rwC]) rfl ?_
    rw [HZ.out]
    exact ⟨_, rfl, HA.out⟩
end Go.Proofs.Ytgaibngaincahaa
