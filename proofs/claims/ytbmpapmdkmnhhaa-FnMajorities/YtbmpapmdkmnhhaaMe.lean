/-
  Several texts in one: LawLd.
-/
import Derived.Test.YtbmpapmdkmnhhaaMd
import Derived.Test.YtbmpapmdkmnhhaaIr
/-
  The walk of the law FnLeaders FROM what the program answers.
-/
namespace Go.Proofs.Ytbmpapmdkmnhhaa
set_option linter.unusedVariables false
set_option linter.unusedSimpArgs false
open Go.RowKit Go.Sort

set_option maxHeartbeats 400000 in
theorem has14_any (a : Option Addr) (cap : Nat) (x : Int) (xs : List Int) (w : World) (hv : Vec w a xs.length xs) (hm : xs.length ≤ maxLen) :
    Calls Try.prog 39 #[.slice a xs.length cap, .int .i64 x] w fun e w' => e = .returned (.bool (decide (x ∈ xs))) ∧ Below w.heap.size w w' := by
  rcases hv.2.2 with h | ⟨b, off, rfl, hc⟩
  · obtain rfl : xs = [] := List.eq_nil_of_length_eq_zero h
    have hd : decide (x ∈ ([] : List Int)) = false := by simp
    rw [hd]
    clear hv h hm hd
    go_enter Try.func39, Try.ntmps39
    go_wp2
    go_loop [5] (fun i => i = .int .i64 0) (fun i => 0)
    case atStart => rfl
    case round =>
      obtain rfl := hrel
      go_wp2
      go_ret
      exact ⟨rfl, Below.refl _ _⟩
  · exact (has9_any b off xs.length cap x xs w rfl hc hm).mono (fun e w' h => ⟨h.1, by rw [h.2]; exact Below.refl _ _⟩)
/-- What the law holds of a view in a box. -/
structure Lh (X : World) (B : Nat) (F : Int) (ta : Option Addr) (tc : Nat) (T : List Int) : Prop where
  box : Bx X B 34 #[.int .i64 F, .slice ta T.length tc]
  vcp : VcP X ta tc T
theorem Lh.below {X Y : World} {B : Nat} {F : Int} {ta : Option Addr} {tc : Nat} {T : List Int} (h : Lh X B F ta tc T) (hb : Below X.heap.size X Y) : Lh Y B F ta tc T := ⟨h.box.below hb, h.vcp.below hb⟩
theorem Lh.new {X : World} {F : Int} {ta : Option Addr} {tc : Nat} {T : List Int} (h : VcP X ta tc T) : Lh (X.alloc (.cells #[.int .i64 F, .slice ta T.length tc] 34)) X.heap.size F ta tc T := ⟨Bx.new _ _ _, h.below (one14 _ _)⟩
theorem ldL_no {v : Vw} {s : List Int} (h : ¬ okVw v) : ldL v s = -1 := by unfold ldL; rw [if_neg h]
set_option maxRecDepth 100000 in
set_option maxHeartbeats 6400000 in
theorem lawFnLeaders (hLd : ImplLeader) (hRk : ImplRank) (a : Option Addr) (len cap : Nat) (bs : Nat → Int) (w : World) (hv : BVec w a len bs) :
    Calls Try.prog 5 #[.slice a len cap] w fun e w' => e = .returned (.bool true) ∧ Below w.heap.size w w' := by
  by_cases hbig : (4096 : Int) < (len : Int)
  · have hB := big_any a len cap w
    rw [decide_eq_true hbig] at hB
    go_enter Try.func5, Try.ntmps5
    go_wp2_with fail
    refine hB.mono ?_
    rintro e w1 ⟨rfl, hw1⟩
    have HW : Hid (w1 = w) := hw1
    clear hw1
    go_wp2
    go_ret
    exact ⟨rfl, by rw [HW.out]; exact Below.refl _ _⟩
  · have hB := big_any a len cap w
    rw [decide_eq_false hbig] at hB
    have hl : len ≤ 4096 := by omega
    go_enter Try.func5, Try.ntmps5
    go_wp2_with fail
    refine hB.mono ?_
    rintro e w0 ⟨rfl, hw0⟩
    have B0 : Below w.heap.size w w0 := by rw [hw0]; exact Below.refl _ _
    clear hw0 hB
    go_wp2_with fail
    refine (drawLd_any a len cap bs w0 (hv.below B0 (Nat.le_refl _)) hl).mono ?_
    rintro e w1 ⟨F, ta, tc, T, sa, sc, s, rfl, hR, hS, hb1⟩
    have B1 : Below w.heap.size w w1 := B0.trans (hb1.mono B0.size)
    have hTl : T.length ≤ 9 := hR.sm.2.1
    have hFv : I64v F := ⟨by have := hR.sm.1.1; dsimp only at this; omega, by have := hR.sm.1.2; dsimp only at this; omega⟩
    have hsl := hS.len
    have hTx : ∀ k, k < T.length → -1 ≤ el T k ∧ el T k ≤ 100 := fun k hk => hR.sm.2.2 _ (el_in hk)
    have hb2 := one14 w1 (.cells #[.int .i64 F, .slice ta T.length tc] 34)
    have L2 : Lh _ w1.heap.size F ta tc T := Lh.new (F := F) hR.vcp
    have S2 := hS.vcp.below hb2
    have B2 : Below w.heap.size w _ := B1.trans (hb2.mono B1.size)
    unfold vwV
    generalize hW2 : w1.alloc (.cells #[.int .i64 F, .slice ta T.length tc] 34) = W2 at *
    have hI1 : ∀ X, VcP X ta tc T → VcP X sa sc s → Calls Try.prog 41 #[.agg #[.int .i64 F, .slice ta T.length tc], .slice sa s.length sc] X fun e w' => e = .returned (.int .i64 (ldL (F, T) s)) ∧ Below X.heap.size X w' := fun X h1 h2 => hLd F ta tc T sa sc s X hFv h1 (by omega) h2 (by omega)
    have hS1 : ∀ X, VcP X ta tc T → VcP X sa sc s → Calls Try.prog 43 #[.agg #[.int .i64 F, .slice ta T.length tc], .slice sa s.length sc] X fun e w' => e = .returned (.int .i64 (ldL (F, T) s)) ∧ Below X.heap.size X w' := fun X h1 h2 => (ldrS_any F ta tc T sa sc s X h1.vec (by unfold maxLen; omega) h2.vec (by unfold maxLen; omega)).mono (fun e w' h => ⟨h.1, h.2.1⟩)
    have hV1 : ∀ X, VcP X ta tc T → Calls Try.prog 35 #[.agg #[.int .i64 F, .slice ta T.length tc]] X fun e w' => e = .returned (.bool (decide (okVw (F, T)))) ∧ Below X.heap.size X w' := fun X h1 => (vwkS_any F ta tc T X h1.vec (by unfold maxLen; omega)).mono (fun e w' h => ⟨h.1, h.2.1⟩)
    have hK1 : ∀ X (x : Int), -1 ≤ x → x ≤ 100 → VcP X ta tc T → Calls Try.prog 44 #[.agg #[.int .i64 F, .slice ta T.length tc], .int .i64 x] X fun e w' => e = .returned (.int .i64 (rnkL (F, T) x)) ∧ Below X.heap.size X w' := fun X x h0 h9 h1 => hRk F ta tc T x X hFv h1 (by omega) ⟨by omega, by omega⟩
    have HT : Hid (okVw (F, T) → (∀ x ∈ T, x ∉ s → 0 ≤ ldL (F, T) s ∧ ldL (F, T) s ≤ x) ∧ (0 ≤ ldL (F, T) s → ldL (F, T) s ∈ T ∧ ldL (F, T) s ∉ s)) := fun h => ld_told (v := (F, T)) h
    have HN : Hid (¬ okVw (F, T) → ldL (F, T) s = -1) := fun h => ldL_no h
    have HRK : Hid (okVw (F, T) → ∀ i, i < T.length → rnkL (F, T) (el T i) = (i : Int)) := fun h i hi => rnk_at (v := (F, T)) h hi
    generalize ldL (F, T) s = Ld at *
    clear hR hS hb1 hb2 B1 hLd
    obtain ⟨p0, p1⟩ := bx2 L2.box
    go_wp2_with fail
    refine (hI1 W2 L2.vcp S2).mono ?_
    rintro e w3 ⟨rfl, hb3⟩
    have B3 : Below w.heap.size w w3 := B2.trans (hb3.mono B2.size)
    have L3 := L2.below hb3
    have S3 := S2.below hb3
    clear p0 p1 L2 S2 B2 hb3 hI1
    go_wp2_with fail
    refine (drawRk_any a len cap bs w3 (hv.below B3 (Nat.le_refl _)) hl).mono ?_
    rintro e w4 ⟨F', ta', tc', T', nd, rfl, hR', hnd, hb4⟩
    have B4 : Below w.heap.size w w4 := B3.trans (hb4.mono B3.size)
    have L4 := L3.below hb4
    have S4 := S3.below hb4
    have hTl' : T'.length ≤ 9 := hR'.sm.2.1
    have hFv' : I64v F' := ⟨by have := hR'.sm.1.1; dsimp only at this; omega, by have := hR'.sm.1.2; dsimp only at this; omega⟩
    have hb5 := one14 w4 (.cells #[.int .i64 F', .slice ta' T'.length tc'] 34)
    have M5 : Lh _ w4.heap.size F' ta' tc' T' := Lh.new (F := F') hR'.vcp
    have L5 := L4.below hb5
    have S5 := S4.below hb5
    have B5 : Below w.heap.size w _ := B4.trans (hb5.mono B4.size)
    unfold vwV
    generalize hW5 : w4.alloc (.cells #[.int .i64 F', .slice ta' T'.length tc'] 34) = W5 at *
    have hKi : ∀ X, VcP X ta' tc' T' → Calls Try.prog 44 #[.agg #[.int .i64 F', .slice ta' T'.length tc'], .int .i64 nd] X fun e w' => e = .returned (.int .i64 (rnkL (F', T') nd)) ∧ Below X.heap.size X w' := fun X h1 => hRk F' ta' tc' T' nd X hFv' h1 (by omega) ⟨by omega, by omega⟩
    have hKs : ∀ X, VcP X ta' tc' T' → Calls Try.prog 45 #[.agg #[.int .i64 F', .slice ta' T'.length tc'], .int .i64 nd] X fun e w' => e = .returned (.int .i64 (rnkL (F', T') nd)) ∧ Below X.heap.size X w' := fun X h1 => (rnkS_any F' ta' tc' T' nd X h1.vec (by unfold maxLen; omega)).mono (fun e w' h => ⟨h.1, h.2.1⟩)
    generalize rnkL (F', T') nd = Rk at *
    clear hR' hb4 hb5 L3 L4 S3 S4 B3 B4 hRk
    have K3 : ∀ q : Bk W5, Lh q.w w1.heap.size F ta tc T := fun q => L5.below q.h
    have K4 : ∀ q : Bk W5, Lh q.w w4.heap.size F' ta' tc' T' := fun q => M5.below q.h
    have j1 : Hid (∀ q : Bk W5, _) := fun q => hS1 q.w (K3 q).vcp (S5.below q.h)
    have j2 : Hid (∀ q : Bk W5, _) := fun q => hKi q.w (K4 q).vcp
    have j3 : Hid (∀ q : Bk W5, _) := fun q => hKs q.w (K4 q).vcp
    have e30 : ∀ q : Bk W5, q.w.cell? ⟨w1.heap.size, 0, none⟩ = some (.int .i64 F) := fun q => (bx2 (K3 q).box).1
    have e31 : ∀ q : Bk W5, q.w.cell? ⟨w1.heap.size, 1, none⟩ = some (.slice ta T.length tc) := fun q => (bx2 (K3 q).box).2
    have e40 : ∀ q : Bk W5, q.w.cell? ⟨w4.heap.size, 0, none⟩ = some (.int .i64 F') := fun q => (bx2 (K4 q).box).1
    have e41 : ∀ q : Bk W5, q.w.cell? ⟨w4.heap.size, 1, none⟩ = some (.slice ta' T'.length tc') := fun q => (bx2 (K4 q).box).2
    have n1 : (Ld != Ld) = false := by simp
    have n2 : (Rk != Rk) = false := by simp
    haveI : Inhabited (Bk W5) := ⟨⟨W5, Below.refl _ _⟩⟩
    clear K3 K4
    go_wp2_with fail
    refine wp_region_bk (by kernel_rfl) (by kernel_rfl) ?_
    repeat (go_big_quiet_step ((first | (go_at_call 43; exact bk_call _ (j1.out _)) | (go_at_call 44; exact bk_call _ (j2.out _)) | (go_at_call 45; exact bk_call _ (j3.out _)))))
    refine wpQuiet_nil ?_
    intro wE hw'
    obtain ⟨⟨w6, hb6⟩, hw''⟩ := hw'
    have hwe : wE = w6 := hw''
    clear hw''
    subst hwe
    have B6 : Below w.heap.size w wE := B5.trans (hb6.mono B5.size)
    have L6 := L5.below hb6
    have S6 := S5.below hb6
    clear j1 j2 j3 e30 e31 e40 e41 M5 L5 S5 B5 hb6 hKi hKs hS1 n1 n2
    obtain ⟨p0, p1⟩ := bx2 L6.box
    go_wp2_with fail
    refine (hV1 wE L6.vcp).mono ?_
    rintro e w7 ⟨rfl, hb7⟩
    have B7 : Below w.heap.size w w7 := B6.trans (hb7.mono B6.size)
    have L7 := L6.below hb7
    have S7 := S6.below hb7
    clear p0 p1 L6 S6 B6 hb7 hV1
    by_cases hok : okVw (F, T)
    · have hd : decide (okVw (F, T)) = true := by simpa using hok
      rw [hd]
      obtain ⟨hA, hZ⟩ := HT.out hok
      have hRR := HRK.out hok
      have HA : Hid (∀ x ∈ T, x ∉ s → 0 ≤ Ld ∧ Ld ≤ x) := hA
      have HZ : Hid (0 ≤ Ld → Ld ∈ T ∧ Ld ∉ s) := hZ
      have HRR : Hid (∀ i, i < T.length → rnkL (F, T) (el T i) = (i : Int)) := hRR
      have H7 : Hid (Below w.heap.size w w7 ∧ Lh w7 w1.heap.size F ta tc T ∧ VcP w7 sa sc s) := ⟨B7, L7, S7⟩
      clear hA hZ hRR HT HN HRK B7 L7 S7 hok hd
      have p1 := (bx2 H7.out.2.1.box).2
      generalize hB7 : w1.heap.size = o at *
      go_wp2_with fail
      clear p1
      go_loopw [8] (fun i wr => ∃ k : Nat, k ≤ T.length ∧ i = .int .i64 (k : Int) ∧ Below w.heap.size w wr ∧ Lh wr o F ta tc T ∧ VcP wr sa sc s) (fun i _ => T.length - (intOf i).toNat)
      case atStart => exact ⟨0, Nat.zero_le _, rfl, H7.out⟩
      case round =>
        clear H7
        obtain ⟨k, hk, rfl, B8, L8, S8⟩ := hrel
        obtain ⟨p0, p1⟩ := bx2 L8.box
        by_cases hlt : k < T.length
        · have k1 : (k : Int) < (T.length : Int) := by omega
          obtain ⟨b, off, rfl, hc⟩ : ∃ b off, ta = some ⟨b, off, none⟩ ∧ ∀ i, i < T.length → wr.cell? ⟨b, off + i, none⟩ = some (.int .i64 (el T i)) := by
            rcases L8.vcp.vec.2.2 with h | h
            · omega
            · exact h
          have hck := hc k hlt
          have hxb := hTx k hlt
          have hK := hK1 wr (el T k) hxb.1 hxb.2 L8.vcp
          rw [HRR.out k hlt] at hK
          have n3 : ((k : Int) != (k : Int)) = false := by simp
          have HM : Hid (el T k ∉ s → 0 ≤ Ld ∧ Ld ≤ el T k) := fun h => HA.out _ (el_in hlt) h
          have hH : ∀ X, VcP X sa sc s → Calls Try.prog 39 #[.slice sa s.length sc, .int .i64 (el T k)] X fun e w' => e = .returned (.bool (decide (el T k ∈ s))) ∧ Below X.heap.size X w' := fun X h => has14_any sa sc (el T k) s X h.vec (by unfold maxLen; omega)
          generalize hxx : el T k = x at *
          clear hc
          go_wp2_with fail
          refine hK.mono ?_
          rintro e w9 ⟨rfl, hb9⟩
          have B9 : Below w.heap.size w w9 := B8.trans (hb9.mono B8.size)
          have L9 := L8.below hb9
          have S9 := S8.below hb9
          clear B8 L8 S8 hb9 hK p0 p1 hck
          have hHH := hH w9 S9
          by_cases hm : x ∈ s
          · have hd : decide (x ∈ s) = true := by simpa using hm
            rw [hd] at hHH
            go_wp2_with fail
            refine hHH.mono ?_
            rintro e w10 ⟨rfl, hb10⟩
            have H10 : Hid (Below w.heap.size w w10 ∧ Lh w10 o F (some ⟨b, off, none⟩) tc T ∧ VcP w10 sa sc s) := ⟨B9.trans (hb10.mono B9.size), L9.below hb10, S9.below hb10⟩
            clear B9 L9 S9 hb10 hHH hH hd hm
            go_wp2
            go_roundw
            case rel => exact ⟨k + 1, by omega, by go_num, H10.out⟩
            case measure => simp [intOf]; omega
          · have hd : decide (x ∈ s) = false := by simpa using hm
            rw [hd] at hHH
            obtain ⟨m0, m1⟩ := HM.out hm
            have d0 : decide (Ld < 0) = false := by simp; omega
            have d1 : decide (Ld > x) = false := by simp; omega
            have d2 : decide (x < Ld) = false := by simp; omega
            go_wp2_with fail
            refine hHH.mono ?_
            rintro e w10 ⟨rfl, hb10⟩
            have H10 : Hid (Below w.heap.size w w10 ∧ Lh w10 o F (some ⟨b, off, none⟩) tc T ∧ VcP w10 sa sc s) := ⟨B9.trans (hb10.mono B9.size), L9.below hb10, S9.below hb10⟩
            clear B9 L9 S9 hb10 hHH hH hd hm
            go_wp2
            go_roundw
            case rel => exact ⟨k + 1, by omega, by go_num, H10.out⟩
            case measure => simp [intOf]; omega
        · have k1 : ¬ ((k : Int) < (T.length : Int)) := by omega
          by_cases hL : Ld < 0
          · have d0 : decide (Ld < 0) = true := by simpa using hL
            have H8 : Hid (Below w.heap.size w wr) := B8
            clear L8 S8 B8
            go_wp2
            go_ret
            exact ⟨rfl, H8.out⟩
          · have d0 : decide (Ld < 0) = false := by simpa using hL
            obtain ⟨z1, z2⟩ := HZ.out (by omega)
            have hH1 := has14_any ta tc Ld T wr L8.vcp.vec (by unfold maxLen; omega)
            have d1 : decide (Ld ∈ T) = true := by simpa using z1
            have d2 : decide (Ld ∈ s) = false := by simpa using z2
            rw [d1] at hH1
            go_wp2_with fail
            refine hH1.mono ?_
            rintro e w9 ⟨rfl, hb9⟩
            have B9 : Below w.heap.size w w9 := B8.trans (hb9.mono B8.size)
            have hH2 := has14_any sa sc Ld s w9 (S8.below hb9).vec (by unfold maxLen; omega)
            rw [d2] at hH2
            clear hH1 d1 d2 z1 z2
            go_wp2_with fail
            refine hH2.mono ?_
            rintro e w10 ⟨rfl, hb10⟩
            have H10 : Hid (Below w.heap.size w w10) := B9.trans (hb10.mono B9.size)
            clear hb10 hH2
            go_wp2
            go_ret
            exact ⟨rfl, H10.out⟩
    · have hd : decide (okVw (F, T)) = false := by simpa using hok
      rw [hd]
      have hn := HN.out hok
      have HB7 : Hid (Below w.heap.size w w7) := B7
      clear HT HN HRK L7 S7 B7 hok hd
      subst hn
      go_wp2
      go_ret
      exact ⟨rfl, HB7.out⟩
end Go.Proofs.Ytbmpapmdkmnhhaa
