/-
  The law FnShorter FROM what the program's functions of logs answer.
-/
import Derived.Test.YtbnpliobigjapaaLgt
import Derived.Test.YtbnpliobigjapaaLp
import Derived.Test.YtbnpliobigjapaaKz
import Derived.Test.YtbnpliobigjapaaLa
import Derived.Test.YtbnpliobigjapaaGb
import Derived.BigQuiet
namespace Go.Proofs.Ytbnpliobigjapaa
set_option linter.unusedVariables false
set_option linter.unusedSimpArgs false
open Go.RowKit Go.Sort

theorem shLg_small {F : Int} {T : List (List UInt8)} (h : SmL (F, T)) (v : Int) : I64l (shLg (F, T) v).1 ∧ (shLg (F, T) v).2.length ≤ 41 ∧ ShortT (shLg (F, T) v).2 := by
  by_cases hk : okLg (F, T)
  · have h1 := shLg_ok hk v
    refine ⟨?_, ?_, fun i hi => ?_⟩
    · have := h1.1; unfold I64l; omega
    · have := h1.2.1; omega
    · have := h1.2.2 i hi; omega
  · have e : shLg (F, T) v = zeroLg := by unfold shLg; rw [if_neg hk]
    rw [e]
    exact ⟨by unfold I64l zeroLg; simp, by simp [zeroLg], fun i hi => by simp [zeroLg] at hi⟩
theorem cuLg_small {F : Int} {T : List (List UInt8)} (h : SmL (F, T)) (v : Int) : I64l (cuLg (F, T) v).1 ∧ (cuLg (F, T) v).2.length ≤ 41 ∧ ShortT (cuLg (F, T) v).2 := by
  by_cases hk : okLg (F, T)
  · have h1 := cuLg_ok hk v
    refine ⟨?_, ?_, fun i hi => ?_⟩
    · have := h1.1; unfold I64l; omega
    · have := h1.2.1; omega
    · have := h1.2.2 i hi; omega
  · have e : cuLg (F, T) v = zeroLg := by unfold cuLg; rw [if_neg hk]
    rw [e]
    exact ⟨by unfold I64l zeroLg; simp, by simp [zeroLg], fun i hi => by simp [zeroLg] at hi⟩
/-- The three logs that the law holds. -/
structure S3 (W : World) (Bl Ba Bb : Nat) (F : Int) (a : Option Addr) (c : Nat) (T : List (List UInt8)) (SF : Int) (sa : Option Addr) (sc : Nat) (ST : List (List UInt8)) (CF : Int) (ca : Option Addr) (cc : Nat) (CT : List (List UInt8)) : Prop where
  l : LX W Bl F a c T
  a : LX W Ba SF sa sc ST
  b : LX W Bb CF ca cc CT
theorem S3.below {W W' : World} {Bl Ba Bb : Nat} {F : Int} {a : Option Addr} {c : Nat} {T : List (List UInt8)} {SF : Int} {sa : Option Addr} {sc : Nat} {ST : List (List UInt8)} {CF : Int} {ca : Option Addr} {cc : Nat} {CT : List (List UInt8)} (h : S3 W Bl Ba Bb F a c T SF sa sc ST CF ca cc CT) (hb : Below W.heap.size W W') : S3 W' Bl Ba Bb F a c T SF sa sc ST CF ca cc CT := ⟨h.l.below hb, h.a.below hb, h.b.below hb⟩
theorem S3.six {W : World} {Bl Ba Bb : Nat} {F : Int} {a : Option Addr} {c : Nat} {T : List (List UInt8)} {SF : Int} {sa : Option Addr} {sc : Nat} {ST : List (List UInt8)} {CF : Int} {ca : Option Addr} {cc : Nat} {CT : List (List UInt8)} (h : S3 W Bl Ba Bb F a c T SF sa sc ST CF ca cc CT) :
    W.cell? ⟨Bl, 0, none⟩ = some (.int .i64 F) ∧ W.cell? ⟨Bl, 1, none⟩ = some (.slice a T.length c) ∧ W.cell? ⟨Ba, 0, none⟩ = some (.int .i64 SF) ∧ W.cell? ⟨Ba, 1, none⟩ = some (.slice sa ST.length sc) ∧ W.cell? ⟨Bb, 0, none⟩ = some (.int .i64 CF) ∧ W.cell? ⟨Bb, 1, none⟩ = some (.slice ca CT.length cc) :=
  ⟨(bx2 h.l.box).1, (bx2 h.l.box).2, (bx2 h.a.box).1, (bx2 h.a.box).2, (bx2 h.b.box).1, (bx2 h.b.box).2⟩
attribute [local irreducible] sv
set_option maxRecDepth 100000 in
set_option maxHeartbeats 6400000 in
/-- The law FnShorter. -/
theorem lawFnShorter (hOk : ImplLogOk) (hTx : ImplTextAt) (hSh : ImplShorter) (hCu : ImplCut) (a : Option Addr) (len cap : Nat) (bs : Nat → Int) (w : World) (hv : BVec w a len bs) :
    Calls Try.prog 4 #[.slice a len cap] w fun e w' => e = .returned (.bool true) ∧ Below w.heap.size w w' := by
  have hmix : Try.prog.follows .mixedOrders = true := by kernel_rfl
  by_cases hbig : (4096 : Int) < (len : Int)
  · have hB := big_any a len cap w
    rw [decide_eq_true hbig] at hB
    go_enter Try.func4, Try.ntmps4
    go_wp2_with fail
    refine hB.mono ?_
    rintro e w1 ⟨rfl, hw1⟩
    have HW : Hid (w1 = w) := hw1
    clear hw1
    go_wp2
    go_ret
    exact ⟨rfl, by rw [HW.out]; exact Below.refl _ _⟩
  · have hB := big_any a len cap w
    rw [decide_eq_false hbig] at hB
    have hl : len ≤ 4096 := by omega
    go_enter Try.func4, Try.ntmps4
    go_wp2_with fail
    refine hB.mono ?_
    rintro e w0 ⟨rfl, hw0⟩
    have B0 : Below w.heap.size w w0 := by rw [hw0]; exact Below.refl _ _
    clear hw0 hB
    go_wp2_with fail
    refine (drawSh_any a len cap bs w0 (hv.below B0 (Nat.le_refl _)) hl).mono ?_
    rintro e w1 ⟨F, ta, tc, T, v, rfl, ⟨hR1, hsm⟩, hvb, hb1⟩
    obtain ⟨hIF, hTl, hTs⟩ := hsm.short
    have B1 : Below w.heap.size w w1 := B0.trans (hb1.mono B0.size)
    have L2 : LX (w1.alloc (.cells #[.int .i64 F, .slice ta T.length tc] 35)) w1.heap.size F ta tc T := LX.new hR1
    have B2 : Below w.heap.size w (w1.alloc (.cells #[.int .i64 F, .slice ta T.length tc] 35)) := B1.alloc B1.size _
    generalize hW2 : w1.alloc (.cells #[.int .i64 F, .slice ta T.length tc] 35) = W2 at *
    -- the plain answers
    have hShs := shLg_small hsm v
    have hCus := cuLg_small hsm v
    have HOKS : Hid (okLg (F, T) → (okLg (shLg (F, T) v) ∧ okLg (cuLg (F, T) v)) ∧ ∀ i : Nat, i < T.length → (((txtLg (shLg (F, T) v) (F + (i : Int))).2 = true → (txtLg (shLg (F, T) v) (F + (i : Int))).1 = T.getD i []) ∧ (v ≤ F + (i : Int) → (txtLg (shLg (F, T) v) (F + (i : Int))).2 = true)) ∧ (((txtLg (cuLg (F, T) v) (F + (i : Int))).2 = true → (txtLg (cuLg (F, T) v) (F + (i : Int))).1 = T.getD i []) ∧ (txtLg (cuLg (F, T) v) (F + (i : Int))).2 = decide (F + (i : Int) ≤ v))) :=
      fun h => ⟨⟨shLg_ok h v, cuLg_ok h v⟩, fun i hi => ⟨sh_text h v hi, cu_text h v hi⟩⟩
    have HNO : Hid (¬ okLg (F, T) → shLg (F, T) v = (0, []) ∧ cuLg (F, T) v = (0, [])) := fun h => ⟨by unfold shLg; rw [if_neg h]; rfl, by unfold cuLg; rw [if_neg h]; rfl⟩
    have hSi : ∀ X, LX X w1.heap.size F ta tc T → Calls Try.prog 29 #[lgV F ta T.length tc, .int .i64 v] X fun e w' => ∃ a c, e = .returned (.agg #[.int .i64 (shLg (F, T) v).1, .slice a (shLg (F, T) v).2.length c]) ∧ TxP w' a c (shLg (F, T) v).2 ∧ Below X.heap.size X w' := fun X h => (hSh F ta tc T v X hIF hvb h.txp (by omega) hTs).mono (fun e w' h => ans_lg h)
    have hSs : ∀ X, LX X w1.heap.size F ta tc T → Calls Try.prog 35 #[lgV F ta T.length tc, .int .i64 v] X fun e w' => ∃ a c, e = .returned (.agg #[.int .i64 (shLg (F, T) v).1, .slice a (shLg (F, T) v).2.length c]) ∧ TxP w' a c (shLg (F, T) v).2 ∧ Below X.heap.size X w' := fun X h => (lghS_any F ta tc T v X h.txp (by omega)).mono (fun e w' h => ans_lg h)
    have hCi : ∀ X, LX X w1.heap.size F ta tc T → Calls Try.prog 30 #[lgV F ta T.length tc, .int .i64 v] X fun e w' => ∃ a c, e = .returned (.agg #[.int .i64 (cuLg (F, T) v).1, .slice a (cuLg (F, T) v).2.length c]) ∧ TxP w' a c (cuLg (F, T) v).2 ∧ Below X.heap.size X w' := fun X h => (hCu F ta tc T v X hIF hvb h.txp (by omega) hTs).mono (fun e w' h => ans_lg h)
    have hCs : ∀ X, LX X w1.heap.size F ta tc T → Calls Try.prog 36 #[lgV F ta T.length tc, .int .i64 v] X fun e w' => ∃ a c, e = .returned (.agg #[.int .i64 (cuLg (F, T) v).1, .slice a (cuLg (F, T) v).2.length c]) ∧ TxP w' a c (cuLg (F, T) v).2 ∧ Below X.heap.size X w' := fun X h => (lguS_any F ta tc T v X h.txp (by omega)).mono (fun e w' h => ans_lg h)
    have hKs : ∀ X, LX X w1.heap.size F ta tc T → Calls Try.prog 37 #[lgV F ta T.length tc] X fun e w' => e = .returned (.bool (decide (okLg (F, T)))) ∧ Below X.heap.size X w' := fun X h => (lgkS_any F ta tc T X h.txp.txs (by unfold maxLen; omega)).mono (fun e w' h => ⟨h.1, h.2.1⟩)
    obtain ⟨⟨SF, ST⟩, hSR⟩ : ∃ p, shLg (F, T) v = p := ⟨_, rfl⟩
    obtain ⟨⟨CF, CT⟩, hCR⟩ : ∃ p, cuLg (F, T) v = p := ⟨_, rfl⟩
    have HSR : Hid (shLg (F, T) v = (SF, ST)) := hSR
    have HCR : Hid (cuLg (F, T) v = (CF, CT)) := hCR
    rw [hSR] at hSi hSs hShs
    rw [hCR] at hCi hCs hCus
    rw [Hid, hSR, hCR] at HOKS HNO
    have HOK2 : Hid (okLg (F, T) → (okLg (SF, ST) ∧ okLg (CF, CT)) ∧ ∀ i : Nat, i < T.length → (((txtLg (SF, ST) (F + (i : Int))).2 = true → (txtLg (SF, ST) (F + (i : Int))).1 = T.getD i []) ∧ (v ≤ F + (i : Int) → (txtLg (SF, ST) (F + (i : Int))).2 = true)) ∧ (((txtLg (CF, CT) (F + (i : Int))).2 = true → (txtLg (CF, CT) (F + (i : Int))).1 = T.getD i []) ∧ (txtLg (CF, CT) (F + (i : Int))).2 = decide (F + (i : Int) ≤ v))) := HOKS
    have HNO2 : Hid (¬ okLg (F, T) → (SF, ST) = (0, []) ∧ (CF, CT) = (0, [])) := HNO
    clear HOKS HNO
    dsimp only at hSi hSs hCi hCs hShs hCus
    have hTa : ∀ X B k, I64l k → LX X B SF (Option.none) 0 ST → True := fun _ _ _ _ _ => trivial
    clear hTa hSR hCR hb1 hR1 hSh hCu
    unfold lgV at *
    obtain ⟨p0, p1⟩ := bx2 L2.box
    go_wp2_with fail
    refine (hSi W2 L2).mono ?_
    rintro e w3 ⟨sa, sc, rfl, hX3, hb3⟩
    have B3 : Below w.heap.size w w3 := B2.trans (hb3.mono B2.size)
    have L3 := L2.below hb3
    have A4 : LX (w3.alloc (.cells #[.int .i64 SF, .slice sa ST.length sc] 35)) w3.heap.size SF sa sc ST := LX.new hX3
    have L4 := L3.below (oneA w3 (.cells #[.int .i64 SF, .slice sa ST.length sc] 35))
    have B4 : Below w.heap.size w (w3.alloc (.cells #[.int .i64 SF, .slice sa ST.length sc] 35)) := B3.alloc B3.size _
    generalize hW4 : w3.alloc (.cells #[.int .i64 SF, .slice sa ST.length sc] 35) = W4 at *
    clear p0 p1 hb3 hX3 L2 L3 B2 B3 hSi
    obtain ⟨p0, p1⟩ := bx2 L4.box
    go_wp2_with fail
    refine (hCi W4 L4).mono ?_
    rintro e w5 ⟨ca, cc, rfl, hX5, hb5⟩
    have B5 : Below w.heap.size w w5 := B4.trans (hb5.mono B4.size)
    have L5 := L4.below hb5
    have A5 := A4.below hb5
    have C6 : LX (w5.alloc (.cells #[.int .i64 CF, .slice ca CT.length cc] 35)) w5.heap.size CF ca cc CT := LX.new hX5
    have L6 := L5.below (oneA w5 (.cells #[.int .i64 CF, .slice ca CT.length cc] 35))
    have A6 := A5.below (oneA w5 (.cells #[.int .i64 CF, .slice ca CT.length cc] 35))
    have B6 : Below w.heap.size w (w5.alloc (.cells #[.int .i64 CF, .slice ca CT.length cc] 35)) := B5.alloc B5.size _
    generalize hW6 : w5.alloc (.cells #[.int .i64 CF, .slice ca CT.length cc] 35) = W6 at *
    have S6 : S3 W6 w1.heap.size w3.heap.size w5.heap.size F ta tc T SF sa sc ST CF ca cc CT := ⟨L6, A6, C6⟩
    clear p0 p1 hb5 hX5 L4 L5 A4 A5 B4 B5 hCi L6 A6 C6
    go_wp2_with fail
    refine (drawTx_any a len cap bs W6 (hv.below B6 (Nat.le_refl _)) hl).mono ?_
    rintro e w7 ⟨F2, a2, c2, T2, v2, rfl, ⟨hR7, hsm2⟩, hvb2, hb7⟩
    unfold lgV
    obtain ⟨hIF2, hTl2, hTs2⟩ := hsm2.short
    have B7 : Below w.heap.size w w7 := B6.trans (hb7.mono B6.size)
    have S7 := S6.below hb7
    have Q8 : LX (w7.alloc (.cells #[.int .i64 F2, .slice a2 T2.length c2] 35)) w7.heap.size F2 a2 c2 T2 := LX.new hR7
    have S8 := S7.below (oneA w7 (.cells #[.int .i64 F2, .slice a2 T2.length c2] 35))
    have B8 : Below w.heap.size w (w7.alloc (.cells #[.int .i64 F2, .slice a2 T2.length c2] 35)) := B7.alloc B7.size _
    generalize hW8 : w7.alloc (.cells #[.int .i64 F2, .slice a2 T2.length c2] 35) = W8 at *
    have hI2 : I64l v2 := ⟨by omega, by omega⟩
    have hTi : ∀ X, LX X w7.heap.size F2 a2 c2 T2 → Calls Try.prog 32 #[.agg #[.int .i64 F2, .slice a2 T2.length c2], .int .i64 v2] X fun e w' => e = .returned (.tuple #[.string (sv (txtLg (F2, T2) v2).1), .bool (txtLg (F2, T2) v2).2]) ∧ Below X.heap.size X w' := fun X h => hTx F2 a2 c2 T2 v2 X hIF2 hI2 h.txp (by omega) hTs2
    have hTs : ∀ X, LX X w7.heap.size F2 a2 c2 T2 → Calls Try.prog 33 #[.agg #[.int .i64 F2, .slice a2 T2.length c2], .int .i64 v2] X fun e w' => e = .returned (.tuple #[.string (sv (txtLg (F2, T2) v2).1), .bool (txtLg (F2, T2) v2).2]) ∧ Below X.heap.size X w' := fun X h => (lgtS_any F2 a2 c2 T2 v2 X h.txp.txs (by unfold maxLen; omega)).mono (fun e w' h => ⟨h.1, h.2.1⟩)
    generalize (txtLg (F2, T2) v2).1 = tx at *
    generalize (txtLg (F2, T2) v2).2 = tb at *
    clear B6 B7 S6 S7 hb7 hR7
    obtain ⟨p0, p1⟩ := bx2 Q8.box
    go_wp2_with fail
    refine (hTi W8 Q8).mono ?_
    rintro e w9 ⟨rfl, hb9⟩
    have B9 : Below w.heap.size w w9 := B8.trans (hb9.mono B8.size)
    have Q9 := Q8.below hb9
    have S9 := S8.below hb9
    clear p0 p1 hb9 Q8 S8 B8 hTi
    obtain ⟨p0, p1⟩ := bx2 Q9.box
    go_wp2_with fail
    refine (hTs w9 Q9).mono ?_
    rintro e wA ⟨rfl, hbA⟩
    have BA : Below w.heap.size w wA := B9.trans (hbA.mono B9.size)
    have SA := S9.below hbA
    clear p0 p1 hbA Q9 S9 B9 hTs
    have htb : (tb != tb) = false := by simp
    have htx : ((sv tx).toList != (sv tx).toList) = false := by simp
    have K0 : S3 (wA.drewN 1) w1.heap.size w3.heap.size w5.heap.size F ta tc T SF sa sc ST CF ca cc CT := SA.below (Same.drewN wA 1).below
    have D0 : Below w.heap.size w (wA.drewN 1) := belowN BA
    have hLa : ∀ X x1 y1, S3 X w1.heap.size w3.heap.size w5.heap.size F ta tc T SF sa sc ST CF ca cc CT → TxP X x1 y1 ST → Calls Try.prog 34 #[.agg #[.int .i64 SF, .slice sa ST.length sc], .agg #[.int .i64 SF, .slice x1 ST.length y1]] X fun e w' => e = .returned (.bool true) ∧ Below X.heap.size X w' := fun X x1 y1 h h2 => (likeLg_any SF sa x1 sc y1 ST X h.a.txp.txs h2.txs (by unfold maxLen; omega)).mono (fun e w' h => ⟨h.1, h.2.1⟩)
    have hLb : ∀ X x1 y1, S3 X w1.heap.size w3.heap.size w5.heap.size F ta tc T SF sa sc ST CF ca cc CT → TxP X x1 y1 CT → Calls Try.prog 34 #[.agg #[.int .i64 CF, .slice ca CT.length cc], .agg #[.int .i64 CF, .slice x1 CT.length y1]] X fun e w' => e = .returned (.bool true) ∧ Below X.heap.size X w' := fun X x1 y1 h h2 => (likeLg_any CF ca x1 cc y1 CT X h.b.txp.txs h2.txs (by unfold maxLen; omega)).mono (fun e w' h => ⟨h.1, h.2.1⟩)
    clear SA BA
    go_wp2_with fail
    go_region_held3 (fun W => W.cell? ⟨w1.heap.size, 0, none⟩ = some (.int .i64 F) ∧ W.cell? ⟨w1.heap.size, 1, none⟩ = some (.slice ta T.length tc) ∧ W.cell? ⟨w3.heap.size, 0, none⟩ = some (.int .i64 SF) ∧ W.cell? ⟨w3.heap.size, 1, none⟩ = some (.slice sa ST.length sc) ∧ W.cell? ⟨w5.heap.size, 0, none⟩ = some (.int .i64 CF) ∧ W.cell? ⟨w5.heap.size, 1, none⟩ = some (.slice ca CT.length cc))
      (first
        | (with_reducible exact K4.six)
        | (with_reducible exact K3.six)
        | (with_reducible exact K2.six)
        | (with_reducible exact K1.six)
        | exact K0.six)
      (first
        | (go_at_call 34; refine (hLb _ _ _ K3 hX3b).mono ?_; rintro e V4 ⟨rfl, hV4⟩; have K4 := K3.below hV4; have D4 := D3.trans (hV4.mono D3.size))
        | (go_at_call 36; refine (hCs _ K2.l).mono ?_; rintro e V3 ⟨xb, yb, rfl, hX3b, hV3⟩; have K3 := K2.below hV3; have D3 := D2.trans (hV3.mono D2.size))
        | (go_at_call 34; refine (hLa _ _ _ K1 hX1b).mono ?_; rintro e V2 ⟨rfl, hV2⟩; have K2 := K1.below hV2; have D2 := D1.trans (hV2.mono D1.size))
        | (go_at_call 35; refine (hSs _ K0.l).mono ?_; rintro e V1 ⟨xa, ya, rfl, hX1b, hV1⟩; have K1 := K0.below hV1; have D1 := D0.trans (hV1.mono D0.size)))
    have HK4 : Hid (S3 V4 w1.heap.size w3.heap.size w5.heap.size F ta tc T SF sa sc ST CF ca cc CT) := K4
    have HD4 : Hid (Below w.heap.size w V4) := D4
    clear K0 K1 K2 K3 D0 D1 D2 D3 D4 hX1b hX3b hV1 hV2 hV3 hV4 hSs hCs htb htx
    obtain ⟨p0, p1, p2, p3, p4, p5⟩ := K4.six
    have hK := hKs V4 HK4.out.l
    by_cases hok : okLg (F, T)
    · rw [decide_eq_true hok] at hK
      have HOK : Hid (okLg (F, T)) := hok
      have hF1 := hok.1
      dsimp only at hF1
      clear hok K4
      go_wp2_with fail
      refine hK.mono ?_
      rintro e V5 ⟨rfl, hV5⟩
      have K5 := HK4.out.below hV5
      have D5 := HD4.out.trans (hV5.mono HD4.out.size)
      clear hK HK4 HD4 hV5 p0 p1 p2 p3 p4 p5 hLa hLb
      obtain ⟨hIS, hSl, hSS⟩ := hShs
      obtain ⟨hIC, hCl, hCC⟩ := hCus
      go_wp2_with fail
      go_loopw [13] (fun i wr => ∃ k : Nat, k ≤ T.length ∧ i = .int .i64 (k : Int) ∧ S3 wr w1.heap.size w3.heap.size w5.heap.size F ta tc T SF sa sc ST CF ca cc CT ∧ Below w.heap.size w wr) (fun i _ => T.length - (intOf i).toNat)
      case atStart => exact ⟨0, Nat.zero_le _, rfl, K5, D5⟩
      case round =>
        clear K5 D5
        obtain ⟨k, hk, rfl, K6, D6⟩ := hrel
        obtain ⟨p0, p1, p2, p3, p4, p5⟩ := K6.six
        have HD6 : Hid (Below w.heap.size w wr) := D6
        clear D6
        by_cases hlt : k < T.length
        · have k1 : (k : Int) < (T.length : Int) := by omega
          have k0 : (0 : Int) ≤ (k : Int) := by omega
          have hIk : I64l (F + (k : Int)) := ⟨by omega, by omega⟩
          have hwk : wrap64 (F + (k : Int)) = F + (k : Int) := by unfold wrap64; omega
          obtain ⟨⟨h1, h2⟩, h3, h4⟩ := (HOK2.out HOK.out).2 k hlt
          have hTa : ∀ X, S3 X w1.heap.size w3.heap.size w5.heap.size F ta tc T SF sa sc ST CF ca cc CT → Calls Try.prog 32 #[.agg #[.int .i64 SF, .slice sa ST.length sc], .int .i64 (F + (k : Int))] X fun e w' => e = .returned (.tuple #[.string (sv (txtLg (SF, ST) (F + (k : Int))).1), .bool (txtLg (SF, ST) (F + (k : Int))).2]) ∧ Below X.heap.size X w' := fun X h => hTx SF sa sc ST (F + (k : Int)) X hIS hIk h.a.txp (by omega) hSS
          have hTb : ∀ X, S3 X w1.heap.size w3.heap.size w5.heap.size F ta tc T SF sa sc ST CF ca cc CT → Calls Try.prog 32 #[.agg #[.int .i64 CF, .slice ca CT.length cc], .int .i64 (F + (k : Int))] X fun e w' => e = .returned (.tuple #[.string (sv (txtLg (CF, CT) (F + (k : Int))).1), .bool (txtLg (CF, CT) (F + (k : Int))).2]) ∧ Below X.heap.size X w' := fun X h => hTx CF ca cc CT (F + (k : Int)) X hIC hIk h.b.txp (by omega) hCC
          rw [h4] at hTb h3
          generalize (txtLg (SF, ST) (F + (k : Int))).1 = x1 at *
          generalize (txtLg (SF, ST) (F + (k : Int))).2 = o1 at *
          generalize (txtLg (CF, CT) (F + (k : Int))).1 = x2 at *
          clear h4
          go_wp2_with fail
          clear hwk
          generalize F + (k : Int) = vk at *
          refine (hTa wr K6).mono ?_
          rintro e V7 ⟨rfl, hV7⟩
          have K7 := K6.below hV7
          have D7 : Hid (Below w.heap.size w V7) := HD6.out.trans (hV7.mono HD6.out.size)
          clear p0 p1 p2 p3 p4 p5 hTa hV7 K6 HD6
          obtain ⟨p0, p1, p2, p3, p4, p5⟩ := K7.six
          go_wp2_with fail
          refine (hTb V7 K7).mono ?_
          rintro e V8 ⟨rfl, hV8⟩
          have K8 := K7.below hV8
          have D8 : Hid (Below w.heap.size w V8) := D7.out.trans (hV8.mono D7.out.size)
          clear p0 p1 p2 p3 p4 p5 hTb hV8 K7 D7
          obtain ⟨p0, p1, p2, p3, p4, p5⟩ := K8.six
          obtain ⟨hz, _⟩ | ⟨bb, bo, rfl, _, _, hcell⟩ := K8.l.txp
          · rw [hz] at hlt; simp at hlt
          have c1 := hcell k hlt
          generalize T.getD k [] = tk at *
          have HK8 : Hid (S3 V8 w1.heap.size w3.heap.size w5.heap.size F (some ⟨bb, bo, none⟩) tc T SF sa sc ST CF ca cc CT) := K8
          clear K8 hcell
          clear HOK2 HNO2 HSR HCR hsm hsm2 hTs hTs2 hSS hCC hIS hIC hIk hIF hIF2 hI2 hTx hOk
          have hq : ((sv tk).toList != (sv tk).toList) = false := by simp
          have hnx : k + 1 ≤ T.length := hlt
          cases o1
          · have hvk : ¬ (v ≤ vk) := fun h => absurd (h2 h) (by simp)
            have hvk2 : vk ≤ v := by omega
            obtain rfl := h3 (decide_eq_true hvk2)
            clear h1 h2 h3 hF1 hvb hvb2
            rw [decide_eq_true hvk2]
            go_wp2
            go_roundw
            case rel => exact ⟨k + 1, hnx, by go_num, HK8.out, D8.out⟩
            case measure => simp [intOf]; omega
          · obtain rfl := h1 rfl
            clear h1 h2 hF1 hvb hvb2
            by_cases hvk2 : vk ≤ v
            · obtain rfl := h3 (decide_eq_true hvk2)
              rw [decide_eq_true hvk2]
              clear h3
              by_cases hvk : v ≤ vk
              · go_wp2
                go_roundw
                case rel => exact ⟨k + 1, hnx, by go_num, HK8.out, D8.out⟩
                case measure => simp [intOf]; omega
              · go_wp2
                go_roundw
                case rel => exact ⟨k + 1, hnx, by go_num, HK8.out, D8.out⟩
                case measure => simp [intOf]; omega
            · rw [decide_eq_false hvk2]
              have hvk : v ≤ vk := by omega
              clear h3
              go_wp2
              go_roundw
              case rel => exact ⟨k + 1, hnx, by go_num, HK8.out, D8.out⟩
              case measure => simp [intOf]; omega
        · have k1 : ¬ ((k : Int) < (T.length : Int)) := by omega
          have hOa : ∀ X, S3 X w1.heap.size w3.heap.size w5.heap.size F ta tc T SF sa sc ST CF ca cc CT → Calls Try.prog 38 #[.agg #[.int .i64 SF, .slice sa ST.length sc]] X fun e w' => e = .returned (.bool true) ∧ Below X.heap.size X w' := fun X h => by
            have := hOk SF sa sc ST X hIS h.a.txp (by omega) hSS
            rw [decide_eq_true ((HOK2.out HOK.out).1.1)] at this
            exact this
          have hOb : ∀ X, S3 X w1.heap.size w3.heap.size w5.heap.size F ta tc T SF sa sc ST CF ca cc CT → Calls Try.prog 38 #[.agg #[.int .i64 CF, .slice ca CT.length cc]] X fun e w' => e = .returned (.bool true) ∧ Below X.heap.size X w' := fun X h => by
            have := hOk CF ca cc CT X hIC h.b.txp (by omega) hCC
            rw [decide_eq_true ((HOK2.out HOK.out).1.2)] at this
            exact this
          go_wp2_with fail
          refine (hOa wr K6).mono ?_
          rintro e V7 ⟨rfl, hV7⟩
          have K7 := K6.below hV7
          have D7 : Hid (Below w.heap.size w V7) := HD6.out.trans (hV7.mono HD6.out.size)
          clear p0 p1 p2 p3 p4 p5 hV7 K6
          obtain ⟨p0, p1, p2, p3, p4, p5⟩ := K7.six
          go_wp2_with fail
          refine (hOb V7 K7).mono ?_
          rintro e V8 ⟨rfl, hV8⟩
          have D8 : Hid (Below w.heap.size w V8) := D7.out.trans (hV8.mono D7.out.size)
          clear hV8
          go_wp2
          go_ret
          exact ⟨rfl, D8.out⟩
    · rw [decide_eq_false hok] at hK
      obtain ⟨e1, e2⟩ := HNO2.out hok
      cases e1
      cases e2
      clear hok K4 HOK2 HNO2 HSR HCR
      have hLa0 := fun X h => hLa X none 0 h (.inl ⟨rfl, rfl, plainN⟩)
      have hLb0 := fun X h => hLb X none 0 h (.inl ⟨rfl, rfl, plainN⟩)
      simp only [List.length_nil] at hLa0 hLb0 p3 p5
      clear hLa hLb
      go_wp2_with fail
      refine hK.mono ?_
      rintro e V5 ⟨rfl, hV5⟩
      have K5 := HK4.out.below hV5
      have D5 := HD4.out.trans (hV5.mono HD4.out.size)
      clear hK HK4 HD4 hV5 p0 p1 p2 p3 p4 p5
      obtain ⟨p0, p1, p2, p3, p4, p5⟩ := K5.six
      simp only [List.length_nil] at p3 p5
      go_wp2_with fail
      refine (hLa0 V5 K5).mono ?_
      rintro e V6 ⟨rfl, hV6⟩
      have K6 := K5.below hV6
      have D6 := D5.trans (hV6.mono D5.size)
      clear hV6 p0 p1 p2 p3 p4 p5 K5 D5
      obtain ⟨p0, p1, p2, p3, p4, p5⟩ := K6.six
      simp only [List.length_nil] at p3 p5
      go_wp2_with fail
      refine (hLb0 V6 K6).mono ?_
      rintro e V7 ⟨rfl, hV7⟩
      have D7 : Hid (Below w.heap.size w V7) := D6.trans (hV7.mono D6.size)
      clear hV7 D6
      go_wp2
      go_ret
      exact ⟨rfl, D7.out⟩
end Go.Proofs.Ytbnpliobigjapaa
