/-
  Several texts in one: Edl.
-/
import Derived.Test.YtggieamhbfdmhaaMi
import Derived.Test.YtggieamhbfdmhaaLt
import Derived.Test.YtggieamhbfdmhaaKp
/-
  What the program's Trim, Song, Covers and Dropped must be shown to answer; the walks of the exact laws of stage 15 FROM it.
-/
namespace Go.Proofs.Ytggieamhbfdmhaa
set_option linter.unusedVariables false
set_option linter.unusedSimpArgs false
open Go.RowKit Go.Sort

theorem OSo.below15 {w w' : World} {s n c : Nat} {a : Option Addr} {xs : List Value} {G : Option Nat} (h : OSo w s a n c xs G) (hb : Below w.heap.size w w') : OSo w' s a n c xs G := h.wrt (f := fun _ => False) (Wrt.of_below hb) (fun b _ h => h)
def ImplTrim : Prop := ∀ (a : Option Addr) (cap : Nat) (H : List (List Int)) (a2 : Option Addr) (c2 : Nat) (al : List Bool) (w : World), VV w a H.length cap H → FlS w a2 al → al.length ≤ c2 → c2 ≤ maxLen → al.length ≤ 1048576 → Calls Try.prog 30 #[.slice a H.length cap, .slice a2 al.length c2] w fun e w' => AnsI3 w w' e (trimL H al)
def ImplSong : Prop := ∀ (a : Option Addr) (len cap : Nat) (cs : List Int) (w : World), Vec w a len cs → len ≤ cap → cap ≤ maxLen → Calls Try.prog 40 #[.slice a len cap] w fun e w' => ∃ Z, IsWoven cs Z ∧ AnsN w w' e Z
def ImplCovers : Prop := ∀ (a : Option Addr) (cap : Nat) (t : List Int) (n : Int) (w : World), Vec w a t.length t → t.length ≤ cap → cap ≤ maxLen → I64f n → Calls Try.prog 42 #[.slice a t.length cap, .int .i64 n] w fun e w' => e = .returned (.bool (covB t n)) ∧ Below w.heap.size w w'
def ImplDropped : Prop := ∀ (a : Option Addr) (cap : Nat) (H : List (List Int)) (a2 : Option Addr) (c2 : Nat) (t : List Int) (w : World), VV w a H.length cap H → Vec w a2 t.length t → t.length ≤ c2 → c2 ≤ maxLen → t.length ≤ 1048576 → Calls Try.prog 44 #[.slice a H.length cap, .slice a2 t.length c2] w fun e w' => e = .returned (.int .i64 (drpL H t)) ∧ Below w.heap.size w w'
theorem trimL_fits (H : List (List Int)) (al : List Bool) : Fits (trimL H al) ∧ (trimL H al).length ≤ 8 := ⟨fun x hx => by have := (trimL_small H al).2 x hx; omega, (trimL_small H al).1⟩
/-- What is handed over is a copy, in memory of its own. -/
theorem toI_it (a : Option Addr) (c : Nat) (t : List Int) (w : World) (hv : Vec w a t.length t) (hm : t.length ≤ 1048576) :
    Calls Try.prog 39 #[.slice a t.length c] w fun e w' => ∃ a' c', e = .returned (.slice a' t.length c') ∧ It w' [icl t] [.slice a' t.length c'] w.heap.size w'.heap.size ∧ Below w.heap.size w w' := by
  refine (copy_any a _ c t w hv (by omega)).mono ?_
  rintro e w2 ⟨b, rfl, hb, hr, hbw⟩
  refine ⟨_, _, rfl, It.of_newO ⟨fun x => x = b, ow_icl.2 ⟨_, _, some b, rfl, OSo.of (hr.num7 (by unfold maxLen; omega)), fun x => by simp [eq_comm]⟩, fun x hx => by rw [hx]; exact hb, hbw⟩, hbw⟩
theorem it_capI {w : World} {a : Option Addr} {c lo hi : Nat} {Z : List Int} (h : It w [icl Z] [.slice a Z.length c] lo hi) : Z.length ≤ c ∧ c ≤ maxLen := by
  obtain ⟨f, h1, _⟩ := h.ow1
  obtain ⟨a', c', G, e, ho, _⟩ := ow_icl.1 h1
  cases e
  exact ho.le
set_option maxRecDepth 100000 in
set_option maxHeartbeats 3200000 in
theorem lawTrim (hI : ImplTrim) (a : Option Addr) (cap : Nat) (H : List (List Int)) (a2 : Option Addr) (c2 : Nat) (al : List Bool) (w : World) (hv : VV w a H.length cap H) (hfl : FlS w a2 al) (hlc : al.length ≤ c2) (hcm : c2 ≤ maxLen) :
    Calls Try.prog 4 #[.slice a H.length cap, .slice a2 al.length c2] w fun e w' => e = .returned (.bool true) ∧ Below w.heap.size w w' := by
  have hf := vv_fits hv
  have hZ := szII_any a H.length cap H 1048576 w hv ⟨by omega, by omega⟩
  have hB0 : Below w.heap.size w w := Below.refl _ _
  have hvX : ∀ X, Below w.heap.size w X → VV X a H.length cap H := fun X hX => hv.below hX
  have hTo : H.length ≤ 1048576 → tot H H.length ≤ 1048576 → ∀ X, Below w.heap.size w X → Calls Try.prog 28 #[.slice a H.length cap] X fun e w' => ∃ a', e = .returned (.slice a' H.length H.length) ∧ It w' [iicl H] [.slice a' H.length H.length] X.heap.size w'.heap.size ∧ Below X.heap.size X w' := fun h1 h2 X hX => toII_it a cap H X (hvX X hX) h1 h2
  have hEq : ∀ X a1 c1 a2 c2 {l1 h1 l2 h2 : Nat}, It X [iicl H] [.slice a1 H.length c1] l1 h1 → It X [iicl H] [.slice a2 H.length c2] l2 h2 → Calls Try.prog 32 #[.slice a1 H.length c1, .slice a2 H.length c2] X fun e w' => e = .returned (.bool true) ∧ Below X.heap.size X w' := fun X a1 c1 a2 c2 l1 h1 l2 h2 i1 i2 => (eqII_any a1 a2 H.length c1 c2 H X (it_vv i1 hf) (it_vv i2 hf)).mono (fun e w' ⟨h1, q, h2⟩ => ⟨h1, by rw [h2]; exact belowN (Below.refl _ _)⟩)
  have hml := hlc
  unfold maxLen at hcm
  by_cases hbg : (1048576 : Int) < (al.length : Int)
  · clear hTo hEq hvX hf hI hZ
    go_enter Try.func4, Try.ntmps4
    go_wp2
    go_ret
    exact ⟨rfl, hB0⟩
  have hal : al.length ≤ 1048576 := by omega
  have hTb : ∀ X, Below w.heap.size w X → Calls Try.prog 29 #[.slice a2 al.length c2] X fun e w' => ∃ a' c', e = .returned (.slice a' al.length c') ∧ It w' [bocl al] [.slice a' al.length c'] X.heap.size w'.heap.size ∧ Below X.heap.size X w' := fun X hX => (toF_any a2 c2 al X (hfl.below hX) hal).mono (fun e w' ⟨a', c', h1, h2⟩ => ⟨a', c', h1, It.of_newO h2, h2.choose_spec.2.2⟩)
  have hEb : ∀ X a1 c1 a3 c3 {l1 h1 l2 h2 : Nat}, It X [bocl al] [.slice a1 al.length c1] l1 h1 → It X [bocl al] [.slice a3 al.length c3] l2 h2 → Calls Try.prog 33 #[.slice a1 al.length c1, .slice a3 al.length c3] X fun e w' => e = .returned (.bool true) ∧ Below X.heap.size X w' := fun X a1 c1 a3 c3 l1 h1 l2 h2 i1 i2 => (eqF_any a1 a3 c1 c3 al X (it_fls i1).1 (it_fls i2).1 (by unfold maxLen; omega)).mono (fun e w' h => ⟨h.1, h.2.1⟩)
  have hSp : ∀ X a1 c1 a3 c3 {l1 h1 l2 h2 : Nat}, It X [iicl H] [.slice a1 H.length c1] l1 h1 → It X [bocl al] [.slice a3 al.length c3] l2 h2 → Calls Try.prog 27 #[.slice a1 H.length c1, .slice a3 al.length c3] X fun e w' => AnsI3 X w' e (trimL H al) := fun X a1 c1 a3 c3 l1 h1 l2 h2 i j => (trmS_any a1 a3 H.length c1 c3 H al X (it_vv i hf) (it_fls j).1 (by unfold maxLen; omega)).mono (fun e w' h => h.i3)
  have hIm : ∀ X a1 c1 a3 c3 {l1 h1 l2 h2 : Nat}, It X [iicl H] [.slice a1 H.length c1] l1 h1 → It X [bocl al] [.slice a3 al.length c3] l2 h2 → Calls Try.prog 30 #[.slice a1 H.length c1, .slice a3 al.length c3] X fun e w' => AnsI3 X w' e (trimL H al) := fun X a1 c1 a3 c3 l1 h1 l2 h2 i j => hI a1 c1 H a3 c3 al X (it_vv i hf) (it_fls j).1 (it_fls j).2.1 (it_fls j).2.2 hal
  obtain ⟨hfZ, hlZ⟩ := trimL_fits H al
  clear hI hv hfl
  generalize trimL H al = Z at *
  unfold AnsI3 at hSp hIm
  have hEz : ∀ X a1 c1 a2 c2 {l1 h1 l2 h2 : Nat}, It X [icl Z] [.slice a1 Z.length c1] l1 h1 → It X [icl Z] [.slice a2 Z.length c2] l2 h2 → Calls Try.prog 31 #[.slice a1 Z.length c1, .slice a2 Z.length c2] X fun e w' => e = .returned (.bool true) ∧ Below X.heap.size X w' := fun X a1 c1 a2 c2 l1 h1 l2 h2 i1 i2 => (eq_any a1 a2 Z.length c1 Z.length c2 Z Z X (it_vec i1 hfZ) (it_vec i2 hfZ) (by unfold maxLen; omega)).mono (fun e w' ⟨h1, q, h2⟩ => ⟨by rw [h1]; simp, by rw [h2]; exact belowN (Below.refl _ _)⟩)
  obtain ⟨M, hM⟩ : ∃ M : Int, Hid (M = (1 : Int) + (Z.length : Int)) := ⟨_, rfl⟩
  have hM0 : decide (M < 0) = false := by rw [hM.out]; simp; omega
  have hMM : (M != M) = false := by simp
  have hMz : ∀ X a1 c1 lo hi, It X [icl Z] [.slice a1 Z.length c1] lo hi → Calls Try.prog 36 #[.slice a1 Z.length c1, .int .i64 1] X fun e w' => e = .returned (.int .i64 M) ∧ It w' [icl (marks Z.length 1)] [.slice a1 Z.length c1] lo hi ∧ Wrt (Iv lo hi) X w' := fun X a1 c1 lo hi i => by rw [hM.out]; exact mkI_it a1 c1 1 lo hi Z X i (by omega) (by omega)
  have hHz : ∀ X a1 c1 lo hi, It X [icl (marks Z.length 1)] [.slice a1 Z.length c1] lo hi → Calls Try.prog 37 #[.slice a1 Z.length c1, .int .i64 1] X fun e w' => e = .returned (.int .i64 M) ∧ Below X.heap.size X w' := fun X a1 c1 lo hi i => by rw [hM.out]; exact (hdI_it a1 c1 1 Z.length lo hi X i (by omega) (by omega)).mono (fun e w' h => ⟨h.1, by rw [h.2]; exact Below.refl _ _⟩)
  obtain ⟨K1, hK1⟩ : ∃ K1 : Nat, Hid (K1 = 1 + tot H H.length) := ⟨_, rfl⟩
  have hMx : H.length ≤ 1048576 → tot H H.length ≤ 1048576 → ∀ X a1 c1 lo hi, It X [iicl H] [.slice a1 H.length c1] lo hi → Calls Try.prog 34 #[.slice a1 H.length c1, .int .i64 1] X fun e w' => e = .returned (.int .i64 (K1 : Int)) ∧ It w' [iicl (mkd H 1 H.length)] [.slice a1 H.length c1] lo hi ∧ Wrt (Iv lo hi) X w' := fun h1 h2 X a1 c1 lo hi i => by rw [hK1.out]; exact markII_it a1 c1 1 lo hi H X i (by omega) h1 (by omega)
  obtain ⟨K2, hK2⟩ : ∃ K2 : Int, Hid (K2 = ((K1 + al.length : Nat) : Int)) := ⟨_, rfl⟩
  have hK20 : decide (K2 < 0) = false := by rw [hK2.out]; simp; omega
  have hMb : tot H H.length ≤ 1048576 → ∀ X a1 c1 lo hi, It X [bocl al] [.slice a1 al.length c1] lo hi → Calls Try.prog 35 #[.slice a1 al.length c1, .int .i64 (K1 : Int)] X fun e w' => e = .returned (.int .i64 K2) ∧ It w' [bocl (mkF al K1 al.length)] [.slice a1 al.length c1] lo hi ∧ Wrt (Iv lo hi) X w' := fun h2 X a1 c1 lo hi i => by rw [hK2.out]; exact markF_it a1 c1 K1 lo hi al X i (by rw [hK1.out]; omega) (by omega)
  go_enter Try.func4, Try.ntmps4
  go_wp2_with fail
  refine (hZ).mono ?_
  rintro e w1 ⟨q, rfl, hq, hw1⟩
  have hb1 : Below w.heap.size w w1 := by rw [hw1]; exact Below.refl _ _
  clear hZ hw1
  have B1 : Below w.heap.size w w1 := hB0.trans (hb1.mono hB0.size)
  have sB1 : w.heap.size ≤ w1.heap.size := hb1.size
  clear hB0
  rcases hq with rfl | ⟨hq0, hq1⟩
  · go_wp2
    go_ret
    exact ⟨rfl, B1⟩
  have hqn : decide (q < 0) = false := by simp; omega
  have hT := hTo (by omega) (by omega)
  have hMxx := hMx (by omega) (by omega)
  have hMbb := hMb (by omega)
  clear hTo
  clear hMx hMb
  go_wp2_with fail
  refine (hT w1 B1).mono ?_
  rintro e w2 ⟨a1, rfl, iw2, hbw2⟩
  have B2 : Below w.heap.size w w2 := B1.trans (hbw2.mono B1.size)
  have sB2 : w1.heap.size ≤ w2.heap.size := hbw2.size
  clear B1
  go_wp2_with fail
  refine (hTb w2 B2).mono ?_
  rintro e w3 ⟨d1, cd1, rfl, iw3, hbw3⟩
  have B3 : Below w.heap.size w w3 := B2.trans (hbw3.mono B2.size)
  have sB3 : w2.heap.size ≤ w3.heap.size := hbw3.size
  have h4 := iw2.below hbw3
  clear B2 iw2
  go_wp2_with fail
  refine (hSp w3 _ _ _ _ h4 iw3).mono ?_
  rintro e w4 ⟨av, cv, rfl, nv⟩
  have iv := It.of_newO nv
  obtain ⟨_, _, _, hbv⟩ := nv
  have B5 : Below w.heap.size w w4 := B3.trans (hbv.mono B3.size)
  have sB5 : w3.heap.size ≤ w4.heap.size := hbv.size
  have h6 := h4.below hbv
  have h7 := iw3.below hbv
  clear B3 h4 iw3
  clear h6
  clear h7
  go_wp2_with fail
  refine (hT w4 B5).mono ?_
  rintro e w5 ⟨a5, rfl, iw5, hbw5⟩
  have B8 : Below w.heap.size w w5 := B5.trans (hbw5.mono B5.size)
  have sB8 : w4.heap.size ≤ w5.heap.size := hbw5.size
  have h9 := iv.below hbw5
  clear B5 iv
  go_wp2_with fail
  refine (hTb w5 B8).mono ?_
  rintro e w6 ⟨d2, cd2, rfl, iw6, hbw6⟩
  have B10 : Below w.heap.size w w6 := B8.trans (hbw6.mono B8.size)
  have sB10 : w5.heap.size ≤ w6.heap.size := hbw6.size
  have h11 := h9.below hbw6
  have h12 := iw5.below hbw6
  clear B8 h9 iw5
  go_wp2_with fail
  refine (hIm w6 _ _ _ _ h12 iw6).mono ?_
  rintro e w7 ⟨ag, cg, rfl, ng⟩
  have ig := It.of_newO ng
  obtain ⟨_, _, _, hbg⟩ := ng
  have B13 : Below w.heap.size w w7 := B10.trans (hbg.mono B10.size)
  have sB13 : w6.heap.size ≤ w7.heap.size := hbg.size
  have h14 := h11.below hbg
  have h15 := h12.below hbg
  have h16 := iw6.below hbg
  clear B10 h11 h12 iw6
  go_wp2_with fail
  refine (hEz w7 _ _ _ _ ig h14).mono ?_
  rintro e w8 ⟨rfl, hbw8⟩
  have B17 : Below w.heap.size w w8 := B13.trans (hbw8.mono B13.size)
  have sB17 : w7.heap.size ≤ w8.heap.size := hbw8.size
  have h18 := h14.below hbw8
  have h19 := h15.below hbw8
  have h20 := h16.below hbw8
  have h21 := ig.below hbw8
  clear B13 h14 h15 h16 ig
  go_wp2_with fail
  refine (hT w8 B17).mono ?_
  rintro e w9 ⟨a6, rfl, iw9, hbw9⟩
  have B22 : Below w.heap.size w w9 := B17.trans (hbw9.mono B17.size)
  have sB22 : w8.heap.size ≤ w9.heap.size := hbw9.size
  have h23 := h18.below hbw9
  have h24 := h19.below hbw9
  have h25 := h20.below hbw9
  have h26 := h21.below hbw9
  clear B17 h18 h19 h20 h21
  go_wp2_with fail
  refine (hEq w9 _ _ _ _ h24 iw9).mono ?_
  rintro e w10 ⟨rfl, hb10⟩
  clear iw9
  have B27 : Below w.heap.size w w10 := B22.trans (hb10.mono B22.size)
  have sB27 : w9.heap.size ≤ w10.heap.size := hb10.size
  have h28 := h23.below hb10
  have h29 := h24.below hb10
  have h30 := h25.below hb10
  have h31 := h26.below hb10
  clear B22 h23 h24 h25 h26
  go_wp2_with fail
  refine (hTb w10 B27).mono ?_
  rintro e w11 ⟨d3, cd3, rfl, iw11, hbw11⟩
  have B32 : Below w.heap.size w w11 := B27.trans (hbw11.mono B27.size)
  have sB32 : w10.heap.size ≤ w11.heap.size := hbw11.size
  have h33 := h28.below hbw11
  have h34 := h29.below hbw11
  have h35 := h30.below hbw11
  have h36 := h31.below hbw11
  clear B27 h28 h29 h30 h31
  go_wp2_with fail
  refine (hEb w11 _ _ _ _ h35 iw11).mono ?_
  rintro e w12 ⟨rfl, hb12⟩
  clear iw11
  have B37 : Below w.heap.size w w12 := B32.trans (hb12.mono B32.size)
  have sB37 : w11.heap.size ≤ w12.heap.size := hb12.size
  have h38 := h33.below hb12
  have h39 := h34.below hb12
  have h40 := h35.below hb12
  have h41 := h36.below hb12
  clear B32 h33 h34 h35 h36
  go_wp2_with fail
  refine (hMxx w12 _ _ _ _ h39).mono ?_
  rintro e w13 ⟨rfl, i13, hw13⟩
  have sB42 : w12.heap.size ≤ w13.heap.size := hw13.size
  have B42 : Below w.heap.size w w13 := below_iv hw13 B37 B37.size (by omega)
  have h43 := h38.far hw13 (by omega)
  have h44 := h40.far hw13 (by omega)
  have h45 := h41.far hw13 (by omega)
  clear B37 h38 h39 h40 h41
  go_wp2_with fail
  refine (hMbb w13 _ _ _ _ h44).mono ?_
  rintro e w14 ⟨rfl, i14, hw14⟩
  have sB46 : w13.heap.size ≤ w14.heap.size := hw14.size
  have B46 : Below w.heap.size w w14 := below_iv hw14 B42 B42.size (by omega)
  have h47 := h43.far hw14 (by omega)
  have h48 := i13.far hw14 (by omega)
  have h49 := h45.far hw14 (by omega)
  clear B42 h43 i13 h44 h45
  go_wp2_with fail
  refine (hEz w14 _ _ _ _ h49 h47).mono ?_
  rintro e w15 ⟨rfl, hbw15⟩
  have B50 : Below w.heap.size w w15 := B46.trans (hbw15.mono B46.size)
  have sB50 : w14.heap.size ≤ w15.heap.size := hbw15.size
  have h51 := h47.below hbw15
  have h52 := h48.below hbw15
  have h53 := i14.below hbw15
  have h54 := h49.below hbw15
  clear B46 h47 h48 i14 h49
  go_wp2_with fail
  refine (hMz w15 _ _ _ _ h54).mono ?_
  rintro e w16 ⟨rfl, iw16, hww16⟩
  have sB55 : w15.heap.size ≤ w16.heap.size := hww16.size
  have B55 : Below w.heap.size w w16 := below_iv hww16 B50 B50.size (by omega)
  have h56 := h51.far hww16 (by omega)
  have h57 := h52.far hww16 (by omega)
  have h58 := h53.far hww16 (by omega)
  clear B50 h51 h52 h53 h54
  go_wp2_with fail
  refine (hHz w16 _ _ _ _ iw16).mono ?_
  rintro e w17 ⟨rfl, hbw17⟩
  have B59 : Below w.heap.size w w17 := B55.trans (hbw17.mono B55.size)
  have sB59 : w16.heap.size ≤ w17.heap.size := hbw17.size
  have h60 := h56.below hbw17
  have h61 := h57.below hbw17
  have h62 := h58.below hbw17
  have h63 := iw16.below hbw17
  clear B55 h56 h57 h58 iw16
  go_wp2_with fail
  refine (hT w17 B59).mono ?_
  rintro e w18 ⟨a7, rfl, iw18, hbw18⟩
  have B64 : Below w.heap.size w w18 := B59.trans (hbw18.mono B59.size)
  have sB64 : w17.heap.size ≤ w18.heap.size := hbw18.size
  have h65 := h60.below hbw18
  have h66 := h61.below hbw18
  have h67 := h62.below hbw18
  have h68 := h63.below hbw18
  clear B59 h60 h61 h62 h63
  go_wp2_with fail
  refine (hTb w18 B64).mono ?_
  rintro e w19 ⟨d4, cd4, rfl, iw19, hbw19⟩
  have B69 : Below w.heap.size w w19 := B64.trans (hbw19.mono B64.size)
  have sB69 : w18.heap.size ≤ w19.heap.size := hbw19.size
  have h70 := h65.below hbw19
  have h71 := h66.below hbw19
  have h72 := h67.below hbw19
  have h73 := h68.below hbw19
  have h74 := iw18.below hbw19
  clear B64 h65 h66 h67 h68 iw18
  go_wp2_with fail
  refine (hIm w19 _ _ _ _ h74 iw19).mono ?_
  rintro e w20 ⟨ah, ch, rfl, nh⟩
  have ih := It.of_newO nh
  obtain ⟨_, _, _, hbh⟩ := nh
  have B75 : Below w.heap.size w w20 := B69.trans (hbh.mono B69.size)
  have sB75 : w19.heap.size ≤ w20.heap.size := hbh.size
  have h76 := h70.below hbh
  have h77 := h71.below hbh
  have h78 := h72.below hbh
  have h79 := h73.below hbh
  have h80 := h74.below hbh
  have h81 := iw19.below hbh
  clear B69 h70 h71 h72 h73 h74 iw19
  go_wp2_with fail
  refine (hEz w20 _ _ _ _ ih h76).mono ?_
  rintro e w21 ⟨rfl, hbw21⟩
  have B82 : Below w.heap.size w w21 := B75.trans (hbw21.mono B75.size)
  have sB82 : w20.heap.size ≤ w21.heap.size := hbw21.size
  have h83 := h76.below hbw21
  have h84 := h77.below hbw21
  have h85 := h78.below hbw21
  have h86 := h79.below hbw21
  have h87 := h80.below hbw21
  have h88 := h81.below hbw21
  have h89 := ih.below hbw21
  clear B75 h76 h77 h78 h79 h80 h81 ih
  go_wp2_with fail
  refine (hHz w21 _ _ _ _ h86).mono ?_
  rintro e w22 ⟨rfl, hbw22⟩
  have B90 : Below w.heap.size w w22 := B82.trans (hbw22.mono B82.size)
  have sB90 : w21.heap.size ≤ w22.heap.size := hbw22.size
  have h91 := h83.below hbw22
  have h92 := h84.below hbw22
  have h93 := h85.below hbw22
  have h94 := h86.below hbw22
  have h95 := h87.below hbw22
  have h96 := h88.below hbw22
  have h97 := h89.below hbw22
  clear B82 h83 h84 h85 h86 h87 h88 h89
  go_wp2
  go_ret
  exact ⟨rfl, B90⟩
set_option maxRecDepth 100000 in
set_option maxHeartbeats 3200000 in
/-- The law FnExactSong. -/
theorem lawSong (hI : ImplSong) (a : Option Addr) (len cap : Nat) (xs : List Int) (w : World) (hv : Vec w a len xs) (hcap : len ≤ cap) (hm : cap ≤ maxLen) :
    Calls Try.prog 5 #[.slice a len cap] w fun e w' => e = .returned (.bool true) ∧ Below w.heap.size w w' := by
  have hl : len ≤ maxLen := Nat.le_trans hcap hm
  by_cases hbig : (1048576 : Int) < (len : Int)
  · go_enter Try.func5, Try.ntmps5
    go_wp2
    go_ret
    exact ⟨rfl, Below.refl _ _⟩
  · have hbg : decide ((1048576 : Int) < (len : Int)) = false := by simpa using hbig
    have hf : Fits xs := hv.2.1
    have hlen := hv.1
    subst hlen
    go_enter Try.func5, Try.ntmps5
    go_wp2_with fail
    refine (copy_any a _ cap xs w hv (by omega)).mono ?_
    rintro e w2 ⟨b2, rfl, _, hr2, hb2⟩
    have B2 : Below w.heap.size w w2 := hb2
    go_wp2_with fail
    refine (sngS_any (some ⟨b2, 0, none⟩) _ _ xs w2 (hr2.vec hf) hl).mono ?_
    rintro e w4 ⟨Z, hZ, d, od, cd, rfl, hd, hwant, hb4⟩
    obtain ⟨hz8, hfz⟩ := isWoven_len hZ
    have hzm : Z.length ≤ maxLen := by unfold maxLen; omega
    have HZ : Hid (IsWoven xs Z) := hZ
    have B4 : Below w.heap.size w w4 := B2.trans (hb4.mono B2.size)
    clear hr2 hb2 hb4 B2 hZ
    go_wp2_with fail
    refine (copy_any a _ cap xs w4 (hv.below B4 (Nat.le_refl _)) (by omega)).mono ?_
    rintro e w6 ⟨b, rfl, hlt5, hr5, hb5⟩
    have B6 : Below w.heap.size w w6 := B4.trans (hb5.mono B4.size)
    have W6 := hwant.below hb5 hwant.blk
    go_wp2_with fail
    refine (hI (some ⟨b, 0, none⟩) _ _ xs w6 (hr5.vec hf) (Nat.le_refl _) hl).mono ?_
    rintro e w7 ⟨Z', hZ', g, og, cg, he7, hg, hgot, hb7⟩
    have eZ := hZ'.unique HZ.out
    subst eZ
    subst he7
    have n1 : d < b := Nat.lt_of_lt_of_le hwant.blk hlt5
    have n3 : b < g := Nat.lt_of_lt_of_le hr5.lt hg
    have n0 : w.heap.size ≤ b := Nat.le_trans B4.size hlt5
    have T7 : Gv w w7 b g og cg d od cd xs Z' Z' := ⟨B6.trans (hb7.mono B6.size), (hr5.num7 hl).below hb7 hr5.lt, hgot, W6.below hb7 W6.blk⟩
    clear hwant hr5 hb5 hb7 hgot W6 B4 B6 hlt5 hg hd hZ'
    go_wp2_with fail
    refine (eq_any _ _ _ _ _ _ Z' Z' _ (T7.got.vec hfz) (T7.want.vec hfz) hzm).mono ?_
    rintro e w7' ⟨rfl, n7, rfl⟩
    rw [show decide (Z' = Z') = true by simp]
    have T8 := T7.drewN n7
    clear T7
    go_wp2_with fail
    refine (copy_any a _ cap xs _ (hv.below T8.below (Nat.le_refl _)) (by omega)).mono ?_
    rintro e w9 ⟨b9, rfl, _, hr9, hb9⟩
    have T9 := T8.step hb9
    clear T8 hb9
    go_wp2_with fail
    refine (eq_any _ _ _ _ _ _ xs xs _ (T9.x0.vec hf) (hr9.vec hf) hl).mono ?_
    rintro e w9' ⟨rfl, n9, rfl⟩
    rw [show decide (xs = xs) = true by simp]
    have T12 := T9.drewN n9
    clear T9 hr9
    go_wp2_with fail
    refine (markN_any b 0 _ 1 _ _ xs _ T12.x0 (by rfl) (by omega) (by omega)).mono ?_
    rintro e w14 ⟨rfl, _, ht13⟩
    have B14 : Below w.heap.size w w14 := T12.below.trans (ht13.below n0)
    have got14 := num_touch T12.got ht13 (by omega)
    have want14 := num_touch T12.want ht13 (by omega)
    have hk0 : decide (((1 : Int) + (xs.length : Int)) < 0) = false := by simp; omega
    clear T12 ht13
    go_wp2_with fail
    refine (eq_any _ _ _ _ _ _ Z' Z' _ (got14.vec hfz) (want14.vec hfz) hzm).mono ?_
    rintro e w14' ⟨rfl, n14, rfl⟩
    rw [show decide (Z' = Z') = true by simp]
    go_wp2_with fail
    refine (markN_any g og cg 1 _ _ Z' _ (got14.drewN n14) (by rfl) (by omega) (by omega)).mono ?_
    rintro e w15 ⟨rfl, got15, ht15⟩
    have B15 : Below w.heap.size w w15 := (belowN (n := n14) B14).trans (ht15.below (by omega))
    have want15 := num_touch (want14.drewN n14) ht15 (by omega)
    clear B14 got14 want14 ht15 hk0
    go_wp2_with fail
    refine (heldN_any g og cg 1 _ _ _ got15 (by rfl) (by omega) (by omega)).mono ?_
    rintro e w15' ⟨rfl, rfl⟩
    go_wp2_with fail
    refine (copy_any a _ cap xs _ (hv.below B15 (Nat.le_refl _)) (by omega)).mono ?_
    rintro e w17 ⟨b16, rfl, _, hr16, hb16⟩
    have B17 : Below w.heap.size w w17 := B15.trans (hb16.mono B15.size)
    have got17 := got15.below hb16 got15.blk
    have want17 := want15.below hb16 want15.blk
    clear B15 got15 want15 hb16
    go_wp2_with fail
    refine (hI (some ⟨b16, 0, none⟩) _ _ xs w17 (hr16.vec hf) (Nat.le_refl _) hl).mono ?_
    rintro e w18 ⟨Y, hY, g18, og18, cg18, he18, _, hgot18, hb18⟩
    have eY := hY.unique HZ.out
    subst eY
    subst he18
    have B18 : Below w.heap.size w w18 := B17.trans (hb18.mono B17.size)
    have got18 := got17.below hb18 got17.blk
    have want18 := want17.below hb18 want17.blk
    clear B17 got17 want17 hb18 hr16 hY
    go_wp2_with fail
    refine (eq_any _ _ _ _ _ _ Y Y _ (hgot18.vec hfz) (want18.vec hfz) hzm).mono ?_
    rintro e w18' ⟨rfl, n18, rfl⟩
    rw [show decide (Y = Y) = true by simp]
    go_wp2_with fail
    refine (heldN_any g og cg 1 _ _ _ (got18.drewN n18) (by rfl) (by omega) (by omega)).mono ?_
    rintro e w19 ⟨rfl, hw19⟩
    have HB : Hid (Below w.heap.size w w19) := by rw [Hid, hw19]; exact belowN B18
    clear hw19
    go_wp2
    go_ret
    exact ⟨rfl, HB.out⟩
set_option maxRecDepth 100000 in
set_option maxHeartbeats 3200000 in
theorem lawDropped (hI : ImplDropped) (a : Option Addr) (cap : Nat) (H : List (List Int)) (a2 : Option Addr) (c2 : Nat) (t : List Int) (w : World) (hv : VV w a H.length cap H) (ht : Vec w a2 t.length t) (hlc : t.length ≤ c2) (hcm : c2 ≤ maxLen) :
    Calls Try.prog 7 #[.slice a H.length cap, .slice a2 t.length c2] w fun e w' => e = .returned (.bool true) ∧ Below w.heap.size w w' := by
  have hf := vv_fits hv
  have hZ := szII_any a H.length cap H 1048576 w hv ⟨by omega, by omega⟩
  have hB0 : Below w.heap.size w w := Below.refl _ _
  have hvX : ∀ X, Below w.heap.size w X → VV X a H.length cap H := fun X hX => hv.below hX
  have hTo : H.length ≤ 1048576 → tot H H.length ≤ 1048576 → ∀ X, Below w.heap.size w X → Calls Try.prog 28 #[.slice a H.length cap] X fun e w' => ∃ a', e = .returned (.slice a' H.length H.length) ∧ It w' [iicl H] [.slice a' H.length H.length] X.heap.size w'.heap.size ∧ Below X.heap.size X w' := fun h1 h2 X hX => toII_it a cap H X (hvX X hX) h1 h2
  have hEq : ∀ X a1 c1 a2 c2 {l1 h1 l2 h2 : Nat}, It X [iicl H] [.slice a1 H.length c1] l1 h1 → It X [iicl H] [.slice a2 H.length c2] l2 h2 → Calls Try.prog 32 #[.slice a1 H.length c1, .slice a2 H.length c2] X fun e w' => e = .returned (.bool true) ∧ Below X.heap.size X w' := fun X a1 c1 a2 c2 l1 h1 l2 h2 i1 i2 => (eqII_any a1 a2 H.length c1 c2 H X (it_vv i1 hf) (it_vv i2 hf)).mono (fun e w' ⟨h1, q, h2⟩ => ⟨h1, by rw [h2]; exact belowN (Below.refl _ _)⟩)
  unfold maxLen at hcm
  have hft : Fits t := ht.2.1
  by_cases hbg : (1048576 : Int) < (t.length : Int)
  · clear hTo hEq hvX hf hI hZ
    go_enter Try.func7, Try.ntmps7
    go_wp2
    go_ret
    exact ⟨rfl, hB0⟩
  have hal : t.length ≤ 1048576 := by omega
  have hTb : ∀ X, Below w.heap.size w X → Calls Try.prog 39 #[.slice a2 t.length c2] X fun e w' => ∃ a' c', e = .returned (.slice a' t.length c') ∧ It w' [icl t] [.slice a' t.length c'] X.heap.size w'.heap.size ∧ Below X.heap.size X w' := fun X hX => toI_it a2 c2 t X (ht.below hX (Nat.le_refl _)) hal
  have hEt : ∀ X a1 c1 a3 c3 {l1 h1 l2 h2 : Nat}, It X [icl t] [.slice a1 t.length c1] l1 h1 → It X [icl t] [.slice a3 t.length c3] l2 h2 → Calls Try.prog 31 #[.slice a1 t.length c1, .slice a3 t.length c3] X fun e w' => e = .returned (.bool true) ∧ Below X.heap.size X w' := fun X a1 c1 a3 c3 l1 h1 l2 h2 i1 i2 => (eq_any a1 a3 t.length c1 t.length c3 t t X (it_vec i1 hft) (it_vec i2 hft) (by unfold maxLen; omega)).mono (fun e w' ⟨h1, q, h2⟩ => ⟨by rw [h1]; simp, by rw [h2]; exact belowN (Below.refl _ _)⟩)
  have hSp : ∀ X a1 c1 a3 c3 {l1 h1 l2 h2 : Nat}, It X [iicl H] [.slice a1 H.length c1] l1 h1 → It X [icl t] [.slice a3 t.length c3] l2 h2 → Calls Try.prog 43 #[.slice a1 H.length c1, .slice a3 t.length c3] X fun e w' => e = .returned (.int .i64 (drpL H t)) ∧ Below X.heap.size X w' := fun X a1 c1 a3 c3 l1 h1 l2 h2 i j => drpS_any a1 a3 H.length c1 c3 H t X (it_vv i hf) (it_vec j hft) (by unfold maxLen; omega)
  have hIm : ∀ X a1 c1 a3 c3 {l1 h1 l2 h2 : Nat}, It X [iicl H] [.slice a1 H.length c1] l1 h1 → It X [icl t] [.slice a3 t.length c3] l2 h2 → Calls Try.prog 44 #[.slice a1 H.length c1, .slice a3 t.length c3] X fun e w' => e = .returned (.int .i64 (drpL H t)) ∧ Below X.heap.size X w' := fun X a1 c1 a3 c3 l1 h1 l2 h2 i j => hI a1 c1 H a3 c3 t X (it_vv i hf) (it_vec j hft) (it_capI j).1 (it_capI j).2 hal
  clear hI hv ht
  generalize drpL H t = Q at *
  have ne : (Q != Q) = false := by simp
  go_enter Try.func7, Try.ntmps7
  go_wp2_with fail
  refine (hZ).mono ?_
  rintro e w1 ⟨q, rfl, hq, hw1⟩
  have hb1 : Below w.heap.size w w1 := by rw [hw1]; exact Below.refl _ _
  clear hZ hw1
  have B1 : Below w.heap.size w w1 := hB0.trans (hb1.mono hB0.size)
  have sB1 : w.heap.size ≤ w1.heap.size := hb1.size
  clear hB0
  rcases hq with rfl | ⟨hq0, hq1⟩
  · go_wp2
    go_ret
    exact ⟨rfl, B1⟩
  have hqn : decide (q < 0) = false := by simp; omega
  have hT := hTo (by omega) (by omega)
  clear hTo
  go_wp2_with fail
  refine (hT w1 B1).mono ?_
  rintro e w2 ⟨a1, rfl, iw2, hbw2⟩
  have B2 : Below w.heap.size w w2 := B1.trans (hbw2.mono B1.size)
  have sB2 : w1.heap.size ≤ w2.heap.size := hbw2.size
  clear B1
  go_wp2_with fail
  refine (hTb w2 B2).mono ?_
  rintro e w3 ⟨d1, cd1, rfl, iw3, hbw3⟩
  have B3 : Below w.heap.size w w3 := B2.trans (hbw3.mono B2.size)
  have sB3 : w2.heap.size ≤ w3.heap.size := hbw3.size
  have h4 := iw2.below hbw3
  clear B2 iw2
  go_wp2_with fail
  refine (hSp w3 _ _ _ _ h4 iw3).mono ?_
  rintro e w4 ⟨rfl, hb4⟩
  clear h4
  clear iw3
  have B5 : Below w.heap.size w w4 := B3.trans (hb4.mono B3.size)
  have sB5 : w3.heap.size ≤ w4.heap.size := hb4.size
  clear B3
  go_wp2_with fail
  refine (hT w4 B5).mono ?_
  rintro e w5 ⟨a5, rfl, iw5, hbw5⟩
  have B6 : Below w.heap.size w w5 := B5.trans (hbw5.mono B5.size)
  have sB6 : w4.heap.size ≤ w5.heap.size := hbw5.size
  clear B5
  go_wp2_with fail
  refine (hTb w5 B6).mono ?_
  rintro e w6 ⟨d2, cd2, rfl, iw6, hbw6⟩
  have B7 : Below w.heap.size w w6 := B6.trans (hbw6.mono B6.size)
  have sB7 : w5.heap.size ≤ w6.heap.size := hbw6.size
  have h8 := iw5.below hbw6
  clear B6 iw5
  go_wp2_with fail
  refine (hIm w6 _ _ _ _ h8 iw6).mono ?_
  rintro e w7 ⟨rfl, hb7⟩
  have B9 : Below w.heap.size w w7 := B7.trans (hb7.mono B7.size)
  have sB9 : w6.heap.size ≤ w7.heap.size := hb7.size
  have h10 := h8.below hb7
  have h11 := iw6.below hb7
  clear B7 h8 iw6
  go_wp2_with fail
  refine (hT w7 B9).mono ?_
  rintro e w9 ⟨a6, rfl, iw9, hbw9⟩
  have B12 : Below w.heap.size w w9 := B9.trans (hbw9.mono B9.size)
  have sB12 : w7.heap.size ≤ w9.heap.size := hbw9.size
  have h13 := h10.below hbw9
  have h14 := h11.below hbw9
  clear B9 h10 h11
  go_wp2_with fail
  refine (hEq w9 _ _ _ _ h13 iw9).mono ?_
  rintro e w10 ⟨rfl, hb10⟩
  clear iw9
  have B15 : Below w.heap.size w w10 := B12.trans (hb10.mono B12.size)
  have sB15 : w9.heap.size ≤ w10.heap.size := hb10.size
  have h16 := h13.below hb10
  have h17 := h14.below hb10
  clear B12 h13 h14
  go_wp2_with fail
  refine (hTb w10 B15).mono ?_
  rintro e w11 ⟨d3, cd3, rfl, iw11, hbw11⟩
  have B18 : Below w.heap.size w w11 := B15.trans (hbw11.mono B15.size)
  have sB18 : w10.heap.size ≤ w11.heap.size := hbw11.size
  have h19 := h16.below hbw11
  have h20 := h17.below hbw11
  clear B15 h16 h17
  go_wp2_with fail
  refine (hEt w11 _ _ _ _ h20 iw11).mono ?_
  rintro e w12 ⟨rfl, hb12⟩
  have B21 : Below w.heap.size w w12 := B18.trans (hb12.mono B18.size)
  have sB21 : w11.heap.size ≤ w12.heap.size := hb12.size
  have h22 := h19.below hb12
  have h23 := h20.below hb12
  have h24 := iw11.below hb12
  clear B18 h19 h20 iw11
  go_wp2
  go_ret
  exact ⟨rfl, B21⟩
set_option maxRecDepth 100000 in
set_option maxHeartbeats 3200000 in
theorem lawCovers (hI : ImplCovers) (a2 : Option Addr) (c2 : Nat) (t : List Int) (n : Int) (w : World) (ht : Vec w a2 t.length t) (hlc : t.length ≤ c2) (hcm : c2 ≤ maxLen) (hn : I64f n) :
    Calls Try.prog 6 #[.slice a2 t.length c2, .int .i64 n] w fun e w' => e = .returned (.bool true) ∧ Below w.heap.size w w' := by
  have hB0 : Below w.heap.size w w := Below.refl _ _
  unfold maxLen at hcm
  have hft : Fits t := ht.2.1
  by_cases hbg : (1048576 : Int) < (t.length : Int)
  · clear hI
    go_enter Try.func6, Try.ntmps6
    go_wp2
    go_ret
    exact ⟨rfl, hB0⟩
  have hal : t.length ≤ 1048576 := by omega
  have hTb : ∀ X, Below w.heap.size w X → Calls Try.prog 39 #[.slice a2 t.length c2] X fun e w' => ∃ a' c', e = .returned (.slice a' t.length c') ∧ It w' [icl t] [.slice a' t.length c'] X.heap.size w'.heap.size ∧ Below X.heap.size X w' := fun X hX => toI_it a2 c2 t X (ht.below hX (Nat.le_refl _)) hal
  have hEt : ∀ X a1 c1 a3 c3 {l1 h1 l2 h2 : Nat}, It X [icl t] [.slice a1 t.length c1] l1 h1 → It X [icl t] [.slice a3 t.length c3] l2 h2 → Calls Try.prog 31 #[.slice a1 t.length c1, .slice a3 t.length c3] X fun e w' => e = .returned (.bool true) ∧ Below X.heap.size X w' := fun X a1 c1 a3 c3 l1 h1 l2 h2 i1 i2 => (eq_any a1 a3 t.length c1 t.length c3 t t X (it_vec i1 hft) (it_vec i2 hft) (by unfold maxLen; omega)).mono (fun e w' ⟨h1, q, h2⟩ => ⟨by rw [h1]; simp, by rw [h2]; exact belowN (Below.refl _ _)⟩)
  have hSp : ∀ X a3 c3 {l2 h2 : Nat}, It X [icl t] [.slice a3 t.length c3] l2 h2 → Calls Try.prog 41 #[.slice a3 t.length c3, .int .i64 n] X fun e w' => e = .returned (.bool (covB t n)) ∧ Below X.heap.size X w' := fun X a3 c3 l2 h2 j => covS_any a3 _ c3 t n X (it_vec j hft) (by unfold maxLen; omega)
  have hIm : ∀ X a3 c3 {l2 h2 : Nat}, It X [icl t] [.slice a3 t.length c3] l2 h2 → Calls Try.prog 42 #[.slice a3 t.length c3, .int .i64 n] X fun e w' => e = .returned (.bool (covB t n)) ∧ Below X.heap.size X w' := fun X a3 c3 l2 h2 j => hI a3 c3 t n X (it_vec j hft) (it_capI j).1 (it_capI j).2 hn
  clear hI ht
  generalize covB t n = Q at *
  have ne : (Q != Q) = false := by simp
  go_enter Try.func6, Try.ntmps6
  go_wp2_with fail
  refine (hTb w hB0).mono ?_
  rintro e w3 ⟨d1, cd1, rfl, iw3, hbw3⟩
  have B1 : Below w.heap.size w w3 := hB0.trans (hbw3.mono hB0.size)
  have sB1 : w.heap.size ≤ w3.heap.size := hbw3.size
  clear hB0
  go_wp2_with fail
  refine (hSp w3 _ _ iw3).mono ?_
  rintro e w4 ⟨rfl, hb4⟩
  clear iw3
  have B2 : Below w.heap.size w w4 := B1.trans (hb4.mono B1.size)
  have sB2 : w3.heap.size ≤ w4.heap.size := hb4.size
  clear B1
  go_wp2_with fail
  refine (hTb w4 B2).mono ?_
  rintro e w6 ⟨d2, cd2, rfl, iw6, hbw6⟩
  have B3 : Below w.heap.size w w6 := B2.trans (hbw6.mono B2.size)
  have sB3 : w4.heap.size ≤ w6.heap.size := hbw6.size
  clear B2
  go_wp2_with fail
  refine (hIm w6 _ _ iw6).mono ?_
  rintro e w7 ⟨rfl, hb7⟩
  have B4 : Below w.heap.size w w7 := B3.trans (hb7.mono B3.size)
  have sB4 : w6.heap.size ≤ w7.heap.size := hb7.size
  have h5 := iw6.below hb7
  clear B3 iw6
  go_wp2_with fail
  refine (hTb w7 B4).mono ?_
  rintro e w11 ⟨d3, cd3, rfl, iw11, hbw11⟩
  have B6 : Below w.heap.size w w11 := B4.trans (hbw11.mono B4.size)
  have sB6 : w7.heap.size ≤ w11.heap.size := hbw11.size
  have h7 := h5.below hbw11
  clear B4 h5
  go_wp2_with fail
  refine (hEt w11 _ _ _ _ h7 iw11).mono ?_
  rintro e w12 ⟨rfl, hb12⟩
  have B8 : Below w.heap.size w w12 := B6.trans (hb12.mono B6.size)
  have sB8 : w11.heap.size ≤ w12.heap.size := hb12.size
  have h9 := h7.below hb12
  have h10 := iw11.below hb12
  clear B6 h7 iw11
  go_wp2
  go_ret
  exact ⟨rfl, B8⟩
theorem lawCoversL (hI : ImplCovers) (a2 : Option Addr) (len c2 : Nat) (t : List Int) (n : Int) (w : World) (ht : Vec w a2 len t) (hlc : len ≤ c2) (hcm : c2 ≤ maxLen) (hn : I64f n) :
    Calls Try.prog 6 #[.slice a2 len c2, .int .i64 n] w fun e w' => e = .returned (.bool true) ∧ Below w.heap.size w w' := by
  have e := ht.1
  subst e
  exact lawCovers hI a2 c2 t n w ht hlc hcm hn
theorem lawDroppedL (hI : ImplDropped) (a : Option Addr) (cap : Nat) (H : List (List Int)) (a2 : Option Addr) (len c2 : Nat) (t : List Int) (w : World) (hv : VV w a H.length cap H) (ht : Vec w a2 len t) (hlc : len ≤ c2) (hcm : c2 ≤ maxLen) :
    Calls Try.prog 7 #[.slice a H.length cap, .slice a2 len c2] w fun e w' => e = .returned (.bool true) ∧ Below w.heap.size w w' := by
  have e := ht.1
  subst e
  exact lawDropped hI a cap H a2 c2 t w hv ht hlc hcm
end Go.Proofs.Ytggieamhbfdmhaa
