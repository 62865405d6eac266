/-
  Several texts in one: LawCu.
-/
import Derived.Test.YtacjpebifacclaaGm
import Derived.Test.YtacjpebifacclaaGk
/-
  The walk of the law FnCuts, from what the program's CutOk answers.
-/
namespace Go.Proofs.Ytacjpebifacclaa
set_option linter.unusedSimpArgs false
set_option linter.unusedVariables false
open Go.RowKit Go.Sort

theorem specMeet8 (a a' : Option Addr) (cap cap' : Nat) (xs ys : List Int) (w : World) (hx : Vec w a 8 xs) (hy : Vec w a' 8 ys) (bx : ∀ j, j < 8 → 0 ≤ el xs j ∧ el xs j ≤ 1000000) (by_ : ∀ j, j < 8 → 0 ≤ el ys j ∧ el ys j ≤ 1000000) :
    Calls Try.prog 21 #[.slice a 8 cap, .slice a' 8 cap'] w fun e w' => ∃ g c, e = .returned (.slice (some ⟨g, 0, none⟩) 8 c) ∧ w.heap.size ≤ g ∧ OI w' g 0 8 c (jn min xs ys 8) ∧ Below w.heap.size w w' := by
  have h1 := hx.1
  have h2 := hy.1
  have hp : pairB min xs ys = jn min xs ys 8 := by
    unfold pairB twoB
    rw [ok8 h1 bx, ok8 h2 by_, h1, h2]
    rfl
  refine (specMeet_any a a' 8 cap 8 cap' xs ys w hx hy (by unfold maxLen; omega) (by unfold maxLen; omega)).mono ?_
  rintro e w' ⟨g, c, rfl, hg, ho, hb⟩
  rw [hp] at ho ⊢
  have := OI.own ho
  rw [jn_length] at this ⊢
  exact ⟨g, c, rfl, hg, this, hb⟩
/-- A world that a callee may leave behind: what lay is as it was. -/
structure BW (B : World) where
  w : World
  h : Below B.heap.size B w
/-- A region that draws its order, whose operations only read and whose callees lay blocks of their own, walked once. -/
theorem wp_region_bw {P : Program} {id : Nat} {Q : Exit → Act → World → Prop} {a : Act} {w : World} {l : List Oper} (hm : P.follows .mixedOrders = true) (hB : Region.lexB .any l.toArray = true)
    (h : wpQuiet P l.toArray (fun w' => ∃ p : BW w, w' = p.w) (fun a' => ∀ w', (∃ p : BW w, w' = p.w) → Q .normal a' w') l a) : (Code.region id l.toArray true).wp P Q a w :=
  wp_region_quiet (C := fun w' => ∃ p : BW w, w' = p.w) hm hB ⟨⟨w.drewN 1, belowN (Below.refl _ _)⟩, rfl⟩ (by simpa using h)
theorem bw_call {P : Program} {f : FuncId} {args : Array Value} {B : World} {v : Value} (p : BW B) (h : Calls P f args p.w fun e w' => e = .returned v ∧ Below p.w.heap.size p.w w') : Calls P f args p.w fun e w' => e = .returned v ∧ ∃ q : BW B, w' = q.w :=
  h.mono fun e w' h => ⟨h.1, ⟨w', p.h.trans (h.2.mono p.h.size)⟩, rfl⟩

set_option maxRecDepth 100000 in
set_option maxHeartbeats 6400000 in
/-- The law FnCuts. -/
theorem lawFnCuts (hC : ImplCutOk) (a : Option Addr) (len cap : Nat) (bs : Nat → Int) (w : World) (hv : BVec w a len bs) :
    Calls Try.prog 6 #[.slice a len cap] w fun e w' => e = .returned (.bool true) ∧ Below w.heap.size w w' := by
  by_cases hbig : (4096 : Int) < (len : Int)
  · have hB := big_any a len cap w
    rw [decide_eq_true hbig] at hB
    go_enter Try.func6, Try.ntmps6
    go_wp2_with fail
    refine hB.mono ?_
    rintro e w1 ⟨rfl, hw1⟩
    have HW : Hid (w1 = w) := hw1
    clear hw1
    go_wp2
    go_ret
    exact ⟨rfl, by rw [HW.out]; exact Below.refl _ _⟩
  · have hB := big_any a len cap w
    rw [decide_eq_false hbig] at hB
    have hl : len ≤ 4096 := by omega
    have hmk := run_make_row' (P := Try.prog) 24 2 (.int .i64 0) 8 Try.underlying24 Try.info2 rfl .i64 .i64 8 (by omega) (by omega)
    have h8 : ((8 : Nat) : Int) = 8 := rfl
    simp only [h8] at hmk
    go_enter Try.func6, Try.ntmps6
    go_wp2_with fail
    refine hB.mono ?_
    rintro e w0 ⟨rfl, hw0⟩
    have hv0 : BVec w0 a len bs := by rw [hw0]; exact hv
    have B0 : Below w.heap.size w w0 := by rw [hw0]; exact Below.refl _ _
    clear hw0 hB
    go_wp2_with fail
    refine (drawCutOk_any a len cap bs w0 hv0 hl).mono ?_
    rintro e w1 ⟨g, f, c, es, gz, fz, cz, xs, rfl, hG⟩
    have B1 : Hid (Below w.heap.size w w1) := B0.trans (hG.below.mono B0.size)
    have hnc := hG.evs.le
    have hn14 := hG.le14
    have hx8 := hG.le8
    have hnm : es.length ≤ maxLen := by unfold maxLen; omega
    have hxf := hG.fits
    have hxc := hG.out.le
    have hxm := hG.out.max
    have KE : Hid (∀ X, Below w1.heap.size w1 X → EvsAt X g f es.length es) := fun X hX => evs_below hG.evs.at hX (Nat.le_refl _)
    have KX : Hid (∀ X, Below w1.heap.size w1 X → OI X gz fz xs.length cz xs) := fun X hX => hG.out.below hX hG.out.blk
    clear hv0 B0 hG
    generalize es.length = n at *
    have hC0 := fun X (hX : Below w1.heap.size w1 X) => hC g f n c es (some ⟨gz, fz, none⟩) xs.length cz xs X (KE.out X hX) hnm hnc ((KX.out X hX).vec hxf) hxc hxm
    have hS0 := fun X (hX : Below w1.heap.size w1 X) => specCutOk_any g f n c es (some ⟨gz, fz, none⟩) xs.length cz xs X (KE.out X hX) hnm hnc ((KX.out X hX).vec hxf) (by unfold maxLen; omega)
    have HIS : Hid (okC es n xs = true → IsCut es n xs ∧ Cons es n xs) := okC_iff.1
    generalize okC es n xs = A at *
    have hAA : (A != A) = false := by simp
    go_wp2_with fail
    refine (hC0 w1 (Below.refl _ _)).mono ?_
    rintro e w2 ⟨rfl, hb2⟩
    go_wp2_with fail
    refine (hS0 w2 hb2).mono ?_
    rintro e w3 ⟨rfl, hb3⟩
    have b13 : Below w1.heap.size w1 w3 := hb2.trans (hb3.mono hb2.size)
    clear hb2 hb3 hC0 hS0
    go_wp2_with fail
    refine (specClocks_any g f n c es w3 (KE.out w3 b13) hnm hnc).mono ?_
    rintro e w4 ⟨gc, fc, cc, rk, rfl, _, V4, hb4⟩
    have B4 : Hid (Below w1.heap.size w1 w4) := b13.trans (hb4.mono b13.size)
    have HV4 : Hid (VR w4 w3.heap.size gc fc (ckN es n) cc (ckN es n) rk (cl es)) := V4
    clear b13 hb4 V4 hAA
    have hTk := fun X (hX : Below w1.heap.size w1 X) => specTok_any g f n c es X (KE.out X hX) hnm hnc
    cases hok : okT es n
    · rw [hok] at hTk
      have hN : ckN es n = 0 := by unfold ckN; rw [hok]; rfl
      rw [hN]
      go_wp2
      go_loopw [7] (fun i wr => i = .int .i64 0 ∧ wr = w4) (fun _ _ => 0)
      case atStart => exact ⟨rfl, rfl⟩
      case round =>
        obtain ⟨rfl, hwr⟩ := hrel
        replace hwr := hwr.symm
        subst hwr
        go_wp2_with fail
        refine (hTk _ B4.out).mono ?_
        rintro e w5 ⟨rfl, hg5⟩
        have HB5 : Hid (Below w.heap.size w w5) := B1.out.trans ((B4.out.trans (hg5.1.mono B4.out.size)).mono B1.out.size)
        clear hg5
        go_wp2
        go_ret
        exact ⟨rfl, HB5.out⟩
    · rw [hok] at hTk
      have hN : ckN es n = n := ckN_t hok
      rw [hN] at HV4
      rw [hN]
      have HOK : Hid (okT es n = true) := hok
      have h40 := (okT_all hok).1
      have KC : Hid (∀ X gx fx cx Y, Below w1.heap.size w1 X → OI X gx fx 8 cx Y → (IsCut es n Y ∧ Cons es n Y) → Calls Try.prog 48 #[.slice (some ⟨g, f, none⟩) n c, .slice (some ⟨gx, fx, none⟩) 8 cx] X fun e w' => e = .returned (.bool true) ∧ Below X.heap.size X w') := fun X gx fx cx Y hX ho hY => by
        have h := hC g f n c es (some ⟨gx, fx, none⟩) 8 cx Y X (KE.out X hX) hnm hnc (ho.vec (cut_small hY.1).2) ho.le ho.max
        rwa [okC_iff.2 hY] at h
      clear hN hok
      go_wp2
      go_loopw [7] (fun i wr => ∃ j : Nat, j ≤ n ∧ i = .int .i64 j ∧ VR wr w3.heap.size gc fc n cc n rk (cl es) ∧ Below w1.heap.size w1 wr) (fun i _ => n - (intOf i).toNat)
      case atStart => exact ⟨0, Nat.zero_le _, rfl, HV4.out, B4.out⟩
      case round =>
        obtain ⟨j, hj, rfl, hvr, hbr⟩ := hrel
        have KR : Hid (VR wr w3.heap.size gc fc n cc n rk (cl es)) := hvr
        have KB : Hid (Below w1.heap.size w1 wr) := hbr
        clear hvr hbr HV4 B4
        by_cases hlt : j < n
        · have hcj := cons_cl HOK.out hlt
          have HCJ : Hid (IsCut es n (cl es j) ∧ Cons es n (cl es j)) := hcj
          have j1 : (j : Int) < (n : Int) := by omega
          have j0 : (0 : Int) ≤ (j : Int) := by omega
          have K1 : Hid (∀ X, Below wr.heap.size wr X → OI X (rk j).1 (rk j).2.1 8 (rk j).2.2 (cl es j)) := fun X hX => (KR.out.row8' hlt).below hX (KR.out.row8' hlt).blk
          have KW : Hid (∀ X, Below wr.heap.size wr X → Below w1.heap.size w1 X) := fun X hX => KB.out.trans (hX.mono KB.out.size)
          have hK1 : ∀ X, Below wr.heap.size wr X → Calls Try.prog 48 #[.slice (some ⟨g, f, none⟩) n c, .slice (some ⟨(rk j).1, (rk j).2.1, none⟩) 8 (rk j).2.2] X fun e w' => e = .returned (.bool true) ∧ Below X.heap.size X w' := fun X hX => KC.out X _ _ _ _ (KW.out X hX) (K1.out X hX) HCJ.out
          have bd : ∀ q, Below wr.heap.size wr (wr.drewN q) := fun q => belowN (Below.refl _ _)
          clear hcj
          rcases Nat.eq_zero_or_pos j with hj0 | hjp
          · subst hj0
            have x1 := KR.out.cell8 hlt hlt
            simp only [Nat.add_zero] at x1
            have KS : ∀ X, Below wr.heap.size wr X → X.cell? ⟨gc, fc, none⟩ = some (.slice (some ⟨(rk 0).1, (rk 0).2.1, none⟩) 8 (rk 0).2.2) := fun X hX => (hX.cell (World.block_lt_of_cell? _ _ x1)).trans x1
            have KSp : ∀ p : BW wr, p.w.cell? ⟨gc, fc, none⟩ = some (.slice (some ⟨(rk 0).1, (rk 0).2.1, none⟩) 8 (rk 0).2.2) := fun p => KS p.w p.h
            have HKS : Hid (∀ X, Below wr.heap.size wr X → X.cell? ⟨gc, fc, none⟩ = some (.slice (some ⟨(rk 0).1, (rk 0).2.1, none⟩) 8 (rk 0).2.2)) := KS
            clear KS
            have KS := HKS
            clear HKS
            haveI : Inhabited (BW wr) := ⟨⟨wr, Below.refl _ _⟩⟩
            have HK1 : Hid (∀ X, Below wr.heap.size wr X → Calls Try.prog 48 #[.slice (some ⟨g, f, none⟩) n c, .slice (some ⟨(rk 0).1, (rk 0).2.1, none⟩) 8 (rk 0).2.2] X fun e w' => e = .returned (.bool true) ∧ Below X.heap.size X w') := hK1
            have n0 : (0 : Int) < (n : Int) := by omega
            clear hK1 bd
            go_wp2_with fail
            refine wp_region_bw (by kernel_rfl) (by kernel_rfl) ?_
            repeat (go_big_quiet_step ((exact bw_call _ (HK1.out _ (BW.h _)))))
            refine wpQuiet_nil ?_
            intro wE hw'
            obtain ⟨⟨wE', bE⟩, hw''⟩ := hw'
            have hwe : wE = wE' := hw''
            clear hw''
            subst hwe
            have KR5 : Hid (VR wE w3.heap.size gc fc n cc n rk (cl es)) := KR.out.below bE
            cases A
            · have KB5 : Hid (Below w1.heap.size w1 wE) := KW.out _ bE
              go_wp2
              go_roundw
              case rel => exact ⟨0 + 1, by omega, by go_num, KR5.out, KB5.out⟩
              case measure => simp [intOf]; omega
            · obtain ⟨hXc, hXk⟩ := HIS.out rfl
              have HXL : Hid (xs.length = 8) := hXc.len
              have HJa := cons_join hXc HCJ.out.1 hXk HCJ.out.2
              have HMa := cons_meet hXc HCJ.out.1 hXk HCJ.out.2
              have KO : Hid (∀ X, Below wr.heap.size wr X → OI X gz fz 8 cz xs) := fun X hX => by have h := KX.out X (KW.out X hX); rwa [HXL.out] at h
              have hJa : ∀ X, Below wr.heap.size wr X → Calls Try.prog 20 #[.slice (some ⟨gz, fz, none⟩) xs.length cz, .slice (some ⟨(rk 0).1, (rk 0).2.1, none⟩) 8 (rk 0).2.2] X fun e w' => ∃ g c, e = .returned (.slice (some ⟨g, 0, none⟩) 8 c) ∧ X.heap.size ≤ g ∧ OI w' g 0 8 c (jn max xs (cl es 0) 8) ∧ Below X.heap.size X w' := fun X hX => by
                rw [HXL.out]
                exact specJoin8 (some ⟨gz, fz, none⟩) (some ⟨(rk 0).1, (rk 0).2.1, none⟩) cz (rk 0).2.2 xs (cl es 0) X ((KO.out X hX).vec hxf) ((K1.out X hX).vec (cut_small HCJ.out.1).2) (cut_b6 hXc) (cut_b6 HCJ.out.1)
              have hMa : ∀ X, Below wr.heap.size wr X → Calls Try.prog 21 #[.slice (some ⟨gz, fz, none⟩) xs.length cz, .slice (some ⟨(rk 0).1, (rk 0).2.1, none⟩) 8 (rk 0).2.2] X fun e w' => ∃ g c, e = .returned (.slice (some ⟨g, 0, none⟩) 8 c) ∧ X.heap.size ≤ g ∧ OI w' g 0 8 c (jn min xs (cl es 0) 8) ∧ Below X.heap.size X w' := fun X hX => by
                rw [HXL.out]
                exact specMeet8 (some ⟨gz, fz, none⟩) (some ⟨(rk 0).1, (rk 0).2.1, none⟩) cz (rk 0).2.2 xs (cl es 0) X ((KO.out X hX).vec hxf) ((K1.out X hX).vec (cut_small HCJ.out.1).2) (cut_b6 hXc) (cut_b6 HCJ.out.1)
              have HXC : Hid (IsCut es n xs) := hXc
              clear hXc hXk
              have y1 := (KS.out _ bE)
              go_wp2_with fail
              refine (hJa _ bE).mono ?_
              rintro e wF ⟨gF, cF, rfl, _, oF, hbF⟩
              have bF : Below wr.heap.size wr wF := bE.trans (hbF.mono bE.size)
              go_wp2_with fail
              refine (KC.out wF gF 0 cF _ (KW.out _ bF) oF HJa).mono ?_
              rintro e wG ⟨rfl, hbG⟩
              have bG : Below wr.heap.size wr wG := bF.trans (hbG.mono bF.size)
              have y2 := (KS.out _ bG)
              clear y1 oF hbF
              go_wp2_with fail
              refine (hMa _ bG).mono ?_
              rintro e wH ⟨gH, cH, rfl, _, oH, hbH⟩
              have bH : Below wr.heap.size wr wH := bG.trans (hbH.mono bG.size)
              go_wp2_with fail
              refine (KC.out wH gH 0 cH _ (KW.out _ bH) oH HMa).mono ?_
              rintro e wI ⟨rfl, hbI⟩
              have bI : Below wr.heap.size wr wI := bH.trans (hbI.mono bH.size)
              have KR9 : Hid (VR wI w3.heap.size gc fc n cc n rk (cl es)) := KR.out.below bI
              have KB9 : Hid (Below w1.heap.size w1 wI) := KW.out _ bI
              clear y2 oH hbH hbI
              go_wp2
              go_roundw
              case rel => exact ⟨0 + 1, by omega, by go_num, KR9.out, KB9.out⟩
              case measure => simp [intOf]; omega
          · obtain ⟨k, rfl⟩ : ∃ k, j = k + 1 := ⟨j - 1, by omega⟩
            have hkn : k < n := by omega
            have hck := cons_cl HOK.out hkn
            have x1 := KR.out.cell8 hlt hlt
            have x2 := KR.out.cell8 hkn hkn
            have K2 : Hid (∀ X, Below wr.heap.size wr X → OI X (rk k).1 (rk k).2.1 8 (rk k).2.2 (cl es k)) := fun X hX => (KR.out.row8' hkn).below hX (KR.out.row8' hkn).blk
            have HJX : Hid (IsCut es n (jn max (cl es (k + 1)) (cl es k) 8) ∧ Cons es n (jn max (cl es (k + 1)) (cl es k) 8)) := cons_join HCJ.out.1 hck.1 HCJ.out.2 hck.2
            have HMX : Hid (IsCut es n (jn min (cl es (k + 1)) (cl es k) 8) ∧ Cons es n (jn min (cl es (k + 1)) (cl es k) 8)) := cons_meet HCJ.out.1 hck.1 HCJ.out.2 hck.2
            have hJ := fun X (hX : Below wr.heap.size wr X) => specJoin8 (some ⟨(rk (k + 1)).1, (rk (k + 1)).2.1, none⟩) (some ⟨(rk k).1, (rk k).2.1, none⟩) (rk (k + 1)).2.2 (rk k).2.2 (cl es (k + 1)) (cl es k) X ((K1.out X hX).vec (cut_small HCJ.out.1).2) ((K2.out X hX).vec (cut_small hck.1).2) (cut_b6 HCJ.out.1) (cut_b6 hck.1)
            have hM := fun X (hX : Below wr.heap.size wr X) => specMeet8 (some ⟨(rk (k + 1)).1, (rk (k + 1)).2.1, none⟩) (some ⟨(rk k).1, (rk k).2.1, none⟩) (rk (k + 1)).2.2 (rk k).2.2 (cl es (k + 1)) (cl es k) X ((K1.out X hX).vec (cut_small HCJ.out.1).2) ((K2.out X hX).vec (cut_small hck.1).2) (cut_b6 HCJ.out.1) (cut_b6 hck.1)
            have hK2 := fun X gx cx (hX : Below wr.heap.size wr X) (ho : OI X gx 0 8 cx (jn max (cl es (k + 1)) (cl es k) 8)) => KC.out X gx 0 cx _ (KW.out X hX) ho HJX.out
            have hK3 := fun X gx cx (hX : Below wr.heap.size wr X) (ho : OI X gx 0 8 cx (jn min (cl es (k + 1)) (cl es k) 8)) => KC.out X gx 0 cx _ (KW.out X hX) ho HMX.out
            have KS : ∀ X, Below wr.heap.size wr X → X.cell? ⟨gc, fc + (k + 1), none⟩ = some (.slice (some ⟨(rk (k + 1)).1, (rk (k + 1)).2.1, none⟩) 8 (rk (k + 1)).2.2) ∧ X.cell? ⟨gc, fc + k, none⟩ = some (.slice (some ⟨(rk k).1, (rk k).2.1, none⟩) 8 (rk k).2.2) := fun X hX => ⟨(hX.cell (World.block_lt_of_cell? _ _ x1)).trans x1, (hX.cell (World.block_lt_of_cell? _ _ x2)).trans x2⟩
            have k1 : (k : Int) < (n : Int) := by omega
            have k0 : (0 : Int) ≤ (k : Int) := by omega
            have kp : (0 : Int) < (k : Int) + 1 := by omega
            have kn1 : (k : Int) + 1 < (n : Int) := by omega
            have kp0 : (0 : Int) ≤ (k : Int) + 1 := by omega
            have kb : (k : Int) + 1 - 1 = (k : Int) := by omega
            have kb2 : (k : Int) ≤ 9223372036854775807 := by omega
            have kb3 : -9223372036854775808 ≤ (k : Int) := by omega
            have hw1 : IntKind.i64.wrap ((k : Int) + 1 - 1) = (k : Int) := by rw [IntKind.wrap_i64]; omega
            have hw2 : IntKind.i64.wrap (k : Int) = (k : Int) := by rw [IntKind.wrap_i64]; omega
            clear hck hjp
            go_wp2_with fail
            go_region_held3 (fun X => X.cell? ⟨gc, fc + (k + 1), none⟩ = some (.slice (some ⟨(rk (k + 1)).1, (rk (k + 1)).2.1, none⟩) 8 (rk (k + 1)).2.2) ∧ X.cell? ⟨gc, fc + k, none⟩ = some (.slice (some ⟨(rk k).1, (rk k).2.1, none⟩) 8 (rk k).2.2))
              (first
                | exact KS _ bE
                | exact KS _ bD
                | exact KS _ bC
                | exact KS _ bB
                | exact KS _ bA
                | exact KS _ (bd 1))
              (first
                | (go_at_call 48; refine (hK3 _ _ _ bD oD).mono ?_; rintro e wE ⟨rfl, hbE⟩; have bE : Below wr.heap.size wr wE := bD.trans (hbE.mono bD.size))
                | (go_at_call 21; refine (hM _ bC).mono ?_; rintro e wD ⟨gD, cD, rfl, _, oD, hbD⟩; have bD : Below wr.heap.size wr wD := bC.trans (hbD.mono bC.size))
                | (go_at_call 48; refine (hK2 _ _ _ bB oB).mono ?_; rintro e wC ⟨rfl, hbC⟩; have bC : Below wr.heap.size wr wC := bB.trans (hbC.mono bB.size))
                | (go_at_call 20; refine (hJ _ bA).mono ?_; rintro e wB ⟨gB, cB, rfl, _, oB, hbB⟩; have bB : Below wr.heap.size wr wB := bA.trans (hbB.mono bA.size))
                | (go_at_call 48; refine (hK1 _ (bd 1)).mono ?_; rintro e wA ⟨rfl, hbA⟩; have bA : Below wr.heap.size wr wA := (bd 1).trans (hbA.mono (bd 1).size)))
            have KR5 : Hid (VR wE w3.heap.size gc fc n cc n rk (cl es)) := KR.out.below bE
            cases A
            · have KB5 : Hid (Below w1.heap.size w1 wE) := KW.out _ bE
              go_wp2
              go_roundw
              case rel => exact ⟨k + 1 + 1, by omega, by go_num, KR5.out, KB5.out⟩
              case measure => simp [intOf]; omega
            · obtain ⟨hXc, hXk⟩ := HIS.out rfl
              have HXL : Hid (xs.length = 8) := hXc.len
              have HJa := cons_join hXc HCJ.out.1 hXk HCJ.out.2
              have HMa := cons_meet hXc HCJ.out.1 hXk HCJ.out.2
              have KO : Hid (∀ X, Below wr.heap.size wr X → OI X gz fz 8 cz xs) := fun X hX => by have h := KX.out X (KW.out X hX); rwa [HXL.out] at h
              have hJa : ∀ X, Below wr.heap.size wr X → Calls Try.prog 20 #[.slice (some ⟨gz, fz, none⟩) xs.length cz, .slice (some ⟨(rk (k + 1)).1, (rk (k + 1)).2.1, none⟩) 8 (rk (k + 1)).2.2] X fun e w' => ∃ g c, e = .returned (.slice (some ⟨g, 0, none⟩) 8 c) ∧ X.heap.size ≤ g ∧ OI w' g 0 8 c (jn max xs (cl es (k + 1)) 8) ∧ Below X.heap.size X w' := fun X hX => by
                rw [HXL.out]
                exact specJoin8 (some ⟨gz, fz, none⟩) (some ⟨(rk (k + 1)).1, (rk (k + 1)).2.1, none⟩) cz (rk (k + 1)).2.2 xs (cl es (k + 1)) X ((KO.out X hX).vec hxf) ((K1.out X hX).vec (cut_small HCJ.out.1).2) (cut_b6 hXc) (cut_b6 HCJ.out.1)
              have hMa : ∀ X, Below wr.heap.size wr X → Calls Try.prog 21 #[.slice (some ⟨gz, fz, none⟩) xs.length cz, .slice (some ⟨(rk (k + 1)).1, (rk (k + 1)).2.1, none⟩) 8 (rk (k + 1)).2.2] X fun e w' => ∃ g c, e = .returned (.slice (some ⟨g, 0, none⟩) 8 c) ∧ X.heap.size ≤ g ∧ OI w' g 0 8 c (jn min xs (cl es (k + 1)) 8) ∧ Below X.heap.size X w' := fun X hX => by
                rw [HXL.out]
                exact specMeet8 (some ⟨gz, fz, none⟩) (some ⟨(rk (k + 1)).1, (rk (k + 1)).2.1, none⟩) cz (rk (k + 1)).2.2 xs (cl es (k + 1)) X ((KO.out X hX).vec hxf) ((K1.out X hX).vec (cut_small HCJ.out.1).2) (cut_b6 hXc) (cut_b6 HCJ.out.1)
              have HXC : Hid (IsCut es n xs) := hXc
              clear hXc hXk
              have y1 := (KS _ bE).1
              go_wp2_with fail
              refine (hJa _ bE).mono ?_
              rintro e wF ⟨gF, cF, rfl, _, oF, hbF⟩
              have bF : Below wr.heap.size wr wF := bE.trans (hbF.mono bE.size)
              go_wp2_with fail
              refine (KC.out wF gF 0 cF _ (KW.out _ bF) oF HJa).mono ?_
              rintro e wG ⟨rfl, hbG⟩
              have bG : Below wr.heap.size wr wG := bF.trans (hbG.mono bF.size)
              have y2 := (KS _ bG).1
              clear y1 oF hbF
              go_wp2_with fail
              refine (hMa _ bG).mono ?_
              rintro e wH ⟨gH, cH, rfl, _, oH, hbH⟩
              have bH : Below wr.heap.size wr wH := bG.trans (hbH.mono bG.size)
              go_wp2_with fail
              refine (KC.out wH gH 0 cH _ (KW.out _ bH) oH HMa).mono ?_
              rintro e wI ⟨rfl, hbI⟩
              have bI : Below wr.heap.size wr wI := bH.trans (hbI.mono bH.size)
              have KR9 : Hid (VR wI w3.heap.size gc fc n cc n rk (cl es)) := KR.out.below bI
              have KB9 : Hid (Below w1.heap.size w1 wI) := KW.out _ bI
              clear y2 oH hbH hbI
              go_wp2
              go_roundw
              case rel => exact ⟨k + 1 + 1, by omega, by go_num, KR9.out, KB9.out⟩
              case measure => simp [intOf]; omega
        · have hjn : j = n := by omega
          subst hjn
          go_wp2_with fail
          refine (hTk _ KB.out).mono ?_
          rintro e w5 ⟨rfl, hg5⟩
          have B5 : Below w1.heap.size w1 w5 := KB.out.trans (hg5.1.mono KB.out.size)
          have o6 := oi_made w5 8 (by unfold maxLen; omega)
          have b56 : Below w5.heap.size w5 (w5.alloc (.cells (madeCells #[.int .i64 0] 8) 2)) := (Below.refl _ _).alloc (Nat.le_refl _) _
          have B6 : Below w1.heap.size w1 (w5.alloc (.cells (madeCells #[.int .i64 0] 8) 2)) := B5.trans (b56.mono B5.size)
          have hZ := KC.out _ w5.heap.size 0 8 zer8 B6 o6 (cons_zero HOK.out)
          clear hg5 b56
          go_wp2_with fail
          refine hZ.mono ?_
          rintro e w7 ⟨rfl, hb7⟩
          have B7 : Hid (Below w.heap.size w w7) := B1.out.trans ((B6.trans (hb7.mono B6.size)).mono B1.out.size)
          clear hb7 B6 o6 B5
          go_wp2
          go_ret
          exact ⟨rfl, B7.out⟩
end Go.Proofs.Ytacjpebifacclaa
