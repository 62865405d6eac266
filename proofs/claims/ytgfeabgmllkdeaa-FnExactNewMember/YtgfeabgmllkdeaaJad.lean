/-
  Texts in one: Mbn Mcc Mbl Plo Mbi Mbj Mbz Mba Ear Mbr Mbb Mbe Rns Rwo Mca Sdk Dvo Rdk Drt Rdw Rdr Rds Mci Mcj Mck Mcd Mcf Mcq Mcs Nmb Ivk Rzi Rzj Rzk Rzu Rzv.
-/
import Derived.Test.YtgfeabgmllkdeaaJac
import Derived.Test.YtgfeabgmllkdeaaJaa
import Derived.Test.YtgfeabgmllkdeaaJab
import Derived.Deep.LoopGhost
import Derived.Deep.CutRange
import Derived.Deep.Cut
import Derived.Deep.RegionHeld3
import Derived.Defers
import Derived.Recover
import Derived.BigQuiet
import Derived.Stop.Asserts
/-
  The specification's NewMember.
-/
namespace Go.Proofs.Ytgfeabgmllkdeaa
set_option linter.unusedVariables false
set_option linter.unusedSimpArgs false
open Go.RowKit Go.Sort

theorem newMb_no {id n : Int} (h : inB n 1 5 = false ∨ inB id 0 (n - 1) = false) : newMb id n = (zeroMb, false) := by
  unfold newMb
  rw [if_neg]
  rintro ⟨h1, h2⟩
  rcases h with h | h
  · rw [h] at h1; cases h1
  · rw [h] at h2; cases h2
theorem newMb_yes {id n : Int} (h1 : inB n 1 5 = true) (h2 : inB id 0 (n - 1) = true) : newMb id n = (⟨id, n, List.replicate n.toNat (newRw n), [], false⟩, true) := by
  unfold newMb
  rw [if_pos ⟨h1, h2⟩]
theorem mb_start (w : World) (id n : Int) : MO w ((w.alloc (.cells #[.int .i64 0, .int .i64 0, .slice none 0 0, .slice none 0 0, .bool false] 40)).alloc (.cells #[.int .i64 id, .int .i64 n, .slice none 0 0, .slice none 0 0, .bool false] 40)) (w.heap.size + 1) ⟨none, 0, none, 0⟩ ⟨id, n, [], [], false⟩ (fun _ => False) := by
  have x1 := Bx.new (w.alloc (.cells #[.int .i64 0, .int .i64 0, .slice none 0 0, .slice none 0 0, .bool false] 40)) 40 #[.int .i64 id, .int .i64 n, .slice none 0 0, .slice none 0 0, .bool false]
  rw [World.size_alloc] at x1
  exact ⟨x1, ow_mb0 _, fun b h => h.elim, by omega, (oneA16 w _).trans ((oneA16 _ _).mono (oneA16 w _).size)⟩
set_option maxRecDepth 100000 in
set_option maxHeartbeats 3200000 in
theorem nmbS_any (id n : Int) (w : World) :
    Calls Try.prog 32 #[.int .i64 id, .int .i64 n] w fun e w' => AnsMf w w' e (newMb id n).1 (newMb id n).2 := by
  have hmix := mixed17
  have hb0 := oneA16 w (.cells #[.int .i64 0, .int .i64 0, .slice none 0 0, .slice none 0 0, .bool false] 40)
  have hx := Bx.new w 40 #[.int .i64 0, .int .i64 0, .slice none 0 0, .slice none 0 0, .bool false]
  have T0 := mb_start w id n
  have HR0 : Hid (Bx ((w.alloc (.cells #[.int .i64 0, .int .i64 0, .slice none 0 0, .slice none 0 0, .bool false] 40)).alloc (.cells #[.int .i64 id, .int .i64 n, .slice none 0 0, .slice none 0 0, .bool false] 40)) w.heap.size 40 #[.int .i64 0, .int .i64 0, .slice none 0 0, .slice none 0 0, .bool false]) := hx.alloc _
  cases e1 : inB n 1 5 with
  | false =>
    have HZ : Hid (newMb id n = (zeroMb, false)) := newMb_no (.inl e1)
    generalize hW : w.alloc (.cells #[.int .i64 0, .int .i64 0, .slice none 0 0, .slice none 0 0, .bool false] 40) = W at *
    have HB0 : Hid (Below w.heap.size w W) := hb0
    obtain ⟨c0, c1, c2, c3, c4⟩ := Bx.r5 hx
    obtain ⟨f0, f1, f2, f3, f4⟩ := hx.f5
    clear hx hb0 T0 HR0
    go_enter Try.func32, Try.ntmps32
    go_wp2_with (go_at_call 66; refine (l1In_any _ _ _ _).mono ?_; rintro e w' ⟨rfl, hw'⟩; rw [hw']; clear hw')
    refine bodyPost_ret (v := .tuple #[mbV ⟨none, 0, none, 0⟩ zeroMb, .bool false]) (by simp [results, Try.results32, go_sem, mbV, mbC, zeroMb, *]) rfl ?_
    rw [HZ.out]
    exact ⟨_, rfl, ansM_zero ((wrt5 W w.heap.size).below HB0.out HB0.out.size (fun b h => by rw [h]; exact Nat.le_refl _))⟩
  | true =>
  have hn5 := inB7.1 e1
  have wn : wrap64 (n - 1) = n - 1 := by unfold wrap64; omega
  cases e2 : inB id 0 (n - 1) with
  | false =>
    have HZ : Hid (newMb id n = (zeroMb, false)) := newMb_no (.inr e2)
    generalize hW : w.alloc (.cells #[.int .i64 0, .int .i64 0, .slice none 0 0, .slice none 0 0, .bool false] 40) = W at *
    have HB0 : Hid (Below w.heap.size w W) := hb0
    obtain ⟨c0, c1, c2, c3, c4⟩ := Bx.r5 hx
    obtain ⟨f0, f1, f2, f3, f4⟩ := hx.f5
    clear hx hb0 T0 HR0
    go_enter Try.func32, Try.ntmps32
    go_wp2_with (go_at_call 66; refine (l1In_any _ _ _ _).mono ?_; rintro e w' ⟨rfl, hw'⟩; rw [hw']; clear hw')
    refine bodyPost_ret (v := .tuple #[mbV ⟨none, 0, none, 0⟩ zeroMb, .bool false]) (by simp [results, Try.results32, go_sem, mbV, mbC, zeroMb, *]) rfl ?_
    rw [HZ.out]
    exact ⟨_, rfl, ansM_zero ((wrt5 W w.heap.size).below HB0.out HB0.out.size (fun b h => by rw [h]; exact Nat.le_refl _))⟩
  | true =>
  obtain ⟨N, rfl⟩ : ∃ N : Nat, n = (N : Int) := ⟨n.toNat, by omega⟩
  have HZ : Hid (newMb id (N : Int) = (⟨id, (N : Int), List.replicate N (newRw (N : Int)), [], false⟩, true)) := by rw [Hid, newMb_yes e1 e2]; rfl
  have HT0 : Hid (MO w ((w.alloc (.cells #[.int .i64 0, .int .i64 0, .slice none 0 0, .slice none 0 0, .bool false] 40)).alloc (.cells #[.int .i64 id, .int .i64 (N : Int), .slice none 0 0, .slice none 0 0, .bool false] 40)) (w.heap.size + 1) ⟨none, 0, none, 0⟩ ⟨id, (N : Int), [], [], false⟩ (fun _ => False)) := T0
  clear hx hb0 T0
  go_enter Try.func32, Try.ntmps32
  go_wp2_with (go_at_call 66; refine (l1In_any _ _ _ _).mono ?_; rintro e w' ⟨rfl, hw'⟩; rw [hw']; clear hw')
  clear e1 e2 wn
  go_loopw [7] (fun i wr => ∃ k : Nat, k ≤ N ∧ i = .int .i64 (k : Int) ∧ ∃ A R fp, Hid (R = List.replicate k (newRw (N : Int))) ∧ MO w wr (w.heap.size + 1) A ⟨id, (N : Int), R, [], false⟩ fp ∧ Bx wr w.heap.size 40 #[.int .i64 0, .int .i64 0, .slice none 0 0, .slice none 0 0, .bool false]) (fun i _ => N - (intOf i).toNat)
  case atStart => exact ⟨0, Nat.zero_le _, rfl, _, [], _, rfl, HT0.out, HR0.out⟩
  case round =>
    obtain ⟨k, hk, rfl, A, R, fp, hR, M, hres⟩ := hrel
    by_cases hlt : k < N
    · have k1 : (k : Int) < (N : Int) := by omega
      have hRl : R.length ≤ 1000000 := by rw [hR.out, List.length_replicate]; omega
      have HRes : Hid (Bx wr w.heap.size 40 #[.int .i64 0, .int .i64 0, .slice none 0 0, .slice none 0 0, .bool false]) := hres
      have HM : Hid (MO w wr (w.heap.size + 1) A ⟨id, (N : Int), R, [], false⟩ fp) := M
      have c2 : wr.drew.cell? ⟨w.heap.size + 1, 2, none⟩ = some (.slice A.ra R.length A.rc) := M.own.at 2 rfl
      have hbd : Below wr.heap.size wr wr.drew := (Same.drewN wr 1).below
      clear M hres
      go_wp2_with fail
      refine gt_begin (S := fun X : World => X.cell? ⟨w.heap.size + 1, 2, none⟩ = some (.slice A.ra R.length A.rc)) 7 hmix (by kernel_rfl) ?_
      have hHeld : (fun X : World => X.cell? ⟨w.heap.size + 1, 2, none⟩ = some (.slice A.ra R.length A.rc)) wr.drew := c2
      refine gt_take (i := 0) (v := ?_) rfl (by kernel_rfl) (by kernel_rfl) (by kernel_rfl) (by kernel_rfl) (fun _ _ _ h => h) (Or.inl ⟨by rfl, ?_⟩) hHeld ?_
      rotate_left
      · (intro X hSX; (try dsimp only at hSX); have g0 := hSX; go_simp; try with_reducible rfl)
      try simp only [Act.put, List.setIfInBounds_toArray, List.set_cons_zero, List.set_cons_succ]
      refine gt_take (i := 1) (v := ?_) rfl (by kernel_rfl) (by kernel_rfl) (by kernel_rfl) (by kernel_rfl) (fun _ _ _ h => h) (Or.inl ⟨by rfl, ?_⟩) hHeld ?_
      rotate_left
      · (intro X hSX; (try dsimp only at hSX); have g0 := hSX; go_simp; try with_reducible rfl)
      try simp only [Act.put, List.setIfInBounds_toArray, List.set_cons_zero, List.set_cons_succ]
      refine gt_pure (i := 2) (v := ?_) rfl (by kernel_rfl) (by kernel_rfl) (by kernel_rfl) (fun _ _ _ h => h) (Or.inl ⟨by rfl, ?_⟩) ?_
      rotate_left
      · (intro X; go_simp; try with_reducible rfl)
      try simp only [Act.put, List.setIfInBounds_toArray, List.set_cons_zero, List.set_cons_succ]
      refine gt_one (i := 3) rfl (by kernel_rfl) (by kernel_rfl) (fun K hK => ?_)
      go_simp
      go_at_call 79
      refine (nrwS_any _ _).mono ?_
      rintro e w1 ⟨Ar, rfl, fr, hr1, hr2, hr3⟩
      have hb1 : Below wr.heap.size wr w1 := hbd.trans (hr3.mono hbd.size)
      have hA := HM.out.push hb1 hr1 (fun b hb => hr2 b hb) hRl
      have d2 : w1.cell? ⟨w.heap.size + 1, 2, none⟩ = some (.slice A.ra R.length A.rc) := (HM.out.own.below hb1).at 2 rfl
      have d3 := ((HM.out.own.below hb1).alloc (.cells (rwC Ar (newRw (N : Int))) 55)).at 2 rfl
      refine hK.out _ _ d2 (fun hHeldN => ?_)
      clear hK hHeld
      have hHeld := hHeldN
      try simp only [Act.put, List.setIfInBounds_toArray, List.set_cons_zero, List.set_cons_succ]
      unfold rwV
      unfold rwC at hA d3 ⊢
      refine gt_one (i := 4) rfl (by kernel_rfl) (by kernel_rfl) (fun K hK => ?_)
      go_simp
      refine hK.out _ _ d3 (fun hHeldN => ?_)
      clear hK hHeld
      have hHeld := hHeldN
      try simp only [Act.put, List.setIfInBounds_toArray, List.set_cons_zero, List.set_cons_succ]
      refine gt_one (i := 5) rfl (by kernel_rfl) (by kernel_rfl) (fun K hK => ?_)
      refine step_append_of (by rfl) _ _ _ _ (by rfl) (.slice A.ra R.length A.rc) _ (by rfl) (by rfl) hA ⟨rfl, rfl, rfl, rfl⟩ ?_
      rintro v9 w4 ⟨a9, c9, rfl, q1, q2, b4, b5, fp9, hM9⟩
      refine hK.out _ _ q1 (fun hHeldN => ?_)
      clear hK hHeld
      have hHeld := hHeldN
      try simp only [Act.put, List.setIfInBounds_toArray, List.set_cons_zero, List.set_cons_succ]
      refine gt_take (i := 6) (v := ?_) rfl (by kernel_rfl) (by kernel_rfl) (by kernel_rfl) (by kernel_rfl) (fun _ _ _ h => h) (Or.inl ⟨by rfl, ?_⟩) hHeld ?_
      rotate_left
      · (intro X hSX; (try dsimp only at hSX); have g0 := hSX; go_simp; try with_reducible rfl)
      try simp only [Act.put, List.setIfInBounds_toArray, List.set_cons_zero, List.set_cons_succ]
      refine gt_last rfl (by kernel_rfl) (by kernel_rfl) (fun K hK => ?_)
      go_simp
      refine hK.out _ _ ?_
      have HM9 : Hid (MO w (w4.setCell ⟨w.heap.size + 1, 2, none⟩ (.slice a9 (R.length + 1) c9)) (w.heap.size + 1) ⟨a9, c9, A.sa, A.sc⟩ ⟨id, (N : Int), R ++ [newRw (N : Int)], [], false⟩ fp9) := hM9
      have HRes9 : Hid (Bx (w4.setCell ⟨w.heap.size + 1, 2, none⟩ (.slice a9 (R.length + 1) c9)) w.heap.size 40 #[.int .i64 0, .int .i64 0, .slice none 0 0, .slice none 0 0, .bool false]) := (b5.block w.heap.size (Nat.lt_succ_self _)).trans HRes.out
      have HR9 : Hid (R ++ [newRw (N : Int)] = List.replicate (k + 1) (newRw (N : Int))) := by rw [Hid, hR.out, List.replicate_succ']
      clear hM9 hA d2 d3 hr1 hr2 hr3
      generalize w4.setCell ⟨w.heap.size + 1, 2, none⟩ (.slice a9 (R.length + 1) c9) = W9 at *
      go_wp2
      go_roundw
      case rel => exact ⟨k + 1, by omega, by go_num, _, _, _, HR9, HM9.out, HRes9.out⟩
      case measure => simp [intOf]; omega
    · have k1 : ¬ ((k : Int) < (N : Int)) := by omega
      have e : k = N := by omega
      have HRN : Hid (R = List.replicate N (newRw (N : Int))) := by rw [Hid, hR.out, e]
      clear e
      obtain ⟨o0, o1, o2, o3, o4⟩ := Bx.r5 M.own
      obtain ⟨r0, r1, r2, r3, r4⟩ := Bx.r5 hres
      obtain ⟨f0, f1, f2, f3, f4⟩ := hres.f5
      have HA : Hid (NewL w (((((wr.setCell ⟨w.heap.size, 0, none⟩ (.int .i64 id)).setCell ⟨w.heap.size, 1, none⟩ (.int .i64 (N : Int))).setCell ⟨w.heap.size, 2, none⟩ (.slice A.ra R.length A.rc)).setCell ⟨w.heap.size, 3, none⟩ (.slice A.sa 0 A.sc)).setCell ⟨w.heap.size, 4, none⟩ (.bool false)) (mbCels ⟨id, (N : Int), R, [], false⟩) (mbVals A ⟨id, (N : Int), R, [], false⟩)) := M.ans (Nat.le_refl _) (Nat.le_succ _)
      simp only [List.length_nil] at o0 o1 o2 o3 o4
      clear M hres hR
      go_wp2
      refine bodyPost_ret (v := .tuple #[mbV A ⟨id, (N : Int), R, [], false⟩, .bool true]) (by simp [results, Try.results32, go_sem, mbV, mbC, *]) rfl ?_
      rw [HZ.out, ← HRN.out]
      exact ⟨_, rfl, HA.out⟩
end Go.Proofs.Ytgfeabgmllkdeaa

/-
  The specification's Say, Doubt and Heard.
-/
namespace Go.Proofs.Ytgfeabgmllkdeaa
set_option linter.unusedVariables false
set_option linter.unusedSimpArgs false
open Go.RowKit Go.Sort

attribute [local irreducible] sv
end Go.Proofs.Ytgfeabgmllkdeaa

/-
  The specification's l17Left.
-/
namespace Go.Proofs.Ytgfeabgmllkdeaa
set_option linter.unusedVariables false
set_option linter.unusedSimpArgs false
open Go.RowKit Go.Sort

end Go.Proofs.Ytgfeabgmllkdeaa

/-
  Places: two elements of one list; what becomes of one leaves the other as it is (general).
-/
namespace Go.Proofs.Ytgfeabgmllkdeaa
set_option linter.unusedVariables false
set_option linter.unusedSimpArgs false
open Go.RowKit Go.Sort

end Go.Proofs.Ytgfeabgmllkdeaa

/-
  The specification's l17Learn: what is plain of it, and what a part of the work on a member holds.
-/
namespace Go.Proofs.Ytgfeabgmllkdeaa
set_option linter.unusedVariables false
set_option linter.unusedSimpArgs false
open Go.RowKit Go.Sort

end Go.Proofs.Ytgfeabgmllkdeaa

/-
  The specification's l17Learn.
-/
namespace Go.Proofs.Ytgfeabgmllkdeaa
set_option linter.unusedVariables false
set_option linter.unusedSimpArgs false
open Go.RowKit Go.Sort

end Go.Proofs.Ytgfeabgmllkdeaa

/-
  The specification's l17Sing.
-/
namespace Go.Proofs.Ytgfeabgmllkdeaa
set_option linter.unusedVariables false
set_option linter.unusedSimpArgs false
open Go.RowKit Go.Sort

end Go.Proofs.Ytgfeabgmllkdeaa

/-
  The specification's l17Adopt.
-/
namespace Go.Proofs.Ytgfeabgmllkdeaa
set_option linter.unusedVariables false
set_option linter.unusedSimpArgs false
open Go.RowKit Go.Sort

end Go.Proofs.Ytgfeabgmllkdeaa

/-
  The contracts of Earlier and Apart, the specification's and the program's, and the walks of the laws FnExactEarlier and FnExactApart.
-/
namespace Go.Proofs.Ytgfeabgmllkdeaa
set_option linter.unusedSimpArgs false
set_option linter.unusedVariables false
open Go.RowKit

end Go.Proofs.Ytgfeabgmllkdeaa

/-
  The specification's l17SameRow.
-/
namespace Go.Proofs.Ytgfeabgmllkdeaa
set_option linter.unusedVariables false
set_option linter.unusedSimpArgs false
open Go.RowKit Go.Sort

end Go.Proofs.Ytgfeabgmllkdeaa

/-
  Lists of rows that lie in no block of the rows themselves; the plain words of l17Lead.
-/
namespace Go.Proofs.Ytgfeabgmllkdeaa
set_option linter.unusedVariables false
set_option linter.unusedSimpArgs false
open Go.RowKit Go.Sort

end Go.Proofs.Ytgfeabgmllkdeaa

/-
  The specification's l17Lead.
-/
namespace Go.Proofs.Ytgfeabgmllkdeaa
set_option linter.unusedVariables false
set_option linter.unusedSimpArgs false
open Go.RowKit Go.Sort

end Go.Proofs.Ytgfeabgmllkdeaa

/-
  The contracts of the specification's SeqOf, SenderOf, IndexOf, l7Counts and Ready.
-/
namespace Go.Proofs.Ytgfeabgmllkdeaa
set_option linter.unusedVariables false
set_option linter.unusedSimpArgs false
open Go.RowKit Go.Sort

end Go.Proofs.Ytgfeabgmllkdeaa

/-
  The contract of the specification's Woven.
-/
namespace Go.Proofs.Ytgfeabgmllkdeaa
set_option linter.unusedVariables false
set_option linter.unusedSimpArgs false
open Go.RowKit Go.Sort

end Go.Proofs.Ytgfeabgmllkdeaa

/-
  The specification's l17End.
-/
namespace Go.Proofs.Ytgfeabgmllkdeaa
set_option linter.unusedVariables false
set_option linter.unusedSimpArgs false
open Go.RowKit Go.Sort

end Go.Proofs.Ytgfeabgmllkdeaa

/-
  A draw that holds a struct of any size (general): the cursor, the answer's room, the struct's own block, its lists.
-/
namespace Go.Proofs.Ytgfeabgmllkdeaa
set_option linter.unusedVariables false
set_option linter.unusedSimpArgs false
open Go.RowKit Go.Sort

section
variable {w X Y Y' : World} {p : Nat} {a : Option Addr} {len cap : Nat} {bs : Nat → Int} {T : TypeId} {o : Nat} {Z C : Array Value} {cs : List Cel} {vs : List Value} {fp : Fp}
end
end Go.Proofs.Ytgfeabgmllkdeaa

/-
  The specification's l1DrawVector once more: its answer lies in memory of its own.
-/
namespace Go.Proofs.Ytgfeabgmllkdeaa
set_option linter.unusedVariables false
set_option linter.unusedSimpArgs false
open Go.RowKit Go.Sort

end Go.Proofs.Ytgfeabgmllkdeaa

/-
  What l16Draw holds: a row under way.
-/
namespace Go.Proofs.Ytgfeabgmllkdeaa
set_option linter.unusedVariables false
set_option linter.unusedSimpArgs false
open Go.RowKit Go.Sort

section
variable {w X Y Y' : World} {p : Nat} {a : Option Addr} {len cap : Nat} {bs : Nat → Int} {o : Nat} {Zr : Array Value} {A : Ra} {r : Rw} {fp : Fp}
end
end Go.Proofs.Ytgfeabgmllkdeaa

/-
  Slices of bytes in memory of one's own; the contract of the specification's l1DrawText.
-/
namespace Go.Proofs.Ytgfeabgmllkdeaa
set_option linter.unusedSimpArgs false
set_option linter.unusedVariables false
open Go.RowKit Go.Sort

attribute [local irreducible] sv
end Go.Proofs.Ytgfeabgmllkdeaa

/-
  The draw l16Draw.
-/
namespace Go.Proofs.Ytgfeabgmllkdeaa
set_option linter.unusedVariables false
set_option linter.unusedSimpArgs false
open Go.RowKit Go.Sort

attribute [local irreducible] sv
end Go.Proofs.Ytgfeabgmllkdeaa

/-
  The draws of stage 16: l16DrawCount, DrawNewRow, DrawRowOk, DrawLater.
-/
namespace Go.Proofs.Ytgfeabgmllkdeaa
set_option linter.unusedVariables false
set_option linter.unusedSimpArgs false
open Go.RowKit Go.Sort

theorem totS_le {T : List (List UInt8)} {m : Nat} (h : ∀ i, i < T.length → (T.getD i []).length ≤ m) : ∀ k, k ≤ T.length → totS T k ≤ k * m
  | 0, _ => by simp [totS]
  | k + 1, hk => by
    have := totS_le h k (by omega)
    have := h k (by omega)
    rw [totS, Nat.add_mul]
    omega
theorem owL_it {w : World} {cs : List Cel} {vs : List Value} {fp : Fp} (h : owL w cs vs fp) {lo : Nat} (hl : ∀ b, fp b → lo ≤ b) : It w cs vs lo w.heap.size := ⟨fp, h, fun b hb => ⟨hl b hb, owL_lt h b hb⟩⟩
end Go.Proofs.Ytgfeabgmllkdeaa

/-
  The draw DrawLater.
-/
namespace Go.Proofs.Ytgfeabgmllkdeaa
set_option linter.unusedVariables false
set_option linter.unusedSimpArgs false
open Go.RowKit Go.Sort

end Go.Proofs.Ytgfeabgmllkdeaa

/-
  The stages of a step, plain: at each of them the member is right.
-/
namespace Go.Proofs.Ytgfeabgmllkdeaa
set_option linter.unusedVariables false
set_option linter.unusedSimpArgs false
open Go.RowKit Go.Sort

end Go.Proofs.Ytgfeabgmllkdeaa

/-
  The specification's l17Step.
-/
namespace Go.Proofs.Ytgfeabgmllkdeaa
set_option linter.unusedVariables false
set_option linter.unusedSimpArgs false
open Go.RowKit Go.Sort

theorem OkR.sz {r : Rw} {n : Nat} (h : OkR r n) : szRw r ≤ 1048576 := by
  have h5 := h.n5
  have h1 := h.gl
  have h2 := h.sl
  have h3 := h.ml
  have h4 := h.tl
  have h6 : totS r.txt r.txt.length ≤ r.txt.length * 20 := totS_le (fun i hi => h.ts _ (by rw [List.getD_eq_getElem?_getD, List.getElem?_eq_getElem hi]; exact List.getElem_mem hi)) _ (Nat.le_refl _)
  unfold szRw
  omega
end Go.Proofs.Ytgfeabgmllkdeaa

/-
  The specification's Step.
-/
namespace Go.Proofs.Ytgfeabgmllkdeaa
set_option linter.unusedVariables false
set_option linter.unusedSimpArgs false
open Go.RowKit Go.Sort

end Go.Proofs.Ytgfeabgmllkdeaa

/-
  The specification's l17Voice and Voice.
-/
namespace Go.Proofs.Ytgfeabgmllkdeaa
set_option linter.unusedVariables false
set_option linter.unusedSimpArgs false
open Go.RowKit Go.Sort

attribute [local irreducible] sv
end Go.Proofs.Ytgfeabgmllkdeaa

/-
  The specification's Voice.
-/
namespace Go.Proofs.Ytgfeabgmllkdeaa
set_option linter.unusedVariables false
set_option linter.unusedSimpArgs false
open Go.RowKit Go.Sort

end Go.Proofs.Ytgfeabgmllkdeaa

/-
  What the program's functions on members must be shown to answer; facts for their exact laws.
-/
namespace Go.Proofs.Ytgfeabgmllkdeaa
set_option linter.unusedVariables false
set_option linter.unusedSimpArgs false
open Go.RowKit Go.Sort

def Mb64 (m : Mb) : Prop := I64v m.id ∧ I64v m.n ∧ ∀ r ∈ m.rows, Rw64 r
/-- A member that a program is handed. -/
structure MbP (w : World) (A : Ma) (m : Mb) : Prop where
  own : ∃ f, owL w (mbCels m) (mbVals A m) f
  fit : FitM m
  i64 : Mb64 m
  sz : szMb m ≤ 1048576
theorem it_mbs {w : World} {A : Ma} {m : Mb} {lo hi : Nat} (h : It w (mbCels m) (mbVals A m) lo hi) (hf : FitM m) : MbS w A m := mbs_of h.vw hf
theorem AnsMf.it {w w' : World} {e : Ending} {m : Mb} {b : Bool} (h : AnsMf w w' e m b) : ∃ A, e = .returned (.tuple #[mbV A m, .bool b]) ∧ It w' (mbCels m) (mbVals A m) w.heap.size w'.heap.size ∧ Below w.heap.size w w' := by
  obtain ⟨A, h1, h2⟩ := h
  exact ⟨A, h1, It.of_new h2, h2.choose_spec.2.2⟩
def ImplNewMember : Prop := ∀ (id n : Int) (w : World), I64v id → I64v n → Calls Try.prog 33 #[.int .i64 id, .int .i64 n] w fun e w' => AnsMf w w' e (newMb id n).1 (newMb id n).2
/-- An answer is small. -/
def SmM (m : Mb) : Prop := FitM m ∧ cntMb m ≤ 1000 ∧ m.rows.length ≤ 5 ∧ szMb m ≤ 100000
theorem sum_le (F : Rw → Nat) (c : Nat) : ∀ (R : List Rw), (∀ r ∈ R, F r ≤ c) → (R.map F).sum ≤ c * R.length
  | [], _ => by simp
  | r :: R, h => by
    have ih := sum_le F c R (fun x hx => h x (List.mem_cons_of_mem _ hx))
    have h1 := h r List.mem_cons_self
    rw [List.map_cons, List.sum_cons, List.length_cons, Nat.mul_succ]
    omega
theorem OkR.c8 {r : Rw} {n : Nat} (h : OkR r n) : cnt8 r ≤ 31 ∧ szRw r ≤ 300 := by
  have h5 := h.n5
  have h1 := h.gl
  have h2 := h.sl
  have h3 := h.ml
  have h4 := h.tl
  have h6 : totS r.txt r.txt.length ≤ r.txt.length * 20 := totS_le (fun i hi => h.ts _ (by rw [List.getD_eq_getElem?_getD, List.getElem?_eq_getElem hi]; exact List.getElem_mem hi)) _ (Nat.le_refl _)
  unfold cnt8 szRw
  omega
theorem OkM.small {m : Mb} {i n : Nat} (h : OkM m i n) : SmM m := by
  have h5 := h.n5
  have hl := h.len
  have hs := h.sl
  have e1 : cP m.rows m.rows.length ≤ 31 * m.rows.length := by
    unfold cP
    rw [List.take_length]
    exact sum_le cnt8 31 m.rows (fun r hr => (h.rowOk r hr).c8.1)
  have e2 : szP m.rows m.rows.length ≤ 300 * m.rows.length := by
    unfold szP
    rw [List.take_length]
    exact sum_le szRw 300 m.rows (fun r hr => (h.rowOk r hr).c8.2)
  refine ⟨h.fit, ?_, by omega, ?_⟩
  · unfold cntMb; omega
  · unfold szMb szRs; omega
theorem zeroMb_small : SmM zeroMb := ⟨⟨fun r hr => absurd hr List.not_mem_nil, fun x hx => absurd hx List.not_mem_nil⟩, by simp [cntMb, cP, zeroMb], by simp [zeroMb], by simp [szMb, szRs, szP, zeroMb]⟩
theorem newMb_small (id n : Int) : SmM (newMb id n).1 := by
  cases h : (newMb id n).2 with
  | true =>
    obtain ⟨i, k, ok⟩ := okMb_iff.1 (new_okM h)
    exact ok.small
  | false =>
    unfold newMb at h ⊢
    split
    · rename_i hc; rw [if_pos hc] at h; cases h
    · exact zeroMb_small
attribute [local irreducible] sv
end Go.Proofs.Ytgfeabgmllkdeaa

/-
  The walk of the exact law of NewMember FROM what the program answers.
-/
namespace Go.Proofs.Ytgfeabgmllkdeaa
set_option linter.unusedVariables false
set_option linter.unusedSimpArgs false
open Go.RowKit Go.Sort

set_option maxRecDepth 100000 in
set_option maxHeartbeats 6400000 in
theorem lawNewMember (hI : ImplNewMember) (id : Int) (n : Int) (w : World) (h60 : I64v id) (h61 : I64v n) :
    Calls Try.prog 5 #[.int .i64 id, .int .i64 n] w fun e w' => e = .returned (.bool true) ∧ Below w.heap.size w w' := by
  have hSp : ∀ (X : World), Calls Try.prog 32 #[.int .i64 id, .int .i64 n] X fun e w' => ∃ A', e = .returned (.tuple #[mbV A' ((newMb id n).1), .bool (newMb id n).2]) ∧ It w' (mbCels ((newMb id n).1)) (mbVals A' ((newMb id n).1)) X.heap.size w'.heap.size ∧ Below X.heap.size X w' := fun X => (nmbS_any id n X).mono (fun e w' h => h.it)
  have hIm : ∀ (X : World), Calls Try.prog 33 #[.int .i64 id, .int .i64 n] X fun e w' => ∃ A', e = .returned (.tuple #[mbV A' ((newMb id n).1), .bool (newMb id n).2]) ∧ It w' (mbCels ((newMb id n).1)) (mbVals A' ((newMb id n).1)) X.heap.size w'.heap.size ∧ Below X.heap.size X w' := fun X => (hI id n X h60 h61).mono (fun e w' h => h.it)
  obtain ⟨hfZ, hcZ, hrZ, hsZ⟩ := newMb_small id n
  generalize (newMb id n) = ZZ at *
  obtain ⟨Z, ok⟩ := ZZ
  simp only at *
  have hok : (ok != ok) = false := by cases ok <;> rfl
  obtain ⟨N, hN⟩ : ∃ N : Int, Hid (N = ((1 + cntMb Z : Nat) : Int)) := ⟨_, rfl⟩
  have hN0 : decide (N < 0) = false := by rw [hN.out]; simp; omega
  have hNN : (N != N) = false := by simp
  have hEz : ∀ (X : World) (A1 A2 : Ma) {l1 h1 l2 h2 : Nat}, It X (mbCels Z) (mbVals A1 Z) l1 h1 → It X (mbCels Z) (mbVals A2 Z) l2 h2 → Calls Try.prog 31 #[mbV A1 Z, mbV A2 Z] X fun e w' => e = .returned (.bool true) ∧ Below X.heap.size X w' := fun X A1 A2 l1 h1 l2 h2 i1 i2 => eqMb_any A1 A2 Z X (it_mbs i1 hfZ) (it_mbs i2 hfZ)
  have hMz : ∀ (X : World) (A1 : Ma) (lo hi : Nat), It X (mbCels Z) (mbVals A1 Z) lo hi → lo ≤ X.heap.size → hi ≤ X.heap.size → Calls Try.prog 34 #[mbV A1 Z, .int .i64 1] X fun e w' => e = .returned (.int .i64 N) ∧ It w' (mbCels (mkMb Z 1)) (mbVals A1 Z) lo w'.heap.size ∧ Wrt (Iv lo hi) X w' := fun X A1 lo hi i hlo hh => by rw [hN.out]; exact markMb_it A1 Z 1 lo hi X i hlo hh (by omega) (by omega) (by unfold maxLen; omega)
  have hHz : ∀ (X : World) (A1 : Ma) (lo hi : Nat), It X (mbCels (mkMb Z 1)) (mbVals A1 Z) lo hi → Calls Try.prog 35 #[mbV A1 Z, .int .i64 1] X fun e w' => e = .returned (.int .i64 N) ∧ Below X.heap.size X w' := fun X A1 lo hi i => by rw [hN.out]; exact heldMb_it A1 Z 1 lo hi X i (by omega) (by omega) (by unfold maxLen; omega)
  clear hI
  unfold mbV mbC at *
  have hb00 : Below w.heap.size w w := Below.refl _ _
  go_enter Try.func5, Try.ntmps5
  have hS2 := hSp 
  have hI2 := hIm 
  clear hSp hIm
  go_wp2_with fail
  refine (hS2 w).mono ?_
  rintro e ws ⟨Av, rfl, iv, hbv⟩
  have B1 : Below w.heap.size w ws := hb00.trans (hbv.mono hb00.size)
  have sB1 : w.heap.size ≤ ws.heap.size := hbv.size
  clear hb00
  have b3 := oneA16 ws (.cells #[.int .i64 Z.id, .int .i64 Z.n, .slice Av.ra Z.rows.length Av.rc, .slice Av.sa Z.sung.length Av.sc, .bool Z.done] 40)
  have h4 := Bx.new ws 40 #[.int .i64 Z.id, .int .i64 Z.n, .slice Av.ra Z.rows.length Av.rc, .slice Av.sa Z.sung.length Av.sc, .bool Z.done]
  generalize hX2 : ws.alloc (.cells #[.int .i64 Z.id, .int .i64 Z.n, .slice Av.ra Z.rows.length Av.rc, .slice Av.sa Z.sung.length Av.sc, .bool Z.done] 40) = X2 at *
  have B6 : Below w.heap.size w X2 := B1.trans (b3.mono B1.size)
  have sB6 : ws.heap.size ≤ X2.heap.size := b3.size
  have h7 := iv.below b3
  clear B1 iv
  have k5 : ws.heap.size < X2.heap.size := h4.lt
  clear b3
  go_wp2_with fail
  refine (hI2 X2).mono ?_
  rintro e wi ⟨Ag, rfl, ig, hbg⟩
  have B8 : Below w.heap.size w wi := B6.trans (hbg.mono B6.size)
  have sB8 : X2.heap.size ≤ wi.heap.size := hbg.size
  have h9 := h7.below hbg
  have h10 := h4.below hbg
  clear B6 h7 h4
  have b12 := oneA16 wi (.cells #[.int .i64 Z.id, .int .i64 Z.n, .slice Ag.ra Z.rows.length Ag.rc, .slice Ag.sa Z.sung.length Ag.sc, .bool Z.done] 40)
  have h13 := Bx.new wi 40 #[.int .i64 Z.id, .int .i64 Z.n, .slice Ag.ra Z.rows.length Ag.rc, .slice Ag.sa Z.sung.length Ag.sc, .bool Z.done]
  generalize hX11 : wi.alloc (.cells #[.int .i64 Z.id, .int .i64 Z.n, .slice Ag.ra Z.rows.length Ag.rc, .slice Ag.sa Z.sung.length Ag.sc, .bool Z.done] 40) = X11 at *
  have B15 : Below w.heap.size w X11 := B8.trans (b12.mono B8.size)
  have sB15 : wi.heap.size ≤ X11.heap.size := b12.size
  have h16 := h9.below b12
  have h17 := h10.below b12
  have h18 := ig.below b12
  clear B8 h9 h10 ig
  have k14 : wi.heap.size < X11.heap.size := h13.lt
  clear b12
  obtain ⟨c190, c191, c192, c193, c194⟩ := Bx.r5 h13
  obtain ⟨c200, c201, c202, c203, c204⟩ := Bx.r5 h17
  go_wp2_with fail
  refine (hEz X11 _ _ h18 h16).mono ?_
  rintro e we ⟨rfl, hbwe⟩
  clear c190 c191 c192 c193 c194 c200 c201 c202 c203 c204
  have B21 : Below w.heap.size w we := B15.trans (hbwe.mono B15.size)
  have sB21 : X11.heap.size ≤ we.heap.size := hbwe.size
  have h22 := h16.below hbwe
  have h23 := h17.below hbwe
  have h24 := h18.below hbwe
  have h25 := h13.below hbwe
  clear B15 h16 h17 h18 h13
  obtain ⟨c260, c261, c262, c263, c264⟩ := Bx.r5 h25
  go_wp2_with fail
  refine (hMz we _ _ _ h24 (by omega) (by omega)).mono ?_
  rintro e wm ⟨rfl, im, hwm⟩
  clear c260 c261 c262 c263 c264
  have sB27 : we.heap.size ≤ wm.heap.size := hwm.size
  have B27 : Below w.heap.size w wm := below_iv hwm B21 B21.size (by omega)
  have h28 := h22.far hwm (by omega)
  have h29 := h23.iv hwm (by omega)
  have h30 := h25.iv hwm (by omega)
  clear B21 h22 h23 h24 h25
  obtain ⟨c310, c311, c312, c313, c314⟩ := Bx.r5 h30
  go_wp2_with fail
  refine (hHz wm _ _ _ im).mono ?_
  rintro e wh ⟨rfl, hbh⟩
  clear c310 c311 c312 c313 c314
  have B32 : Below w.heap.size w wh := B27.trans (hbh.mono B27.size)
  have sB32 : wm.heap.size ≤ wh.heap.size := hbh.size
  have h33 := h28.below hbh
  have h34 := h29.below hbh
  have h35 := im.below hbh
  have h36 := h30.below hbh
  clear B27 h28 h29 im h30
  go_wp2_with fail
  refine (hI2 wh).mono ?_
  rintro e wj ⟨Ah, rfl, ih, hbh⟩
  have B37 : Below w.heap.size w wj := B32.trans (hbh.mono B32.size)
  have sB37 : wh.heap.size ≤ wj.heap.size := hbh.size
  have h38 := h33.below hbh
  have h39 := h34.below hbh
  have h40 := h35.below hbh
  have h41 := h36.below hbh
  clear B32 h33 h34 h35 h36
  have b43 := oneA16 wj (.cells #[.int .i64 Z.id, .int .i64 Z.n, .slice Ah.ra Z.rows.length Ah.rc, .slice Ah.sa Z.sung.length Ah.sc, .bool Z.done] 40)
  have h44 := Bx.new wj 40 #[.int .i64 Z.id, .int .i64 Z.n, .slice Ah.ra Z.rows.length Ah.rc, .slice Ah.sa Z.sung.length Ah.sc, .bool Z.done]
  generalize hX42 : wj.alloc (.cells #[.int .i64 Z.id, .int .i64 Z.n, .slice Ah.ra Z.rows.length Ah.rc, .slice Ah.sa Z.sung.length Ah.sc, .bool Z.done] 40) = X42 at *
  have B46 : Below w.heap.size w X42 := B37.trans (b43.mono B37.size)
  have sB46 : wj.heap.size ≤ X42.heap.size := b43.size
  have h47 := h38.below b43
  have h48 := h39.below b43
  have h49 := h40.below b43
  have h50 := h41.below b43
  have h51 := ih.below b43
  clear B37 h38 h39 h40 h41 ih
  have k45 : wj.heap.size < X42.heap.size := h44.lt
  clear b43
  obtain ⟨c520, c521, c522, c523, c524⟩ := Bx.r5 h44
  obtain ⟨c530, c531, c532, c533, c534⟩ := Bx.r5 h48
  go_wp2_with fail
  refine (hEz X42 _ _ h51 h47).mono ?_
  rintro e wk ⟨rfl, hbwk⟩
  clear c520 c521 c522 c523 c524 c530 c531 c532 c533 c534
  have B54 : Below w.heap.size w wk := B46.trans (hbwk.mono B46.size)
  have sB54 : X42.heap.size ≤ wk.heap.size := hbwk.size
  have h55 := h47.below hbwk
  have h56 := h48.below hbwk
  have h57 := h49.below hbwk
  have h58 := h50.below hbwk
  have h59 := h51.below hbwk
  have h60 := h44.below hbwk
  clear B46 h47 h48 h49 h50 h51 h44
  obtain ⟨c610, c611, c612, c613, c614⟩ := Bx.r5 h58
  go_wp2_with fail
  refine (hHz wk _ _ _ h57).mono ?_
  rintro e wl ⟨rfl, hbl⟩
  clear c610 c611 c612 c613 c614
  have B62 : Below w.heap.size w wl := B54.trans (hbl.mono B54.size)
  have sB62 : wk.heap.size ≤ wl.heap.size := hbl.size
  have h63 := h55.below hbl
  have h64 := h56.below hbl
  have h65 := h57.below hbl
  have h66 := h58.below hbl
  have h67 := h59.below hbl
  have h68 := h60.below hbl
  clear B54 h55 h56 h57 h58 h59 h60
  go_wp2
  go_ret
  exact ⟨rfl, B62⟩
end Go.Proofs.Ytgfeabgmllkdeaa

/-
  Giving up: the program's want and isAsTold.
-/
namespace Go.Proofs.Ytgfeabgmllkdeaa
set_option linter.unusedVariables false
set_option linter.unusedSimpArgs false
open Go.RowKit Go.Sort

/-- A function gave up. -/
def Gu (e : Ending) : Prop := ∃ T v, e = .panicked [{ v := .iface T v, recovered := false }]
set_option maxHeartbeats 400000 in
theorem wantT (w : World) : Calls Try.prog 104 #[.bool true] w fun e w' => e = .returned (.tuple #[]) ∧ w' = w := by
  have hnot : ∀ (x : Bool) (w : World), (Op.unary .not (.bool x)).run Try.prog w = .ok (.bool (!x)) w := fun _ _ => rfl
  go_enter Try.func104, Try.ntmps104
  go_wp2
  first | go_end0 | go_ret
  exact ⟨rfl, rfl⟩
set_option maxHeartbeats 400000 in
theorem wantF (w : World) : Calls Try.prog 104 #[.bool false] w fun e w' => Gu e ∧ w' = w := by
  go_enter Try.func104, Try.ntmps104
  go_wp2
  exact ⟨rfl, ⟨_, _, rfl⟩, rfl⟩
theorem tellP (p : Addr) (x : Value) (u : TypeId) (pv : Value) (older : List PanicEntry) (w : World) (hc : w.cell? p = some x) (hz : w.frozen? p = false) :
    CallsD Try.prog 103 #[.pointer (some p)] (.panicking ({ v := .iface u pv, recovered := false } :: older)) w fun e u' w' =>
      e = .returned (.tuple #[]) ∧ u' = .panicking ({ v := .iface u pv, recovered := true } :: older) ∧ w' = w.setCell p (.bool false) := by
  refine callsD_of_wpS Try.func103 rfl fun c₀ cs hu => ?_
  apply wpS_region
  simp [wpOpsS, go_sem, recoverD, hu, Try.ntmps103, hc, hz, bodyPostS, results, Try.results103]
theorem tellR (p : Addr) (x : Value) (w : World) (hc : w.cell? p = some x) (hz : w.frozen? p = false) :
    CallsD Try.prog 103 #[.pointer (some p)] .returning w fun e u' w' => e = .returned (.tuple #[]) ∧ u' = .returning ∧ w' = w.setCell p (.bool true) := by
  refine callsD_of_wpS Try.func103 rfl fun c₀ cs hu => ?_
  apply wpS_region
  simp [wpOpsS, go_sem, recoverD, hu, Try.ntmps103, hc, hz, bodyPostS, results, Try.results103]
  cases c₀
  simp_all
set_option maxRecDepth 100000 in
set_option maxHeartbeats 800000 in
/-- isAsTold, whatever work is handed over: whether it gave up. -/
theorem told_any (F : Nat) (C D : Array Value) (w : World) (Q : Bool → World → Prop) (hE : ∀ (args : Array Value) (w : World), (callFunc F args).run Try.prog w = .ok (.enter F args) w)
    (h : Calls Try.prog F (C ++ D) (w.alloc (.cells #[.bool false] 4)) fun e w' => (e = .returned (.tuple #[]) ∧ Q true w') ∨ (Gu e ∧ Q false w')) (hq : ∀ b w', Q b w' → Bx w' w.heap.size 4 #[.bool false]) :
    Calls Try.prog 75 #[.func (.func F) C D] w fun e w' => ∃ b X, e = .returned (.bool b) ∧ Q b X ∧ Wrt (fun x => x = w.heap.size) X w' := by
  have hmf : ∀ (fn : Fn) (first cap : Array Value) (w : World), (Instr.makeFunc fn first cap).run Try.prog w = .ok (.func fn first cap) w := fun _ _ _ _ => rfl
  have HQ : Hid (∀ b w', Q b w' → Bx w' w.heap.size 4 #[.bool false]) := hq
  clear hq
  go_enter_defers Try.func75, Try.ntmps75
  go_wp2_with fail
  refine h.mono ?_
  rintro e w1 (⟨rfl, hQ⟩ | ⟨⟨T, v, rfl⟩, hQ⟩)
  · have hx := HQ.out _ _ hQ
    have c0 := hx.at 0 (v := .bool false) rfl
    have f0 := hx.f 0
    have HQ1 : Hid (Q true w1) := hQ
    clear hQ h hx
    go_wp2
    refine leaves_cons (f := 103) (args := #[.pointer (some ⟨w.heap.size, 0, none⟩)]) (by simp) (by simp [go_sem]) ?_
    refine (tellR ⟨w.heap.size, 0, none⟩ (.bool true) _ (World.cell?_setCell_same _ _ _ c0) (by rw [World.frozen?_setCell]; exact f0)).mono ?_
    rintro e u' w'' ⟨rfl, rfl, rfl⟩
    have hc : ((w1.setCell ⟨w.heap.size, 0, none⟩ (.bool true)).setCell ⟨w.heap.size, 0, none⟩ (.bool true)).cell? ⟨w.heap.size, 0, none⟩ = some (.bool true) := World.cell?_setCell_same _ _ _ (World.cell?_setCell_same _ _ _ c0)
    have hW := (Wrt.set w1 w.heap.size 0 (.bool true)).trans (Wrt.set (w1.setCell ⟨w.heap.size, 0, none⟩ (.bool true)) w.heap.size 0 (.bool true)) (fun _ _ h => h)
    generalize (w1.setCell ⟨w.heap.size, 0, none⟩ (.bool true)).setCell ⟨w.heap.size, 0, none⟩ (.bool true) = W2 at *
    refine ⟨.bool true, by simp [results, Try.results75, go_sem, hc], true, w1, rfl, HQ1.out, hW⟩
  · have hx := HQ.out _ _ hQ
    have c0 := hx.at 0 (v := .bool false) rfl
    have f0 := hx.f 0
    have HQ1 : Hid (Q false w1) := hQ
    clear hQ h hx
    simp only
    refine leaves_cons (f := 103) (args := #[.pointer (some ⟨w.heap.size, 0, none⟩)]) (by simp) (by simp [go_sem]) ?_
    refine (tellP ⟨w.heap.size, 0, none⟩ (.bool false) T v [] _ c0 f0).mono ?_
    rintro e u' w'' ⟨rfl, rfl, rfl⟩
    have hc : (w1.setCell ⟨w.heap.size, 0, none⟩ (.bool false)).cell? ⟨w.heap.size, 0, none⟩ = some (.bool false) := World.cell?_setCell_same _ _ _ c0
    have hW := Wrt.set w1 w.heap.size 0 (.bool false)
    generalize w1.setCell ⟨w.heap.size, 0, none⟩ (.bool false) = W2 at *
    refine ⟨.bool false, by simp [results, Try.results75, go_sem, hc], false, w1, rfl, HQ1.out, hW⟩
end Go.Proofs.Ytgfeabgmllkdeaa

/-
  The program's isWithin, risesWithin, slices.Index and slices.Contains; ViewOk, Leader, Rank and Majority of views.
-/
namespace Go.Proofs.Ytgfeabgmllkdeaa
set_option linter.unusedVariables false
set_option linter.unusedSimpArgs false
open Go.RowKit Go.Sort

set_option maxHeartbeats 400000 in
theorem isW14_any (n last : Int) (w : World) : Calls Try.prog 106 #[.int .i64 n, .int .i64 last] w fun e w' => e = .returned (.bool (inB n 0 last)) ∧ w' = w := by
  by_cases h0 : (0 : Int) ≤ n
  · have H : Hid (inB n 0 last = decide (n ≤ last)) := by rw [Hid, inB]; simp [h0]
    go_enter Try.func106, Try.ntmps106
    go_wp2
    go_ret
    exact ⟨ret_bool (by rw [H.out]), rfl⟩
  · have H : Hid (inB n 0 last = false) := by rw [Hid, inB]; simp [h0]
    go_enter Try.func106, Try.ntmps106
    go_wp2
    go_ret
    exact ⟨ret_bool (by rw [H.out]), rfl⟩
set_option maxHeartbeats 800000 in
theorem rw14_any (a : Option Addr) (len cap : Nat) (B : Int) (xs : List Int) (w : World) (hv : Vec w a len xs) (hm : len ≤ maxLen) :
    Calls Try.prog 109 #[.slice a len cap, .int .i64 (B - 1)] w fun e w' => e = .returned (.bool (decide (okRow B xs))) ∧ w' = w := by
  unfold maxLen at hm
  have HL : Hid (xs.length = len) := hv.1
  have hc := hv.2.2
  clear hv
  go_enter Try.func109, Try.ntmps109
  go_wp2
  go_loop [9] (fun i => ∃ k : Nat, k ≤ len ∧ i = .int .i64 k ∧ (∀ j, j < k → 0 ≤ el xs j ∧ el xs j ≤ B - 1) ∧ ∀ j, j + 1 < k → el xs j < el xs (j + 1)) (fun i => len - (intOf i).toNat)
  case atStart => exact ⟨0, Nat.zero_le _, rfl, fun j hj => by omega, fun j hj => by omega⟩
  case round =>
    obtain ⟨k, hk, rfl, hin, hri⟩ := hrel
    have HI : Hid (∀ j, j < k → 0 ≤ el xs j ∧ el xs j ≤ B - 1) := hin
    have HR : Hid (∀ j, j + 1 < k → el xs j < el xs (j + 1)) := hri
    clear hin hri
    by_cases hlt : k < len
    · rcases hc with h0 | ⟨b, off, rfl, hc⟩
      · omega
      have hck := hc k hlt
      have k0 : (0 : Int) ≤ (k : Int) := by omega
      have k1 : (k : Int) < (len : Int) := by omega
      cases e4 : inB (el xs k) 0 (B - 1) with
      | false =>
        have HF : Hid (decide (okRow B xs) = false) := decide_eq_false (fun h => by
          have := h.1 k (by rw [HL.out]; exact hlt)
          rw [inB7.2 this] at e4
          cases e4)
        go_wp2_with (go_at_call 106; refine (isW14_any _ _ _).mono ?_; rintro e w' ⟨rfl, hw'⟩; rw [hw']; clear hw')
        go_ret
        exact ⟨ret_bool (by rw [HF.out]), rfl⟩
      | true =>
        have HX : Hid (0 ≤ el xs k ∧ el xs k ≤ B - 1) := inB7.1 e4
        by_cases hk0 : 0 < k
        · obtain ⟨q, rfl⟩ : ∃ q, k = q + 1 := ⟨k - 1, by omega⟩
          have hcq := hc q (by omega)
          have hg : decide (((q + 1 : Nat) : Int) > 0) = true := decide_eq_true (by omega)
          have g0 : (0 : Int) < ((q + 1 : Nat) : Int) := by omega
          have hq : wrap64 (((q + 1 : Nat) : Int) - 1) = (q : Int) := by unfold wrap64; omega
          have q0 : (0 : Int) ≤ (q : Int) := by omega
          have q1 : (q : Int) < (len : Int) := by omega
          by_cases hx : el xs q < el xs (q + 1)
          · have hd : decide (el xs (q + 1) ≤ el xs q) = false := by simp; omega
            have HY : Hid (el xs q < el xs (q + 1)) := hx
            clear hx
            go_wp2_with (go_at_call 106; refine (isW14_any _ _ _).mono ?_; rintro e w' ⟨rfl, hw'⟩; rw [hw']; clear hw')
            go_round
            case rel => exact ⟨q + 1 + 1, by omega, by go_num, fun j hj => by
              rcases Nat.lt_succ_iff_lt_or_eq.1 hj with h | h
              · exact HI.out j h
              · rw [h]; exact HX.out, fun j hj => by
              rcases Nat.lt_succ_iff_lt_or_eq.1 hj with h | h
              · exact HR.out j h
              · have : j = q := by omega
                rw [this]; exact HY.out⟩
            case measure => simp [intOf]; omega
          · have hd : decide (el xs (q + 1) ≤ el xs q) = true := by simp; omega
            have HF : Hid (decide (okRow B xs) = false) := decide_eq_false (fun h => hx (h.2 q (by rw [HL.out]; omega)))
            clear hx
            go_wp2_with (go_at_call 106; refine (isW14_any _ _ _).mono ?_; rintro e w' ⟨rfl, hw'⟩; rw [hw']; clear hw')
            go_ret
            exact ⟨ret_bool (by rw [HF.out]), rfl⟩
        · obtain rfl : k = 0 := by omega
          rw [Nat.add_zero] at hck
          go_wp2_with (go_at_call 106; refine (isW14_any _ _ _).mono ?_; rintro e w' ⟨rfl, hw'⟩; rw [hw']; clear hw')
          go_round
          case rel => exact ⟨1, by omega, by go_num, fun j hj => by
            obtain rfl : j = 0 := by omega
            exact HX.out, fun j hj => by omega⟩
          case measure => simp [intOf]; omega
    · have hkl : k = len := by omega
      have HF : Hid (decide (okRow B xs) = true) := decide_eq_true ⟨fun j hj => HI.out j (by rw [HL.out] at hj; omega), fun j hj => HR.out j (by rw [HL.out] at hj; omega)⟩
      subst hkl
      clear hc
      go_wp2
      go_ret
      exact ⟨ret_bool (by rw [HF.out]), rfl⟩


/-- The first place of x among these, or -1. -/
def IsIdx (xs : List Int) (x z : Int) : Prop := (∃ k : Nat, k < xs.length ∧ z = (k : Int) ∧ el xs k = x ∧ ∀ j, j < k → el xs j ≠ x) ∨ (z = -1 ∧ ∀ j, j < xs.length → el xs j ≠ x)
theorem IsIdx.mem {xs : List Int} {x z : Int} (h : IsIdx xs x z) : decide (0 ≤ z) = decide (x ∈ xs) := by
  rcases h with ⟨k, hk, rfl, rfl, _⟩ | ⟨rfl, h⟩
  · rw [decide_eq_true (el_in hk), decide_eq_true (by omega)]
  · rw [decide_eq_false (by omega), decide_eq_false (fun hx => by obtain ⟨i, hi, e⟩ := el_of hx; exact h i hi e)]
set_option maxHeartbeats 800000 in
theorem idx14_any (a : Option Addr) (cap : Nat) (xs : List Int) (x : Int) (w : World) (hv : Vec w a xs.length xs) (hm : xs.length ≤ maxLen) :
    Calls Try.prog 125 #[.slice a xs.length cap, .int .i64 x] w fun e w' => (∃ z : Int, e = .returned (.int .i64 z) ∧ IsIdx xs x z) ∧ w' = w := by
  unfold maxLen at hm
  have hc := hv.2.2
  clear hv
  go_enter Try.func125, Try.ntmps125
  go_wp2
  go_loop [8] (fun i => ∃ k : Nat, k ≤ xs.length ∧ i = .int .i64 k ∧ ∀ j, j < k → el xs j ≠ x) (fun i => xs.length - (intOf i).toNat)
  case atStart => exact ⟨0, Nat.zero_le _, rfl, fun j hj => by omega⟩
  case round =>
    obtain ⟨k, hk, rfl, hall⟩ := hrel
    have HA : Hid (∀ j, j < k → el xs j ≠ x) := hall
    clear hall
    by_cases hlt : k < xs.length
    · rcases hc with h0 | ⟨b, off, rfl, hc⟩
      · omega
      have hck := hc k hlt
      clear hc
      have k0 : (0 : Int) ≤ (k : Int) := by omega
      have k1 : (k : Int) < (xs.length : Int) := by omega
      by_cases hx : el xs k = x
      · have HX : Hid (IsIdx xs x (k : Int)) := .inl ⟨k, hlt, rfl, hx, HA.out⟩
        have hq : (x == el xs k) = true := by simp [hx]
        clear hx
        generalize el xs k = E at *
        go_wp2
        go_ret
        exact ⟨⟨_, rfl, HX.out⟩, rfl⟩
      · have HX : Hid (∀ j, j < k + 1 → el xs j ≠ x) := fun j hj => by
          by_cases e : j = k
          · rw [e]; exact hx
          · exact HA.out j (by omega)
        have hq : (x == el xs k) = false := by simp [Ne.symm hx]
        clear hx
        generalize el xs k = E at *
        go_wp2
        go_round
        case rel => exact ⟨k + 1, by omega, by go_num, HX.out⟩
        case measure => simp [intOf]; omega
    · have k1 : ¬ ((k : Int) < (xs.length : Int)) := by omega
      obtain rfl : k = xs.length := by omega
      clear hc
      go_wp2
      go_ret
      exact ⟨⟨_, rfl, .inr ⟨rfl, HA.out⟩⟩, rfl⟩
set_option maxHeartbeats 400000 in
theorem con14_any (a : Option Addr) (cap : Nat) (xs : List Int) (x : Int) (w : World) (hv : Vec w a xs.length xs) (hm : xs.length ≤ maxLen) :
    Calls Try.prog 108 #[.slice a xs.length cap, .int .i64 x] w fun e w' => e = .returned (.bool (decide (x ∈ xs))) ∧ w' = w := by
  have hI := idx14_any a cap xs x w hv hm
  clear hv
  go_enter Try.func108, Try.ntmps108
  go_wp2_with (go_at_call 125; refine hI.mono ?_; rintro e w' ⟨⟨z, rfl, hz⟩, hw'⟩; rw [hw']; clear hw'; have HZ : Hid (IsIdx xs x z) := hz; clear hz)
  go_ret
  exact ⟨ret_bool (by rw [← HZ.out.mem]), rfl⟩
end Go.Proofs.Ytgfeabgmllkdeaa

/-
  The program's parts of a right row: isRowLength, areRowTexts, areRowCounts, risesWithin; slices.Equal of texts, beginWith, areAmong.
-/
namespace Go.Proofs.Ytgfeabgmllkdeaa
set_option linter.unusedVariables false
set_option linter.unusedSimpArgs false
open Go.RowKit Go.Sort

set_option maxHeartbeats 400000 in
theorem isRl_any (n : Int) (w : World) : Calls Try.prog 105 #[.int .i64 n] w fun e w' => e = .returned (.bool (inB n 1 5)) ∧ w' = w := by
  by_cases h0 : (1 : Int) ≤ n
  · have H : Hid (inB n 1 5 = decide (n ≤ 5)) := by rw [Hid, inB]; simp [h0]
    go_enter Try.func105, Try.ntmps105
    go_wp2
    go_ret
    exact ⟨ret_bool (by rw [H.out]), rfl⟩
  · have H : Hid (inB n 1 5 = false) := by rw [Hid, inB]; simp [h0]
    go_enter Try.func105, Try.ntmps105
    go_wp2
    go_ret
    exact ⟨ret_bool (by rw [H.out]), rfl⟩
/-- Texts of a row: not too many, none too long. -/
def txB (T : List (List UInt8)) : Bool := decide (T.length ≤ 12) && T.all (fun t => decide (t.length ≤ 20))
theorem txB_long {T : List (List UInt8)} {k : Nat} (hk : k < T.length) (h : ¬ (T.getD k []).length ≤ 20) : txB T = false := by
  have : T.all (fun t => decide (t.length ≤ 20)) = false := by
    rw [List.all_eq_false]
    refine ⟨T[k], List.getElem_mem hk, ?_⟩
    rw [List.getD_eq_getElem?_getD, List.getElem?_eq_getElem hk] at h
    simpa using h
  rw [txB, this]
  simp
theorem txB_all {T : List (List UInt8)} (h0 : T.length ≤ 12) (h : ∀ k, k < T.length → (T.getD k []).length ≤ 20) : txB T = true := by
  have : T.all (fun t => decide (t.length ≤ 20)) = true := by
    rw [List.all_eq_true]
    intro t ht
    obtain ⟨j, hj, rfl⟩ := List.mem_iff_getElem.1 ht
    have := h j hj
    rw [List.getD_eq_getElem?_getD, List.getElem?_eq_getElem hj] at this
    simpa using this
  rw [txB, decide_eq_true h0, this]
  rfl
attribute [local irreducible] sv
set_option maxHeartbeats 800000 in
theorem areTx_any (a : Option Addr) (cap : Nat) (T : List (List UInt8)) (w : World) (hv : TxS w a T) (hm : T.length ≤ maxLen) :
    Calls Try.prog 129 #[.slice a T.length cap] w fun e w' => e = .returned (.bool (txB T)) ∧ w' = w := by
  unfold maxLen at hm
  by_cases h12 : T.length ≤ 12
  · have g12 : ¬ ((12 : Int) < (T.length : Int)) := by omega
    have H12 : Hid (T.length ≤ 12) := h12
    have HV : Hid (TxS w a T) := hv
    clear hv h12
    go_enter Try.func129, Try.ntmps129
    go_wp2
    go_loop [10] (fun i => ∃ k : Nat, k ≤ T.length ∧ i = .int .i64 k ∧ ∀ j, j < k → (T.getD j []).length ≤ 20) (fun i => T.length - (intOf i).toNat)
    case atStart => exact ⟨0, Nat.zero_le _, rfl, fun j hj => by omega⟩
    case round =>
      obtain ⟨k, hk, rfl, hall⟩ := hrel
      have HA : Hid (∀ j, j < k → (T.getD j []).length ≤ 20) := hall
      clear hall
      by_cases hlt : k < T.length
      · rcases HV.out with h0 | ⟨b, off, rfl, hc⟩
        · omega
        have hck := hc k hlt
        have k1 : (k : Int) < (T.length : Int) := by omega
        have k0 : (0 : Int) ≤ (k : Int) := by omega
        clear hc
        by_cases h20 : (T.getD k []).length ≤ 20
        · have g20 : ¬ ((20 : Int) < ((T.getD k []).length : Int)) := by omega
          have HN : Hid (∀ j, j < k + 1 → (T.getD j []).length ≤ 20) := fun j hj => by
            rcases Nat.lt_succ_iff_lt_or_eq.1 hj with h1 | h1
            · exact HA.out j h1
            · rw [h1]; exact h20
          generalize T.getD k [] = t at *
          have hz : (sv t).size = t.length := sv_size t
          clear h20
          go_wp2
          go_round
          case rel => exact ⟨k + 1, by omega, by go_num, HN.out⟩
          case measure => simp [intOf]; omega
        · have g20 : (20 : Int) < ((T.getD k []).length : Int) := by omega
          have HZ : Hid (txB T = false) := txB_long (k := k) hlt h20
          generalize T.getD k [] = t at *
          have hz : (sv t).size = t.length := sv_size t
          clear h20
          go_wp2
          go_ret
          exact ⟨ret_bool (by rw [HZ.out]), rfl⟩
      · have k1 : ¬ ((k : Int) < (T.length : Int)) := by omega
        have HZ : Hid (txB T = true) := txB_all H12.out (fun j hj => HA.out j (by omega))
        go_wp2
        go_ret
        exact ⟨ret_bool (by rw [HZ.out]), rfl⟩
  · have g12 : (12 : Int) < (T.length : Int) := by omega
    have HZ : Hid (txB T = false) := by rw [Hid, txB, decide_eq_false h12]; rfl
    clear hv h12
    go_enter Try.func129, Try.ntmps129
    go_wp2
    go_ret
    exact ⟨ret_bool (by rw [HZ.out]), rfl⟩
theorem hi16 {x m : Int} : ∀ {xs : List Int}, hiL x xs ≤ m ↔ x ≤ m ∧ ∀ y ∈ xs, y ≤ m := by
  intro xs
  induction xs generalizing x with
  | nil => simp [hiL]
  | cons y ys ih =>
    show hiL (max x y) ys ≤ m ↔ _
    rw [ih]
    simp only [List.mem_cons]
    constructor
    · rintro ⟨h1, h2⟩
      exact ⟨by omega, fun z hz => by rcases hz with rfl | hz; omega; exact h2 z hz⟩
    · rintro ⟨h1, h2⟩
      exact ⟨by have := h2 y (.inl rfl); omega, fun z hz => h2 z (.inr hz)⟩
theorem sm_gr {v : List Int} {n : Int} (h1 : (v.length : Int) = n) (h2 : okB v = true) : smB v n = decide (hiL (el v 0) v.tail ≤ 12) := by
  have hl := (okB_len h2).1
  rw [smB, h2, decide_eq_true h1, Bool.true_and, Bool.true_and, Bool.eq_iff_iff, decide_eq_true_eq, hi16, List.all_eq_true]
  cases v with
  | nil => simp at hl
  | cons x xs =>
    simp only [decide_eq_true_eq, List.mem_cons, List.tail_cons]
    constructor
    · intro h
      exact ⟨h _ (.inl rfl), fun y hy => h y (.inr hy)⟩
    · rintro ⟨h, h'⟩ y hy
      rcases hy with rfl | hy
      · exact h
      · exact h' y hy
set_option maxRecDepth 100000 in
set_option maxHeartbeats 800000 in
theorem areCt_any (a : Option Addr) (cap : Nat) (v : List Int) (n : Int) (w : World) (hv : Vec w a v.length v) (hcap : v.length ≤ cap) (hm : cap ≤ maxLen) :
    Calls Try.prog 130 #[.slice a v.length cap, .int .i64 n] w fun e w' => e = .returned (.bool (smB v n)) ∧ ∃ m, w' = w.drewN m := by
  have hV := vok_any a v.length cap v w hv hcap hm
  have hml : v.length ≤ maxLen := Nat.le_trans hcap hm
  unfold maxLen at hml
  by_cases hl : (v.length : Int) = n
  · have e1 : ((v.length : Int) == n) = true := by simpa using hl
    cases hb : okB v with
    | false =>
      rw [hb] at hV
      have HZ : Hid (smB v n = false) := by rw [Hid, smB, hb]; rfl
      clear hb hl hv
      go_enter Try.func130, Try.ntmps130
      go_wp2_with (go_at_call 65; refine hV.mono ?_; rintro e w' ⟨rfl, n1, rfl⟩)
      go_ret
      exact ⟨ret_bool (by rw [HZ.out]), _, rfl⟩
    | true =>
      rw [hb] at hV
      have HZ : Hid (smB v n = decide (hiL (el v 0) v.tail ≤ 12)) := sm_gr hl hb
      have h18 := okB_len hb
      clear hb hl
      obtain ⟨_, hf, hcs⟩ := hv
      have hG : Hid (∀ n, Calls Try.prog 100 #[.slice a v.length cap] (w.drewN n) fun e w' => e = .returned (.int .i64 (hiL (el v 0) v.tail)) ∧ ∃ m, w' = (w.drewN n).drewN m) := by
        intro n
        rcases hcs with h0 | ⟨b, off, rfl, hc⟩
        · omega
        · exact vgreatest_any b off v.length cap v _ rfl hf (fun k hk => by rw [World.cell?_drewN]; exact hc k hk) (by omega) hcap hm
      clear hcs hf h18
      generalize hiL (el v 0) v.tail = G at *
      go_enter Try.func130, Try.ntmps130
      go_wp2_with (first | (go_at_call 65; refine hV.mono ?_; rintro e w' ⟨rfl, n1, rfl⟩) | (go_at_call 100; refine (hG.out _).mono ?_; rintro e w' ⟨rfl, n2, rfl⟩))
      go_ret
      exact ⟨ret_bool (by rw [HZ.out]), _, rfl⟩
  · have e1 : ((v.length : Int) == n) = false := by simpa using hl
    have HZ : Hid (smB v n = false) := by rw [Hid, smB, decide_eq_false hl]; simp
    clear hl hv hV
    go_enter Try.func130, Try.ntmps130
    go_wp2
    go_ret
    exact ⟨ret_bool (by rw [HZ.out]), 0, rfl⟩
theorem sus_row (n : Int) (l : List Int) : decide (okRow n l) = susB l n := by
  rw [Bool.eq_iff_iff, decide_eq_true_eq, susB, Bool.and_eq_true, List.all_eq_true, okRow, risB, decide_eq_true_eq]
  constructor
  · rintro ⟨h1, h2⟩
    refine ⟨fun x hx => ?_, h2⟩
    obtain ⟨j, hj, rfl⟩ := List.mem_iff_getElem.1 hx
    have := h1 j hj
    rw [el_eq hj] at this
    exact inB7.2 this
  · rintro ⟨h1, h2⟩
    exact ⟨fun i hi => inB7.1 (h1 _ (el_mem hi)), h2⟩
end Go.Proofs.Ytgfeabgmllkdeaa

/-
  The program's standings of a row: flagged, endsRight, standingOf, RowOk; what each may become: grewTo, mayBecome, Follows; Later and NewRow.
-/
namespace Go.Proofs.Ytgfeabgmllkdeaa
set_option linter.unusedVariables false
set_option linter.unusedSimpArgs false
open Go.RowKit Go.Sort

/-- How far a row has come, as a value. -/
def stV (A : Ra) (r : Rw) : Value := if r.rdy then .iface 131 (rwV A r) else if r.wed then .iface 132 (rwV A r) else .iface 133 (rwV A r)
/-- What of the flags, By and Trim goes together. -/
def flB (r : Rw) : Bool := if r.rdy then r.wed else decide (r.by_ = 0) && decide (r.trm = [])
/-- What is asked where it has a trim. -/
def lsB (r : Rw) (n : Int) : Bool := !r.rdy || (inB r.by_ 0 (n - 1) && smB r.trm n)
theorem endB_fl (r : Rw) (n : Int) : endB r n = (flB r && lsB r n) := by
  unfold endB flB lsB
  cases r.rdy <;> simp
set_option maxRecDepth 100000 in
set_option maxHeartbeats 1600000 in
theorem flag_any (A : Ra) (r : Rw) (w : World) (hm : r.trm.length ≤ maxLen) :
    Calls Try.prog 131 #[rwV A r] w fun e w' => ∃ s, e = .returned (.tuple #[s, .bool (flB r)]) ∧ (flB r = true → s = stV A r) ∧ Below w.heap.size w w' := by
  have hB0 := oneA16 w (.cells (rwC A r) 55)
  have hx := Bx.new w 55 (rwC A r)
  generalize hW : w.alloc (.cells (rwC A r) 55) = W at *
  obtain ⟨ver, txt, got, sus, wed, rdy, by_, trm⟩ := r
  obtain ⟨ta, tc, ga, gc, sa, sc, ma, mc⟩ := A
  have hw0 : w.alloc (.cells #[.int .i64 ver, .slice ta txt.length tc, .slice ga got.length gc, .slice sa sus.length sc, .bool wed, .bool rdy, .int .i64 by_, .slice ma trm.length mc] 55) = W := hW
  obtain ⟨⟨c0, c1, c2, c3⟩, c4, c5, c6, c7⟩ := Bx.r8 hx
  simp only at c0 c1 c2 c3 c4 c5 c6 c7 hm
  have HB0 : Hid (Below w.heap.size w W) := hB0
  unfold maxLen at hm
  unfold rwV rwC
  clear hx hW hB0
  simp only
  cases rdy with
  | true =>
    have HZ : Hid (flB ⟨ver, txt, got, sus, wed, true, by_, trm⟩ = wed) := by rw [Hid, flB]; rfl
    go_enter Try.func131, Try.ntmps131
    go_wp2_with fail
    go_quiet (fail)
    go_wp2
    refine bodyPost_ret (v := .tuple #[.iface 131 (.agg #[.int .i64 ver, .slice ta txt.length tc, .slice ga got.length gc, .slice sa sus.length sc, .bool wed, .bool true, .int .i64 by_, .slice ma trm.length mc]), .bool wed]) (by simp [results, Try.results131, go_sem, *]) rfl ?_
    exact ⟨stV ⟨ta, tc, ga, gc, sa, sc, ma, mc⟩ ⟨ver, txt, got, sus, wed, true, by_, trm⟩, by rw [HZ.out]; rfl, fun _ => rfl, belowN HB0.out⟩
  | false =>
    by_cases hy : by_ = 0
    · have e1 : (by_ != 0) = false := by simpa using hy
      by_cases ht : trm = []
      · have g1 : ¬ ((0 : Int) < (trm.length : Int)) := by rw [ht]; simp
        have HZ : Hid (flB ⟨ver, txt, got, sus, wed, false, by_, trm⟩ = true) := by rw [Hid, flB]; simp [hy, ht]
        clear hy ht
        cases wed with
        | true =>
          go_enter Try.func131, Try.ntmps131
          go_wp2
          refine bodyPost_ret (v := .tuple #[.iface 132 (.agg #[.int .i64 ver, .slice ta txt.length tc, .slice ga got.length gc, .slice sa sus.length sc, .bool true, .bool false, .int .i64 by_, .slice ma trm.length mc]), .bool true]) (by simp [results, Try.results131, go_sem, *]) rfl ?_
          exact ⟨stV ⟨ta, tc, ga, gc, sa, sc, ma, mc⟩ ⟨ver, txt, got, sus, true, false, by_, trm⟩, by rw [HZ.out]; rfl, fun _ => rfl, HB0.out⟩
        | false =>
          go_enter Try.func131, Try.ntmps131
          go_wp2
          refine bodyPost_ret (v := .tuple #[.iface 133 (.agg #[.int .i64 ver, .slice ta txt.length tc, .slice ga got.length gc, .slice sa sus.length sc, .bool false, .bool false, .int .i64 by_, .slice ma trm.length mc]), .bool true]) (by simp [results, Try.results131, go_sem, *]) rfl ?_
          exact ⟨stV ⟨ta, tc, ga, gc, sa, sc, ma, mc⟩ ⟨ver, txt, got, sus, false, false, by_, trm⟩, by rw [HZ.out]; rfl, fun _ => rfl, HB0.out⟩
      · have g1 : (0 : Int) < (trm.length : Int) := by
          cases trm with
          | nil => exact absurd rfl ht
          | cons x xs => simp only [List.length_cons]; omega
        have HZ : Hid (flB ⟨ver, txt, got, sus, wed, false, by_, trm⟩ = false) := by rw [Hid, flB]; simp [ht]
        clear hy ht
        go_enter Try.func131, Try.ntmps131
        go_wp2
        refine bodyPost_ret (v := .tuple #[.nilIface, .bool false]) (by simp [results, Try.results131, go_sem, *]) rfl ?_
        exact ⟨.nilIface, by rw [HZ.out], fun h => (by rw [HZ.out] at h; cases h), HB0.out⟩
    · have e1 : (by_ != 0) = true := by simpa using hy
      have HZ : Hid (flB ⟨ver, txt, got, sus, wed, false, by_, trm⟩ = false) := by rw [Hid, flB]; simp [hy]
      clear hy
      go_enter Try.func131, Try.ntmps131
      go_wp2
      refine bodyPost_ret (v := .tuple #[.nilIface, .bool false]) (by simp [results, Try.results131, go_sem, *]) rfl ?_
      exact ⟨.nilIface, by rw [HZ.out], fun h => (by rw [HZ.out] at h; cases h), HB0.out⟩
theorem asE_any (v : Value) (w : World) : (Instr.typeAssert (.iface 131 v) 120 135 true).run Try.prog w = .ok (.tuple #[.iface 131 v, .bool true]) w := by kernel_rfl
theorem asW_any (v : Value) (w : World) : (Instr.typeAssert (.iface 132 v) 120 135 true).run Try.prog w = .ok (.tuple #[.nilIface, .bool false]) w := run_typeAssert_lacksB Try.underlying135 (by kernel_rfl) (by kernel_rfl) v 120 w
theorem asS_any (v : Value) (w : World) : (Instr.typeAssert (.iface 133 v) 120 135 true).run Try.prog w = .ok (.tuple #[.nilIface, .bool false]) w := run_typeAssert_lacksB Try.underlying135 (by kernel_rfl) (by kernel_rfl) v 120 w
theorem mtE_any (v : Value) (w : World) : (Go.method 262 131 v "loop.example/g00266/impl.end").run Try.prog w = .ok (161, v) w := by kernel_rfl
set_option maxRecDepth 100000 in
set_option maxHeartbeats 800000 in
theorem endI_any (A : Ra) (r : Rw) (w : World) :
    Calls Try.prog 161 #[rwV A r] w fun e w' => e = .returned (.tuple #[.int .i64 r.by_, .slice A.ma r.trm.length A.mc]) ∧ Below w.heap.size w w' := by
  have hB0 := oneA16 w (.cells (rwC A r) 131)
  have hx := Bx.new w 131 (rwC A r)
  generalize hW : w.alloc (.cells (rwC A r) 131) = W at *
  obtain ⟨ver, txt, got, sus, wed, rdy, by_, trm⟩ := r
  obtain ⟨ta, tc, ga, gc, sa, sc, ma, mc⟩ := A
  have hw0 : w.alloc (.cells #[.int .i64 ver, .slice ta txt.length tc, .slice ga got.length gc, .slice sa sus.length sc, .bool wed, .bool rdy, .int .i64 by_, .slice ma trm.length mc] 131) = W := hW
  obtain ⟨⟨c0, c1, c2, c3⟩, c4, c5, c6, c7⟩ := Bx.r8 hx
  simp only at c0 c1 c2 c3 c4 c5 c6 c7
  have HB0 : Hid (Below w.heap.size w W) := hB0
  unfold rwV rwC
  clear hx hW hB0
  simp only
  go_enter Try.func161, Try.ntmps161
  go_wp2_with fail
  go_quiet (fail)
  go_wp2
  refine bodyPost_ret (v := .tuple #[.int .i64 by_, .slice ma trm.length mc]) (by simp [results, Try.results161, go_sem, *]) rfl ?_
  exact ⟨rfl, belowN HB0.out⟩
set_option maxRecDepth 100000 in
set_option maxHeartbeats 1600000 in
theorem endR_any (A : Ra) (r : Rw) (n : Int) (w : World) (hv : RwP w A r) (hn : 1 ≤ n ∧ n ≤ 5) :
    Calls Try.prog 132 #[stV A r, .int .i64 n] w fun e w' => e = .returned (.bool (lsB r n)) ∧ Below w.heap.size w w' := by
  have hwn : wrap64 (n - 1) = n - 1 := by unfold wrap64; omega
  clear hn
  cases e1 : r.rdy with
  | false =>
    have HZ : Hid (lsB r n = true) := by rw [Hid, lsB, e1]; rfl
    unfold stV
    rw [e1]
    clear e1 hv
    cases e2 : r.wed with
    | false =>
      clear e2
      generalize rwV A r = v
      have ha := asS_any v
      simp only [Bool.false_eq_true, if_false]
      go_enter Try.func132, Try.ntmps132
      go_wp2
      go_ret
      exact ⟨ret_bool (by rw [HZ.out]), Below.refl _ _⟩
    | true =>
      clear e2
      generalize rwV A r = v
      have ha := asW_any v
      simp only [Bool.false_eq_true, if_false, if_true]
      go_enter Try.func132, Try.ntmps132
      go_wp2
      go_ret
      exact ⟨ret_bool (by rw [HZ.out]), Below.refl _ _⟩
  | true =>
    have hE := fun X => endI_any A r X
    have HC : Hid (∀ X, Below w.heap.size w X → Calls Try.prog 130 #[.slice A.ma r.trm.length A.mc, .int .i64 n] X fun e w' => e = .returned (.bool (smB r.trm n)) ∧ ∃ m, w' = X.drewN m) := fun X h => areCt_any A.ma A.mc r.trm n X (hv.below h).trm.vec hv.trm.le hv.trm.mx
    have HZ : Hid (lsB r n = (inB r.by_ 0 (n - 1) && smB r.trm n)) := by rw [Hid, lsB, e1]; rfl
    unfold stV
    rw [e1]
    clear e1 hv
    generalize rwV A r = v at *
    generalize r.by_ = Y at *
    generalize r.trm.length = L at *
    generalize smB r.trm n = Q at *
    obtain ⟨ta, tc, ga, gc, sa, sc, ma, mc⟩ := A
    simp only at hE HC
    have ha := asE_any v
    have hm := mtE_any v
    simp only [if_true]
    cases e2 : inB Y 0 (n - 1) with
    | false =>
      rw [e2] at HZ
      go_enter Try.func132, Try.ntmps132
      go_wp2_with (first | (go_at_call 161; refine (hE _).mono ?_; rintro e w1 ⟨rfl, hb1⟩) | (go_at_call 106; refine (isW14_any _ _ _).mono ?_; rintro e w' ⟨rfl, hw'⟩; rw [hw', e2]; clear hw'))
      go_ret
      exact ⟨ret_bool (by rw [HZ.out]; rfl), hb1⟩
    | true =>
      rw [e2] at HZ
      go_enter Try.func132, Try.ntmps132
      go_wp2_with (first | (go_at_call 161; refine (hE _).mono ?_; rintro e w1 ⟨rfl, hb1⟩) | (go_at_call 106; refine (isW14_any _ _ _).mono ?_; rintro e w' ⟨rfl, hw'⟩; rw [hw', e2]; clear hw') | (go_at_call 130; refine (HC.out _ hb1).mono ?_; rintro e w' ⟨rfl, m1, rfl⟩))
      go_ret
      exact ⟨ret_bool (by rw [HZ.out]; rfl), belowN hb1⟩
end Go.Proofs.Ytgfeabgmllkdeaa

/-
  The program's standingOf, RowOk; grewTo, mayBecome, Follows; Later and NewRow.
-/
namespace Go.Proofs.Ytgfeabgmllkdeaa
set_option linter.unusedVariables false
set_option linter.unusedSimpArgs false
open Go.RowKit Go.Sort

theorem okRw_tx {r : Rw} {n : Int} (h : txB r.txt = false) : okRw r n = false := by
  rw [txB, Bool.and_eq_false_iff] at h
  rw [okRw]
  rcases h with h | h <;> simp [h]
theorem okRw_ends {r : Rw} {n : Int} (h1 : inB n 1 5 = true) (h2 : inB r.ver 0 1000000 = true) (h3 : txB r.txt = true) (h4 : smB r.got n = true) (h5 : susB r.sus n = true) : okRw r n = (flB r && lsB r n) := by
  rw [txB, Bool.and_eq_true] at h3
  rw [← endB_fl, okRw, h1, h2, h3.1, h3.2, h4, h5]
  rfl
set_option maxRecDepth 100000 in
set_option maxHeartbeats 3200000 in
theorem stOf_any (A : Ra) (r : Rw) (n : Int) (w : World) (hv : RwP w A r) :
    Calls Try.prog 124 #[rwV A r, .int .i64 n] w fun e w' => ∃ s, e = .returned (.tuple #[s, .bool (okRw r n)]) ∧ (okRw r n = true → s = stV A r) ∧ Below w.heap.size w w' := by
  have hB0 := oneA16 w (.cells (rwC A r) 55)
  have hx := Bx.new w 55 (rwC A r)
  have h0 := hv.below hB0
  generalize hW : w.alloc (.cells (rwC A r) 55) = W at *
  have hS := h0.rws
  have hTx := areTx_any A.ta A.tc r.txt W h0.txt.txs hS.mt
  have hCt := areCt_any A.ga A.gc r.got n W h0.got.vec h0.got.le h0.got.mx
  have hSu : ∀ m, Calls Try.prog 109 #[.slice A.sa r.sus.length A.sc, .int .i64 (n - 1)] (W.drewN m) fun e w' => e = .returned (.bool (susB r.sus n)) ∧ w' = W.drewN m := fun m => by
    have := rw14_any A.sa r.sus.length A.sc n r.sus (W.drewN m) (h0.below (belowN (Below.refl _ _))).sus.vec hS.ms
    rw [sus_row] at this
    exact this
  have hFl := fun X => flag_any A r X hS.mm
  have hEn : ∀ X, Below W.heap.size W X → 1 ≤ n ∧ n ≤ 5 → Calls Try.prog 132 #[stV A r, .int .i64 n] X fun e w' => e = .returned (.bool (lsB r n)) ∧ Below X.heap.size X w' := fun X h hn => endR_any A r n X (h0.below h) hn
  have HZn : Hid (inB n 1 5 = false → okRw r n = false) := fun h => okRw_n h
  have HZv : Hid (inB r.ver 0 1000000 = false → okRw r n = false) := fun h => okRw_v h
  have HZt : Hid (txB r.txt = false → okRw r n = false) := fun h => okRw_tx h
  have HZg : Hid (smB r.got n = false → okRw r n = false) := fun h => okRw_g h
  have HZs : Hid (susB r.sus n = false → okRw r n = false) := fun h => okRw_s h
  have HZe : Hid (inB n 1 5 = true → inB r.ver 0 1000000 = true → txB r.txt = true → smB r.got n = true → susB r.sus n = true → okRw r n = (flB r && lsB r n)) := fun a b c d e => okRw_ends a b c d e
  have HB0 : Hid (Below w.heap.size w W) := hB0
  have HSt : Hid (∀ s : Value, s = stV A r → s = stV A r) := fun _ h => h
  generalize hq : okRw r n = Q at *
  clear hq
  generalize stV A r = V at *
  generalize flB r = fl at *
  generalize lsB r n = ls at *
  generalize txB r.txt = tb at *
  generalize smB r.got n = sg at *
  generalize susB r.sus n = sb at *
  obtain ⟨ver, txt, got, sus, wed, rdy, by_, trm⟩ := r
  obtain ⟨ta, tc, ga, gc, sa, sc, ma, mc⟩ := A
  have hw0 : w.alloc (.cells #[.int .i64 ver, .slice ta txt.length tc, .slice ga got.length gc, .slice sa sus.length sc, .bool wed, .bool rdy, .int .i64 by_, .slice ma trm.length mc] 55) = W := hW
  obtain ⟨⟨c0, c1, c2, c3⟩, c4, c5, c6, c7⟩ := Bx.r8 hx
  simp only [rwV, rwC] at c0 c1 c2 c3 c4 c5 c6 c7 hTx hCt hSu hFl HZv HZe
  unfold rwV rwC
  clear hv h0 hx hW hB0 hS
  simp only
  cases e1 : inB n 1 5 with
  | false =>
    have HZ : Hid (Q = false) := HZn.out e1
    go_enter Try.func124, Try.ntmps124
    go_wp2_with (first | (go_at_call 105; refine (isRl_any _ _).mono ?_; rintro e w' ⟨rfl, hw'⟩; rw [hw', e1]; clear hw'))
    refine bodyPost_ret (v := .tuple #[.nilIface, .bool false]) (by simp [results, Try.results124, go_sem, *]) rfl ?_
    exact ⟨.nilIface, by rw [HZ.out], fun h => (by rw [HZ.out] at h; cases h), HB0.out⟩
  | true =>
  have hn5 := inB7.1 e1
  have hwn : wrap64 (n - 1) = n - 1 := by unfold wrap64; omega
  have hEn2 := fun X h => hEn X h hn5
  have HN1 : Hid (inB n 1 5 = true) := e1
  have hRl : ∀ X, Calls Try.prog 105 #[.int .i64 n] X fun e w' => e = .returned (.bool true) ∧ w' = X := fun X => by
    have := isRl_any n X
    rw [e1] at this
    exact this
  clear e1 hEn hn5
  cases e2 : inB ver 0 1000000 with
  | false =>
    have HZ : Hid (Q = false) := HZv.out e2
    go_enter Try.func124, Try.ntmps124
    go_wp2_with (first | (go_at_call 105; refine (hRl _).mono ?_; rintro e w' ⟨rfl, hw'⟩; rw [hw']; clear hw') | (go_at_call 106; refine (isW14_any _ _ _).mono ?_; rintro e w' ⟨rfl, hw'⟩; rw [hw', e2]; clear hw'))
    refine bodyPost_ret (v := .tuple #[.nilIface, .bool false]) (by simp [results, Try.results124, go_sem, *]) rfl ?_
    exact ⟨.nilIface, by rw [HZ.out], fun h => (by rw [HZ.out] at h; cases h), HB0.out⟩
  | true =>
  have HN2 : Hid (inB ver 0 1000000 = true) := e2
  have hWi : ∀ X, Calls Try.prog 106 #[.int .i64 ver, .int .i64 1000000] X fun e w' => e = .returned (.bool true) ∧ w' = X := fun X => by
    have := isW14_any ver 1000000 X
    rw [e2] at this
    exact this
  clear e2
  cases tb with
  | false =>
    have HZ : Hid (Q = false) := HZt.out rfl
    go_enter Try.func124, Try.ntmps124
    go_wp2_with (first | (go_at_call 105; refine (hRl _).mono ?_; rintro e w' ⟨rfl, hw'⟩; rw [hw']; clear hw') | (go_at_call 106; refine (hWi _).mono ?_; rintro e w' ⟨rfl, hw'⟩; rw [hw']; clear hw') | (go_at_call 129; refine hTx.mono ?_; rintro e w' ⟨rfl, hw'⟩; rw [hw']; clear hw'))
    refine bodyPost_ret (v := .tuple #[.nilIface, .bool false]) (by simp [results, Try.results124, go_sem, *]) rfl ?_
    exact ⟨.nilIface, by rw [HZ.out], fun h => (by rw [HZ.out] at h; cases h), HB0.out⟩
  | true =>
  cases sg with
  | false =>
    have HZ : Hid (Q = false) := HZg.out rfl
    go_enter Try.func124, Try.ntmps124
    go_wp2_with (first | (go_at_call 105; refine (hRl _).mono ?_; rintro e w' ⟨rfl, hw'⟩; rw [hw']; clear hw') | (go_at_call 106; refine (hWi _).mono ?_; rintro e w' ⟨rfl, hw'⟩; rw [hw']; clear hw') | (go_at_call 129; refine hTx.mono ?_; rintro e w' ⟨rfl, hw'⟩; rw [hw']; clear hw') | (go_at_call 130; refine hCt.mono ?_; rintro e w' ⟨rfl, m1, rfl⟩))
    refine bodyPost_ret (v := .tuple #[.nilIface, .bool false]) (by simp [results, Try.results124, go_sem, *]) rfl ?_
    exact ⟨.nilIface, by rw [HZ.out], fun h => (by rw [HZ.out] at h; cases h), belowN HB0.out⟩
  | true =>
  cases sb with
  | false =>
    have HZ : Hid (Q = false) := HZs.out rfl
    go_enter Try.func124, Try.ntmps124
    go_wp2_with (first | (go_at_call 105; refine (hRl _).mono ?_; rintro e w' ⟨rfl, hw'⟩; rw [hw']; clear hw') | (go_at_call 106; refine (hWi _).mono ?_; rintro e w' ⟨rfl, hw'⟩; rw [hw']; clear hw') | (go_at_call 129; refine hTx.mono ?_; rintro e w' ⟨rfl, hw'⟩; rw [hw']; clear hw') | (go_at_call 130; refine hCt.mono ?_; rintro e w' ⟨rfl, m1, rfl⟩) | (go_at_call 109; refine (hSu _).mono ?_; rintro e w' ⟨rfl, hw'⟩; rw [hw']; clear hw'))
    refine bodyPost_ret (v := .tuple #[.nilIface, .bool false]) (by simp [results, Try.results124, go_sem, *]) rfl ?_
    exact ⟨.nilIface, by rw [HZ.out], fun h => (by rw [HZ.out] at h; cases h), belowN HB0.out⟩
  | true =>
  have HE : Hid (Q = (fl && ls)) := HZe.out HN1.out HN2.out rfl rfl rfl
  clear HZn HZv HZt HZg HZs HZe HN1 HN2
  cases fl with
  | false =>
    have HZ : Hid (Q = false) := by rw [Hid, HE.out]; rfl
    go_enter Try.func124, Try.ntmps124
    go_wp2_with (first | (go_at_call 105; refine (hRl _).mono ?_; rintro e w' ⟨rfl, hw'⟩; rw [hw']; clear hw') | (go_at_call 106; refine (hWi _).mono ?_; rintro e w' ⟨rfl, hw'⟩; rw [hw']; clear hw') | (go_at_call 129; refine hTx.mono ?_; rintro e w' ⟨rfl, hw'⟩; rw [hw']; clear hw') | (go_at_call 130; refine hCt.mono ?_; rintro e w' ⟨rfl, m1, rfl⟩) | (go_at_call 109; refine (hSu _).mono ?_; rintro e w' ⟨rfl, hw'⟩; rw [hw']; clear hw') | (go_at_call 131; refine (hFl _).mono ?_; rintro e w1 ⟨s1, rfl, hs1, hb1⟩; have HB1 : Hid (Below w.heap.size w w1) := ((belowN HB0.out).trans (hb1.mono (belowN HB0.out).size)); clear hb1 hs1))
    refine bodyPost_ret (v := .tuple #[s1, .bool false]) (by simp [results, Try.results124, go_sem, *]) rfl ?_
    exact ⟨s1, by rw [HZ.out], fun h => (by rw [HZ.out] at h; cases h), HB1.out⟩
  | true =>
    have HZ : Hid (Q = ls) := by rw [Hid, HE.out]; rfl
    have hF2 : ∀ X, Calls Try.prog 131 #[.agg #[.int .i64 ver, .slice ta txt.length tc, .slice ga got.length gc, .slice sa sus.length sc, .bool wed, .bool rdy, .int .i64 by_, .slice ma trm.length mc]] X fun e w' => e = .returned (.tuple #[V, .bool true]) ∧ Below X.heap.size X w' := fun X => (hFl X).mono (fun e w' ⟨s, h1, h2, h3⟩ => ⟨by rw [h1, h2 rfl], h3⟩)
    clear hFl
    have HRf : Hid (∀ m, Below W.heap.size W (W.drewN m)) := fun m => belowN (Below.refl _ _)
    go_enter Try.func124, Try.ntmps124
    go_wp2_with (first | (go_at_call 105; refine (hRl _).mono ?_; rintro e w' ⟨rfl, hw'⟩; rw [hw']; clear hw') | (go_at_call 106; refine (hWi _).mono ?_; rintro e w' ⟨rfl, hw'⟩; rw [hw']; clear hw') | (go_at_call 129; refine hTx.mono ?_; rintro e w' ⟨rfl, hw'⟩; rw [hw']; clear hw') | (go_at_call 130; refine hCt.mono ?_; rintro e w' ⟨rfl, m1, rfl⟩) | (go_at_call 109; refine (hSu _).mono ?_; rintro e w' ⟨rfl, hw'⟩; rw [hw']; clear hw') | (go_at_call 131; refine (hF2 _).mono ?_; rintro e w1 ⟨rfl, hb1⟩; have HB1 : Hid (Below w.heap.size w w1) := ((belowN HB0.out).trans (hb1.mono (belowN HB0.out).size)); have hE3 := hEn2 w1 ((HRf.out m1).trans (hb1.mono (HRf.out m1).size)); clear hb1) | (go_at_call 132; refine hE3.mono ?_; rintro e w2 ⟨rfl, hb2⟩; have HB2 : Hid (Below w.heap.size w w2) := (HB1.out.trans (hb2.mono HB1.out.size)); clear hb2))
    refine bodyPost_ret (v := .tuple #[V, .bool ls]) (by simp [results, Try.results124, go_sem, *]) rfl ?_
    exact ⟨V, by rw [HZ.out], fun _ => rfl, HB2.out⟩
set_option maxRecDepth 100000 in
set_option maxHeartbeats 800000 in
theorem rowI_any (A : Ra) (r : Rw) (n : Int) (w : World) (hv : RwP w A r) :
    Calls Try.prog 107 #[rwV A r, .int .i64 n] w fun e w' => e = .returned (.bool (okRw r n)) ∧ Below w.heap.size w w' := by
  have hB0 := oneA16 w (.cells (rwC A r) 55)
  have hx := Bx.new w 55 (rwC A r)
  have h0 := hv.below hB0
  generalize hW : w.alloc (.cells (rwC A r) 55) = W at *
  have hSt : Calls Try.prog 124 #[rwV A r, .int .i64 n] W fun e w' => ∃ s, e = .returned (.tuple #[s, .bool (okRw r n)]) ∧ Below W.heap.size W w' := (stOf_any A r n W h0).mono (fun e w' ⟨s, h1, _, h2⟩ => ⟨s, h1, h2⟩)
  have HB0 : Hid (Below w.heap.size w W) := hB0
  generalize okRw r n = Q at *
  obtain ⟨ver, txt, got, sus, wed, rdy, by_, trm⟩ := r
  obtain ⟨ta, tc, ga, gc, sa, sc, ma, mc⟩ := A
  have hw0 : w.alloc (.cells #[.int .i64 ver, .slice ta txt.length tc, .slice ga got.length gc, .slice sa sus.length sc, .bool wed, .bool rdy, .int .i64 by_, .slice ma trm.length mc] 55) = W := hW
  obtain ⟨⟨c0, c1, c2, c3⟩, c4, c5, c6, c7⟩ := Bx.r8 hx
  simp only [rwV, rwC] at c0 c1 c2 c3 c4 c5 c6 c7 hSt
  unfold rwV rwC
  clear hv h0 hx hW hB0
  simp only
  go_enter Try.func107, Try.ntmps107
  go_wp2_with (go_at_call 124; refine hSt.mono ?_; rintro e w1 ⟨s1, rfl, hb1⟩; have HB1 : Hid (Below w.heap.size w w1) := (HB0.out.trans (hb1.mono HB0.out.size)); clear hb1)
  go_ret
  exact ⟨rfl, HB1.out⟩
end Go.Proofs.Ytgfeabgmllkdeaa

/-
  The program's grewTo, mayBecome, Follows; Later and NewRow.
-/
namespace Go.Proofs.Ytgfeabgmllkdeaa
set_option linter.unusedVariables false
set_option linter.unusedSimpArgs false
open Go.RowKit Go.Sort

end Go.Proofs.Ytgfeabgmllkdeaa

/-
  The program's Follows, Later and NewRow.
-/
namespace Go.Proofs.Ytgfeabgmllkdeaa
set_option linter.unusedVariables false
set_option linter.unusedSimpArgs false
open Go.RowKit Go.Sort

set_option maxRecDepth 100000 in
set_option maxHeartbeats 3200000 in
theorem nrwI_any (n : Int) (w : World) :
    Calls Try.prog 80 #[.int .i64 n] w fun e w' => AnsRw w w' e (newRw n) := by
  have hb0 := oneA16 w (.cells #[.int .i64 0, .slice none 0 0, .slice none 0 0, .slice none 0 0, .bool false, .bool false, .int .i64 0, .slice none 0 0] 55)
  have hx := Bx.new w 55 #[.int .i64 0, .slice none 0 0, .slice none 0 0, .slice none 0 0, .bool false, .bool false, .int .i64 0, .slice none 0 0]
  have HB0 : Hid (Below w.heap.size w (w.alloc (.cells #[.int .i64 0, .slice none 0 0, .slice none 0 0, .slice none 0 0, .bool false, .bool false, .int .i64 0, .slice none 0 0] 55))) := hb0
  generalize hW : w.alloc (.cells #[.int .i64 0, .slice none 0 0, .slice none 0 0, .slice none 0 0, .bool false, .bool false, .int .i64 0, .slice none 0 0] 55) = W at *
  have hlt := hx.lt
  cases e1 : inB n 1 5 with
  | false =>
    have HZ : Hid (newRw n = zeroRw) := by rw [Hid, newRw, e1]; rfl
    obtain ⟨⟨c0, c1, c2, c3⟩, c4, c5, c6, c7⟩ := hx.r8
    obtain ⟨⟨f0, f1, f2, f3⟩, f4, f5, f6, f7⟩ := hx.f8
    clear hx hb0
    go_enter Try.func80, Try.ntmps80
    go_wp2_with (go_at_call 105; refine (isRl_any _ _).mono ?_; rintro e w' ⟨rfl, hw'⟩; rw [hw']; clear hw')
    refine bodyPost_ret (v := rwV ⟨none, 0, none, 0, none, 0, none, 0⟩ zeroRw) (by simp [results, Try.results80, go_sem, rwV, rwC, zeroRw, *]) rfl ?_
    rw [HZ.out]
    exact ⟨_, rfl, ans_zero ((wrt8 W w.heap.size).below HB0.out HB0.out.size (fun b h => by rw [h]; exact Nat.le_refl _))⟩
  | true =>
    have hn := inB7.1 e1
    obtain ⟨N, rfl⟩ : ∃ N : Nat, n = (N : Int) := ⟨n.toNat, by omega⟩
    have HZ : Hid (newRw (N : Int) = ⟨0, [], List.replicate N 0, [], false, false, 0, []⟩) := by rw [Hid, newRw, e1]; simp
    have hmk := run_make_row' (P := Try.prog) 24 2 (.int .i64 0) 8 Try.underlying24 Try.info2 rfl .i64 .i64 N (by omega) (by omega)
    have hM := made_oi (w.alloc (.cells #[.int .i64 0, .slice none 0 0, .slice (some ⟨w.heap.size + 1, 0, none⟩) N N, .slice none 0 0, .bool false, .bool false, .int .i64 0, .slice none 0 0] 55)) N (by unfold maxLen; omega)
    have hbM : Below w.heap.size w ((w.alloc (.cells #[.int .i64 0, .slice none 0 0, .slice (some ⟨w.heap.size + 1, 0, none⟩) N N, .slice none 0 0, .bool false, .bool false, .int .i64 0, .slice none 0 0] 55)).alloc (.cells (madeCells #[.int .i64 0] N) 2)) := (oneA16 w _).trans ((oneA16 _ _).mono (oneA16 w _).size)
    rw [World.size_alloc] at hM
    have HA : Hid (NewL w ((w.alloc (.cells #[.int .i64 0, .slice none 0 0, .slice (some ⟨w.heap.size + 1, 0, none⟩) N N, .slice none 0 0, .bool false, .bool false, .int .i64 0, .slice none 0 0] 55)).alloc (.cells (madeCells #[.int .i64 0] N) 2)) (rwCels ⟨0, [], List.replicate N 0, [], false, false, 0, []⟩) (rwVals ⟨none, 0, some ⟨w.heap.size + 1, 0, none⟩, N, none, 0, none, 0⟩ ⟨0, [], List.replicate N 0, [], false, false, 0, []⟩)) := by
      refine ⟨_, owL4 (ow_none_s _) (f2 := fun b => b = w.heap.size + 1) ?_ (ow_none_i _) (ow_none_i _) (fun b h => absurd h id) (fun b _ h => by rcases h with h | h <;> exact absurd h id) (fun b h => absurd h id), fun b h => ?_, hbM⟩
      · refine ow_icl.2 ⟨_, N, some (w.heap.size + 1), rfl, OSo.of ?_, fun b => by simp [eq_comm]⟩
        have e : (List.replicate N (0 : Int)).length = N := List.length_replicate
        simp only [e]
        exact hM
      · rcases h with h | h | h | h
        · exact absurd h id
        · rw [h]; omega
        · exact absurd h id
        · exact absurd h id
    clear hx hb0 hM hbM hW hlt HB0
    go_enter Try.func80, Try.ntmps80
    go_wp2_with (go_at_call 105; refine (isRl_any _ _).mono ?_; rintro e w' ⟨rfl, hw'⟩; rw [hw']; clear hw')
    refine bodyPost_ret (v := rwV ⟨none, 0, some ⟨w.heap.size + 1, 0, none⟩, N, none, 0, none, 0⟩ ⟨0, [], List.replicate N 0, [], false, false, 0, []⟩) (by simp [results, Try.results80, go_sem, rwV, rwC]) rfl ?_
    rw [HZ.out]
    exact ⟨_, rfl, HA.out⟩
theorem implNewRow : ImplNewRow := fun n w _ => nrwI_any n w
end Go.Proofs.Ytgfeabgmllkdeaa
