/-
  Several texts in one: Ifd.
-/
import Derived.Test.YtbgkfiijfocgiaaHo
import Derived.Lib.SliceRun
/-
  The program's fire (a rule changes this very vector), slices.Clone, Fired.
-/
namespace Go.Proofs.Ytbgkfiijfocgiaa
set_option linter.unusedSimpArgs false
set_option linter.unusedVariables false
open Go.RowKit Go.Sort

theorem grown_of_grew {w w' : World} (h : Grew w w') (r : Option Nat) : w.grownBy w' r := ⟨h.1.os, h.1.tape, h.1.output, h.1.size, fun k hk _ => h.1.block k hk⟩
theorem fire_same {xs : List Int} {r : Ru} (h8 : xs.length = 8) (hr : okRu r = true) (h : ¬ el xs r.to.toNat < asks xs r) : fire xs r = xs := by
  refine Le8.antisymm (by rw [fire_len, h8]) h8 (fire_std h8 hr (by omega)) (fire_up h8 hr)
theorem fire_new {xs : List Int} {r : Ru} (h : el xs r.to.toNat < asks xs r) : fire xs r = xs.set r.to.toNat (asks xs r) := by
  unfold fire
  rw [show max (el xs r.to.toNat) (asks xs r) = asks xs r by omega]
theorem OI.v8 {w : World} {g off cap : Nat} {xs : List Int} (h : OI w g off 8 cap xs) : V8 w g off xs := fun i hi => h.cellAt hi

set_option maxRecDepth 100000 in
set_option maxHeartbeats 1600000 in
theorem fire_any (g off cap : Nat) (xs : List Int) (r : Ru) (w : World) (ho : OI w g off 8 cap xs) (hx : Ok8 xs) (hr : okRu r = true) :
    Calls Try.prog 79 #[ruV r, .slice (some ⟨g, off, none⟩) 8 cap] w fun e w' => e = .returned (.bool (decide (el xs r.to.toNat < asks xs r))) ∧ OI w' g off 8 cap (fire xs r) ∧ w.grownBy w' (some g) := by
  have HW : Hid (Grew w (w.alloc (.cells #[.int .i64 r.to, .int .i64 r.fr, .int .i64 r.pl, .int .i64 r.mo] 40))) := (Grew.refl _).alloc _
  have hK := changes_any g off cap xs r (w.alloc (.cells #[.int .i64 r.to, .int .i64 r.fr, .int .i64 r.pl, .int .i64 r.mo] 40)) (ho.v8.grew HW.out) hx hr
  have d0 : (w.alloc (.cells #[.int .i64 r.to, .int .i64 r.fr, .int .i64 r.pl, .int .i64 r.mo] 40)).cell? ⟨w.heap.size, 0, none⟩ = some (.int .i64 r.to) := by simp
  have d1 : (w.alloc (.cells #[.int .i64 r.to, .int .i64 r.fr, .int .i64 r.pl, .int .i64 r.mo] 40)).cell? ⟨w.heap.size, 1, none⟩ = some (.int .i64 r.fr) := by simp
  have d2 : (w.alloc (.cells #[.int .i64 r.to, .int .i64 r.fr, .int .i64 r.pl, .int .i64 r.mo] 40)).cell? ⟨w.heap.size, 2, none⟩ = some (.int .i64 r.pl) := by simp
  have d3 : (w.alloc (.cells #[.int .i64 r.to, .int .i64 r.fr, .int .i64 r.pl, .int .i64 r.mo] 40)).cell? ⟨w.heap.size, 3, none⟩ = some (.int .i64 r.mo) := by simp
  have HO : Hid (OI w g off 8 cap xs) := ho
  by_cases hlt : el xs r.to.toNat < asks xs r
  · have HF : Hid (fire xs r = xs.set r.to.toNat (asks xs r)) := fire_new hlt
    rw [decide_eq_true hlt] at hK ⊢
    have HB : ∀ X, Grew w X → Calls Try.prog 87 #[ruV r, .slice (some ⟨g, off, none⟩) 8 cap] X fun e w' => e = .returned (.int .i64 (asks xs r)) ∧ Grew X w' := fun X hX => bound_any g off cap xs r X (ho.v8.grew hX) hx hr
    obtain ⟨t, f, p, m, hq, ht8, hf8, hp0, hp1, hm0, hm1⟩ := ru_split hr
    have HE : Hid (r.to.toNat = t) := by rw [Hid, hq]; simp
    have t1 : (t : Int) < 8 := by omega
    have t0 : (0 : Int) ≤ (t : Int) := by omega
    have et : r.to = (t : Int) := by rw [hq]
    have ef : r.fr = (f : Int) := by rw [hq]
    have ep : r.pl = p := by rw [hq]
    have em : r.mo = m := by rw [hq]
    unfold ruV at *
    simp only [et, ef, ep, em] at HW hK d0 d1 d2 d3 HB ⊢
    clear ho hx hr hlt hq et ef ep em
    generalize asks xs r = A at *
    generalize hWW : w.alloc (.cells #[.int .i64 (t : Int), .int .i64 (f : Int), .int .i64 p, .int .i64 m] 40) = W at *
    go_enter Try.func79, Try.ntmps79
    go_wp2_with fail
    refine hK.mono ?_
    rintro e w1 ⟨rfl, hg1⟩
    have HG1 : Hid (Grew w w1) := HW.out.trans hg1
    have p0 := cell_grown (World.block_lt_of_cell? _ _ (hg1.cell d0)) (hg1.cell d0)
    have p1 := cell_grown (World.block_lt_of_cell? _ _ (hg1.cell d1)) (hg1.cell d1)
    have p2 := cell_grown (World.block_lt_of_cell? _ _ (hg1.cell d2)) (hg1.cell d2)
    have p3 := cell_grown (World.block_lt_of_cell? _ _ (hg1.cell d3)) (hg1.cell d3)
    have q1 := hg1.cell d0
    have hAk : ∀ X, Grew w1 X → Calls Try.prog 87 #[.agg #[.int .i64 (t : Int), .int .i64 (f : Int), .int .i64 p, .int .i64 m], .slice (some ⟨g, off, none⟩) 8 cap] X fun e w' => e = .returned (.int .i64 A) ∧ Grew X w' := fun X hX => HB X (HG1.out.trans hX)
    have ct := (HO.out.below HG1.out.1 HO.out.blk).cellAt ht8
    have pt := cell_grown (World.block_lt_of_cell? _ _ ct) ct
    have fr : ∀ q os, (grow (w1.drewN q) os).frozen? ⟨g, off + t, none⟩ = false := fun q os => by
      have h := HG1.out.trans (Grew.of_grow w1 q os)
      exact (HO.out.below h.1 HO.out.blk).free t (by have := HO.out.le; omega)
    have HST : Hid (∀ X, Grew w1 X → OI (X.setCell ⟨g, off + t, none⟩ (.int .i64 A)) g off 8 cap (fire xs r) ∧ w.grownBy (X.setCell ⟨g, off + t, none⟩ (.int .i64 A)) (some g)) := fun X hX => by
      rw [HF.out, HE.out]
      have h := HG1.out.trans hX
      exact ⟨num_set (HO.out.below h.1 HO.out.blk) ht8 _, grown_set (grown_of_grew h _) _ _⟩
    clear hg1 d0 d1 d2 d3 hK HB hWW ct q1
    generalize el xs t = x at *
    have hmix := mixedR
    go_wp2_with fail
    refine wp_region_quiet_tail (C := fun w' => ∃ p : GrownBy, w' = grow (w1.drewN p.n) p.os) 7 hmix (by kernel_rfl) ⟨⟨1, #[]⟩, by rw [grow_empty]⟩ ?_
    simp only [List.take_succ_cons, List.take_zero]
    repeat (quiet_step (first | (go_at_call 87; exact grown_at (hAk _ (Grew.of_grow _ _ _)))))
    refine wpQuiet_nil ?_
    intro _ hw'
    obtain ⟨⟨nq, osq⟩, hw''⟩ := hw'
    subst hw''
    simp only [List.drop_succ_cons, List.drop_zero]
    go_wp2
    go_ret
    exact ⟨rfl, HST.out _ (Grew.of_grow _ _ _)⟩
  · have HF : Hid (fire xs r = xs) := fire_same hx.1 hr hlt
    rw [decide_eq_false hlt] at hK ⊢
    unfold ruV at *
    clear ho hx hr hlt
    generalize hWW : w.alloc (.cells #[.int .i64 r.to, .int .i64 r.fr, .int .i64 r.pl, .int .i64 r.mo] 40) = W at *
    go_enter Try.func79, Try.ntmps79
    go_wp2_with fail
    refine hK.mono ?_
    rintro e w1 ⟨rfl, hg1⟩
    have HG1 : Hid (Grew w w1) := HW.out.trans hg1
    clear hg1 d0 d1 d2 d3 hWW
    go_wp2
    go_ret
    refine ⟨rfl, ?_, grown_of_grew HG1.out _⟩
    rw [HF.out]
    exact HO.out.below HG1.out.1 HO.out.blk

theorem eq_nil6 (a : Option Addr) (n c : Nat) (w : World) : (binOp .eql 24 (.slice a n c) (.slice none 0 0)).run Try.prog w = .ok (.bool (a.isNone)) w :=
  Lib.run_eql_slice_nil w 24 2 a n c 0 0 Try.underlying24
set_option maxRecDepth 100000 in
set_option maxHeartbeats 800000 in
theorem clone8_any (b off cap : Nat) (xs : List Int) (w : World) (h : V8 w b off xs) (h8 : xs.length = 8) :
    Calls Try.prog 70 #[.slice (some ⟨b, off, none⟩) 8 cap] w fun e w' => AnsN w w' e xs := by
  obtain ⟨i0, hi0, hz0, hz1, hz2⟩ := info_parts2n Try.info2n
  have HC : Hid (∀ i, i < xs.length → (w.alloc (.cells #[] 2)).cell? ⟨b, off + i, none⟩ = some (.int .i64 (el xs i))) := fun i hi => cellB' (h i (by omega)) _
  have heq := fun (X : World) => eq_nil6 (some ⟨b, off, none⟩) 8 cap X
  clear h
  go_enter Try.func70, Try.ntmps70
  go_wp2_with (at_builtin; refine wpList_append_os _ rfl _ _ _ rfl 2 i0 _ 1 8 Try.underlying24 hi0 hz0 hz1 hz2 rfl (by omega) w.heap.size 0 0 0 (([] : List Int).map (Value.int .i64)) rfl (num_empty w 2) ⟨b, off, none⟩ 8 cap (xs.map (Value.int .i64)) rfl (by simp [h8]) (num_news HC.out) (by simp [Value.oneCell']) (by unfold maxLen; omega) (by omega) ?_; intro g2 off2 cap2 w2 ho2 hg2 hat2)
  have R : Hid (AnsN w w2 (.returned (.slice (some ⟨g2, off2, none⟩) 8 cap2)) xs) := by
    refine ⟨g2, off2, cap2, by rw [h8], ?_, ?_, below_grown6 ((Below.refl _ _).alloc (Nat.le_refl _) _) hg2 (Nat.le_refl _) (by simp)⟩
    · rcases hat2 with h | h
      · rw [h]; exact Nat.le_refl _
      · rw [h]; simp
    · have := ho2
      simp only [List.map_nil, List.nil_append, Nat.zero_add] at this
      rw [h8]
      exact this
  clear ho2 hg2 hat2
  go_wp2
  go_ret
  exact R.out

set_option maxRecDepth 100000 in
set_option maxHeartbeats 1600000 in
theorem implFired : ImplFired := fun a len cap xs r w hv hc hm => by
  have HX0 : Hid (Grew w ((w.alloc (.cells #[.int .i64 r.to, .int .i64 r.fr, .int .i64 r.pl, .int .i64 r.mo] 40)).alloc (.cells #[.int .i64 r.to, .int .i64 r.fr, .int .i64 r.pl, .int .i64 r.mo] 40))) := ((Grew.refl _).alloc _).alloc _
  have hT := ruled_any a len cap xs (some ⟨w.heap.size + 1, 0, none⟩) 1 1 [r] _ (hv.below HX0.out.1 (Nat.le_refl _)) (rus_one (w.alloc (.cells #[.int .i64 r.to, .int .i64 r.fr, .int .i64 r.pl, .int .i64 r.mo] 40)) r (w.heap.size + 1) (by simp)) hc hm (by unfold maxLen; omega)
  have HBOX : Hid (∀ X, Grew ((w.alloc (.cells #[.int .i64 r.to, .int .i64 r.fr, .int .i64 r.pl, .int .i64 r.mo] 40)).alloc (.cells #[.int .i64 r.to, .int .i64 r.fr, .int .i64 r.pl, .int .i64 r.mo] 40)) X → X.cell? ⟨w.heap.size, 0, none⟩ = some (.int .i64 r.to) ∧ X.cell? ⟨w.heap.size, 1, none⟩ = some (.int .i64 r.fr) ∧ X.cell? ⟨w.heap.size, 2, none⟩ = some (.int .i64 r.pl) ∧ X.cell? ⟨w.heap.size, 3, none⟩ = some (.int .i64 r.mo)) := fun X hX =>
    ⟨hX.cell (cellB' (by simp) _), hX.cell (cellB' (by simp) _), hX.cell (cellB' (by simp) _), hX.cell (cellB' (by simp) _)⟩
  unfold ruV
  generalize hWW : ((w.alloc (.cells #[.int .i64 r.to, .int .i64 r.fr, .int .i64 r.pl, .int .i64 r.mo] 40)).alloc (.cells #[.int .i64 r.to, .int .i64 r.fr, .int .i64 r.pl, .int .i64 r.mo] 40)) = WW at *
  cases ht : told xs [r] with
  | false =>
    rw [ht] at hT
    have HZ : Hid (firedL xs r = []) := by rw [Hid, firedL, ht]; rfl
    clear ht
    go_enter Try.func37, Try.ntmps37
    go_wp2_with fail
    refine hT.mono ?_
    rintro e w1 ⟨rfl, hg⟩
    have HG : Hid (Grew w w1) := HX0.out.trans hg
    clear hg
    go_wp2
    go_ret
    rw [HZ.out]
    exact ⟨w1.heap.size, 0, 0, rfl, HG.out.1.size, num_empty w1 2, HG.out.1.alloc HG.out.1.size _⟩
  | true =>
    rw [ht] at hT
    obtain ⟨hx, hrs⟩ := told_iff.1 ht
    have hok : okRu r = true := by rwa [okRs_one] at hrs
    have HZ : Hid (firedL xs r = fire xs r) := by rw [Hid, firedL, ht]; rfl
    have h8 : len = 8 := by rw [← hv.1]; exact hx.1
    subst h8
    obtain ⟨b, off, rfl, h8c⟩ := v8_of hv
    have HC : Hid (V8 w b off xs) := h8c
    have HX : Hid (Ok8 xs) := hx
    clear ht hv h8c hrs hx
    go_enter Try.func37, Try.ntmps37
    go_wp2_with fail
    refine hT.mono ?_
    rintro e w1 ⟨rfl, hg⟩
    have HG : Hid (Grew w w1) := HX0.out.trans hg
    obtain ⟨q0, q1, q2, q3⟩ := HBOX.out w1 hg
    have hCl := clone8_any b off cap xs w1 (HC.out.grew HG.out) HX.out.1
    have lt1 : w.heap.size < w1.heap.size := World.block_lt_of_cell? _ _ q0
    clear hg hT
    go_wp2_with fail
    refine hCl.mono ?_
    rintro e w2 ⟨g, fo, c, rfl, hg2, ho2, hb2⟩
    have hl8 : xs.length = 8 := HX.out.1
    rw [hl8] at ho2 ⊢
    have c0 := (hb2.cell (p := ⟨w.heap.size, 0, none⟩) lt1).trans q0
    have c1 := (hb2.cell (p := ⟨w.heap.size, 1, none⟩) lt1).trans q1
    have c2 := (hb2.cell (p := ⟨w.heap.size, 2, none⟩) lt1).trans q2
    have c3 := (hb2.cell (p := ⟨w.heap.size, 3, none⟩) lt1).trans q3
    have HB2 : Hid (Below w.heap.size w w2) := HG.out.1.trans (hb2.mono HG.out.1.size)
    have hFi := fire_any g fo c xs r w2 ho2 HX.out hok
    have hgg : w.heap.size ≤ g := Nat.le_trans HG.out.1.size hg2
    unfold ruV at hFi
    clear hCl hb2 ho2 q0 q1 q2 q3 hok hg2
    go_wp2_with fail
    refine hFi.mono ?_
    rintro e w3 ⟨rfl, ho3, hg3⟩
    have HO3 : Hid (OI w3 g fo 8 c (fire xs r)) := ho3
    have HB3 : Hid (Below w.heap.size w w3) := below_grown6 HB2.out hg3 hgg HB2.out.size
    have HFL : Hid ((fire xs r).length = 8) := by rw [Hid, fire_len, hl8]
    clear ho3 hg3 hFi c0 c1 c2 c3
    go_wp2
    go_ret
    rw [HZ.out]
    exact ⟨g, fo, c, by rw [HFL.out]; rfl, hgg, by rw [HFL.out]; exact HO3.out, HB3.out⟩
end Go.Proofs.Ytbgkfiijfocgiaa
