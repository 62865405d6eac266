/-
  Several texts in one: Wiw.
-/
import Derived.Test.YtkompamocpnefaaJj
/-
  The program's WindowOk and Open: a window is copied where it is right (windowOf).
-/
namespace Go.Proofs.Ytkompamocpnefaa
set_option linter.unusedVariables false
set_option linter.unusedSimpArgs false
open Go.RowKit Go.Sort

theorem eq_nil8 (a : Option Addr) (n c : Nat) (w : World) : (binOp .eql 24 (.slice a n c) (.slice none 0 0)).run Try.prog w = .ok (.bool (a.isNone)) w :=
  Lib.run_eql_slice_nil w 24 2 a n c 0 0 Try.underlying24
set_option maxRecDepth 100000 in
set_option maxHeartbeats 800000 in
theorem cloneN_any (b off len cap : Nat) (xs : List Int) (w : World) (hlen : xs.length = len) (h : ∀ i, i < len → w.cell? ⟨b, off + i, none⟩ = some (.int .i64 (el xs i))) (h8 : len ≤ 8) :
    Calls Try.prog 79 #[.slice (some ⟨b, off, none⟩) len cap] w fun e w' => AnsN w w' e xs := by
  obtain ⟨i0, hi0, hz0, hz1, hz2⟩ := info_parts2n Try.info2n
  have HC : Hid (∀ i, i < xs.length → (w.alloc (.cells #[] 2)).cell? ⟨b, off + i, none⟩ = some (.int .i64 (el xs i))) := fun i hi => ((Grew.refl w).alloc _).cell (h i (by omega))
  have heq := fun (X : World) => eq_nil8 (some ⟨b, off, none⟩) len cap X
  have HL : Hid (xs.length = len) := hlen
  clear h hlen
  go_enter Try.func79, Try.ntmps79
  go_wp2_with (at_builtin; refine wpList_append_os _ rfl _ _ _ rfl 2 i0 _ 1 8 Try.underlying24 hi0 hz0 hz1 hz2 rfl (by omega) w.heap.size 0 0 0 (([] : List Int).map (Value.int .i64)) rfl (num_empty w 2) ⟨b, off, none⟩ len cap (xs.map (Value.int .i64)) rfl (by simp [HL.out]) (num_news HC.out) (by simp [Value.oneCell']) (by unfold maxLen; omega) (by omega) ?_; intro g2 off2 cap2 w2 ho2 hg2 hat2)
  have R : Hid (AnsN w w2 (.returned (.slice (some ⟨g2, off2, none⟩) len cap2)) xs) := by
    refine ⟨g2, off2, cap2, by rw [HL.out], ?_, ?_, below_grown6 ((Below.refl _ _).alloc (Nat.le_refl _) _) hg2 (Nat.le_refl _) (by simp)⟩
    · rcases hat2 with h | h
      · rw [h]; exact Nat.le_refl _
      · rw [h]; simp
    · have := ho2
      simp only [List.map_nil, List.nil_append, Nat.zero_add] at this
      rw [HL.out]
      exact this
  clear ho2 hg2 hat2
  go_wp2
  go_ret
  exact R.out

/-- What windowOf answers. -/
def AnsI (w w' : World) (e : Ending) (sz st : Int) (xs : List Int) : Prop :=
  (wokB sz st xs = false ∧ e = .returned (.tuple #[iwV 0 0 none 0 0, .bool false]) ∧ Below w.heap.size w w') ∨
  (wokB sz st xs = true ∧ ∃ g o c, e = .returned (.tuple #[iwV sz st (some ⟨g, o, none⟩) xs.length c, .bool true]) ∧ w.heap.size ≤ g ∧ OI w' g o xs.length c xs ∧ Below w.heap.size w w')

set_option maxRecDepth 100000 in
set_option maxHeartbeats 1600000 in
theorem windowOf_any (sz st : Int) (a : Option Addr) (len cap : Nat) (xs : List Int) (w : World) (hv : Vec w a len xs) (hc : len ≤ cap) (hm : cap ≤ maxLen) :
    Calls Try.prog 63 #[wiV sz st a len cap] w fun e w' => AnsI w w' e sz st xs := by
  have hl := hv.1
  have G0 : Grew w (((w.alloc (.cells #[.int .i64 sz, .int .i64 st, .slice a len cap] 34)).alloc (.cells #[.int .i64 0, .int .i64 0, .slice none 0 0] 67)).alloc (.cells #[.int .i64 sz, .int .i64 st, .slice a len cap] 67)) := (((Grew.refl _).alloc _).alloc _).alloc _
  have x0 : Bx (((w.alloc (.cells #[.int .i64 sz, .int .i64 st, .slice a len cap] 34)).alloc (.cells #[.int .i64 0, .int .i64 0, .slice none 0 0] 67)).alloc (.cells #[.int .i64 sz, .int .i64 st, .slice a len cap] 67)) w.heap.size 34 #[.int .i64 sz, .int .i64 st, .slice a len cap] := ((Bx.new _ _ _).alloc _).alloc _
  have x1 : Bx (((w.alloc (.cells #[.int .i64 sz, .int .i64 st, .slice a len cap] 34)).alloc (.cells #[.int .i64 0, .int .i64 0, .slice none 0 0] 67)).alloc (.cells #[.int .i64 sz, .int .i64 st, .slice a len cap] 67)) (w.heap.size + 1) 67 #[.int .i64 0, .int .i64 0, .slice none 0 0] := by
    have := (Bx.new (w.alloc (.cells #[.int .i64 sz, .int .i64 st, .slice a len cap] 34)) 67 #[.int .i64 0, .int .i64 0, .slice none 0 0]).alloc (.cells #[.int .i64 sz, .int .i64 st, .slice a len cap] 67)
    simpa using this
  have x2 : Bx (((w.alloc (.cells #[.int .i64 sz, .int .i64 st, .slice a len cap] 34)).alloc (.cells #[.int .i64 0, .int .i64 0, .slice none 0 0] 67)).alloc (.cells #[.int .i64 sz, .int .i64 st, .slice a len cap] 67)) (w.heap.size + 1 + 1) 67 #[.int .i64 sz, .int .i64 st, .slice a len cap] := by
    have := Bx.new ((w.alloc (.cells #[.int .i64 sz, .int .i64 st, .slice a len cap] 34)).alloc (.cells #[.int .i64 0, .int .i64 0, .slice none 0 0] 67)) 67 #[.int .i64 sz, .int .i64 st, .slice a len cap]
    simpa using this
  generalize hW : ((w.alloc (.cells #[.int .i64 sz, .int .i64 st, .slice a len cap] 34)).alloc (.cells #[.int .i64 0, .int .i64 0, .slice none 0 0] 67)).alloc (.cells #[.int .i64 sz, .int .i64 st, .slice a len cap] 67) = W at *
  have hO := okW_any sz st a len cap xs W (hv.below G0.1 (Nat.le_refl _)) hc hm
  obtain ⟨c20, c21, c22⟩ := x2.w3
  unfold wiV
  unfold iwV at hO
  cases hb : wokB sz st xs with
  | false =>
    rw [hb] at hO
    have HZ : Hid (wokB sz st xs = false) := hb
    have HB : Hid (Grew w W) := G0
    have HX : Hid (Bx W (w.heap.size + 1) 67 #[.int .i64 0, .int .i64 0, .slice none 0 0]) := x1
    clear hb G0 x0 x1 x2
    go_enter Try.func63, Try.ntmps63
    go_wp2_with fail
    refine hO.mono ?_
    rintro e w1 ⟨rfl, hg1⟩
    have y1 := HX.out.below hg1.1
    obtain ⟨t0, t1, t2⟩ := y1.w3
    have f0 := y1.f 0
    have f1 := y1.f 1
    have f2 := y1.f 2
    go_wp2
    refine bodyPost_ret (v := .tuple #[.agg #[.int .i64 0, .int .i64 0, .slice none 0 0], .bool false]) (by simp [results, Try.results63, go_sem, t0, t1, t2]) rfl ?_
    exact .inl ⟨HZ.out, rfl, set3 (HB.out.trans hg1).1 (Nat.le_succ _)⟩
  | true =>
    rw [hb] at hO
    have HZ : Hid (wokB sz st xs = true) := hb
    have h18 := okB_len (wokB_iff.1 hb).2.2.1
    have h8 : len ≤ 8 := by omega
    obtain ⟨b, off, rfl, hcs⟩ := hv.cells (by omega)
    have HB : Hid (Grew w W) := G0
    have HX : Hid (Bx W (w.heap.size + 1) 67 #[.int .i64 0, .int .i64 0, .slice none 0 0]) := x1
    have HX0 : Hid (Bx W w.heap.size 34 #[.int .i64 sz, .int .i64 st, .slice (some ⟨b, off, none⟩) len cap]) := x0
    have HX2 : Hid (Bx W (w.heap.size + 1 + 1) 67 #[.int .i64 sz, .int .i64 st, .slice (some ⟨b, off, none⟩) len cap]) := x2
    have hCl : ∀ X, Grew w X → Calls Try.prog 79 #[.slice (some ⟨b, off, none⟩) len cap] X fun e w' => ∃ g o c, e = .returned (.slice (some ⟨g, o, none⟩) len c) ∧ X.heap.size ≤ g ∧ OI w' g o len c xs ∧ Below X.heap.size X w' := fun X hX => by
      have := cloneN_any b off len cap xs X hl (fun i hi => hX.cell (hcs i hi)) h8
      unfold AnsN at this
      rwa [hl] at this
    have HL : Hid (xs.length = len) := hl
    clear hb G0 x0 x1 x2 hv hcs hl h18
    go_enter Try.func63, Try.ntmps63
    go_wp2_with fail
    refine hO.mono ?_
    rintro e w1 ⟨rfl, hg1⟩
    have HG1 : Hid (Grew w w1) := HB.out.trans hg1
    have y0 := HX0.out.below hg1.1
    have y1 := HX.out.below hg1.1
    have y2 := HX2.out.below hg1.1
    have HY : Hid (Bx w1 (w.heap.size + 1) 67 #[.int .i64 0, .int .i64 0, .slice none 0 0]) := y1
    have HY0 : Hid (Bx w1 w.heap.size 34 #[.int .i64 sz, .int .i64 st, .slice (some ⟨b, off, none⟩) len cap]) := y0
    have HY2 : Hid (Bx w1 (w.heap.size + 1 + 1) 67 #[.int .i64 sz, .int .i64 st, .slice (some ⟨b, off, none⟩) len cap]) := y2
    obtain ⟨d00, d01, d02⟩ := y0.w3
    obtain ⟨d20, d21, d22⟩ := y2.w3
    clear c20 c21 c22 y0 y1 y2 hg1
    go_wp2_with fail
    go_region_with
      (go_at_call 79; refine (hCl _ (HG1.out.drewN 1)).mono ?_; rintro e w2 ⟨g, o, c, rfl, hgs, hoi, hb2⟩; have z0 := (HY0.out.drewN 1).below hb2; have z1 := (HY.out.drewN 1).below hb2; have z2 := (HY2.out.drewN 1).below hb2; obtain ⟨k00, k01, k02⟩ := z0.w3; obtain ⟨k20, k21, k22⟩ := z2.w3; obtain ⟨t0, t1, t2⟩ := z1.w3; have f0 := z1.f 0; have f1 := z1.f 1; have f2 := z1.f 2; have HL1 : Hid (w.heap.size + 1 < w1.heap.size) := HY.out.lt)
    all_goals
      go_wp2
      refine bodyPost_ret (v := .tuple #[.agg #[.int .i64 sz, .int .i64 st, .slice (some ⟨g, o, none⟩) len c], .bool true]) (by simp [results, Try.results63, go_sem, t0, t1, t2]) rfl ?_
      have hBB : Below w.heap.size w w2 := (HG1.out.drewN 1).1.trans (hb2.mono HG1.out.1.size)
      have s1 := HL1.out
      have s2 : w1.heap.size ≤ g := hgs
      refine .inr ⟨HZ.out, g, o, c, by rw [HL.out]; rfl, by omega, ?_, set3 hBB (Nat.le_succ _)⟩
      rw [HL.out]
      exact num3 hoi (by omega)
end Go.Proofs.Ytkompamocpnefaa
