/-
  Several texts in one: Lgh.
-/
import Derived.Test.YtbnpliobigjapaaDoorKy
/-
  The laws' own helpers on logs: szLog, toLog, eqLog, likeLog, markLog, heldLog; what the program's LogOk, Added, TextAt, Shorter and Cut must be shown to answer.
-/
namespace Go.Proofs.YtbnpliobigjapaaDoor
set_option linter.unusedVariables false
set_option linter.unusedSimpArgs false
open Go.RowKit Go.Sort

def I64l (x : Int) : Prop := -9223372036854775808 ≤ x ∧ x ≤ 9223372036854775807
/-- Texts that are not too long together. -/
def ShortT (T : List (List UInt8)) : Prop := ∀ i, i < T.length → (T.getD i []).length ≤ 1048576
def ImplLogOk : Prop := ∀ (F : Int) (a : Option Addr) (cap : Nat) (T : List (List UInt8)) (w : World), I64l F → TxP w a cap T → T.length ≤ 1048576 → ShortT T → Calls Tryd.prog 17 #[lgV F a T.length cap] w fun e w' => e = .returned (.bool (decide (okLg (F, T)))) ∧ Below w.heap.size w w'
def ImplTextAt : Prop := ∀ (F : Int) (a : Option Addr) (cap : Nat) (T : List (List UInt8)) (v : Int) (w : World), I64l F → I64l v → TxP w a cap T → T.length ≤ 1048576 → ShortT T → Calls Tryd.prog 19 #[lgV F a T.length cap, .int .i64 v] w fun e w' => e = .returned (.tuple #[.string (sv (txtLg (F, T) v).1), .bool (txtLg (F, T) v).2]) ∧ Below w.heap.size w w'
def ImplAdded : Prop := ∀ (F : Int) (a : Option Addr) (cap : Nat) (T : List (List UInt8)) (v : Int) (s : List UInt8) (w : World), I64l F → I64l v → TxP w a cap T → T.length ≤ 1048576 → ShortT T → s.length ≤ 1048576 → Calls Tryd.prog 8 #[lgV F a T.length cap, .int .i64 v, .string (sv s)] w fun e w' => AnsLb w w' e (addLg (F, T) v s)
attribute [local irreducible] sv
set_option maxRecDepth 100000 in
set_option maxHeartbeats 800000 in
theorem szLg_any (F : Int) (a : Option Addr) (cap : Nat) (T : List (List UInt8)) (left : Int) (w : World) (hv : TxS w a T) (hlg : LongT T) (hm : T.length ≤ maxLen) (hl : 0 ≤ left ∧ left ≤ 1048576) :
    Calls Tryd.prog 22 #[lgV F a T.length cap, .int .i64 left] w fun e w' => ∃ q : Int, e = .returned (.int .i64 q) ∧ (q = -1 ∨ 0 ≤ q ∧ q + (T.length : Int) + (totS T T.length : Int) = left) ∧ Below w.heap.size w w' := by
  have hb := oneA w (.cells #[.int .i64 F, .slice a T.length cap] 42)
  have hS := szS_any a cap T left _ (hv.below hb) hlg hm hl
  have hq0 : ∀ q : Int, 0 ≤ q → ¬ q < 0 := fun q h => by omega
  unfold lgV
  clear hv
  go_enter Tryd.func22, Tryd.ntmps22
  go_wp2_with fail
  refine hS.mono ?_
  rintro e w2 ⟨q, rfl, hq, hw2⟩
  rw [hw2]
  clear hw2
  by_cases hn : q < 0
  · have h1 : q = -1 := by omega
    subst h1
    go_wp2
    go_ret
    exact ⟨-1, rfl, .inl rfl, hb⟩
  · have HQ : Hid (q = -1 ∨ 0 ≤ q ∧ q + (T.length : Int) + (totS T T.length : Int) = left) := hq
    clear hq
    go_wp2
    go_ret
    exact ⟨q, rfl, HQ.out, hb⟩

set_option maxRecDepth 100000 in
set_option maxHeartbeats 800000 in
theorem toLg_any (F : Int) (a : Option Addr) (cap : Nat) (T : List (List UInt8)) (w : World) (hv : TxS w a T) (hm : T.length ≤ 1048576) :
    Calls Tryd.prog 23 #[lgV F a T.length cap] w fun e w' => AnsLg w w' e (F, T) := by
  have hb1 := oneA w (.cells #[.int .i64 F, .slice a T.length cap] 42)
  have hb2 := hb1.trans ((oneA (w.alloc (.cells #[.int .i64 F, .slice a T.length cap] 42)) (.cells #[.int .i64 0, .slice none 0 0] 26)).mono hb1.size)
  have hb3 := hb2.trans ((oneA ((w.alloc (.cells #[.int .i64 F, .slice a T.length cap] 42)).alloc (.cells #[.int .i64 0, .slice none 0 0] 26)) (.cells #[.int .i64 F, .slice none 0 0] 26)).mono hb2.size)
  have x1 := Bx.new (w.alloc (.cells #[.int .i64 F, .slice a T.length cap] 42)) 26 #[.int .i64 0, .slice none 0 0]
  have x2 := Bx.new ((w.alloc (.cells #[.int .i64 F, .slice a T.length cap] 42)).alloc (.cells #[.int .i64 0, .slice none 0 0] 26)) 26 #[.int .i64 F, .slice none 0 0]
  have x1' := x1.alloc (.cells #[.int .i64 F, .slice none 0 0] 26)
  simp only [World.size_alloc] at x1' x2
  have hS := toS_any a cap T _ (hv.below hb3) hm
  have HB : Hid _ := hb3
  have X1 : Hid (Bx (((w.alloc (.cells #[.int .i64 F, .slice a T.length cap] 42)).alloc (.cells #[.int .i64 0, .slice none 0 0] 26)).alloc (.cells #[.int .i64 F, .slice none 0 0] 26)) (w.heap.size + 1) 26 #[.int .i64 0, .slice none 0 0]) := x1'
  have X2 : Hid (Bx (((w.alloc (.cells #[.int .i64 F, .slice a T.length cap] 42)).alloc (.cells #[.int .i64 0, .slice none 0 0] 26)).alloc (.cells #[.int .i64 F, .slice none 0 0] 26)) (w.heap.size + 1 + 1) 26 #[.int .i64 F, .slice none 0 0]) := x2
  unfold lgV
  clear hv hb1 hb2 hb3 x1 x2 x1'
  go_enter Tryd.func23, Tryd.ntmps23
  go_wp2_with (go_at_call 51; refine hS.mono ?_; rintro e w2 ⟨a2, c2, rfl, hO2⟩; obtain ⟨fp2, ho2, hf2, hb2⟩ := hO2; have y1 := X1.out.below hb2; have y2 := X2.out.below hb2; obtain ⟨u0, u1⟩ := y1.r2; obtain ⟨v0, v1⟩ := y2.r2; have f1 := y2.f 1; have z2 := y2.setC 1 (.slice a2 T.length c2); have z1 := y1.far (i := 1) (show w.heap.size + 1 ≠ w.heap.size + 1 + 1 by omega) (.slice a2 T.length c2); obtain ⟨p0, p1⟩ := z1.r2; have q0 := z2.at 0 rfl; have q1 := z2.at 1 rfl; have r0 := z1.f 0; have r1 := z1.f 1)
  refine bodyPost_ret (v := .agg #[.int .i64 F, .slice a2 T.length c2]) (by simp [results, Tryd.results23, go_sem, *]) rfl ?_
  simp only [World.size_alloc] at hf2
  refine ⟨a2, c2, rfl, fp2, Cel.ow_wrt (Cel.ow_wrt ho2 (Wrt.set w2 (w.heap.size + 1 + 1) 1 _) (fun b hb e => by have := hf2 b hb; omega)) (wrt2 _ (w.heap.size + 1)) (fun b hb e => by have := hf2 b hb; omega), fun b hb => by have := hf2 b hb; omega, below2 ((HB.out.trans (hb2.mono HB.out.size)).setCell (p := ⟨w.heap.size + 1 + 1, 1, none⟩) (show w.heap.size ≤ w.heap.size + 1 + 1 by omega) _) (by omega)⟩

set_option maxRecDepth 100000 in
set_option maxHeartbeats 800000 in
theorem eqLg_any (F : Int) (a a' : Option Addr) (c c' : Nat) (T : List (List UInt8)) (w : World) (hz : TxS w a T) (hy : TxS w a' T) (hm : T.length ≤ maxLen) :
    Calls Tryd.prog 24 #[lgV F a T.length c, lgV F a' T.length c'] w fun e w' => e = .returned (.bool true) ∧ Grew w w' := by
  have hg : Grew w ((w.alloc (.cells #[.int .i64 F, .slice a T.length c] 26)).alloc (.cells #[.int .i64 F, .slice a' T.length c'] 26)) := ((Grew.refl _).alloc _).alloc _
  have hE := eqSV_any a a' c c' T _ (hz.grew hg) (hy.grew hg) hm
  have hne : (F != F) = false := by simp
  unfold lgV
  clear hz hy
  go_enter Tryd.func24, Tryd.ntmps24
  go_wp2_with (go_at_call 52; refine hE.mono ?_; rintro e w2 ⟨rfl, hg2⟩)
  go_ret
  exact ⟨rfl, hg.trans hg2⟩
set_option maxRecDepth 100000 in
set_option maxHeartbeats 800000 in
theorem likeLg_any (F : Int) (a a' : Option Addr) (c c' : Nat) (T : List (List UInt8)) (w : World) (hz : TxS w a T) (hy : TxS w a' T) (hm : T.length ≤ maxLen) :
    Calls Tryd.prog 14 #[lgV F a T.length c, lgV F a' T.length c'] w fun e w' => e = .returned (.bool true) ∧ Grew w w' := by
  have hg : Grew w ((w.alloc (.cells #[.int .i64 F, .slice a T.length c] 26)).alloc (.cells #[.int .i64 F, .slice a' T.length c'] 26)) := ((Grew.refl _).alloc _).alloc _
  have hE := likeSV_any a a' c c' T _ (hz.grew hg) (hy.grew hg) hm
  have hne : (F == F) = true := by simp
  unfold lgV
  clear hz hy
  go_enter Tryd.func14, Tryd.ntmps14
  go_wp2_with (go_at_call 20; refine hE.mono ?_; rintro e w2 ⟨rfl, hg2⟩)
  go_ret
  exact ⟨rfl, hg.trans hg2⟩
set_option maxRecDepth 100000 in
set_option maxHeartbeats 800000 in
theorem markLg_it (F : Int) (a : Option Addr) (c k0 lo hi : Nat) (T : List (List UInt8)) (w : World) (h : It w [scl T] [.slice a T.length c] lo hi) (hk1 : 1 ≤ k0) (hk : k0 ≤ 10000000) (hn : T.length ≤ 10000000) :
    Calls Tryd.prog 25 #[lgV F a T.length c, .int .i64 (k0 : Int)] w fun e w' => e = .returned (.int .i64 ((k0 : Int) + (T.length : Int))) ∧ It w' [scl (marksS T.length k0)] [.slice a T.length c] lo hi ∧ Wrt (Iv lo hi) w w' := by
  have hb := oneA w (.cells #[.int .i64 F, .slice a T.length c] 26)
  have hM := markS_it a c k0 lo hi T _ (h.below hb) hk1 hk hn
  unfold lgV
  clear h
  go_enter Tryd.func25, Tryd.ntmps25
  go_wp2_with (go_at_call 53; refine hM.mono ?_; rintro e w2 ⟨rfl, h2, hw2⟩)
  go_ret
  exact ⟨rfl, h2, (Wrt.of_below hb).trans hw2 (fun _ _ h => h)⟩
set_option maxRecDepth 100000 in
set_option maxHeartbeats 800000 in
theorem heldLg_it (F : Int) (a : Option Addr) (c k0 n lo hi : Nat) (w : World) (h : It w [scl (marksS n k0)] [.slice a n c] lo hi) (hk1 : 1 ≤ k0) (hk : k0 ≤ 10000000) (hn : n ≤ 10000000) :
    Calls Tryd.prog 26 #[lgV F a n c, .int .i64 (k0 : Int)] w fun e w' => e = .returned (.int .i64 ((k0 : Int) + (n : Int))) ∧ Below w.heap.size w w' := by
  have hb := oneA w (.cells #[.int .i64 F, .slice a n c] 26)
  have hM := heldS_it a c k0 n lo hi _ (h.below hb) hk1 hk hn
  have hnn : ¬ ((k0 : Int) + (n : Int) < 0) := by omega
  unfold lgV
  clear h
  go_enter Tryd.func26, Tryd.ntmps26
  go_wp2_with (go_at_call 54; refine hM.mono ?_; rintro e w2 ⟨rfl, hb2⟩)
  go_ret
  exact ⟨rfl, hb.trans (hb2.mono hb.size)⟩
end Go.Proofs.YtbnpliobigjapaaDoor
