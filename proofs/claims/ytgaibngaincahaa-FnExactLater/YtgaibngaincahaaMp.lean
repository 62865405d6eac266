/-
  Several texts in one: Rzm Rzq.
-/
import Derived.Test.YtgaibngaincahaaMo
import Derived.Test.YtgaibngaincahaaKp
import Derived.Test.YtgaibngaincahaaMn
/-
  The laws' own markRow and heldRow; general words for marking one of many lists.
-/
namespace Go.Proofs.Ytgaibngaincahaa
set_option linter.unusedVariables false
set_option linter.unusedSimpArgs false
open Go.RowKit Go.Sort

theorem markI_ow (u : Value) (k0 : Nat) (Z : List Int) (f : Fp) (w : World) (h : Cel.ow w (icl Z) u f) (hk : k0 ≤ 10000000) (hn : Z.length ≤ 10000000) :
    Calls Try.prog 81 #[u, .int .i64 (k0 : Int)] w fun e w' => e = .returned (.int .i64 ((k0 : Int) + (Z.length : Int))) ∧ Cel.ow w' (icl (marks Z.length k0)) u f ∧ Wrt f w w' := by
  obtain ⟨a, c, G, rfl, ho, hf⟩ := ow_icl.1 h
  rcases ho.oi with ⟨rfl, rfl, rfl⟩ | ⟨g, off, rfl, ho', rfl⟩
  · refine (mark0_any a 0 (k0 : Int) w).mono ?_
    rintro e w' ⟨rfl, rfl⟩
    exact ⟨by simp, h, Wrt.refl _ _⟩
  · refine (markN_any g off c k0 _ (k0 : Int) Z w ho' rfl hk hn).mono ?_
    rintro e w' ⟨rfl, h1, h2⟩
    refine ⟨rfl, ow_icl.2 ⟨_, c, some g, by rw [marks_len], by rw [marks_len]; exact OSo.of h1, hf⟩, (touch_wrt h2).mono (fun b _ e => (hf b).2 (by rw [e]))⟩
theorem heldI_ow (u : Value) (k0 n : Nat) (f : Fp) (w : World) (h : Cel.ow w (icl (marks n k0)) u f) (hk : k0 ≤ 10000000) (hn : n ≤ 10000000) :
    Calls Try.prog 83 #[u, .int .i64 (k0 : Int)] w fun e w' => e = .returned (.int .i64 ((k0 : Int) + (n : Int))) ∧ w' = w := by
  obtain ⟨a, c, G, rfl, ho, hf⟩ := ow_icl.1 h
  have := ho.slc
  rw [marks_len]
  exact heldC_any a c k0 n (k0 : Int) w this rfl hk hn
theorem markS_ow (u : Value) (k0 : Nat) (T : List (List UInt8)) (f : Fp) (w : World) (h : Cel.ow w (scl T) u f) (hk1 : 1 ≤ k0) (hk : k0 ≤ 10000000) (hn : T.length ≤ 10000000) :
    Calls Try.prog 80 #[u, .int .i64 (k0 : Int)] w fun e w' => e = .returned (.int .i64 ((k0 : Int) + (T.length : Int))) ∧ Cel.ow w' (scl (marksS T.length k0)) u f ∧ Wrt f w w' := by
  obtain ⟨a', c', G, rfl, ho, hf⟩ := ow_scl.1 h
  rcases ho.os with ⟨rfl, rfl, rfl⟩ | ⟨g, off, rfl, ho', rfl⟩
  · refine (markS0_any a' 0 (k0 : Int) w).mono ?_
    rintro e w' ⟨rfl, rfl⟩
    exact ⟨by simp, h, Wrt.refl _ _⟩
  · refine (markS_any g off c' k0 T.length T w ho' hk1 hk hn).mono ?_
    rintro e w' ⟨rfl, h3, h4⟩
    exact ⟨rfl, ow_scl.2 ⟨_, c', some g, by rw [marksS_len], by rw [marksS_len]; exact OSo.of h3, hf⟩, (Wrt.of_grown h4).mono (fun b _ e => (hf b).2 e)⟩
theorem heldS_ow (u : Value) (k0 n : Nat) (f : Fp) (w : World) (h : Cel.ow w (scl (marksS n k0)) u f) (hk1 : 1 ≤ k0) (hk : k0 ≤ 10000000) (hn : n ≤ 10000000) :
    Calls Try.prog 82 #[u, .int .i64 (k0 : Int)] w fun e w' => e = .returned (.int .i64 ((k0 : Int) + (n : Int))) ∧ Below w.heap.size w w' := by
  obtain ⟨a, c, G, rfl, ho, hf⟩ := ow_scl.1 h
  rw [marksS_len]
  rcases ho.os with ⟨e0, rfl, rfl⟩ | ⟨g, off, rfl, ho', rfl⟩
  · have : n = 0 := by have := congrArg List.length e0; rw [marksS_len] at this; simpa using this
    subst this
    exact (heldS0_any a 0 (k0 : Int) w).mono (fun e w' ⟨h1, h2⟩ => ⟨by rw [h1]; simp, by rw [h2]; exact Below.refl _ _⟩)
  · rw [marksS_len] at ho'
    exact heldS_any g off c k0 n w ho' hk1 hk hn
theorem set_sameA {α : Type} : ∀ {l : List α} {k : Nat} {x : α}, l[k]? = some x → l.set k x = l
  | [], k, x, h => by simp at h
  | y :: l, 0, x, h => by simp at h; rw [h]; rfl
  | y :: l, k + 1, x, h => by rw [List.set_cons_succ, set_sameA (by simpa using h)]
/-- One of many things, and what becomes of all where it alone is written into. -/
theorem It.at {w : World} {cs : List Cel} {vs : List Value} {lo hi : Nat} (h : It w cs vs lo hi) {j : Nat} {c : Cel} (hj : cs[j]? = some c) : ∃ u f, vs[j]? = some u ∧ Cel.ow w c u f ∧ (∀ b, f b → lo ≤ b ∧ b < hi) ∧ ∀ (w' : World) (c' : Cel), Cel.ow w' c' u f → Wrt f w w' → It w' (cs.set j c') vs lo hi := by
  obtain ⟨fp, h1, h2⟩ := h
  obtain ⟨u, f, hu, ho, hs, hp⟩ := owL_at h1 hj
  refine ⟨u, f, hu, ho, fun b hb => h2 b (hs b hb), fun w' c' ho' hw => ?_⟩
  have hl : ∀ b, fp b → b < w.heap.size := owL_lt h1
  have := hp w' c' u f hw.size ho' (fun b hb hn => hw.block b (hl b hb) hn) (fun b hb _ => hb)
  have e : vs.set j u = vs := set_sameA hu
  rw [e] at this
  exact ⟨_, this, fun b hb => by rcases hb with hb | hb; exact h2 b (hs b hb); exact h2 b hb.1⟩
/-- How many things of a row are marked, and what the row is then. -/
def cntRw (r : Rw) : Nat := r.txt.length + r.got.length + r.sus.length + r.trm.length
def mkRw (r : Rw) (k : Nat) : Rw := { r with txt := marksS r.txt.length k, got := marks r.got.length (k + r.txt.length), sus := marks r.sus.length (k + r.txt.length + r.got.length), trm := marks r.trm.length (k + r.txt.length + r.got.length + r.sus.length) }
theorem mkRw_vals (A : Ra) (r : Rw) (k : Nat) : rwVals A (mkRw r k) = rwVals A r := by simp [rwVals, mkRw, marks_len, marksS_len]
attribute [local irreducible] sv
set_option maxRecDepth 100000 in
set_option maxHeartbeats 1600000 in
theorem markRw_it (A : Ra) (r : Rw) (k0 lo hi : Nat) (w : World) (h : It w (rwCels r) (rwVals A r) lo hi) (hh : hi ≤ w.heap.size) (hk1 : 1 ≤ k0) (hk : k0 ≤ 1000000) (hn : cntRw r ≤ 1000000) :
    Calls Try.prog 43 #[rwV A r, .int .i64 (k0 : Int)] w fun e w' => e = .returned (.int .i64 ((k0 + cntRw r : Nat) : Int)) ∧ It w' (rwCels (mkRw r k0)) (rwVals A r) lo hi ∧ Wrt (Iv lo hi) w w' := by
  have hb := oneA16 w (.cells (rwC A r) 35)
  have hx := Bx.new w 35 (rwC A r)
  obtain ⟨ver, txt, got, sus, wed, rdy, by_, trm⟩ := r
  obtain ⟨ta, tc, ga, gc, sa, sc, ma, mc⟩ := A
  unfold cntRw at hn ⊢
  simp only [] at hn ⊢
  have hW0 : Wrt (Iv lo hi) w (w.alloc (.cells (rwC ⟨ta, tc, ga, gc, sa, sc, ma, mc⟩ ⟨ver, txt, got, sus, wed, rdy, by_, trm⟩) 35)) := Wrt.of_below hb
  have h0 := h.below hb
  have HX : Hid (∀ X, Wrt (Iv lo hi) (w.alloc (.cells (rwC ⟨ta, tc, ga, gc, sa, sc, ma, mc⟩ ⟨ver, txt, got, sus, wed, rdy, by_, trm⟩) 35)) X → Bx X w.heap.size 35 #[.int .i64 ver, .slice ta txt.length tc, .slice ga got.length gc, .slice sa sus.length sc, .bool wed, .bool rdy, .int .i64 by_, .slice ma trm.length mc]) := fun X hX => hx.iv hX (.inr hh)
  unfold rwV
  unfold rwC at *
  simp only at *
  generalize hWW : w.alloc (.cells #[.int .i64 ver, .slice ta txt.length tc, .slice ga got.length gc, .slice sa sus.length sc, .bool wed, .bool rdy, .int .i64 by_, .slice ma trm.length mc] 35) = W at *
  have HW0 : Hid (Wrt (Iv lo hi) w W) := hW0
  clear h hb hx hW0
  obtain ⟨u1, f1, hu1, ho1, hf1, hp1⟩ := It.at h0 (j := 0) rfl
  cases hu1
  have hM1 := markS_ow _ k0 txt f1 W ho1 hk1 (by omega) (by omega)
  obtain ⟨⟨c0, c1, c2, c3⟩, c4, c5, c6, c7⟩ := Bx.r8 (HX.out W (Wrt.refl _ _))
  clear h0 ho1
  go_enter Try.func43, Try.ntmps43
  go_wp2_with fail
  refine hM1.mono ?_
  rintro e w1 ⟨rfl, hm1, hw1⟩
  have h1 := hp1 w1 _ hm1 hw1
  have HW1 : Hid (Wrt (Iv lo hi) W w1) := hw1.iv hf1
  clear hM1 hm1 hw1 hp1 hf1 c0 c1 c2 c3 c4 c5 c6 c7
  obtain ⟨u2, f2, hu2, ho2, hf2, hp2⟩ := It.at h1 (j := 1) rfl
  cases hu2
  have hM2 := markI_ow _ (k0 + txt.length) got f2 w1 ho2 (by omega) (by omega)
  rw [show (((k0 + txt.length : Nat) : Int)) = (k0 : Int) + (txt.length : Int) by omega] at hM2
  obtain ⟨⟨c0, c1, c2, c3⟩, c4, c5, c6, c7⟩ := Bx.r8 (HX.out w1 HW1.out)
  clear h1 ho2
  go_wp2_with fail
  refine hM2.mono ?_
  rintro e w2 ⟨rfl, hm2, hw2⟩
  have h2 := hp2 w2 _ hm2 hw2
  have HW2 : Hid (Wrt (Iv lo hi) W w2) := HW1.out.trans (hw2.iv hf2) (fun _ _ h => h)
  clear hM2 hm2 hw2 hp2 hf2 c0 c1 c2 c3 c4 c5 c6 c7
  obtain ⟨u3, f3, hu3, ho3, hf3, hp3⟩ := It.at h2 (j := 2) rfl
  cases hu3
  have hM3 := markI_ow _ (k0 + txt.length + got.length) sus f3 w2 ho3 (by omega) (by omega)
  rw [show (((k0 + txt.length + got.length : Nat) : Int)) = (k0 : Int) + (txt.length : Int) + (got.length : Int) by omega] at hM3
  obtain ⟨⟨c0, c1, c2, c3⟩, c4, c5, c6, c7⟩ := Bx.r8 (HX.out w2 HW2.out)
  clear h2 ho3
  go_wp2_with fail
  refine hM3.mono ?_
  rintro e w3 ⟨rfl, hm3, hw3⟩
  have h3 := hp3 w3 _ hm3 hw3
  have HW3 : Hid (Wrt (Iv lo hi) W w3) := HW2.out.trans (hw3.iv hf3) (fun _ _ h => h)
  clear hM3 hm3 hw3 hp3 hf3 c0 c1 c2 c3 c4 c5 c6 c7
  obtain ⟨u4, f4, hu4, ho4, hf4, hp4⟩ := It.at h3 (j := 3) rfl
  cases hu4
  have hM4 := markI_ow _ (k0 + txt.length + got.length + sus.length) trm f4 w3 ho4 (by omega) (by omega)
  rw [show (((k0 + txt.length + got.length + sus.length : Nat) : Int)) = (k0 : Int) + (txt.length : Int) + (got.length : Int) + (sus.length : Int) by omega] at hM4
  obtain ⟨⟨c0, c1, c2, c3⟩, c4, c5, c6, c7⟩ := Bx.r8 (HX.out w3 HW3.out)
  clear h3 ho4
  go_wp2_with fail
  refine hM4.mono ?_
  rintro e w4 ⟨rfl, hm4, hw4⟩
  have H4 : Hid (It w4 _ _ lo hi) := hp4 w4 _ hm4 hw4
  have HW4 : Hid (Wrt (Iv lo hi) W w4) := HW3.out.trans (hw4.iv hf4) (fun _ _ h => h)
  clear hM4 hm4 hw4 hp4 hf4 c0 c1 c2 c3 c4 c5 c6 c7
  go_wp2
  go_ret
  exact ⟨ret_int (by omega), H4.out, HW0.out.trans HW4.out (fun _ _ h => h)⟩
set_option maxRecDepth 100000 in
set_option maxHeartbeats 1600000 in
theorem heldRw_it (A : Ra) (r : Rw) (k0 lo hi : Nat) (w : World) (h : It w (rwCels (mkRw r k0)) (rwVals A r) lo hi) (hk1 : 1 ≤ k0) (hk : k0 ≤ 1000000) (hn : cntRw r ≤ 1000000) :
    Calls Try.prog 44 #[rwV A r, .int .i64 (k0 : Int)] w fun e w' => e = .returned (.int .i64 ((k0 + cntRw r : Nat) : Int)) ∧ Below w.heap.size w w' := by
  have hb := oneA16 w (.cells (rwC A r) 35)
  have hx := Bx.new w 35 (rwC A r)
  obtain ⟨ver, txt, got, sus, wed, rdy, by_, trm⟩ := r
  obtain ⟨ta, tc, ga, gc, sa, sc, ma, mc⟩ := A
  unfold cntRw at hn ⊢
  simp only [] at hn ⊢
  have h0 := h.below hb
  have HX : Hid (∀ X, Below (w.alloc (.cells (rwC ⟨ta, tc, ga, gc, sa, sc, ma, mc⟩ ⟨ver, txt, got, sus, wed, rdy, by_, trm⟩) 35)).heap.size (w.alloc (.cells (rwC ⟨ta, tc, ga, gc, sa, sc, ma, mc⟩ ⟨ver, txt, got, sus, wed, rdy, by_, trm⟩) 35)) X → Bx X w.heap.size 35 #[.int .i64 ver, .slice ta txt.length tc, .slice ga got.length gc, .slice sa sus.length sc, .bool wed, .bool rdy, .int .i64 by_, .slice ma trm.length mc]) := fun X hX => hx.below hX
  unfold rwV
  unfold rwC at *
  simp only at *
  generalize hWW : w.alloc (.cells #[.int .i64 ver, .slice ta txt.length tc, .slice ga got.length gc, .slice sa sus.length sc, .bool wed, .bool rdy, .int .i64 by_, .slice ma trm.length mc] 35) = W at *
  have HB0 : Hid (Below w.heap.size w W) := hb
  obtain ⟨u1, f1, hu1, ho1, _⟩ := It.at h0 (j := 0) rfl
  cases hu1
  have hM1 := heldS_ow _ k0 txt.length f1 W ho1 hk1 (by omega) (by omega)
  obtain ⟨⟨c0, c1, c2, c3⟩, c4, c5, c6, c7⟩ := Bx.r8 (HX.out W (Below.refl _ _))
  clear h hb hx ho1
  go_enter Try.func44, Try.ntmps44
  go_wp2_with fail
  refine hM1.mono ?_
  rintro e w1 ⟨rfl, hb1⟩
  have n1 : ¬ ((k0 : Int) + (txt.length : Int) < 0) := by omega
  have HB1 : Hid (Below W.heap.size W w1) := hb1
  have h1 := h0.below hb1
  obtain ⟨u2, f2, hu2, ho2, _⟩ := It.at h1 (j := 1) rfl
  cases hu2
  obtain ⟨u3, f3, hu3, ho3, _⟩ := It.at h1 (j := 2) rfl
  cases hu3
  obtain ⟨u4, f4, hu4, ho4, _⟩ := It.at h1 (j := 3) rfl
  cases hu4
  have hM2 := heldI_ow _ (k0 + txt.length) got.length f2 w1 ho2 (by omega) (by omega)
  rw [show (((k0 + txt.length : Nat) : Int)) = (k0 : Int) + (txt.length : Int) by omega] at hM2
  have hM3 := heldI_ow _ (k0 + txt.length + got.length) sus.length f3 w1 ho3 (by omega) (by omega)
  rw [show (((k0 + txt.length + got.length : Nat) : Int)) = (k0 : Int) + (txt.length : Int) + (got.length : Int) by omega] at hM3
  have hM4 := heldI_ow _ (k0 + txt.length + got.length + sus.length) trm.length f4 w1 ho4 (by omega) (by omega)
  rw [show (((k0 + txt.length + got.length + sus.length : Nat) : Int)) = (k0 : Int) + (txt.length : Int) + (got.length : Int) + (sus.length : Int) by omega] at hM4
  clear c0 c1 c2 c3 c4 c5 c6 c7
  obtain ⟨⟨c0, c1, c2, c3⟩, c4, c5, c6, c7⟩ := Bx.r8 (HX.out w1 hb1)
  have n2 : ¬ ((k0 : Int) + (txt.length : Int) + (got.length : Int) < 0) := by omega
  have n3 : ¬ ((k0 : Int) + (txt.length : Int) + (got.length : Int) + (sus.length : Int) < 0) := by omega
  have n4 : ¬ ((k0 : Int) + (txt.length : Int) + (got.length : Int) + (sus.length : Int) + (trm.length : Int) < 0) := by omega
  clear h0 h1 hM1 hb1 ho2 ho3 ho4
  go_wp2_with fail
  refine hM2.mono ?_
  rintro e w2 ⟨rfl, hw2⟩
  rw [hw2]
  clear hw2 hM2
  go_wp2_with fail
  refine hM3.mono ?_
  rintro e w2 ⟨rfl, hw2⟩
  rw [hw2]
  clear hw2 hM3
  go_wp2_with fail
  refine hM4.mono ?_
  rintro e w2 ⟨rfl, hw2⟩
  rw [hw2]
  clear hw2 hM4
  go_wp2
  go_ret
  exact ⟨ret_int (by omega), HB0.out.trans (HB1.out.mono HB0.out.size)⟩
end Go.Proofs.Ytgaibngaincahaa

/-
  What the program's functions of rows must answer; rows as what a law holds; the laws' own likeRow.
-/
namespace Go.Proofs.Ytgaibngaincahaa
set_option linter.unusedVariables false
set_option linter.unusedSimpArgs false
open Go.RowKit Go.Sort

/-- The numbers of a row are of 64 bits. -/
def Rw64 (r : Rw) : Prop := I64v r.ver ∧ I64v r.by_
/-- A row that a program is handed. -/
structure RwP (w : World) (A : Ra) (r : Rw) : Prop where
  txt : TxP w A.ta A.tc r.txt
  got : VcP w A.ga A.gc r.got
  sus : VcP w A.sa A.sc r.sus
  trm : VcP w A.ma A.mc r.trm
  i64 : Rw64 r
  sz : szRw r ≤ 1048576
theorem RwP.below {w w' : World} {A : Ra} {r : Rw} (h : RwP w A r) (hb : Below w.heap.size w w') : RwP w' A r := ⟨h.txt.below hb, h.got.below hb, h.sus.below hb, h.trm.below hb, h.i64, h.sz⟩
theorem RwP.rws {w : World} {A : Ra} {r : Rw} (h : RwP w A r) : RwS w A r := by
  have hs := h.sz
  unfold szRw at hs
  exact ⟨h.txt.txs, h.got.vec, h.sus.vec, h.trm.vec, by unfold maxLen; omega, by unfold maxLen; omega, by unfold maxLen; omega, by unfold maxLen; omega⟩
/-- The lists of a row hold numbers of 64 bits. -/
def FitR (r : Rw) : Prop := Fits r.got ∧ Fits r.sus ∧ Fits r.trm
theorem RwS.fit {w : World} {A : Ra} {r : Rw} (h : RwS w A r) : FitR r := ⟨fun x hx => by have := h.got.2.1 x hx; omega, fun x hx => by have := h.sus.2.1 x hx; omega, fun x hx => by have := h.trm.2.1 x hx; omega⟩
theorem it_parts {w : World} {A : Ra} {r : Rw} {lo hi : Nat} (h : It w (rwCels r) (rwVals A r) lo hi) : ∃ f1 f2 f3 f4, Cel.ow w (scl r.txt) (.slice A.ta r.txt.length A.tc) f1 ∧ Cel.ow w (icl r.got) (.slice A.ga r.got.length A.gc) f2 ∧ Cel.ow w (icl r.sus) (.slice A.sa r.sus.length A.sc) f3 ∧ Cel.ow w (icl r.trm) (.slice A.ma r.trm.length A.mc) f4 := by
  obtain ⟨f, h1, _⟩ := h
  obtain ⟨u1, us1, f1, g1, e1, o1, h2, _⟩ := h1
  cases e1
  obtain ⟨u2, us2, f2, g2, e2, o2, h3, _⟩ := h2
  cases e2
  obtain ⟨u3, us3, f3, g3, e3, o3, h4, _⟩ := h3
  cases e3
  obtain ⟨u4, us4, f4, g4, e4, o4, h5, _⟩ := h4
  cases e4
  exact ⟨f1, f2, f3, f4, o1, o2, o3, o4⟩
theorem it_rwp {w : World} {A : Ra} {r : Rw} {lo hi : Nat} (h : It w (rwCels r) (rwVals A r) lo hi) (hf : FitR r) (h6 : Rw64 r) (hs : szRw r ≤ 1048576) : RwP w A r := by
  obtain ⟨f1, f2, f3, f4, o1, o2, o3, o4⟩ := it_parts h
  exact ⟨ow_txp o1, ow_vcp o2 hf.1, ow_vcp o3 hf.2.1, ow_vcp o4 hf.2.2, h6, hs⟩
theorem it_rws {w : World} {A : Ra} {r : Rw} {lo hi : Nat} (h : It w (rwCels r) (rwVals A r) lo hi) (hf : FitR r) (hs : szRw r ≤ 1048576) : RwS w A r := by
  obtain ⟨f1, f2, f3, f4, o1, o2, o3, o4⟩ := it_parts h
  unfold szRw at hs
  exact ⟨(ow_txp o1).txs, (ow_vcp o2 hf.1).vec, (ow_vcp o3 hf.2.1).vec, (ow_vcp o4 hf.2.2).vec, by unfold maxLen; omega, by unfold maxLen; omega, by unfold maxLen; omega, by unfold maxLen; omega⟩
def ImplRowOk : Prop := ∀ (A : Ra) (r : Rw) (n : Int) (w : World), RwP w A r → I64v n → Calls Try.prog 35 #[rwV A r, .int .i64 n] w fun e w' => e = .returned (.bool (okRw r n)) ∧ Below w.heap.size w w'
def ImplFollows : Prop := ∀ (A B : Ra) (r s : Rw) (n : Int) (w : World), RwP w A r → RwP w B s → I64v n → Calls Try.prog 28 #[rwV A r, rwV B s, .int .i64 n] w fun e w' => e = .returned (.bool (folB r s n)) ∧ Below w.heap.size w w'
def ImplLater : Prop := ∀ (A B : Ra) (r s : Rw) (w : World), RwP w A r → RwP w B s → Calls Try.prog 33 #[rwV A r, rwV B s] w fun e w' => e = .returned (.bool (decide (s.ver < r.ver))) ∧ Below w.heap.size w w'
def ImplNewRow : Prop := ∀ (n : Int) (w : World), I64v n → Calls Try.prog 38 #[.int .i64 n] w fun e w' => AnsRw w w' e (newRw n)
theorem newRw_small (n : Int) : FitR (newRw n) ∧ Rw64 (newRw n) ∧ szRw (newRw n) ≤ 5 ∧ cntRw (newRw n) ≤ 5 := by
  unfold newRw
  split
  · rename_i h
    have := inB7.1 h
    refine ⟨⟨fun x hx => ?_, fun x hx => absurd hx List.not_mem_nil, fun x hx => absurd hx List.not_mem_nil⟩, ⟨⟨by simp, by simp⟩, by simp, by simp⟩, by simp [szRw, totS]; omega, by simp [cntRw]; omega⟩
    have := List.eq_of_mem_replicate hx
    omega
  · exact ⟨⟨fun x hx => absurd hx List.not_mem_nil, fun x hx => absurd hx List.not_mem_nil, fun x hx => absurd hx List.not_mem_nil⟩, ⟨⟨by simp [zeroRw], by simp [zeroRw]⟩, by simp [zeroRw], by simp [zeroRw]⟩, by simp [szRw, totS, zeroRw], by simp [cntRw, zeroRw]⟩
theorem AnsRw.it {w w' : World} {e : Ending} {r : Rw} (h : AnsRw w w' e r) : ∃ A, e = .returned (rwV A r) ∧ It w' (rwCels r) (rwVals A r) w.heap.size w'.heap.size ∧ Below w.heap.size w w' := by
  obtain ⟨A, h1, h2⟩ := h
  exact ⟨A, h1, It.of_new h2, by obtain ⟨_, _, _, h3⟩ := h2; exact h3⟩
end Go.Proofs.Ytgaibngaincahaa
