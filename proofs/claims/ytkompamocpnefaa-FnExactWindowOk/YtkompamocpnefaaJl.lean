/-
  Several texts in one: Wis Wit Wiu.
-/
import Derived.Test.YtkompamocpnefaaJk
/-
  The program's WindowOk, Open, Sent and Acked.
-/
namespace Go.Proofs.Ytkompamocpnefaa
set_option linter.unusedVariables false
set_option linter.unusedSimpArgs false
open Go.RowKit Go.Sort

set_option maxRecDepth 100000 in
set_option maxHeartbeats 1600000 in
theorem implWindowOk : ImplWindowOk := fun sz st a len cap xs w hz ht hv hc hm => by
  have HB : Hid (Below w.heap.size w (w.alloc (.cells #[.int .i64 sz, .int .i64 st, .slice a len cap] 34))) := one_alloc w _
  have hO := windowOf_any sz st a len cap xs _ (hv.below HB.out (Nat.le_refl _)) hc hm
  unfold wiV at *
  generalize hW : w.alloc (.cells #[.int .i64 sz, .int .i64 st, .slice a len cap] 34) = W at *
  have x0 : Bx W w.heap.size 34 #[.int .i64 sz, .int .i64 st, .slice a len cap] := by rw [← hW]; exact Bx.new _ _ _
  obtain ⟨c0, c1, c2⟩ := x0.w3
  go_enter Try.func33, Try.ntmps33
  go_wp2_with fail
  refine hO.mono ?_
  rintro e w1 (⟨hb, rfl, hb1⟩ | ⟨hb, g, o, c, rfl, hg, ho, hb1⟩)
  · have HZ : Hid (wokB sz st xs = false) := hb
    have HR : Hid (Below w.heap.size w w1) := HB.out.trans (hb1.mono HB.out.size)
    clear hb hb1
    unfold iwV
    go_wp2
    go_ret
    exact ⟨ret_bool (by rw [HZ.out]), HR.out.alloc HR.out.size _⟩
  · have HZ : Hid (wokB sz st xs = true) := hb
    have HR : Hid (Below w.heap.size w w1) := HB.out.trans (hb1.mono HB.out.size)
    clear hb hb1
    unfold iwV
    go_wp2
    go_ret
    exact ⟨ret_bool (by rw [HZ.out]), HR.out.alloc HR.out.size _⟩

set_option maxRecDepth 100000 in
set_option maxHeartbeats 1600000 in
theorem implOpen : ImplOpen := fun sz st a len cap xs w hz ht hv hc hm => by
  have HB : Hid (Below w.heap.size w (w.alloc (.cells #[.int .i64 sz, .int .i64 st, .slice a len cap] 34))) := one_alloc w _
  have hO := windowOf_any sz st a len cap xs _ (hv.below HB.out (Nat.le_refl _)) hc hm
  have HF : Hid (Fits xs) := hv.2.1
  unfold wiV at *
  generalize hW : w.alloc (.cells #[.int .i64 sz, .int .i64 st, .slice a len cap] 34) = W at *
  have x0 : Bx W w.heap.size 34 #[.int .i64 sz, .int .i64 st, .slice a len cap] := by rw [← hW]; exact Bx.new _ _ _
  obtain ⟨c0, c1, c2⟩ := x0.w3
  clear hv
  go_enter Try.func35, Try.ntmps35
  go_wp2_with fail
  refine hO.mono ?_
  rintro e w1 (⟨hb, rfl, hb1⟩ | ⟨hb, g, o, c, rfl, hg, ho, hb1⟩)
  · have HZ : Hid (opnB sz st xs = false) := by rw [Hid, opnB, hb]; rfl
    have HR : Hid (Below w.heap.size w w1) := HB.out.trans (hb1.mono HB.out.size)
    clear hb hb1 c0 c1 c2 x0
    unfold iwV
    go_wp2
    go_ret
    exact ⟨ret_bool (by rw [HZ.out]), HR.out.alloc HR.out.size _⟩
  · have HZ : Hid (opnB sz st xs = op1B sz st xs) := by rw [Hid, opnB, hb]; rfl
    have HR : Hid (Below w.heap.size w (w1.alloc (.cells #[.int .i64 sz, .int .i64 st, .slice (some ⟨g, o, none⟩) xs.length c] 67))) := (HB.out.trans (hb1.mono HB.out.size)).alloc (Nat.le_trans HB.out.size hb1.size) _
    have hOp := openW_any sz st (some ⟨g, o, none⟩) xs.length c xs (w1.alloc (.cells #[.int .i64 sz, .int .i64 st, .slice (some ⟨g, o, none⟩) xs.length c] 67)) ((ho.below (one_alloc w1 _) ho.blk).vec HF.out) ho.le ho.max hb
    have y0 := Bx.new w1 67 #[.int .i64 sz, .int .i64 st, .slice (some ⟨g, o, none⟩) xs.length c]
    generalize op1B sz st xs = R at *
    clear hb hb1 c0 c1 c2 x0 ho hO
    unfold iwV at *
    generalize hW2 : w1.alloc (.cells #[.int .i64 sz, .int .i64 st, .slice (some ⟨g, o, none⟩) xs.length c] 67) = W2 at *
    obtain ⟨d0, d1, d2⟩ := y0.w3
    clear y0
    go_wp2_with fail
    refine hOp.mono ?_
    rintro e w2 ⟨rfl, hg2⟩
    have HR2 : Hid (Below w.heap.size w w2) := HR.out.trans (hg2.1.mono HR.out.size)
    clear hg2 hOp
    go_wp2
    go_ret
    exact ⟨ret_bool (by rw [HZ.out]), HR2.out⟩

theorem ackB_grows {sz st : Int} {xs : List Int} {who n : Int} (hw : wokB sz st xs = true) : ackB st xs who n = (inB who 0 ((xs.length : Int) - 1) && decide (el xs who.toNat ≤ n) && hldB sz st n) := by
  have hk := wokB_iff.1 hw
  rw [Bool.eq_iff_iff, ackB]
  simp only [Bool.and_eq_true, inB, decide_eq_true_eq, hldB]
  constructor
  · rintro ⟨a, b, c⟩
    have hlt : who.toNat < xs.length := by omega
    have hlo : loX xs ≤ el xs who.toNat := by
      have := hk.2.2.2.2
      rw [leastB_lo hk.2.2.1] at this
      have lo : ∀ (l : List Int) (x m : Int), m ≤ loL x l ↔ m ≤ x ∧ ∀ y ∈ l, m ≤ y := by
        intro l; induction l with
        | nil => intro x m; simp [loL]
        | cons y l ih =>
          intro x m
          show m ≤ loL (min x y) l ↔ _
          rw [ih]
          simp only [List.mem_cons]
          constructor
          · rintro ⟨h1, h2⟩
            exact ⟨by omega, fun z hz => by rcases hz with rfl | hz; omega; exact h2 z hz⟩
          · rintro ⟨h1, h2⟩
            exact ⟨by have := h2 y (Or.inl rfl); omega, fun z hz => h2 z (Or.inr hz)⟩
      have h := (lo xs.tail (el xs 0) (loX xs)).1 (Int.le_refl _)
      have hm := el_mem hlt
      cases xs with
      | nil => simp at hlt
      | cons x l =>
        rcases List.mem_cons.1 hm with e | e
        · rw [e]; have := h.1; simpa [el] using this
        · exact h.2 _ e
    have h5 := hk.2.2.2.2
    rw [leastB_lo hk.2.2.1] at h5
    exact ⟨⟨a, b⟩, by omega, c⟩
  · rintro ⟨⟨a, b⟩, c, d⟩
    exact ⟨a, b, d⟩

set_option maxRecDepth 100000 in
set_option maxHeartbeats 1600000 in
theorem grows_any (sz st : Int) (b off len cap : Nat) (xs : List Int) (who n : Int) (w : World) (hl : xs.length = len) (hcs : ∀ i, i < len → w.cell? ⟨b, off + i, none⟩ = some (.int .i64 (el xs i))) (hw : wokB sz st xs = true) :
    Calls Try.prog 68 #[iwV sz st (some ⟨b, off, none⟩) len cap, .int .i64 who, .int .i64 n] w fun e w' => e = .returned (.bool (ackB st xs who n)) ∧ Grew w w' := by
  have hk := wokB_iff.1 hw
  have h18 := okB_len hk.2.2.1
  have HE : Hid (ackB st xs who n = (inB who 0 ((len : Int) - 1) && decide (el xs who.toNat ≤ n) && hldB sz st n)) := by rw [Hid, ackB_grows hw, hl]
  have HG : Hid (Grew w (w.alloc (.cells #[.int .i64 sz, .int .i64 st, .slice (some ⟨b, off, none⟩) len cap] 67))) := (Grew.refl _).alloc _
  have x0 := Bx.new w 67 #[.int .i64 sz, .int .i64 st, .slice (some ⟨b, off, none⟩) len cap]
  have hcW : ∀ i, i < len → (w.alloc (.cells #[.int .i64 sz, .int .i64 st, .slice (some ⟨b, off, none⟩) len cap] 67)).cell? ⟨b, off + i, none⟩ = some (.int .i64 (el xs i)) := fun i hi => HG.out.cell (hcs i hi)
  generalize hW : w.alloc (.cells #[.int .i64 sz, .int .i64 st, .slice (some ⟨b, off, none⟩) len cap] 67) = W at *
  obtain ⟨c0, c1, c2⟩ := x0.w3
  have hH := holds_any sz st n hk.1 hk.2.1
  unfold boV at hH
  unfold iwV
  have h8 : len ≤ 8 := by omega
  clear x0 hcs hw hl h18 hk
  cases e1 : inB who 0 ((len : Int) - 1) with
  | false =>
    have HZ : Hid (ackB st xs who n = false) := by rw [Hid, HE.out, e1]; rfl
    clear HE hcW hH
    go_enter Try.func68, Try.ntmps68
    go_wp2_with (go_at_call 81; refine (isW8_any _ _ _).mono ?_; rintro e w' ⟨rfl, rfl⟩)
    go_ret
    exact ⟨ret_bool (by rw [HZ.out]), HG.out⟩
  | true =>
    have hk := e1
    simp only [inB, Bool.and_eq_true, decide_eq_true_eq] at hk
    obtain ⟨k, rfl⟩ : ∃ k : Nat, who = (k : Int) := ⟨who.toNat, by omega⟩
    have hkl : k < len := by omega
    have k1 : (k : Int) < (len : Int) := by omega
    have k0 : (0 : Int) ≤ (k : Int) := by omega
    have ck := hcW k hkl
    have HE2 : Hid (ackB st xs (k : Int) n = (decide (el xs k ≤ n) && hldB sz st n)) := by rw [Hid, HE.out, e1]; simp
    clear HE hk hcW
    generalize el xs k = x at *
    by_cases hx : x ≤ n
    · have HZ : Hid (ackB st xs (k : Int) n = hldB sz st n) := by rw [Hid, HE2.out, decide_eq_true hx]; rfl
      clear HE2
      generalize hldB sz st n = R at *
      go_enter Try.func68, Try.ntmps68
      go_wp2_with (first | (go_at_call 81; refine (isW8_any _ _ _).mono ?_; rintro e w' ⟨rfl, rfl⟩) | (go_at_call 82; refine (hH _).mono ?_; rintro e w2 ⟨rfl, hg2⟩))
      go_ret
      exact ⟨ret_bool (by rw [HZ.out]), HG.out.trans hg2⟩
    · have HZ : Hid (ackB st xs (k : Int) n = false) := by rw [Hid, HE2.out, decide_eq_false hx]; rfl
      clear HE2
      go_enter Try.func68, Try.ntmps68
      go_wp2_with (first | (go_at_call 81; refine (isW8_any _ _ _).mono ?_; rintro e w' ⟨rfl, rfl⟩))
      go_ret
      exact ⟨ret_bool (by rw [HZ.out]), HG.out⟩
end Go.Proofs.Ytkompamocpnefaa

/-
  The program's Sent and Acked.
-/
namespace Go.Proofs.Ytkompamocpnefaa
set_option linter.unusedVariables false
set_option linter.unusedSimpArgs false
open Go.RowKit Go.Sort

theorem Bx.set {w : World} {B : Nat} {T : TypeId} {cs : Array Value} (h : Bx w B T cs) (i : Nat) (v : Value) : Bx (w.setCell ⟨B, i, none⟩ v) B T (cs.setIfInBounds i v) := by
  have hh : w.heap[B]? = some (.cells cs T (0, 0)) := h
  have hl := (Array.getElem?_eq_some_iff.1 hh)
  obtain ⟨hlt, he⟩ := hl
  unfold Bx
  simp only [World.setCell]
  rw [Array.getElem?_modify, hh]
  simp

set_option maxRecDepth 100000 in
set_option maxHeartbeats 3200000 in
theorem implSent : ImplSent := fun sz st a len cap xs w hz ht hv hc hm => by
  have HG : Hid (Grew w ((w.alloc (.cells #[.int .i64 sz, .int .i64 st, .slice a len cap] 34)).alloc (.cells #[.int .i64 0, .int .i64 0, .slice none 0 0] 34))) := ((Grew.refl _).alloc _).alloc _
  have hO := windowOf_any sz st a len cap xs _ (hv.below HG.out.1 (Nat.le_refl _)) hc hm
  have HF : Hid (Fits xs) := hv.2.1
  have q0 : Bx ((w.alloc (.cells #[.int .i64 sz, .int .i64 st, .slice a len cap] 34)).alloc (.cells #[.int .i64 0, .int .i64 0, .slice none 0 0] 34)) w.heap.size 34 #[.int .i64 sz, .int .i64 st, .slice a len cap] := (Bx.new _ _ _).alloc _
  have r0 : Bx ((w.alloc (.cells #[.int .i64 sz, .int .i64 st, .slice a len cap] 34)).alloc (.cells #[.int .i64 0, .int .i64 0, .slice none 0 0] 34)) (w.heap.size + 1) 34 #[.int .i64 0, .int .i64 0, .slice none 0 0] := by
    have := Bx.new (w.alloc (.cells #[.int .i64 sz, .int .i64 st, .slice a len cap] 34)) 34 #[.int .i64 0, .int .i64 0, .slice none 0 0]
    simpa using this
  unfold wiV at *
  generalize hW : (w.alloc (.cells #[.int .i64 sz, .int .i64 st, .slice a len cap] 34)).alloc (.cells #[.int .i64 0, .int .i64 0, .slice none 0 0] 34) = W at *
  obtain ⟨c0, c1, c2⟩ := q0.w3
  clear hv q0
  go_enter Try.func28, Try.ntmps28
  go_wp2_with fail
  refine hO.mono ?_
  rintro e w1 (⟨hb, rfl, hb1⟩ | ⟨hb, g, o, c, rfl, hg, ho, hb1⟩)
  · have HZ : Hid (sentL sz st xs = ⟨0, 0, [], false⟩) := sentL_no hb
    have HR : Hid (Below w.heap.size w (w1.alloc (.cells #[.int .i64 0, .int .i64 0, .slice none 0 0] 67))) := (HG.out.1.trans (hb1.mono HG.out.1.size)).alloc (Nat.le_trans HG.out.1.size hb1.size) _
    have r1 := (r0.below hb1).alloc (.cells #[.int .i64 0, .int .i64 0, .slice none 0 0] 67)
    clear hb hb1 c0 c1 c2 hO r0
    unfold iwV
    obtain ⟨t0, t1, t2⟩ := r1.w3
    have f0 := r1.f 0
    have f1 := r1.f 1
    have f2 := r1.f 2
    go_wp2
    refine bodyPost_ret (v := .tuple #[.agg #[.int .i64 0, .int .i64 0, .slice none 0 0], .bool false]) (by simp [results, Try.results28, go_sem, t0, t1, t2]) rfl ?_
    rw [HZ.out]
    exact ⟨none, 0, rfl, .inl ⟨rfl, Nat.zero_le _⟩, set3 HR.out (Nat.le_succ _)⟩
  · have hk := wokB_iff.1 hb
    have HR : Hid (Below w.heap.size w (w1.alloc (.cells #[.int .i64 sz, .int .i64 st, .slice (some ⟨g, o, none⟩) xs.length c] 67))) := (HG.out.1.trans (hb1.mono HG.out.1.size)).alloc (Nat.le_trans HG.out.1.size hb1.size) _
    have hOp := openW_any sz st (some ⟨g, o, none⟩) xs.length c xs (w1.alloc (.cells #[.int .i64 sz, .int .i64 st, .slice (some ⟨g, o, none⟩) xs.length c] 67)) ((ho.below (one_alloc w1 _) ho.blk).vec HF.out) ho.le ho.max hb
    have y0 := Bx.new w1 67 #[.int .i64 sz, .int .i64 st, .slice (some ⟨g, o, none⟩) xs.length c]
    have r1 := (r0.below hb1).alloc (.cells #[.int .i64 sz, .int .i64 st, .slice (some ⟨g, o, none⟩) xs.length c] 67)
    have o1 := ho.below (one_alloc w1 (.cells #[.int .i64 sz, .int .i64 st, .slice (some ⟨g, o, none⟩) xs.length c] 67)) ho.blk
    have HLG : Hid (w.heap.size + 1 < g ∧ g < w1.heap.size ∧ w.heap.size + 1 < w1.heap.size) := by
      have s1 := r0.lt
      have s2 := ho.blk
      have s3 := hb1.size
      refine ⟨by omega, s2, by omega⟩
    have HB1 : Hid (w.heap.size + 1 < w1.heap.size) := HLG.out.2.2
    have st1 : st + 1 ≤ 9223372036854775807 := by omega
    have st0 : -9223372036854775808 ≤ st + 1 := by omega
    clear hb1 c0 c1 c2 ho hO r0 hg
    unfold iwV at *
    generalize hW2 : w1.alloc (.cells #[.int .i64 sz, .int .i64 st, .slice (some ⟨g, o, none⟩) xs.length c] 67) = W2 at *
    obtain ⟨d0, d1, d2⟩ := y0.w3
    have HB : Hid (wokB sz st xs = true) := hb
    clear hb hk
    cases hop : op1B sz st xs with
    | false =>
      have HZ : Hid (sentL sz st xs = ⟨sz, st, xs, false⟩) := sentL_full HB.out hop
      rw [hop] at hOp
      clear hop
      go_wp2_with fail
      refine hOp.mono ?_
      rintro e w2 ⟨rfl, hg2⟩
      have y2 := y0.below hg2.1
      obtain ⟨e0, e1, e2⟩ := y2.w3
      have r2 := r1.below hg2.1
      have o2 := o1.below hg2.1 o1.blk
      have HR2 : Hid (Below w.heap.size w w2) := HR.out.trans (hg2.1.mono HR.out.size)
      clear d0 d1 d2 hg2 hOp r1 o1 y0
      have hT := told_any sz st (some ⟨g, o, none⟩) xs.length c w2
      unfold iwV wiV at hT
      go_wp2_with fail
      refine hT.mono ?_
      rintro e w3 ⟨rfl, hg3⟩
      have r3 := r2.below hg3.1
      obtain ⟨t0, t1, t2⟩ := r3.w3
      have f0 := r3.f 0
      have f1 := r3.f 1
      have f2 := r3.f 2
      have HO3 : Hid (OI w3 g o xs.length c xs) := o2.below hg3.1 o2.blk
      have HR3 : Hid (Below w.heap.size w w3) := HR2.out.trans (hg3.1.mono HR2.out.size)
      clear e0 e1 e2 hg3 hT r2 o2 y2
      go_wp2
      refine bodyPost_ret (v := .tuple #[.agg #[.int .i64 sz, .int .i64 st, .slice (some ⟨g, o, none⟩) xs.length c], .bool false]) (by simp [results, Try.results28, go_sem, t0, t1, t2]) rfl ?_
      rw [HZ.out]
      have s1 := HLG.out
      refine ⟨some ⟨g, o, none⟩, c, rfl, .inr ⟨g, o, rfl, by omega, ?_⟩, set3 HR3.out (Nat.le_succ _)⟩
      exact num3 HO3.out (by omega)
    | true =>
      have HZ : Hid (sentL sz st xs = ⟨sz, st + 1, xs, true⟩) := sentL_ok HB.out hop
      rw [hop] at hOp
      clear hop
      go_wp2_with fail
      refine hOp.mono ?_
      rintro e w2 ⟨rfl, hg2⟩
      have y2 := y0.below hg2.1
      obtain ⟨e0, e1, e2⟩ := y2.w3
      have ef := y2.f 1
      have r2 := r1.below hg2.1
      have o2 := o1.below hg2.1 o1.blk
      have HR2 : Hid (Below w.heap.size w w2) := HR.out.trans (hg2.1.mono HR.out.size)
      have s1 := HLG.out
      have y5 : Bx (w2.setCell ⟨w1.heap.size, 1, none⟩ (.int .i64 (st + 1))) w1.heap.size 67 #[.int .i64 sz, .int .i64 (st + 1), .slice (some ⟨g, o, none⟩) xs.length c] := y2.set 1 _
      have r5 : Bx (w2.setCell ⟨w1.heap.size, 1, none⟩ (.int .i64 (st + 1))) (w.heap.size + 1) 34 #[.int .i64 0, .int .i64 0, .slice none 0 0] := r2.grown (grown_set (grown_refl w2 (some w1.heap.size)) 1 _) (by simp; omega)
      have o5 : OI (w2.setCell ⟨w1.heap.size, 1, none⟩ (.int .i64 (st + 1))) g o xs.length c xs := num_other o2 (by omega)
      have HR5 : Hid (Below w.heap.size w (w2.setCell ⟨w1.heap.size, 1, none⟩ (.int .i64 (st + 1)))) := HR2.out.setCell (p := ⟨w1.heap.size, 1, none⟩) (show w.heap.size ≤ w1.heap.size by omega) _
      clear d0 d1 d2 hg2 hOp r1 o1 y0 y2 r2 o2 s1 e0 e2
      generalize hW5 : w2.setCell ⟨w1.heap.size, 1, none⟩ (.int .i64 (st + 1)) = W5 at *
      obtain ⟨k0, k1, k2⟩ := y5.w3
      have hT := told_any sz (st + 1) (some ⟨g, o, none⟩) xs.length c W5
      unfold iwV wiV at hT
      go_wp2_with fail
      refine hT.mono ?_
      rintro e w3 ⟨rfl, hg3⟩
      have r3 := r5.below hg3.1
      obtain ⟨t0, t1, t2⟩ := r3.w3
      have f0 := r3.f 0
      have f1 := r3.f 1
      have f2 := r3.f 2
      have HO3 : Hid (OI w3 g o xs.length c xs) := o5.below hg3.1 o5.blk
      have HR3 : Hid (Below w.heap.size w w3) := HR5.out.trans (hg3.1.mono HR5.out.size)
      clear e1 hg3 hT r5 o5 y5 k0 k1 k2
      go_wp2
      refine bodyPost_ret (v := .tuple #[.agg #[.int .i64 sz, .int .i64 (st + 1), .slice (some ⟨g, o, none⟩) xs.length c], .bool true]) (by simp [results, Try.results28, go_sem, t0, t1, t2]) rfl ?_
      rw [HZ.out]
      have s1 := HLG.out
      refine ⟨some ⟨g, o, none⟩, c, rfl, .inr ⟨g, o, rfl, by omega, ?_⟩, set3 HR3.out (Nat.le_succ _)⟩
      exact num3 HO3.out (by omega)
end Go.Proofs.Ytkompamocpnefaa

/-
  The program's Acked.
-/
namespace Go.Proofs.Ytkompamocpnefaa
set_option linter.unusedVariables false
set_option linter.unusedSimpArgs false
open Go.RowKit Go.Sort

set_option maxRecDepth 100000 in
set_option maxHeartbeats 3200000 in
theorem implAcked : ImplAcked := fun sz st a len cap xs who n w hz ht hwho hn hv hc hm => by
  have HG : Hid (Grew w ((w.alloc (.cells #[.int .i64 sz, .int .i64 st, .slice a len cap] 34)).alloc (.cells #[.int .i64 0, .int .i64 0, .slice none 0 0] 34))) := ((Grew.refl _).alloc _).alloc _
  have hO := windowOf_any sz st a len cap xs _ (hv.below HG.out.1 (Nat.le_refl _)) hc hm
  have HF : Hid (Fits xs) := hv.2.1
  have q0 : Bx ((w.alloc (.cells #[.int .i64 sz, .int .i64 st, .slice a len cap] 34)).alloc (.cells #[.int .i64 0, .int .i64 0, .slice none 0 0] 34)) w.heap.size 34 #[.int .i64 sz, .int .i64 st, .slice a len cap] := (Bx.new _ _ _).alloc _
  have r0 : Bx ((w.alloc (.cells #[.int .i64 sz, .int .i64 st, .slice a len cap] 34)).alloc (.cells #[.int .i64 0, .int .i64 0, .slice none 0 0] 34)) (w.heap.size + 1) 34 #[.int .i64 0, .int .i64 0, .slice none 0 0] := by
    have := Bx.new (w.alloc (.cells #[.int .i64 sz, .int .i64 st, .slice a len cap] 34)) 34 #[.int .i64 0, .int .i64 0, .slice none 0 0]
    simpa using this
  unfold wiV at *
  generalize hW : (w.alloc (.cells #[.int .i64 sz, .int .i64 st, .slice a len cap] 34)).alloc (.cells #[.int .i64 0, .int .i64 0, .slice none 0 0] 34) = W at *
  obtain ⟨c0, c1, c2⟩ := q0.w3
  clear hv q0
  go_enter Try.func30, Try.ntmps30
  go_wp2_with fail
  refine hO.mono ?_
  rintro e w1 (⟨hb, rfl, hb1⟩ | ⟨hb, g, o, c, rfl, hg, ho, hb1⟩)
  · have HZ : Hid (ackL sz st xs who n = ⟨0, 0, [], false⟩) := ackL_no hb
    have HR : Hid (Below w.heap.size w (w1.alloc (.cells #[.int .i64 0, .int .i64 0, .slice none 0 0] 67))) := (HG.out.1.trans (hb1.mono HG.out.1.size)).alloc (Nat.le_trans HG.out.1.size hb1.size) _
    have r1 := (r0.below hb1).alloc (.cells #[.int .i64 0, .int .i64 0, .slice none 0 0] 67)
    clear hb hb1 c0 c1 c2 hO r0
    unfold iwV
    obtain ⟨t0, t1, t2⟩ := r1.w3
    have f0 := r1.f 0
    have f1 := r1.f 1
    have f2 := r1.f 2
    go_wp2
    refine bodyPost_ret (v := .tuple #[.agg #[.int .i64 0, .int .i64 0, .slice none 0 0], .bool false]) (by simp [results, Try.results30, go_sem, t0, t1, t2]) rfl ?_
    rw [HZ.out]
    exact ⟨none, 0, rfl, .inl ⟨rfl, Nat.zero_le _⟩, set3 HR.out (Nat.le_succ _)⟩
  · have hk := wokB_iff.1 hb
    have HR : Hid (Below w.heap.size w (w1.alloc (.cells #[.int .i64 sz, .int .i64 st, .slice (some ⟨g, o, none⟩) xs.length c] 67))) := (HG.out.1.trans (hb1.mono HG.out.1.size)).alloc (Nat.le_trans HG.out.1.size hb1.size) _
    have hOp := grows_any sz st g o xs.length c xs who n (w1.alloc (.cells #[.int .i64 sz, .int .i64 st, .slice (some ⟨g, o, none⟩) xs.length c] 67)) rfl (fun i hi => (ho.below (one_alloc w1 _) ho.blk).cellAt hi) hb
    have y0 := Bx.new w1 67 #[.int .i64 sz, .int .i64 st, .slice (some ⟨g, o, none⟩) xs.length c]
    have r1 := (r0.below hb1).alloc (.cells #[.int .i64 sz, .int .i64 st, .slice (some ⟨g, o, none⟩) xs.length c] 67)
    have o1 := ho.below (one_alloc w1 (.cells #[.int .i64 sz, .int .i64 st, .slice (some ⟨g, o, none⟩) xs.length c] 67)) ho.blk
    have HLG : Hid (w.heap.size + 1 < g ∧ g < w1.heap.size ∧ w.heap.size + 1 < w1.heap.size) := by
      have s1 := r0.lt
      have s2 := ho.blk
      have s3 := hb1.size
      refine ⟨by omega, s2, by omega⟩
    have HB1 : Hid (w.heap.size + 1 < w1.heap.size) := HLG.out.2.2
    have HLM : Hid (xs.length ≤ 8) := (okB_len hk.2.2.1).2
    clear hb1 c0 c1 c2 ho hO r0 hg
    unfold iwV at *
    generalize hW2 : w1.alloc (.cells #[.int .i64 sz, .int .i64 st, .slice (some ⟨g, o, none⟩) xs.length c] 67) = W2 at *
    obtain ⟨d0, d1, d2⟩ := y0.w3
    have HB : Hid (wokB sz st xs = true) := hb
    clear hb hk
    cases hop : ackB st xs who n with
    | false =>
      have HZ : Hid (ackL sz st xs who n = ⟨sz, st, xs, false⟩) := ackL_not HB.out hop
      rw [hop] at hOp
      clear hop
      go_wp2_with fail
      refine hOp.mono ?_
      rintro e w2 ⟨rfl, hg2⟩
      have y2 := y0.below hg2.1
      obtain ⟨e0, e1, e2⟩ := y2.w3
      have r2 := r1.below hg2.1
      have o2 := o1.below hg2.1 o1.blk
      have HR2 : Hid (Below w.heap.size w w2) := HR.out.trans (hg2.1.mono HR.out.size)
      clear d0 d1 d2 hg2 hOp r1 o1 y0
      have hT := told_any sz st (some ⟨g, o, none⟩) xs.length c w2
      unfold iwV wiV at hT
      go_wp2_with fail
      refine hT.mono ?_
      rintro e w3 ⟨rfl, hg3⟩
      have r3 := r2.below hg3.1
      obtain ⟨t0, t1, t2⟩ := r3.w3
      have f0 := r3.f 0
      have f1 := r3.f 1
      have f2 := r3.f 2
      have HO3 : Hid (OI w3 g o xs.length c xs) := o2.below hg3.1 o2.blk
      have HR3 : Hid (Below w.heap.size w w3) := HR2.out.trans (hg3.1.mono HR2.out.size)
      clear e0 e1 e2 hg3 hT r2 o2 y2
      go_wp2
      refine bodyPost_ret (v := .tuple #[.agg #[.int .i64 sz, .int .i64 st, .slice (some ⟨g, o, none⟩) xs.length c], .bool false]) (by simp [results, Try.results30, go_sem, t0, t1, t2]) rfl ?_
      rw [HZ.out]
      have s1 := HLG.out
      refine ⟨some ⟨g, o, none⟩, c, rfl, .inr ⟨g, o, rfl, by omega, ?_⟩, set3 HR3.out (Nat.le_succ _)⟩
      exact num3 HO3.out (by omega)
    | true =>
      have hin : inB who 0 ((xs.length : Int) - 1) = true := by
        have := hop
        rw [ackB, Bool.and_eq_true] at this
        exact this.1
      simp only [inB, Bool.and_eq_true, decide_eq_true_eq] at hin
      obtain ⟨k, rfl⟩ : ∃ k : Nat, who = (k : Int) := ⟨who.toNat, by omega⟩
      have hkl : k < xs.length := by omega
      have k1 : (k : Int) < (xs.length : Int) := by omega
      have k0 : (0 : Int) ≤ (k : Int) := by omega
      have HZ : Hid (ackL sz st xs (k : Int) n = ⟨sz, st, xs.set k n, true⟩) := by
        have := ackL_ok HB.out hop
        rw [Hid]
        simpa using this
      rw [hop] at hOp
      clear hop hin
      go_wp2_with fail
      refine hOp.mono ?_
      rintro e w2 ⟨rfl, hg2⟩
      have y2 := y0.below hg2.1
      obtain ⟨e0, e1, e2⟩ := y2.w3
      have r2 := r1.below hg2.1
      have o2 := o1.below hg2.1 o1.blk
      have ck := o2.cellAt hkl
      have cf := o2.free k (by have := o2.le; omega)
      have HR2 : Hid (Below w.heap.size w w2) := HR.out.trans (hg2.1.mono HR.out.size)
      have s1 := HLG.out
      have y5 : Bx (w2.setCell ⟨g, o + k, none⟩ (.int .i64 n)) w1.heap.size 67 #[.int .i64 sz, .int .i64 st, .slice (some ⟨g, o, none⟩) xs.length c] := y2.grown (grown_set (grown_refl w2 (some g)) (o + k) _) (by simp; omega)
      have r5 : Bx (w2.setCell ⟨g, o + k, none⟩ (.int .i64 n)) (w.heap.size + 1) 34 #[.int .i64 0, .int .i64 0, .slice none 0 0] := r2.grown (grown_set (grown_refl w2 (some g)) (o + k) _) (by simp; omega)
      have o5 : OI (w2.setCell ⟨g, o + k, none⟩ (.int .i64 n)) g o xs.length c (xs.set k n) := num_set o2 hkl n
      have HR5 : Hid (Below w.heap.size w (w2.setCell ⟨g, o + k, none⟩ (.int .i64 n))) := HR2.out.setCell (p := ⟨g, o + k, none⟩) (show w.heap.size ≤ g by omega) _
      clear d0 d1 d2 hg2 hOp r1 o1 y0 y2 r2 o2 s1 e0 e1
      generalize hW5 : w2.setCell ⟨g, o + k, none⟩ (.int .i64 n) = W5 at *
      obtain ⟨k0', k1', k2'⟩ := y5.w3
      have hT := told_any sz st (some ⟨g, o, none⟩) xs.length c W5
      unfold iwV wiV at hT
      go_wp2_with fail
      refine hT.mono ?_
      rintro e w3 ⟨rfl, hg3⟩
      have r3 := r5.below hg3.1
      obtain ⟨t0, t1, t2⟩ := r3.w3
      have f0 := r3.f 0
      have f1 := r3.f 1
      have f2 := r3.f 2
      have HO3 : Hid (OI w3 g o xs.length c (xs.set k n)) := o5.below hg3.1 o5.blk
      have HR3 : Hid (Below w.heap.size w w3) := HR5.out.trans (hg3.1.mono HR5.out.size)
      clear e2 hg3 hT r5 o5 y5 k0' k1' k2' ck cf
      go_wp2
      refine bodyPost_ret (v := .tuple #[.agg #[.int .i64 sz, .int .i64 st, .slice (some ⟨g, o, none⟩) xs.length c], .bool true]) (by simp [results, Try.results30, go_sem, t0, t1, t2]) rfl ?_
      rw [HZ.out]
      have s1 := HLG.out
      refine ⟨some ⟨g, o, none⟩, c, by simp [wiV], .inr ⟨g, o, rfl, by omega, ?_⟩, set3 HR3.out (Nat.le_succ _)⟩
      rw [List.length_set]
      exact num3 HO3.out (by omega)
end Go.Proofs.Ytkompamocpnefaa
