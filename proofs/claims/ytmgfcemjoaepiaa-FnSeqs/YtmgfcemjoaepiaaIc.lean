/-
  Several texts in one: LawSeq.
-/
import Derived.Test.YtmgfcemjoaepiaaIb
/-
  The walk of the law FnSeqs: a seq tells its sender and index, and goes by the index first.
-/
namespace Go.Proofs.Ytmgfcemjoaepiaa
set_option linter.unusedSimpArgs false
set_option linter.unusedVariables false
open Go.RowKit Go.Sort

theorem seq_back {m q : Int} (h : 0 ≤ sndL m q) (hi : idxL m q ≤ 100000) : seqL m (sndL m q) (idxL m q) = q := by
  unfold sndL at h ⊢
  unfold idxL at hi ⊢
  by_cases ht : tellB m q = true
  · rw [if_pos ht] at h hi ⊢
    rw [if_pos ht] at ⊢
    obtain ⟨hm, hq⟩ := tellB_iff.1 ht
    have b0 : 0 ≤ q % m := Int.emod_nonneg _ (by omega)
    have b1 : q % m < m := Int.emod_lt_of_pos _ (by omega)
    have b2 : 0 ≤ q / m := Int.ediv_nonneg hq.1 (by omega)
    rw [seqL, if_pos (seqB_iff.2 ⟨hm, ⟨b0, by omega⟩, b2, hi⟩)]
    exact Int.mul_ediv_add_emod q m
  · rw [if_neg ht] at h; omega
theorem seq_tells {n s i : Int} (h0 : 0 ≤ seqL n s i) (h1 : seqL n s i ≤ 800000) : seqB n s i = true ∧ seqL n s i = n * i + s ∧ sndL n (seqL n s i) = s ∧ idxL n (seqL n s i) = i ∧ (s ≠ n - 1 → seqL n (s + 1) i = seqL n s i + 1) ∧ (i ≠ 100000 → seqL n s i < seqL n 0 (i + 1)) := by
  have hb : seqB n s i = true := by
    cases h : seqB n s i with
    | true => rfl
    | false => rw [seqL, h] at h0; simp at h0
  obtain ⟨hn, hs, hi⟩ := seqB_iff.1 hb
  have e : seqL n s i = n * i + s := by rw [seqL, if_pos hb]
  have ht : tellB n (n * i + s) = true := tellB_iff.2 ⟨hn, by rw [e] at h0 h1; exact ⟨h0, h1⟩⟩
  obtain ⟨p1, p2⟩ := seq_parts (n := n) (s := s) (i := i) (by omega) ⟨hs.1, by omega⟩
  refine ⟨hb, e, ?_, ?_, fun hne => ?_, fun hne => ?_⟩
  · rw [e, sndL, if_pos ht, p1]
  · rw [e, idxL, if_pos ht, p2]
  · rw [e, seqL, if_pos (seqB_iff.2 ⟨hn, ⟨by omega, by omega⟩, hi⟩)]; omega
  · rw [e, seqL, if_pos (seqB_iff.2 ⟨hn, ⟨by omega, by omega⟩, by omega, by omega⟩), Int.mul_add]; omega
theorem sndL_bd (m q : Int) : -1 ≤ sndL m q ∧ sndL m q ≤ 7 := by
  unfold sndL
  split
  · rename_i h
    obtain ⟨hm, hq⟩ := tellB_iff.1 h
    have b0 : 0 ≤ q % m := Int.emod_nonneg _ (by omega)
    have b1 : q % m < m := Int.emod_lt_of_pos _ (by omega)
    omega
  · omega
theorem idxL_bd (m q : Int) : -1 ≤ idxL m q ∧ idxL m q ≤ 800000 := by
  unfold idxL
  split
  · rename_i h
    obtain ⟨hm, hq⟩ := tellB_iff.1 h
    have b0 : 0 ≤ q / m := Int.ediv_nonneg hq.1 (by omega)
    have b1 : q / m ≤ q := Int.ediv_le_self m hq.1
    omega
  · omega

set_option maxRecDepth 100000 in
set_option maxHeartbeats 6400000 in
/-- The law FnSeqs. -/
theorem lawSeqs (hS : ImplSeqOf) (hN : ImplSenderOf) (hX : ImplIndexOf) (a : Option Addr) (len cap : Nat) (bs : Nat → Int) (w : World) (hv : BVec w a len bs) :
    Calls Try.prog 4 #[.slice a len cap] w fun e w' => e = .returned (.bool true) ∧ Below w.heap.size w w' := by
  by_cases hbig : (4096 : Int) < (len : Int)
  · have hd : decide ((4096 : Int) < (len : Int)) = true := by simpa using hbig
    go_enter Try.func4, Try.ntmps4
    go_wp2_with fail
    refine (big_any a len cap w).mono ?_
    rintro e w1 ⟨rfl, rfl⟩
    go_wp2
    go_ret
    exact ⟨rfl, Below.refl _ _⟩
  · have hd : decide ((4096 : Int) < (len : Int)) = false := by simpa using hbig
    have hl : len ≤ 4096 := by omega
    go_enter Try.func4, Try.ntmps4
    go_wp2_with fail
    refine (big_any a len cap w).mono ?_
    rintro e w0 ⟨rfl, hw0⟩
    have hv0 : BVec w0 a len bs := by rw [hw0]; exact hv
    have B0 : Hid (Below w.heap.size w w0) := by rw [Hid, hw0]; exact Below.refl _ _
    clear hw0 hv
    go_wp2_with fail
    refine (drawSeqOf_any a len cap bs w0 hv0 hl).mono ?_
    rintro e w1 ⟨n, s, i, rfl, hn, hs, hi, hb1⟩
    have B1 : Hid (Below w.heap.size w w1) := B0.out.trans (hb1.mono B0.out.size)
    have hv1 := hv0.below hb1 (Nat.le_refl _)
    have i1 : I64 n := ⟨by omega, by omega⟩
    have i2 : I64 s := ⟨by omega, by omega⟩
    have i3 : I64 i := ⟨by omega, by omega⟩
    clear hb1 hv0
    go_wp2_with fail
    refine (hS n s i w1 i1 i2 i3).mono ?_
    rintro e w2 ⟨rfl, hb2⟩
    have B2 : Hid (Below w.heap.size w w2) := B1.out.trans (hb2.mono B1.out.size)
    have hv2 := hv1.below hb2 (Nat.le_refl _)
    clear hb2 hv1
    go_wp2_with fail
    refine (drawSenderOf_any a len cap bs w2 hv2 hl).mono ?_
    rintro e w3 ⟨m, q, rfl, hm, hq, hb3⟩
    have B3 : Hid (Below w.heap.size w w3) := B2.out.trans (hb3.mono B2.out.size)
    have i4 : I64 m := ⟨by omega, by omega⟩
    have i5 : I64 q := ⟨by omega, by omega⟩
    clear hb3 hv2
    go_wp2_with fail
    refine (hN m q w3 i4 i5).mono ?_
    rintro e w4 ⟨rfl, hb4⟩
    have B4 : Hid (Below w.heap.size w w4) := B3.out.trans (hb4.mono B3.out.size)
    clear hb4
    go_wp2_with fail
    refine (hX m q w4 i4 i5).mono ?_
    rintro e w5 ⟨rfl, hb5⟩
    have B5 : Hid (Below w.heap.size w w5) := B4.out.trans (hb5.mono B4.out.size)
    have ne1 : (seqL n s i != seqL n s i) = false := by simp
    have ne2 : (sndL m q != sndL m q) = false := by simp
    have ne3 : (idxL m q != idxL m q) = false := by simp
    clear hb5
    go_wp2_with fail
    refine (seqS_any n s i i1 w5).mono ?_
    rintro e w6 ⟨rfl, hw6⟩
    have B6 : Hid (Below w.heap.size w w6) := by rw [Hid, hw6]; exact B5.out
    clear hw6
    go_wp2_with fail
    refine (sndS_any m q w6).mono ?_
    rintro e w7 ⟨rfl, hw7⟩
    have B7 : Hid (Below w.heap.size w w7) := by rw [Hid, hw7]; exact B6.out
    clear hw7
    go_wp2_with fail
    refine (idxS_any m q w7).mono ?_
    rintro e w8 ⟨rfl, hw8⟩
    have B8 : Hid (Below w.heap.size w w8) := by rw [Hid, hw8]; exact B7.out
    clear hw8 B0 B1 B2 B3 B4 B5 B6 B7
    have hA := sndL_bd m q
    have hB := idxL_bd m q
    have HBK : Hid (0 ≤ sndL m q → idxL m q ≤ 100000 → seqL m (sndL m q) (idxL m q) = q) := fun h1 h2 => seq_back h1 h2
    have hC := fun (h1 : 0 ≤ sndL m q) (h2 : idxL m q ≤ 100000) => hS m (sndL m q) (idxL m q) w8 i4 ⟨by omega, by omega⟩ ⟨by omega, by omega⟩
    have HT : Hid (0 ≤ seqL n s i → seqL n s i ≤ 800000 → (∀ W, Calls Try.prog 32 #[.int .i64 n, .int .i64 (seqL n s i)] W fun e w' => e = .returned (.int .i64 s) ∧ Below W.heap.size W w') ∧ (∀ W, Calls Try.prog 33 #[.int .i64 n, .int .i64 (seqL n s i)] W fun e w' => e = .returned (.int .i64 i) ∧ Below W.heap.size W w') ∧
        (s ≠ n - 1 → ∀ W, Calls Try.prog 30 #[.int .i64 n, .int .i64 (s + 1), .int .i64 i] W fun e w' => e = .returned (.int .i64 (seqL n s i + 1)) ∧ Below W.heap.size W w') ∧ (i ≠ 100000 → ∃ V, seqL n s i < V ∧ ∀ W, Calls Try.prog 30 #[.int .i64 n, .int .i64 0, .int .i64 (i + 1)] W fun e w' => e = .returned (.int .i64 V) ∧ Below W.heap.size W w')) := fun h0 h1 => by
      obtain ⟨hb, he, t1, t2, t3, t4⟩ := seq_tells h0 h1
      have iq : I64 (seqL n s i) := ⟨by omega, by omega⟩
      refine ⟨fun W => ?_, fun W => ?_, fun hne W => ?_, fun hne => ⟨_, t4 hne, fun W => hS n 0 (i + 1) W i1 ⟨by omega, by omega⟩ ⟨by omega, by omega⟩⟩⟩
      · have := hN n _ W i1 iq; rwa [t1] at this
      · have := hX n _ W i1 iq; rwa [t2] at this
      · have := hS n (s + 1) i W i1 ⟨by omega, by omega⟩ i3; rwa [t3 hne] at this
    generalize hQ : seqL n s i = Q at *
    generalize sndL m q = A at *
    generalize idxL m q = B at *
    clear hQ
    by_cases hq0 : Q < 0
    · have dq : decide (Q < 0) = true := by simpa using hq0
      rcases (by omega : A < 0 ∨ (0 ≤ A ∧ 100000 < B) ∨ (0 ≤ A ∧ B ≤ 100000)) with h | ⟨h, h'⟩ | ⟨h, h'⟩
      · go_wp2
        go_ret
        exact ⟨rfl, B8.out⟩
      · go_wp2
        go_ret
        exact ⟨rfl, B8.out⟩
      · have hCC := hC h h'
        rw [HBK.out h h'] at hCC
        have ne4 : (q != q) = false := by simp
        go_wp2_with fail
        refine hCC.mono ?_
        rintro e w9 ⟨rfl, hb9⟩
        have B9 : Hid (Below w.heap.size w w9) := B8.out.trans (hb9.mono B8.out.size)
        clear hb9 hCC
        go_wp2
        go_ret
        exact ⟨rfl, B9.out⟩
    · have dq : decide (Q < 0) = false := by simpa using hq0
      by_cases hq1 : 800000 < Q
      · have dq1 : decide (800000 < Q) = true := by simpa using hq1
        rcases (by omega : A < 0 ∨ (0 ≤ A ∧ 100000 < B) ∨ (0 ≤ A ∧ B ≤ 100000)) with h | ⟨h, h'⟩ | ⟨h, h'⟩
        · go_wp2
          go_ret
          exact ⟨rfl, B8.out⟩
        · go_wp2
          go_ret
          exact ⟨rfl, B8.out⟩
        · have hCC := hC h h'
          rw [HBK.out h h'] at hCC
          have ne4 : (q != q) = false := by simp
          go_wp2_with fail
          refine hCC.mono ?_
          rintro e w9 ⟨rfl, hb9⟩
          have B9 : Hid (Below w.heap.size w w9) := B8.out.trans (hb9.mono B8.out.size)
          clear hb9 hCC
          go_wp2
          go_ret
          exact ⟨rfl, B9.out⟩
      · have dq1 : decide (800000 < Q) = false := by simpa using hq1
        obtain ⟨T1, T2, T3, T4⟩ := HT.out (by omega) (by omega)
        have e1 : (s == s) = true := by simp
        have e2 : (i == i) = true := by simp
        have e3 : (Q + 1 == Q + 1) = true := by simp
        by_cases hls : s = n - 1
        · have es : (s == n - 1) = true := by rw [beq_iff_eq]; exact hls
          clear hls
          by_cases hli : i = 100000
          · have ei : (i == 100000) = true := by rw [beq_iff_eq]; exact hli
            clear hli
            rcases (by omega : A < 0 ∨ (0 ≤ A ∧ 100000 < B) ∨ (0 ≤ A ∧ B ≤ 100000)) with h | ⟨h, h'⟩ | ⟨h, h'⟩
            · go_wp2_with fail
              refine (T1 w8).mono ?_
              rintro e x0 ⟨rfl, hb0⟩
              have C0 : Hid (Below w.heap.size w x0) := B8.out.trans (hb0.mono B8.out.size)
              clear hb0
              go_wp2_with fail
              refine (T2 x0).mono ?_
              rintro e x1 ⟨rfl, hb1⟩
              have C1 : Hid (Below w.heap.size w x1) := C0.out.trans (hb1.mono C0.out.size)
              clear hb1
              go_wp2
              go_ret
              exact ⟨rfl, C1.out⟩
            · go_wp2_with fail
              refine (T1 w8).mono ?_
              rintro e x0 ⟨rfl, hb0⟩
              have C0 : Hid (Below w.heap.size w x0) := B8.out.trans (hb0.mono B8.out.size)
              clear hb0
              go_wp2_with fail
              refine (T2 x0).mono ?_
              rintro e x1 ⟨rfl, hb1⟩
              have C1 : Hid (Below w.heap.size w x1) := C0.out.trans (hb1.mono C0.out.size)
              clear hb1
              go_wp2
              go_ret
              exact ⟨rfl, C1.out⟩
            · have hCC := hC h h'
              rw [HBK.out h h'] at hCC
              have ne4 : (q != q) = false := by simp
              go_wp2_with fail
              refine hCC.mono ?_
              rintro e w9 ⟨rfl, hb9⟩
              have B9 : Hid (Below w.heap.size w w9) := B8.out.trans (hb9.mono B8.out.size)
              clear hb9 hCC
              go_wp2_with fail
              refine (T1 w9).mono ?_
              rintro e x0 ⟨rfl, hb0⟩
              have C0 : Hid (Below w.heap.size w x0) := B9.out.trans (hb0.mono B9.out.size)
              clear hb0
              go_wp2_with fail
              refine (T2 x0).mono ?_
              rintro e x1 ⟨rfl, hb1⟩
              have C1 : Hid (Below w.heap.size w x1) := C0.out.trans (hb1.mono C0.out.size)
              clear hb1
              go_wp2
              go_ret
              exact ⟨rfl, C1.out⟩
          · have ei : (i == 100000) = false := by rw [beq_eq_false_iff_ne]; exact hli
            obtain ⟨V, hVQ, hV⟩ := T4 hli
            have dv : decide (Q < V) = true := by simpa using hVQ
            rcases (by omega : A < 0 ∨ (0 ≤ A ∧ 100000 < B) ∨ (0 ≤ A ∧ B ≤ 100000)) with h | ⟨h, h'⟩ | ⟨h, h'⟩
            · go_wp2_with fail
              refine (T1 w8).mono ?_
              rintro e x0 ⟨rfl, hb0⟩
              have C0 : Hid (Below w.heap.size w x0) := B8.out.trans (hb0.mono B8.out.size)
              clear hb0
              go_wp2_with fail
              refine (T2 x0).mono ?_
              rintro e x1 ⟨rfl, hb1⟩
              have C1 : Hid (Below w.heap.size w x1) := C0.out.trans (hb1.mono C0.out.size)
              clear hb1
              go_wp2_with fail
              refine (hV x1).mono ?_
              rintro e x2 ⟨rfl, hb2⟩
              have C2 : Hid (Below w.heap.size w x2) := C1.out.trans (hb2.mono C1.out.size)
              clear hb2
              go_wp2
              go_ret
              exact ⟨rfl, C2.out⟩
            · go_wp2_with fail
              refine (T1 w8).mono ?_
              rintro e x0 ⟨rfl, hb0⟩
              have C0 : Hid (Below w.heap.size w x0) := B8.out.trans (hb0.mono B8.out.size)
              clear hb0
              go_wp2_with fail
              refine (T2 x0).mono ?_
              rintro e x1 ⟨rfl, hb1⟩
              have C1 : Hid (Below w.heap.size w x1) := C0.out.trans (hb1.mono C0.out.size)
              clear hb1
              go_wp2_with fail
              refine (hV x1).mono ?_
              rintro e x2 ⟨rfl, hb2⟩
              have C2 : Hid (Below w.heap.size w x2) := C1.out.trans (hb2.mono C1.out.size)
              clear hb2
              go_wp2
              go_ret
              exact ⟨rfl, C2.out⟩
            · have hCC := hC h h'
              rw [HBK.out h h'] at hCC
              have ne4 : (q != q) = false := by simp
              go_wp2_with fail
              refine hCC.mono ?_
              rintro e w9 ⟨rfl, hb9⟩
              have B9 : Hid (Below w.heap.size w w9) := B8.out.trans (hb9.mono B8.out.size)
              clear hb9 hCC
              go_wp2_with fail
              refine (T1 w9).mono ?_
              rintro e x0 ⟨rfl, hb0⟩
              have C0 : Hid (Below w.heap.size w x0) := B9.out.trans (hb0.mono B9.out.size)
              clear hb0
              go_wp2_with fail
              refine (T2 x0).mono ?_
              rintro e x1 ⟨rfl, hb1⟩
              have C1 : Hid (Below w.heap.size w x1) := C0.out.trans (hb1.mono C0.out.size)
              clear hb1
              go_wp2_with fail
              refine (hV x1).mono ?_
              rintro e x2 ⟨rfl, hb2⟩
              have C2 : Hid (Below w.heap.size w x2) := C1.out.trans (hb2.mono C1.out.size)
              clear hb2
              go_wp2
              go_ret
              exact ⟨rfl, C2.out⟩
        · have es : (s == n - 1) = false := by rw [beq_eq_false_iff_ne]; exact hls
          by_cases hli : i = 100000
          · have ei : (i == 100000) = true := by rw [beq_iff_eq]; exact hli
            clear hli
            rcases (by omega : A < 0 ∨ (0 ≤ A ∧ 100000 < B) ∨ (0 ≤ A ∧ B ≤ 100000)) with h | ⟨h, h'⟩ | ⟨h, h'⟩
            · go_wp2_with fail
              refine (T1 w8).mono ?_
              rintro e x0 ⟨rfl, hb0⟩
              have C0 : Hid (Below w.heap.size w x0) := B8.out.trans (hb0.mono B8.out.size)
              clear hb0
              go_wp2_with fail
              refine (T2 x0).mono ?_
              rintro e x1 ⟨rfl, hb1⟩
              have C1 : Hid (Below w.heap.size w x1) := C0.out.trans (hb1.mono C0.out.size)
              clear hb1
              go_wp2_with fail
              refine (T3 hls x1).mono ?_
              rintro e x2 ⟨rfl, hb2⟩
              have C2 : Hid (Below w.heap.size w x2) := C1.out.trans (hb2.mono C1.out.size)
              clear hb2
              go_wp2
              go_ret
              exact ⟨rfl, C2.out⟩
            · go_wp2_with fail
              refine (T1 w8).mono ?_
              rintro e x0 ⟨rfl, hb0⟩
              have C0 : Hid (Below w.heap.size w x0) := B8.out.trans (hb0.mono B8.out.size)
              clear hb0
              go_wp2_with fail
              refine (T2 x0).mono ?_
              rintro e x1 ⟨rfl, hb1⟩
              have C1 : Hid (Below w.heap.size w x1) := C0.out.trans (hb1.mono C0.out.size)
              clear hb1
              go_wp2_with fail
              refine (T3 hls x1).mono ?_
              rintro e x2 ⟨rfl, hb2⟩
              have C2 : Hid (Below w.heap.size w x2) := C1.out.trans (hb2.mono C1.out.size)
              clear hb2
              go_wp2
              go_ret
              exact ⟨rfl, C2.out⟩
            · have hCC := hC h h'
              rw [HBK.out h h'] at hCC
              have ne4 : (q != q) = false := by simp
              go_wp2_with fail
              refine hCC.mono ?_
              rintro e w9 ⟨rfl, hb9⟩
              have B9 : Hid (Below w.heap.size w w9) := B8.out.trans (hb9.mono B8.out.size)
              clear hb9 hCC
              go_wp2_with fail
              refine (T1 w9).mono ?_
              rintro e x0 ⟨rfl, hb0⟩
              have C0 : Hid (Below w.heap.size w x0) := B9.out.trans (hb0.mono B9.out.size)
              clear hb0
              go_wp2_with fail
              refine (T2 x0).mono ?_
              rintro e x1 ⟨rfl, hb1⟩
              have C1 : Hid (Below w.heap.size w x1) := C0.out.trans (hb1.mono C0.out.size)
              clear hb1
              go_wp2_with fail
              refine (T3 hls x1).mono ?_
              rintro e x2 ⟨rfl, hb2⟩
              have C2 : Hid (Below w.heap.size w x2) := C1.out.trans (hb2.mono C1.out.size)
              clear hb2
              go_wp2
              go_ret
              exact ⟨rfl, C2.out⟩
          · have ei : (i == 100000) = false := by rw [beq_eq_false_iff_ne]; exact hli
            obtain ⟨V, hVQ, hV⟩ := T4 hli
            have dv : decide (Q < V) = true := by simpa using hVQ
            rcases (by omega : A < 0 ∨ (0 ≤ A ∧ 100000 < B) ∨ (0 ≤ A ∧ B ≤ 100000)) with h | ⟨h, h'⟩ | ⟨h, h'⟩
            · go_wp2_with fail
              refine (T1 w8).mono ?_
              rintro e x0 ⟨rfl, hb0⟩
              have C0 : Hid (Below w.heap.size w x0) := B8.out.trans (hb0.mono B8.out.size)
              clear hb0
              go_wp2_with fail
              refine (T2 x0).mono ?_
              rintro e x1 ⟨rfl, hb1⟩
              have C1 : Hid (Below w.heap.size w x1) := C0.out.trans (hb1.mono C0.out.size)
              clear hb1
              go_wp2_with fail
              refine (T3 hls x1).mono ?_
              rintro e x2 ⟨rfl, hb2⟩
              have C2 : Hid (Below w.heap.size w x2) := C1.out.trans (hb2.mono C1.out.size)
              clear hb2
              go_wp2_with fail
              refine (hV x2).mono ?_
              rintro e x3 ⟨rfl, hb3⟩
              have C3 : Hid (Below w.heap.size w x3) := C2.out.trans (hb3.mono C2.out.size)
              clear hb3
              go_wp2
              go_ret
              exact ⟨rfl, C3.out⟩
            · go_wp2_with fail
              refine (T1 w8).mono ?_
              rintro e x0 ⟨rfl, hb0⟩
              have C0 : Hid (Below w.heap.size w x0) := B8.out.trans (hb0.mono B8.out.size)
              clear hb0
              go_wp2_with fail
              refine (T2 x0).mono ?_
              rintro e x1 ⟨rfl, hb1⟩
              have C1 : Hid (Below w.heap.size w x1) := C0.out.trans (hb1.mono C0.out.size)
              clear hb1
              go_wp2_with fail
              refine (T3 hls x1).mono ?_
              rintro e x2 ⟨rfl, hb2⟩
              have C2 : Hid (Below w.heap.size w x2) := C1.out.trans (hb2.mono C1.out.size)
              clear hb2
              go_wp2_with fail
              refine (hV x2).mono ?_
              rintro e x3 ⟨rfl, hb3⟩
              have C3 : Hid (Below w.heap.size w x3) := C2.out.trans (hb3.mono C2.out.size)
              clear hb3
              go_wp2
              go_ret
              exact ⟨rfl, C3.out⟩
            · have hCC := hC h h'
              rw [HBK.out h h'] at hCC
              have ne4 : (q != q) = false := by simp
              go_wp2_with fail
              refine hCC.mono ?_
              rintro e w9 ⟨rfl, hb9⟩
              have B9 : Hid (Below w.heap.size w w9) := B8.out.trans (hb9.mono B8.out.size)
              clear hb9 hCC
              go_wp2_with fail
              refine (T1 w9).mono ?_
              rintro e x0 ⟨rfl, hb0⟩
              have C0 : Hid (Below w.heap.size w x0) := B9.out.trans (hb0.mono B9.out.size)
              clear hb0
              go_wp2_with fail
              refine (T2 x0).mono ?_
              rintro e x1 ⟨rfl, hb1⟩
              have C1 : Hid (Below w.heap.size w x1) := C0.out.trans (hb1.mono C0.out.size)
              clear hb1
              go_wp2_with fail
              refine (T3 hls x1).mono ?_
              rintro e x2 ⟨rfl, hb2⟩
              have C2 : Hid (Below w.heap.size w x2) := C1.out.trans (hb2.mono C1.out.size)
              clear hb2
              go_wp2_with fail
              refine (hV x2).mono ?_
              rintro e x3 ⟨rfl, hb3⟩
              have C3 : Hid (Below w.heap.size w x3) := C2.out.trans (hb3.mono C2.out.size)
              clear hb3
              go_wp2
              go_ret
              exact ⟨rfl, C3.out⟩
end Go.Proofs.Ytmgfcemjoaepiaa
