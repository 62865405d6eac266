/-
  Several texts in one: Rdw.
-/
import Derived.Test.YtgaibngaincahaaMt
import Derived.Test.YtgaibngaincahaaJo
import Derived.Test.YtgaibngaincahaaGt
import Derived.Deep.CutRange
import Derived.Deep.Cut
/-
  The draw l16Draw.
-/
namespace Go.Proofs.Ytgaibngaincahaa
set_option linter.unusedVariables false
set_option linter.unusedSimpArgs false
open Go.RowKit Go.Sort

theorem textR (most : Nat) (n : Int) (hn : n = (most : Int)) (hm : most ≤ 1000) {w X : World} {p : Nat} {a : Option Addr} {len cap : Nat} {bs : Nat → Int} (h : Cc w X p a len cap bs) :
    Calls Try.prog 86 #[.pointer (some ⟨p, 0, none⟩), .int .i64 n] X fun e w' => ∃ l : List UInt8, e = .returned (.string (sv l)) ∧ l.length ≤ most ∧ Cc w w' p a len cap bs ∧ X.grownBy w' (some p) := by
  subst hn
  refine (drawText_any p a len cap bs most X h.cur h.bvec h.off h.hl hm).mono ?_
  rintro e w' ⟨l, h1, rfl, hc, hg⟩
  exact ⟨l, rfl, h1, h.drawn hg hc, hg⟩
theorem snoc_short {T : List (List UInt8)} {s : List UInt8} {n : Nat} (h : (∀ i, i < T.length → (T.getD i []).length ≤ n)) (hs : s.length ≤ n) : ∀ i, i < (T ++ [s]).length → ((T ++ [s]).getD i []).length ≤ n := fun i hi => by
  rw [List.length_append, List.length_singleton] at hi
  by_cases e : i < T.length
  · have := h i e
    simpa [List.getD_eq_getElem?_getD, List.getElem?_append_left e] using this
  · obtain rfl : i = T.length := by omega
    simpa [List.getD_eq_getElem?_getD] using hs
theorem make_byR (n : Nat) (hn : n ≤ 1048576) (w : World) :
    (Instr.makeSlice 22 (.int .i64 (n : Int)) (.int .i64 (n : Int))).run Try.prog w = .ok (.slice (some ⟨w.heap.size, 0, none⟩) n n) (w.alloc (.cells (madeCells #[.int .u8 0] n) 5)) := by
  obtain ⟨i, hi, hz, hs, hb⟩ := info_parts9 Try.info5
  have hr := run_make (P := Try.prog) w 22 5 i _ Try.underlying22 hi hz .i64 .i64 n n (by omega) (Int.le_refl _) (by rw [hb]; omega) (by omega)
  simp only [Int.toNat_natCast, hs, Nat.mul_one] at hr
  exact hr
theorem conv_byR (w : World) (n : Nat) (hn : n ≤ 1048576) : (convert 22 9 (.slice (some ⟨w.heap.size, 0, none⟩) n n)).run Try.prog (w.alloc (.cells (madeCells #[.int .u8 0] n) 5)) = .ok (.string (sv (List.replicate n 0))) (w.alloc (.cells (madeCells #[.int .u8 0] n) 5)) := by
  have h := osl_made w #[.int .u8 0] 1 n 5 rfl (by omega) (by unfold maxLen; omega)
  have e : bys (List.replicate n 0) = (List.replicate n (#[Value.int .u8 0] : Array Value).toList).flatten := by
    simp only [bys, List.map_replicate]
    clear h hn
    induction n with
    | zero => rfl
    | succ n ih => rw [List.replicate_succ, List.replicate_succ, List.flatten_cons, ← ih]; rfl
  rw [← e, Nat.mul_one] at h
  have h2 : OBy (w.alloc (.cells (madeCells #[.int .u8 0] n) 5)) w.heap.size 0 (List.replicate n (0 : UInt8)).length n (List.replicate n 0) := by rw [List.length_replicate]; exact h
  have h3 := h2.str
  rw [List.length_replicate] at h3
  exact h3
theorem put_len (xs : List Int) (n : Int) : (putL xs n).length ≤ xs.length + 1 := by
  induction xs with
  | nil => simp [putL]
  | cons x l ih =>
    unfold putL
    split
    · simp; omega
    · split
      · simp
      · simp
theorem put_fits {xs : List Int} {n : Int} (h : Fits xs) (hn : -9223372036854775808 ≤ n ∧ n ≤ 9223372036854775807) : Fits (putL xs n) := fun x hx => by
  rcases mem_putL.1 hx with e | e
  · rw [e]; exact hn
  · exact h x e
theorem newRw_sus (n : Int) : (newRw n).sus.length = 0 := by
  unfold newRw
  split <;> rfl
theorem newRw_sm (n : Int) : SmR (newRw n) ∧ (newRw n).txt.length = 0 := by
  unfold newRw
  split
  · rename_i h
    have := inB7.1 h
    exact ⟨⟨by simp, by simp, fun i hi => by simp at hi, by simp; omega, fun x hx => by have := List.eq_of_mem_replicate hx; omega, by simp, fun x hx => absurd hx List.not_mem_nil, by simp, fun x hx => absurd hx List.not_mem_nil, by simp⟩, rfl⟩
  · exact ⟨⟨by simp [zeroRw], by simp [zeroRw], fun i hi => by simp [zeroRw] at hi, by simp [zeroRw], fun x hx => absurd hx List.not_mem_nil, by simp [zeroRw], fun x hx => absurd hx List.not_mem_nil, by simp [zeroRw], fun x hx => absurd hx List.not_mem_nil, by simp [zeroRw]⟩, rfl⟩
attribute [local irreducible] sv
set_option maxRecDepth 100000 in
set_option maxHeartbeats 12800000 in
theorem drawRw_any (N : Nat) (n : Int) (hN : n = (N : Int)) (hN5 : N ≤ 5) {w X : World} {p : Nat} {a : Option Addr} {len cap : Nat} {bs : Nat → Int} (h : Cc w X p a len cap bs) :
    Calls Try.prog 65 #[.pointer (some ⟨p, 0, none⟩), .int .i64 n] X fun e X' => ∃ (A : Ra) (r : Rw) (fp : Fp), e = .returned (rwV A r) ∧ SmR r ∧ owL X' (rwCels r) (rwVals A r) fp ∧ (∀ b, fp b → X.heap.size ≤ b) ∧ Cc w X' p a len cap bs ∧ X.grownBy X' (some p) := by
  subst hN
  have hmix : Try.prog.follows .mixedOrders = true := by kernel_rfl
  obtain ⟨i0, hi0, hz0, hz1, hz2⟩ := info_parts9 Try.info9
  have b1 := oneA16 X (.cells #[.int .i64 0, .slice none 0 0, .slice none 0 0, .slice none 0 0, .bool false, .bool false, .int .i64 0, .slice none 0 0] 35)
  have c1 := h.step b1
  have HR : Hid (Bx (X.alloc (.cells #[.int .i64 0, .slice none 0 0, .slice none 0 0, .slice none 0 0, .bool false, .bool false, .int .i64 0, .slice none 0 0] 35)) X.heap.size 35 #[.int .i64 0, .slice none 0 0, .slice none 0 0, .slice none 0 0, .bool false, .bool false, .int .i64 0, .slice none 0 0]) := Bx.new _ _ _
  have hpl := h.lt
  have hC := nrwS_any (N : Int) (X.alloc (.cells #[.int .i64 0, .slice none 0 0, .slice none 0 0, .slice none 0 0, .bool false, .bool false, .int .i64 0, .slice none 0 0] 35))
  obtain ⟨hsm, ht0⟩ := newRw_sm (N : Int)
  have hu0 := newRw_sus (N : Int)
  generalize newRw (N : Int) = r0 at *
  have HT0 : Hid (r0.txt.length = 0 ∧ r0.sus.length = 0) := ⟨ht0, hu0⟩
  clear ht0 hu0
  unfold AnsRw rwV rwC at hC
  have HC1 : Hid (Cc w _ p a len cap bs) := c1
  have HB1 : Hid (Below X.heap.size X _) := b1
  clear c1 b1
  go_enter Try.func65, Try.ntmps65
  go_wp2_with fail
  refine hC.mono ?_
  rintro e X2 ⟨A0, rfl, fp0, ho0, hf0, hb0⟩
  have R0 : RD w X (X2.alloc (.cells #[.int .i64 r0.ver, .slice A0.ta r0.txt.length A0.tc, .slice A0.ga r0.got.length A0.gc, .slice A0.sa r0.sus.length A0.sc, .bool r0.wed, .bool r0.rdy, .int .i64 r0.by_, .slice A0.ma r0.trm.length A0.mc] 35)) p a len cap bs X2.heap.size zeroRc A0 r0 fp0 := by
    have hs2 := hb0.size
    rw [World.size_alloc] at hs2
    have hb3 := oneA16 X2 (.cells (rwC A0 r0) 35)
    exact ⟨(HC1.out.step hb0).step hb3, (HR.out.below hb0).below hb3, Bx.new _ _ _, owL_below ho0 hb3, fun b hb => ⟨by have := hf0 b hb; rw [World.size_alloc] at this; omega, by have := owL_lt ho0 b hb; omega⟩, hpl, by omega, grown_trans (World.grownBy_alloc X _ _) (grown_trans ⟨hb0.os, hb0.tape, hb0.output, hb0.size, fun x hx _ => hb0.block x hx⟩ (World.grownBy_alloc _ _ _))⟩
  have hB1 := belowC 6 6 rfl R0.cc (by omega) (by omega)
  have HR0 : Hid (RD w X (X2.alloc (.cells #[.int .i64 r0.ver, .slice A0.ta r0.txt.length A0.tc, .slice A0.ga r0.got.length A0.gc, .slice A0.sa r0.sus.length A0.sc, .bool r0.wed, .bool r0.rdy, .int .i64 r0.by_, .slice A0.ma r0.trm.length A0.mc] 35)) p a len cap bs X2.heap.size zeroRc A0 r0 fp0) := R0
  clear R0 hC HC1 HB1 HR ho0 hf0 hb0
  go_wp2_with fail
  refine hB1.mono ?_
  rintro e Y1 ⟨v, rfl, hv, c2, g1⟩
  have R1 := HR0.out.drawn g1 c2
  obtain ⟨⟨x0, _⟩, _⟩ := R1.c8
  have x1 := R1.fo 0
  have R2 := R1.ver (v : Int)
  have hB2 := belowC 4 4 rfl R2.cc (by omega) (by omega)
  obtain ⟨r1, hr1⟩ : ∃ r1 : Rw, Hid (r1 = { r0 with ver := (v : Int) }) := ⟨_, rfl⟩
  have HR2 : Hid (RD w X (Y1.setCell ⟨X2.heap.size, 0, none⟩ (.int .i64 (v : Int))) p a len cap bs X2.heap.size zeroRc A0 r1 fp0) := by rw [hr1.out]; exact R2
  have HS2 : Hid (SmR r1) := by rw [hr1.out]; exact ⟨by simp only; omega, hsm.tl, hsm.ts, hsm.gl, hsm.gf, hsm.sl, hsm.sf, hsm.ml, hsm.mf, hsm.bys⟩
  have HT2 : Hid (r1.txt.length = 0 ∧ r1.sus.length = 0) := by rw [hr1.out]; exact HT0.out
  clear R1 R2 hB1 c2 g1 HR0 hsm HT0
  go_wp2_with fail
  refine hB2.mono ?_
  rintro e Y2 ⟨m, rfl, hm, c3, g2⟩
  have HR3 : Hid (RD w X Y2 p a len cap bs X2.heap.size zeroRc A0 r1 fp0) := HR2.out.drawn g2 c3
  clear hB2 c3 g2 HR2 x0 x1
  clear hr1
  generalize X2.heap.size = o at *
  go_wp2_with fail
  go_loopw [6] (fun i wr => ∃ (k : Nat) (A : Ra) (r : Rw) (fp : Fp), k ≤ m ∧ i = .int .i64 k ∧ RD w X wr p a len cap bs o zeroRc A r fp ∧ SmR r ∧ r.txt.length + k ≤ 3 ∧ r.sus.length = 0) (fun i _ => (intOf i).toNat)
  case atStart => exact ⟨m, A0, r1, fp0, Nat.le_refl _, rfl, HR3.out, HS2.out, by have := HT2.out.1; omega, HT2.out.2⟩
  case round =>
    obtain ⟨k, A, r, fp, hk, rfl, hR, hS, hTk, hU⟩ := hrel
    have HS : Hid (SmR r) := hS
    have HU : Hid (r.sus.length = 0) := hU
    clear hS hU
    by_cases hlt : 0 < k
    · have k0 : (0 : Int) < (k : Int) := by omega
      have hR1 := hR.drewN 1
      have hT := textR 3 3 rfl (by omega) hR1.cc
      have x1 := hR.c8.1.2.1
      have hlen : r.txt.length ≤ 1000 := by omega
      have HR : Hid (RD w X (wr.drewN 1) p a len cap bs o zeroRc A r fp) := hR1
      clear hR hR1
      go_wp2_with fail
      refine gt_begin (S := fun X : World => X.cell? ⟨o, 1, none⟩ = some (.slice A.ta r.txt.length A.tc)) 7 hmix (by kernel_rfl) ?_
      have hHeld : (fun X : World => X.cell? ⟨o, 1, none⟩ = some (.slice A.ta r.txt.length A.tc)) wr.drew := x1
      refine gt_take (i := 0) (v := ?_) rfl (by kernel_rfl) (by kernel_rfl) (by kernel_rfl) (by kernel_rfl) (fun _ _ _ h => h) (Or.inl ⟨by rfl, ?_⟩) hHeld ?_
      rotate_left
      · (intro X hSX; (try dsimp only at hSX); have g0 := hSX; go_simp; try with_reducible rfl)
      try simp only [Act.put, List.setIfInBounds_toArray, List.set_cons_zero, List.set_cons_succ]
      refine gt_take (i := 1) (v := ?_) rfl (by kernel_rfl) (by kernel_rfl) (by kernel_rfl) (by kernel_rfl) (fun _ _ _ h => h) (Or.inl ⟨by rfl, ?_⟩) hHeld ?_
      rotate_left
      · (intro X hSX; (try dsimp only at hSX); have g0 := hSX; go_simp; try with_reducible rfl)
      try simp only [Act.put, List.setIfInBounds_toArray, List.set_cons_zero, List.set_cons_succ]
      refine gt_pure (i := 2) (v := ?_) rfl (by kernel_rfl) (by kernel_rfl) (by kernel_rfl) (fun _ _ _ h => h) (Or.inl ⟨by rfl, ?_⟩) ?_
      rotate_left
      · (intro X; go_simp; try with_reducible rfl)
      try simp only [Act.put, List.setIfInBounds_toArray, List.set_cons_zero, List.set_cons_succ]
      refine gt_one (i := 3) rfl (by kernel_rfl) (by kernel_rfl) (fun K hK => ?_)
      go_simp
      go_at_call 86
      refine hT.mono ?_
      rintro e Y3 ⟨s, rfl, hs, c4, g4⟩
      have R3 := HR.out.drawn g4 c4
      refine hK.out _ _ R3.c8.1.2.1 (fun hHeld2 => ?_)
      clear hK hHeld
      have hHeld := hHeld2
      try simp only [Act.put, List.setIfInBounds_toArray, List.set_cons_zero, List.set_cons_succ]
      refine gt_one (i := 4) rfl (by kernel_rfl) (by kernel_rfl) (fun K hK => ?_)
      go_simp
      refine hK.out _ _ (R3.step (oneA16 Y3 (.cells #[.string (sv s)] 9))).c8.1.2.1 (fun hHeld3 => ?_)
      clear hK hHeld
      have hHeld := hHeld3
      try simp only [Act.put, List.setIfInBounds_toArray, List.set_cons_zero, List.set_cons_succ]
      refine gt_one (i := 5) rfl (by kernel_rfl) (by kernel_rfl) (fun K hK => ?_)
      refine step_append_of (by rfl) _ _ _ _ (by rfl) (.slice A.ta r.txt.length A.tc) _ (by rfl) (by rfl) (R3.app i0 hi0 hz0 hz1 hz2 s hlen) ⟨rfl, rfl, rfl, rfl⟩ ?_
      rintro v' w4 ⟨a', c', rfl, q1, q2, fp', hRn⟩
      refine hK.out _ _ q1 (fun hHeld4 => ?_)
      clear hK hHeld
      have hHeld := hHeld4
      try simp only [Act.put, List.setIfInBounds_toArray, List.set_cons_zero, List.set_cons_succ]
      refine gt_take (i := 6) (v := ?_) rfl (by kernel_rfl) (by kernel_rfl) (by kernel_rfl) (by kernel_rfl) (fun _ _ _ h => h) (Or.inl ⟨by rfl, ?_⟩) hHeld ?_
      rotate_left
      · (intro X hSX; (try dsimp only at hSX); have g0 := hSX; go_simp; try with_reducible rfl)
      try simp only [Act.put, List.setIfInBounds_toArray, List.set_cons_zero, List.set_cons_succ]
      have HRn : Hid (RD w X (w4.setCell ⟨o, 1, none⟩ (.slice a' (r.txt.length + 1) c')) p a len cap bs o zeroRc { A with ta := a', tc := c' } { r with txt := r.txt ++ [s] } fp') := hRn
      clear R3 hRn c4 g4 hT
      refine gt_last rfl (by kernel_rfl) (by kernel_rfl) (fun K hK => ?_)
      go_simp
      refine hK.out _ _ ?_
      go_wp2
      go_roundw
      case rel => exact ⟨k - 1, _, _, fp', by omega, by go_num, HRn.out, ⟨HS.out.ver, by simp; omega, snoc_short HS.out.ts (by omega), HS.out.gl, HS.out.gf, HS.out.sl, HS.out.sf, HS.out.ml, HS.out.mf, HS.out.bys⟩, by simp; omega, HU.out⟩
      case measure => simp [intOf]; omega
    · obtain rfl : k = 0 := by omega
      have HR : Hid (RD w X wr p a len cap bs o zeroRc A r fp) := hR
      have HTL : Hid (r.txt.length ≤ 3) := by rw [Hid]; omega
      obtain ⟨G, hG⟩ : ∃ G, Hid (r.got.length = G) := ⟨_, rfl⟩
      have hG16 : G ≤ 16 := by have := hG.out; have := HS.out.gl; omega
      clear hR hTk hlt hk
      go_wp2_with fail
      go_loopw [7] (fun i wx => ∃ (k : Nat) (A : Ra) (r : Rw) (fp : Fp), k ≤ G ∧ i = .int .i64 k ∧ RD w X wx p a len cap bs o zeroRc A r fp ∧ SmR r ∧ (r.txt.length ≤ 3 ∧ r.sus.length = 0) ∧ r.got.length = G) (fun i _ => G - (intOf i).toNat)
      case atStart => exact ⟨0, A, r, fp, Nat.zero_le _, rfl, HR.out, HS.out, ⟨HTL.out, HU.out⟩, hG.out⟩
      case round =>
        clear HR HS HTL hG HU
        obtain ⟨k, A, r, fp, hk, rfl, hR, hS, ⟨hT3, hU⟩, hGl⟩ := hrel
        have HU : Hid (r.sus.length = 0) := hU
        clear hU
        have HS : Hid (SmR r) := hS
        have HT3 : Hid (r.txt.length ≤ 3) := hT3
        have HGl : Hid (r.got.length = G) := hGl
        clear hS hT3
        by_cases hlt : k < G
        · have k1 : (k : Int) < (r.got.length : Int) := by omega
          have k0 : (0 : Int) ≤ (k : Int) := by omega
          have hR1 := hR.drewN 1
          have hB := belowC 4 4 rfl hR1.cc (by omega) (by omega)
          have x1 := hR.c8.1.2.2.1
          have HR : Hid (RD w X (wr.drewN 1) p a len cap bs o zeroRc A r fp) := hR1
          obtain ⟨ta, tc, ga, gc, sa, sc, ma, mc⟩ := A
          obtain ⟨g, off, hga, _⟩ := hR.gotAt (show k < r.got.length by omega)
          simp only at hga
          subst hga
          clear hR hR1 hGl
          simp only at x1
          go_wp2_with fail
          refine gt_begin (S := fun X : World => X.cell? ⟨o, 2, none⟩ = some (.slice (some ⟨g, off, none⟩) r.got.length gc)) 6 hmix (by kernel_rfl) ?_
          have hHeld : (fun X : World => X.cell? ⟨o, 2, none⟩ = some (.slice (some ⟨g, off, none⟩) r.got.length gc)) wr.drew := x1
          refine gt_take (i := 0) (v := ?_) rfl (by kernel_rfl) (by kernel_rfl) (by kernel_rfl) (by kernel_rfl) (fun _ _ _ h => h) (Or.inl ⟨by rfl, ?_⟩) hHeld ?_
          rotate_left
          · (intro X hSX; (try dsimp only at hSX); have g0 := hSX; go_simp; try with_reducible rfl)
          try simp only [Act.put, List.setIfInBounds_toArray, List.set_cons_zero, List.set_cons_succ]
          refine gt_take (i := 1) (v := ?_) rfl (by kernel_rfl) (by kernel_rfl) (by kernel_rfl) (by kernel_rfl) (fun _ _ _ h => h) (Or.inl ⟨by rfl, ?_⟩) hHeld ?_
          rotate_left
          · (intro X hSX; (try dsimp only at hSX); have g0 := hSX; go_simp; try with_reducible rfl)
          try simp only [Act.put, List.setIfInBounds_toArray, List.set_cons_zero, List.set_cons_succ]
          refine gt_pure (i := 2) (v := ?_) rfl (by kernel_rfl) (by kernel_rfl) (by kernel_rfl) (fun _ _ _ h => h) (Or.inl ⟨by rfl, ?_⟩) ?_
          rotate_left
          · (intro X; go_simp; try with_reducible rfl)
          try simp only [Act.put, List.setIfInBounds_toArray, List.set_cons_zero, List.set_cons_succ]
          refine gt_pure (i := 3) (v := ?_) rfl (by kernel_rfl) (by kernel_rfl) (by kernel_rfl) (fun _ _ _ h => h) (Or.inl ⟨by rfl, ?_⟩) ?_
          rotate_left
          · (intro X; go_simp; try with_reducible rfl)
          try simp only [Act.put, List.setIfInBounds_toArray, List.set_cons_zero, List.set_cons_succ]
          refine gt_one (i := 4) rfl (by kernel_rfl) (by kernel_rfl) (fun K hK => ?_)
          go_simp
          go_at_call 46
          refine hB.mono ?_
          rintro e Y3 ⟨z, rfl, hz, c4, g4⟩
          have R3 := HR.out.drawn g4 c4
          refine hK.out _ _ R3.c8.1.2.2.1 (fun hHeld2 => ?_)
          clear hK hHeld
          have hHeld := hHeld2
          try simp only [Act.put, List.setIfInBounds_toArray, List.set_cons_zero, List.set_cons_succ]
          obtain ⟨g2, off2, hga2, ⟨y1, y2⟩, hput⟩ := R3.gotAt (i := k) (by have := HGl.out; omega)
          simp only at hga2
          cases hga2
          obtain ⟨fp2, hRn⟩ := hput (z : Int)
          have HRn : Hid (RD w X (Y3.setCell ⟨g, off + k, none⟩ (.int .i64 (z : Int))) p a len cap bs o zeroRc ⟨ta, tc, some ⟨g, off, none⟩, gc, sa, sc, ma, mc⟩ { r with got := r.got.set k (z : Int) } fp2) := hRn
          clear hRn hput R3 c4 g4 hB HR
          refine gt_pure (i := 5) (v := ?_) rfl (by kernel_rfl) (by kernel_rfl) (by kernel_rfl) (fun _ _ _ h => h) (Or.inl ⟨by rfl, ?_⟩) ?_
          rotate_left
          · (intro X; go_simp; try with_reducible rfl)
          try simp only [Act.put, List.setIfInBounds_toArray, List.set_cons_zero, List.set_cons_succ]
          refine gt_last rfl (by kernel_rfl) (by kernel_rfl) (fun K hK => ?_)
          go_simp
          refine hK.out _ _ ?_
          go_wp2
          go_roundw
          case rel => (repeat apply Exists.intro); exact ⟨⟨k + 1, _, _, fp2, by omega, by go_num, HRn.out, ⟨HS.out.ver, HS.out.tl, HS.out.ts, by simp only [List.length_set]; exact HS.out.gl, fits_set HS.out.gf k (by omega), HS.out.sl, HS.out.sf, HS.out.ml, HS.out.mf, HS.out.bys⟩, ⟨HT3.out, HU.out⟩, by simp only [List.length_set]; exact HGl.out⟩, rfl⟩
          case measure => simp [intOf]; omega
        · obtain rfl : k = G := by omega
          have x2 := hR.c8.1.2.2.1
          have kn : ¬ ((k : Int) < (r.got.length : Int)) := by omega
          have hO := onceC 3 hR.cc (by omega)
          have HR : Hid (RD w X wr p a len cap bs o zeroRc A r fp) := hR
          clear hR hGl hlt hk hG16
          go_upto_region 11 with fail
          go_cut [44] from 39 to 44 (fun s44 wx => ∃ b : Bool, s44 = .bool b ∧ (b = true → 0 < N) ∧ RD w X wx p a len cap bs o zeroRc A r fp)
          case first =>
            go_wp2_with fail
            refine hO.mono ?_
            rintro e Y4 ⟨t, rfl, c5, g5⟩
            have HR4 : Hid (RD w X Y4 p a len cap bs o zeroRc A r fp) := HR.out.drawn g5 c5
            clear hO c5 g5 HR x2 kn
            cases t with
            | false =>
              go_wp2
              go_meet
              case rel => exact ⟨false, rfl, fun h => (by cases h), HR4.out⟩
            | true =>
              by_cases hNp : 0 < N
              · have hNi : (0 : Int) < (N : Int) := by omega
                go_wp2
                go_meet
                case rel => exact ⟨true, rfl, fun _ => hNp, HR4.out⟩
              · have hNi : ¬ ((0 : Int) < (N : Int)) := by omega
                go_wp2
                go_meet
                case rel => exact ⟨false, rfl, fun h => (by cases h), HR4.out⟩
          case rest =>
            obtain ⟨bb, rfl, hbN, hR4⟩ := hcut
            have HR4 : Hid (RD w X wc p a len cap bs o zeroRc A r fp) := hR4
            have HBN : Hid (bb = true → 0 < N) := hbN
            clear hR4 hbN HR hO x2 kn
            generalize wc = Y4 at *
            go_upto_if 44 with fail
            go_cut [44] from 45 to 64 (fun _ wx => ∃ (A : Ra) (r : Rw) (fp : Fp), RD w X wx p a len cap bs o zeroRc A r fp ∧ SmR r ∧ r.txt.length ≤ 3)
            case first =>
              cases bb with
              | false =>
                go_wp2
                go_meet
                case rel => exact ⟨A, r, fp, HR4.out, HS.out, HT3.out⟩
              | true =>
                have hNp : 0 < N := HBN.out rfl
                have hNi : (0 : Int) < (N : Int) := by omega
                have y0 := HR4.out.c8.2.1
                have y1 := HR4.out.fo 4
                have R5 := HR4.out.wed true
                have R6 := R5.drewN 1
                have hB := belowC N (N : Int) rfl R6.cc (by omega) (by omega)
                have z1 := R5.c8.1.2.2.2
                have HR6 : Hid (RD w X ((Y4.setCell ⟨o, 4, none⟩ (.bool true)).drewN 1) p a len cap bs o zeroRc A { r with wed := true } fp) := R6
                clear R5 R6
                go_wp2_with fail
                refine gt_begin (S := fun X : World => X.cell? ⟨o, 3, none⟩ = some (.slice A.sa r.sus.length A.sc)) 7 hmix (by kernel_rfl) ?_
                have hHeld : (fun X : World => X.cell? ⟨o, 3, none⟩ = some (.slice A.sa r.sus.length A.sc)) ((Y4.setCell ⟨o, 4, none⟩ (.bool true)).drew) := z1
                refine gt_take (i := 0) (v := ?_) rfl (by kernel_rfl) (by kernel_rfl) (by kernel_rfl) (by kernel_rfl) (fun _ _ _ h => h) (Or.inl ⟨by rfl, ?_⟩) hHeld ?_
                rotate_left
                · (intro X hSX; (try dsimp only at hSX); have g0 := hSX; go_simp; try with_reducible rfl)
                try simp only [Act.put, List.setIfInBounds_toArray, List.set_cons_zero, List.set_cons_succ]
                refine gt_take (i := 1) (v := ?_) rfl (by kernel_rfl) (by kernel_rfl) (by kernel_rfl) (by kernel_rfl) (fun _ _ _ h => h) (Or.inl ⟨by rfl, ?_⟩) hHeld ?_
                rotate_left
                · (intro X hSX; (try dsimp only at hSX); have g0 := hSX; go_simp; try with_reducible rfl)
                try simp only [Act.put, List.setIfInBounds_toArray, List.set_cons_zero, List.set_cons_succ]
                refine gt_pure (i := 2) (v := ?_) rfl (by kernel_rfl) (by kernel_rfl) (by kernel_rfl) (fun _ _ _ h => h) (Or.inl ⟨by rfl, ?_⟩) ?_
                rotate_left
                · (intro X; go_simp; try with_reducible rfl)
                try simp only [Act.put, List.setIfInBounds_toArray, List.set_cons_zero, List.set_cons_succ]
                refine gt_pure (i := 3) (v := ?_) rfl (by kernel_rfl) (by kernel_rfl) (by kernel_rfl) (fun _ _ _ h => h) (Or.inl ⟨by rfl, ?_⟩) ?_
                rotate_left
                · (intro X; go_simp; try with_reducible rfl)
                try simp only [Act.put, List.setIfInBounds_toArray, List.set_cons_zero, List.set_cons_succ]
                refine gt_one (i := 4) rfl (by kernel_rfl) (by kernel_rfl) (fun K hK => ?_)
                go_simp
                go_at_call 46
                refine hB.mono ?_
                rintro e Y5 ⟨u, rfl, hu, c6, g6⟩
                have R7 := HR6.out.drawn g6 c6
                have hPut := R7.putS HS.out.sf (by have := HS.out.sl; simp only; omega) (u : Int)
                simp only at hPut
                refine hK.out _ _ R7.c8.1.2.2.2 (fun hHeld2 => ?_)
                clear hK hHeld
                have hHeld := hHeld2
                try simp only [Act.put, List.setIfInBounds_toArray, List.set_cons_zero, List.set_cons_succ]
                refine gt_one (i := 5) rfl (by kernel_rfl) (by kernel_rfl) (fun K hK => ?_)
                go_simp
                go_at_call 87
                refine hPut.mono ?_
                rintro e Y6 ⟨a6, c6b, rfl, hb6, fp6, R8⟩
                have R7b := R7.step hb6
                refine hK.out _ _ R7b.c8.1.2.2.2 (fun hHeld3 => ?_)
                clear hK hHeld
                have hHeld := hHeld3
                try simp only [Act.put, List.setIfInBounds_toArray, List.set_cons_zero, List.set_cons_succ]
                have q1 := R7b.c8.1.2.2.2
                have q2 := R7b.fo 3
                refine gt_take (i := 6) (v := ?_) rfl (by kernel_rfl) (by kernel_rfl) (by kernel_rfl) (by kernel_rfl) (fun _ _ _ h => h) (Or.inl ⟨by rfl, ?_⟩) hHeld ?_
                rotate_left
                · (intro X hSX; (try dsimp only at hSX); have g0 := hSX; go_simp; try with_reducible rfl)
                try simp only [Act.put, List.setIfInBounds_toArray, List.set_cons_zero, List.set_cons_succ]
                have HR8 : Hid (RD w X (Y6.setCell ⟨o, 3, none⟩ (.slice a6 (putL r.sus (u : Int)).length c6b)) p a len cap bs o zeroRc { A with sa := a6, sc := c6b } { r with wed := true, sus := putL r.sus (u : Int) } fp6) := R8
                have HS8 : Hid (SmR { r with wed := true, sus := putL r.sus (u : Int) }) := ⟨HS.out.ver, HS.out.tl, HS.out.ts, HS.out.gl, HS.out.gf, by have := put_len r.sus (u : Int); have := HU.out; simp only; omega, put_fits HS.out.sf (by omega), HS.out.ml, HS.out.mf, HS.out.bys⟩
                clear R7 R7b hB hPut R8 c6 g6 hb6 HR6
                refine gt_last rfl (by kernel_rfl) (by kernel_rfl) (fun K hK => ?_)
                go_simp
                refine hK.out _ _ ?_
                have hO := onceC 2 HR8.out.cc (by omega)
                clear hK hHeld z1 y0 y1 q1 q2
                generalize (Y6.setCell ⟨o, 3, none⟩ (.slice a6 (putL r.sus (u : Int)).length c6b)) = Y7 at *
                obtain ⟨A7, r7, hR7, hS7, HT8⟩ : ∃ (A7 : Ra) (r7 : Rw), RD w X Y7 p a len cap bs o zeroRc A7 r7 fp6 ∧ SmR r7 ∧ Hid (r7.txt.length ≤ 3) := ⟨_, _, HR8.out, HS8.out, HT3.out⟩
                clear HR8 HS8
                have HR8 : Hid (RD w X Y7 p a len cap bs o zeroRc A7 r7 fp6) := hR7
                have HS8 : Hid (SmR r7) := hS7
                clear hR7 hS7
                go_wp2_with fail
                refine hO.mono ?_
                rintro e Y8 ⟨t2, rfl, c7, g7⟩
                have HR9 : Hid (RD w X Y8 p a len cap bs o zeroRc A7 r7 fp6) := HR8.out.drawn g7 c7
                clear hO c7 g7 HR8
                cases t2 with
                | false =>
                  go_wp2
                  go_meet
                  case rel => exact ⟨_, _, _, HR9.out, HS8.out, HT8.out⟩
                | true =>
                  have y0 := HR9.out.c8.2.2.1
                  have y1 := HR9.out.fo 5
                  have R10 := HR9.out.rdy true
                  have hB := belowC N (N : Int) rfl R10.cc (by omega) (by omega)
                  have HR10 : Hid (RD w X (Y8.setCell ⟨o, 5, none⟩ (.bool true)) p a len cap bs o zeroRc A7 { r7 with rdy := true } fp6) := R10
                  clear R10 HR9
                  go_wp2_with fail
                  refine hB.mono ?_
                  rintro e Y9 ⟨u2, rfl, hu2, c8, g8⟩
                  obtain ⟨i2, hi2, hw0, hw1, hw2⟩ := info_parts2n Try.info2n
                  have R11 := HR10.out.drawn g8 c8
                  have z0 := R11.c8.2.2.2.1
                  have z1 := R11.fo 6
                  have R12 := R11.by_ (u2 : Int)
                  clear hB HR10 R11 c8 g8 y0 y1
                  go_upto_region 17 with fail
                  clear z0 z1
                  generalize Y9.setCell ⟨o, 6, none⟩ (.int .i64 (u2 : Int)) = Y10 at *
                  have hA := R12.copyT HS8.out.gf (by have := HS8.out.gl; simp only; omega) i2 hi2 hw0 hw1 hw2
                  have z2 := R12.c8.1.2.2.1
                  have R13 := R12.step (oneA16 _ (.cells #[] 2))
                  have z3 := R13.c8.1.2.2.1
                  clear R12 R13
                  simp only at hA z2 z3
                  go_wp2_with (at_builtin; refine wpList_append_of (by rfl) _ _ _ _ (by rfl) _ _ (by rfl) (by rfl) hA ⟨rfl, rfl, rfl, rfl⟩ ?_; rintro v14 w14 ⟨a14, c14, rfl, q1, q2, fp14, hR14⟩; have HR14 : Hid (∃ (A : Ra) (r : Rw) (fp : Fp), RD w X (w14.setCell ⟨o, 7, none⟩ (.slice a14 r7.got.length c14)) p a len cap bs o zeroRc A r fp ∧ SmR r ∧ r.txt.length ≤ 3) := ⟨_, _, _, hR14, ⟨HS8.out.ver, HS8.out.tl, HS8.out.ts, HS8.out.gl, HS8.out.gf, HS8.out.sl, HS8.out.sf, HS8.out.gl, HS8.out.gf, by simp only; omega⟩, HT8.out⟩; clear hR14 hA z2 z3)
                  go_meet
                  case rel => exact HR14.out
            case rest =>
              clear HS HT3 HU HGl HR4 HBN
              obtain ⟨A, r, fp, hR, hS, hT⟩ := hcut
              have HS : Hid (SmR r) := hS
              have HT : Hid (r.txt.length ≤ 3) := hT
              have hO := onceC 12 hR.cc (by omega)
              have HR : Hid (RD w X wc p a len cap bs o zeroRc A r fp) := hR
              clear hR hS hT
              go_wp2_with fail
              refine hO.mono ?_
              rintro e Z1 ⟨t, rfl, c5, g5⟩
              have HR1 : Hid (RD w X Z1 p a len cap bs o zeroRc A r fp) := HR.out.drawn g5 c5
              clear hO c5 g5 HR
              go_upto_if 66 with fail
              go_cut [66] from 67 to 112 (fun _ wx => ∃ (A : Ra) (r : Rw) (fp : Fp), RD w X wx p a len cap bs o zeroRc A r fp ∧ SmR r)
              case first =>
                cases t with
                | false =>
                  go_wp2
                  go_meet
                  case rel => exact ⟨A, r, fp, HR1.out, HS.out⟩
                | true =>
                  have hB := belowC 6 6 rfl HR1.out.cc (by omega) (by omega)
                  go_wp2_with fail
                  refine hB.mono ?_
                  rintro e Z2 ⟨y, rfl, hy, c6, g6⟩
                  have R2 := HR1.out.drawn g6 c6
                  clear hB c6 g6 HR1
                  obtain rfl | rfl | rfl | rfl | rfl | rfl : y = 0 ∨ y = 1 ∨ y = 2 ∨ y = 3 ∨ y = 4 ∨ y = 5 := by omega
                  · have R3 := R2.step (oneA16 Z2 (.cells #[.int .i64 (-1), .int .i64 1000000, .int .i64 1000001] 2))
                    have hB3 := belowC 3 3 rfl R3.cc (by omega) (by omega)
                    have hq := Bx.new Z2 2 #[.int .i64 (-1), .int .i64 1000000, .int .i64 1000001]
                    have hpZ : p < Z2.heap.size := R2.cc.lt
                    have HR3 : Hid (RD w X (Z2.alloc (.cells #[.int .i64 (-1), .int .i64 1000000, .int .i64 1000001] 2)) p a len cap bs o zeroRc A r fp) := R3
                    clear R2 R3
                    go_wp2_with fail
                    refine hB3.mono ?_
                    rintro e Z3 ⟨z, rfl, hz, c7, g7⟩
                    have R4 := HR3.out.drawn g7 c7
                    have hq7 := hq.grown g7 (by simp; omega)
                    have d0 := R4.c8.1.1
                    have d2 := R4.fo 0
                    have HR4 : Hid (RD w X Z3 p a len cap bs o zeroRc A r fp) := R4
                    clear hB3 c7 g7 HR3 hq R4
                    obtain rfl | rfl | rfl : z = 0 ∨ z = 1 ∨ z = 2 := by omega
                    · have hqc : Z3.cell? ⟨Z2.heap.size, 0, none⟩ = some (.int .i64 (-1)) := hq7.at 0 rfl
                      clear hq7
                      go_wp2
                      go_meet
                      case rel => exact ⟨A, _, fp, HR4.out.ver (-1), ⟨by simp only; omega, HS.out.tl, HS.out.ts, HS.out.gl, HS.out.gf, HS.out.sl, HS.out.sf, HS.out.ml, HS.out.mf, HS.out.bys⟩⟩
                    · have hqc : Z3.cell? ⟨Z2.heap.size, 1, none⟩ = some (.int .i64 1000000) := hq7.at 1 rfl
                      clear hq7
                      go_wp2
                      go_meet
                      case rel => exact ⟨A, _, fp, HR4.out.ver 1000000, ⟨by simp only; omega, HS.out.tl, HS.out.ts, HS.out.gl, HS.out.gf, HS.out.sl, HS.out.sf, HS.out.ml, HS.out.mf, HS.out.bys⟩⟩
                    · have hqc : Z3.cell? ⟨Z2.heap.size, 2, none⟩ = some (.int .i64 1000001) := hq7.at 2 rfl
                      clear hq7
                      go_wp2
                      go_meet
                      case rel => exact ⟨A, _, fp, HR4.out.ver 1000001, ⟨by simp only; omega, HS.out.tl, HS.out.ts, HS.out.gl, HS.out.gf, HS.out.sl, HS.out.sf, HS.out.ml, HS.out.mf, HS.out.bys⟩⟩
                  · have R3 := R2.drewN 1
                    have hB5 := belowC 2 2 rfl R3.cc (by omega) (by omega)
                    have x1 := R2.c8.1.2.1
                    have hlen : r.txt.length ≤ 1000 := by have := HT.out; omega
                    have HR3 : Hid (RD w X (Z2.drewN 1) p a len cap bs o zeroRc A r fp) := R3
                    clear R2 R3
                    go_wp2_with fail
                    refine gt_begin (S := fun X : World => X.cell? ⟨o, 1, none⟩ = some (.slice A.ta r.txt.length A.tc)) 10 hmix (by kernel_rfl) ?_
                    have hHeld : (fun X : World => X.cell? ⟨o, 1, none⟩ = some (.slice A.ta r.txt.length A.tc)) Z2.drew := x1
                    refine gt_take (i := 0) (v := ?_) rfl (by kernel_rfl) (by kernel_rfl) (by kernel_rfl) (by kernel_rfl) (fun _ _ _ h => h) (Or.inl ⟨by rfl, ?_⟩) hHeld ?_
                    rotate_left
                    · (intro X hSX; (try dsimp only at hSX); have g0 := hSX; go_simp; try with_reducible rfl)
                    try simp only [Act.put, List.setIfInBounds_toArray, List.set_cons_zero, List.set_cons_succ]
                    refine gt_take (i := 1) (v := ?_) rfl (by kernel_rfl) (by kernel_rfl) (by kernel_rfl) (by kernel_rfl) (fun _ _ _ h => h) (Or.inl ⟨by rfl, ?_⟩) hHeld ?_
                    rotate_left
                    · (intro X hSX; (try dsimp only at hSX); have g0 := hSX; go_simp; try with_reducible rfl)
                    try simp only [Act.put, List.setIfInBounds_toArray, List.set_cons_zero, List.set_cons_succ]
                    refine gt_pure (i := 2) (v := ?_) rfl (by kernel_rfl) (by kernel_rfl) (by kernel_rfl) (fun _ _ _ h => h) (Or.inl ⟨by rfl, ?_⟩) ?_
                    rotate_left
                    · (intro X; go_simp; try with_reducible rfl)
                    try simp only [Act.put, List.setIfInBounds_toArray, List.set_cons_zero, List.set_cons_succ]
                    refine gt_one (i := 3) rfl (by kernel_rfl) (by kernel_rfl) (fun K hK => ?_)
                    go_simp
                    go_at_call 46
                    refine hB5.mono ?_
                    rintro e Y6 ⟨z, rfl, hz, c7, g7⟩
                    have L7 := HR3.out.drawn g7 c7
                    refine hK.out _ _ L7.c8.1.2.1 (fun hHeld2 => ?_)
                    clear hK hHeld
                    have hHeld := hHeld2
                    try simp only [Act.put, List.setIfInBounds_toArray, List.set_cons_zero, List.set_cons_succ]
                    obtain ⟨MM, hM⟩ : ∃ MM : Nat, 20 + z = MM := ⟨_, rfl⟩
                    have hMi : IntKind.i64.wrap ((20 : Int) + (z : Int)) = (MM : Int) := by rw [IntKind.wrap_i64]; omega
                    have hmk := make_byR MM (by omega)
                    have hst := conv_byR Y6 MM (by omega)
                    have hml : (List.replicate MM (0 : UInt8)).length ≤ 21 := by rw [List.length_replicate]; omega
                    generalize List.replicate MM (0 : UInt8) = s at *
                    refine gt_pure (i := 4) (v := ?_) rfl (by kernel_rfl) (by kernel_rfl) (by kernel_rfl) (fun _ _ _ h => h) (Or.inl ⟨by rfl, ?_⟩) ?_
                    rotate_left
                    · (intro X; go_simp; try with_reducible rfl)
                    try simp only [Act.put, List.setIfInBounds_toArray, List.set_cons_zero, List.set_cons_succ]
                    refine gt_one (i := 5) rfl (by kernel_rfl) (by kernel_rfl) (fun K hK => ?_)
                    go_simp
                    have L8 := L7.step (oneA16 Y6 (.cells (madeCells #[.int .u8 0] MM) 5))
                    refine hK.out _ _ L8.c8.1.2.1 (fun hHeld3 => ?_)
                    clear hK hHeld
                    have hHeld := hHeld3
                    try simp only [Act.put, List.setIfInBounds_toArray, List.set_cons_zero, List.set_cons_succ]
                    refine gt_one (i := 6) rfl (by kernel_rfl) (by kernel_rfl) (fun K hK => ?_)
                    go_simp
                    refine hK.out _ _ L8.c8.1.2.1 (fun hHeld4 => ?_)
                    clear hK hHeld
                    have hHeld := hHeld4
                    try simp only [Act.put, List.setIfInBounds_toArray, List.set_cons_zero, List.set_cons_succ]
                    refine gt_one (i := 7) rfl (by kernel_rfl) (by kernel_rfl) (fun K hK => ?_)
                    go_simp
                    refine hK.out _ _ (L8.step (oneA16 _ (.cells #[.string (sv s)] 9))).c8.1.2.1 (fun hHeld5 => ?_)
                    clear hK hHeld
                    have hHeld := hHeld5
                    try simp only [Act.put, List.setIfInBounds_toArray, List.set_cons_zero, List.set_cons_succ]
                    have hA := L8.app i0 hi0 hz0 hz1 hz2 s hlen
                    rw [World.size_alloc] at hA
                    refine gt_one (i := 8) rfl (by kernel_rfl) (by kernel_rfl) (fun K hK => ?_)
                    refine step_append_of (by rfl) _ _ _ _ (by rfl) (.slice A.ta r.txt.length A.tc) _ (by rfl) (by rfl) hA ⟨rfl, rfl, rfl, rfl⟩ ?_
                    rintro v' w4 ⟨a', c', rfl, q1, q2, fp', hRn⟩
                    refine hK.out _ _ q1 (fun hHeld6 => ?_)
                    clear hK hHeld
                    have hHeld := hHeld6
                    try simp only [Act.put, List.setIfInBounds_toArray, List.set_cons_zero, List.set_cons_succ]
                    refine gt_take (i := 9) (v := ?_) rfl (by kernel_rfl) (by kernel_rfl) (by kernel_rfl) (by kernel_rfl) (fun _ _ _ h => h) (Or.inl ⟨by rfl, ?_⟩) hHeld ?_
                    rotate_left
                    · (intro X hSX; (try dsimp only at hSX); have g0 := hSX; go_simp; try with_reducible rfl)
                    try simp only [Act.put, List.setIfInBounds_toArray, List.set_cons_zero, List.set_cons_succ]
                    have HRn : Hid (∃ (A : Ra) (r : Rw) (fp : Fp), RD w X _ p a len cap bs o zeroRc A r fp ∧ SmR r) := ⟨_, _, fp', hRn, ⟨HS.out.ver, by have := HT.out; simp; omega, snoc_short HS.out.ts hml, HS.out.gl, HS.out.gf, HS.out.sl, HS.out.sf, HS.out.ml, HS.out.mf, HS.out.bys⟩⟩
                    clear L7 L8 hRn hA c7 g7 hB5
                    refine gt_last rfl (by kernel_rfl) (by kernel_rfl) (fun K hK => ?_)
                    go_simp
                    refine hK.out _ _ ?_
                    go_wp2
                    go_meet
                    case rel => exact HRn.out
                  · have hV := vecCO N (N : Int) rfl (by omega) R2.cc
                    have HR2 : Hid (RD w X Z2 p a len cap bs o zeroRc A r fp) := R2
                    clear R2
                    go_wp2_with fail
                    refine hV.mono ?_
                    rintro e Z3 ⟨a', c', zs, f', rfl, ho', hf', hfz, hz16, c7, g7⟩
                    have R3 := HR2.out.drawn g7 c7
                    have hs7 := g7.size
                    have hol := HR2.out.own.lt
                    have hXo := HR2.out.ho
                    have d1 := R3.c8.1.2.2.1
                    have d2 := R3.fo 2
                    obtain ⟨fp', R4⟩ := R3.got ho' (fun b hb => by have := hf' b hb; omega) (fun b hb hfp => by have := hf' b hb; have := owL_lt HR2.out.ls b hfp; omega)
                    have HR4 : Hid (∃ (A : Ra) (r : Rw) (fp : Fp), RD w X (Z3.setCell ⟨o, 2, none⟩ (.slice a' zs.length c')) p a len cap bs o zeroRc A r fp ∧ SmR r) := ⟨_, _, fp', R4, ⟨HS.out.ver, HS.out.tl, HS.out.ts, hz16, hfz, HS.out.sl, HS.out.sf, HS.out.ml, HS.out.mf, HS.out.bys⟩⟩
                    clear R3 R4 hV ho' hf' hfz c7 g7 HR2
                    go_wp2
                    go_meet
                    case rel => exact HR4.out
                  · have d1 := R2.c8.2.2.1
                    have d2 := R2.fo 5
                    have HR2 : Hid (RD w X Z2 p a len cap bs o zeroRc A r fp) := R2
                    clear R2
                    go_wp2
                    go_meet
                    case rel => exact ⟨A, _, fp, HR2.out.rdy (!r.rdy), ⟨HS.out.ver, HS.out.tl, HS.out.ts, HS.out.gl, HS.out.gf, HS.out.sl, HS.out.sf, HS.out.ml, HS.out.mf, HS.out.bys⟩⟩
                  · have hF := fromC (-1) 7 (by omega) (by omega) (by omega) R2.cc
                    have HR2 : Hid (RD w X Z2 p a len cap bs o zeroRc A r fp) := R2
                    clear R2
                    go_wp2_with fail
                    refine hF.mono ?_
                    rintro e Z3 ⟨x, rfl, hx0, hx1, c7, g7⟩
                    have R3 := HR2.out.drawn g7 c7
                    have d1 := R3.c8.2.2.2.1
                    have d2 := R3.fo 6
                    have HR3 : Hid (RD w X Z3 p a len cap bs o zeroRc A r fp) := R3
                    clear R3 hF c7 g7 HR2
                    go_wp2
                    go_meet
                    case rel => exact ⟨A, _, fp, HR3.out.by_ x, ⟨HS.out.ver, HS.out.tl, HS.out.ts, HS.out.gl, HS.out.gf, HS.out.sl, HS.out.sf, HS.out.ml, HS.out.mf, ⟨hx0, hx1⟩⟩⟩
                  · have hB5 := belowC 2 2 rfl R2.cc (by omega) (by omega)
                    have HR2 : Hid (RD w X Z2 p a len cap bs o zeroRc A r fp) := R2
                    clear R2
                    go_wp2_with fail
                    refine hB5.mono ?_
                    rintro e Z3 ⟨z, rfl, hz, c7, g7⟩
                    have R3 := HR2.out.drawn g7 c7
                    have hoY : o < Z3.heap.size := R3.own.lt
                    have hXo := R3.ho
                    obtain ⟨MM, hM⟩ : ∃ MM : Nat, 12 + z = MM := ⟨_, rfl⟩
                    obtain ⟨T', hT'l, hOS, hsm⟩ : ∃ T' : List (List UInt8), T'.length = MM ∧ OS (Z3.alloc (.cells (madeCells #[.string ⟨#[]⟩] MM) 9)) Z3.heap.size 0 MM MM T' ∧ ∀ i, i < T'.length → (T'.getD i []).length ≤ 21 := ⟨List.replicate MM [], by simp, made_os Z3 MM (by unfold maxLen; omega), fun i hi => by simp [List.getD_eq_getElem?_getD, List.getElem?_replicate]; split <;> simp⟩
                    subst hT'l
                    have hmk := run_make_row' (P := Try.prog) 33 9 (.string ⟨#[]⟩) 16 Try.underlying33 Try.info9 rfl .i64 .i64 T'.length (by omega) (by omega)
                    have hMi : (12 : Int) + (z : Int) = (T'.length : Int) := by omega
                    have hwm : wrap64 (T'.length : Int) = (T'.length : Int) := by unfold wrap64; omega
                    have HM1 : Hid ((12 : Int) + (z : Int) = (T'.length : Int)) := hMi
                    have HM2 : Hid (wrap64 (T'.length : Int) = (T'.length : Int)) := hwm
                    clear hMi hwm
                    have R4 := R3.step (oneA16 Z3 (.cells (madeCells #[.string ⟨#[]⟩] T'.length) 9))
                    have d1 := R4.c8.1.2.1
                    have d2 := R4.fo 1
                    obtain ⟨fp', R5⟩ := R4.txt (a' := some ⟨Z3.heap.size, 0, none⟩) (c' := T'.length) (Z := T') (f' := fun b => b = Z3.heap.size) (ow_scl.2 ⟨_, _, some Z3.heap.size, rfl, OSo.of hOS, fun b => by simp [eq_comm]⟩) (fun b hb => by omega) (fun b hb hfp => by have := owL_lt R3.ls b hfp; omega)
                    have HR5 : Hid (∃ (A : Ra) (r : Rw) (fp : Fp), RD w X ((Z3.alloc (.cells (madeCells #[.string ⟨#[]⟩] T'.length) 9)).setCell ⟨o, 1, none⟩ (.slice (some ⟨Z3.heap.size, 0, none⟩) T'.length T'.length)) p a len cap bs o zeroRc A r fp ∧ SmR r) := ⟨_, _, fp', R5, ⟨HS.out.ver, by simp only; omega, hsm, HS.out.gl, HS.out.gf, HS.out.sl, HS.out.sf, HS.out.ml, HS.out.mf, HS.out.bys⟩⟩
                    clear hB5 c7 g7 HR2 R3 R4 R5 hOS hsm hM hz
                    generalize hVV : Z3.alloc (.cells (madeCells #[.string ⟨#[]⟩] T'.length) 9) = V at *
                    have hMi := HM1.out
                    have hwm := HM2.out
                    go_wp2
                    go_meet
                    case rel => exact HR5.out
              case rest =>
                clear HS HT HR1
                obtain ⟨A, r, fp, hR, hS⟩ := hcut
                have HS : Hid (SmR r) := hS
                clear hS
                obtain ⟨⟨e0, e1, e2, e3⟩, e4, e5, e6, e7⟩ := hR.c8
                obtain ⟨⟨r0b, r1b, r2b, r3b⟩, r4b, r5b, r6b, r7b⟩ := hR.r8
                obtain ⟨⟨f0, f1, f2, f3⟩, f4, f5, f6, f7⟩ := hR.f8
                have HR : Hid (RD w X wc p a len cap bs o zeroRc A r fp) := hR
                clear hR
                go_wp2
                refine bodyPost_ret (v := .agg #[.int .i64 r.ver, .slice A.ta r.txt.length A.tc, .slice A.ga r.got.length A.gc, .slice A.sa r.sus.length A.sc, .bool r.wed, .bool r.rdy, .int .i64 r.by_, .slice A.ma r.trm.length A.mc]) (by simp [results, Try.results65, go_sem, *]) rfl ?_
                exact ⟨A, r, fp, rfl, HS.out, HR.out.ans⟩
end Go.Proofs.Ytgaibngaincahaa
