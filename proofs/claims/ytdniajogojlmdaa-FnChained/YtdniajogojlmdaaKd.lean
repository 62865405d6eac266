/-
  Several texts in one: Dr1.
-/
import Derived.Test.YtdniajogojlmdaaJy
import Derived.Test.YtdniajogojlmdaaJo
import Derived.Deep.RegionHeld3
import Derived.Deep.CutRange
/-
  The draw of a relay (l10Draw).
-/
namespace Go.Proofs.Ytdniajogojlmdaa
set_option linter.unusedVariables false
set_option linter.unusedSimpArgs false
open Go.RowKit Go.Sort

theorem pat_left {A C : List Ps} {i : Nat} (h : i < A.length) : pat (A ++ C) i = pat A i := by
  simp [pat, List.getD, List.getElem?_append_left h]
theorem pat_right {A C : List Ps} {i : Nat} (h : A.length ≤ i) : pat (A ++ C) i = pat C (i - A.length) := by
  simp [pat, List.getD, List.getElem?_append_right h]
theorem chn_ok (H : List (List Int)) : ∀ m i, i < (chn H m).length → (0 ≤ (pat (chn H m) i).1 ∧ (pat (chn H m) i).1 < (m : Int)) ∧ (pat (chn H m) i).2.1 = (pat (chn H m) i).1 + 1 ∧ (pat (chn H m) i).2.2 ∈ row H (pat (chn H m) i).1.toNat ∧ ∀ k, k < i → (pat (chn H m) k).1 < (pat (chn H m) i).1
  | 0, i, h => by simp [chn] at h
  | m + 1, i, h => by
    rw [chn_succ] at h ⊢
    by_cases hi : i < (chn H m).length
    · obtain ⟨h1, h2, h3, h4⟩ := chn_ok H m i hi
      rw [pat_left hi]
      refine ⟨⟨h1.1, by omega⟩, h2, h3, fun k hk => ?_⟩
      rw [pat_left (by omega)]
      exact h4 k hk
    · have hl := chnAt_len H m
      rw [List.length_append] at h
      have e0 : i - (chn H m).length = 0 := by omega
      have hmem : pat (chnAt H m) 0 ∈ chnAt H m := by
        have : 0 < (chnAt H m).length := by omega
        simp [pat, List.getD, this]
      obtain ⟨q1, q2, q3⟩ := chnAt_mem hmem
      rw [pat_right (by omega), e0, q1, q2]
      refine ⟨⟨by omega, by omega⟩, rfl, by simpa using q3, fun k hk => ?_⟩
      rw [pat_left (by omega)]
      have := (chn_ok H m k (by omega)).1
      omega
theorem chain_turn {N B : Int} {H : List (List Int)} (h : okRel N B H) : turnOk N H (chainL N B H) := by
  rw [chainL, if_pos h]
  intro i hi
  obtain ⟨h1, h2, h3, h4⟩ := chn_ok H (N.toNat - 1) i hi
  have hN := h.1
  refine ⟨by omega, by omega, h3, fun k hk => ?_⟩
  have h5 := h4 k hk
  have h6 := (chn_ok H (N.toNat - 1) k (by omega)).2.1
  omega
/-- What a drawn relay is like. -/
def SmR (N B : Int) (H : List (List Int)) : Prop := (-1000 ≤ N ∧ N ≤ 1000) ∧ (-1000 ≤ B ∧ B ≤ 1000) ∧ FitsH H ∧ H.length ≤ 12 ∧ tot H H.length ≤ 156
theorem okRel_sm {N B : Int} {H : List (List Int)} (h : okRel N B H) : SmR N B H := by
  obtain ⟨h1, h2, h3⟩ := okRel_small h
  have := h.1
  have := h.2.1
  exact ⟨by omega, by omega, h1, h2, by omega⟩
theorem okRel_rows {N B : Int} {H : List (List Int)} (h : okRel N B H) {i : Nat} (hi : i < H.length) : (row H i).length ≤ 12 := by
  have := okRow_len (h.2.2.2.2 i hi) h.2.1.2
  have := h.2.1
  omega
theorem sm_set {N N2 B : Int} {H : List (List Int)} (h : okRel N B H) {t : Nat} (ht : t < H.length) {R : List Int} (hR : Fits R) (hl : R.length ≤ 13) (hN : -1000 ≤ N2 ∧ N2 ≤ 1000) : SmR N2 B (H.set t R) := by
  obtain ⟨h1, h2, h3⟩ := okRel_small h
  have hB := h.2.1
  have hrow : ∀ i, i < H.length → (row (H.set t R) i).length ≤ 13 := fun i hi => by
    rw [row_set ht]
    split
    · exact hl
    · have := okRel_rows h hi; omega
  refine ⟨hN, by omega, fun i hi => ?_, by rw [List.length_set]; exact h2, ?_⟩
  · rw [List.length_set] at hi
    rw [row_set ht]
    split
    · exact hR
    · exact h1 i hi
  · rw [List.length_set]
    have := tot_le12 (H.set t R) H.length hrow
    omega
theorem one_ps (w : World) (x y z : Int) (T : TypeId) : PsS (w.alloc (.cells #[.int .i64 x, .int .i64 y, .int .i64 z] T)) (some ⟨w.heap.size, 0, none⟩) 1 [(x, y, z)] := by
  refine ⟨rfl, .inr ⟨w.heap.size, 0, rfl, fun i hi => ?_⟩⟩
  obtain rfl : i = 0 := by omega
  simp [pat]
theorem one_ps2 (w : World) (o : Obj) (x y z : Int) (T : TypeId) : PsS ((w.alloc o).alloc (.cells #[.int .i64 x, .int .i64 y, .int .i64 z] T)) (some ⟨w.heap.size + 1, 0, none⟩) 1 [(x, y, z)] := by
  have := one_ps (w.alloc o) x y z T
  simpa using this
theorem zb_alloc {Y0 V : World} {p : Nat} {T : TypeId} {cs : Array Value} (g : (Y0.alloc (.cells cs T)).grownBy V (some p)) (h : p < Y0.heap.size) : Bx V Y0.heap.size T cs := (Bx.new Y0 T cs).grown g (by simp; omega)
theorem zb_drew {Y0 V : World} {p : Nat} {T : TypeId} {cs : Array Value} (g : ((Y0.alloc (.cells cs T)).drew).grownBy V (some p)) (h : p < Y0.heap.size) : Bx V Y0.heap.size T cs := Bx.grown (w := (Y0.alloc (.cells cs T)).drew) (Bx.new Y0 T cs) g (by simp; omega)
theorem bx_after (w : World) (o : Obj) (T : TypeId) (cs : Array Value) : Bx ((w.alloc o).alloc (.cells cs T)) (w.heap.size + 1) T cs := by
  have := Bx.new (w.alloc o) T cs
  simpa using this
/-- What l10Draw answers. -/
def Ans10 (w X w' : World) (p : Nat) (a : Option Addr) (len cap : Nat) (bs : Nat → Int) (e : Ending) : Prop :=
  ∃ N B a' c H, e = .returned (rlV N B a' H.length c) ∧ (∃ f, Cel.ow w' (iicl H) (.slice a' H.length c) f ∧ ∀ b, f b → X.heap.size ≤ b) ∧ SmR N B H ∧ Cc w w' p a len cap bs ∧ X.grownBy w' (some p)
theorem fin10 {w X wr : World} {p B2 B3 : Nat} {a : Option Addr} {len cap : Nat} {bs : Nat → Int} {N B : Int} {a' : Option Addr} {c : Nat} {H : List (List Int)} {M : Nat} (h : D10 w X wr p B2 B3 a len cap bs N B a' c H M) (hs : SmR N B H) :
    Ans10 w X (((wr.setCell ⟨B2, 0, none⟩ (.int .i64 N)).setCell ⟨B2, 1, none⟩ (.int .i64 B)).setCell ⟨B2, 2, none⟩ (.slice a' H.length c)) p a len cap bs (.returned (.agg #[.int .i64 N, .int .i64 B, .slice a' H.length c])) := by
  obtain ⟨f, h1, h2⟩ := h.own
  have hl := h.lo
  have hw := h.wlo
  have hx := h.xlo
  exact ⟨N, B, a', c, H, rfl, ⟨f, Cel.ow_wrt h1 (wrt3 wr B2) (fun b hb e => by have := h2 b hb; omega), fun b hb => by have := h2 b hb; omega⟩, hs, ((h.cc.set (by omega) (by omega) 0 _).set (by omega) (by omega) 1 _).set (by omega) (by omega) 2 _, grown_put3 h.gr (by omega) _ _ _⟩

set_option maxRecDepth 100000 in
set_option maxHeartbeats 6400000 in
theorem l10Draw_any (p : Nat) (a : Option Addr) (len cap : Nat) (bs : Nat → Int) (w X : World) (hC : Cc w X p a len cap bs) :
    Calls Try.prog 74 #[.pointer (some ⟨p, 0, none⟩)] X fun e w' => Ans10 w X w' p a len cap bs e := by
  have hpX := hC.lt
  have hb1 := one_alloc10 X (.cells #[.int .i64 0, .int .i64 0, .slice none 0 0] 35)
  have R1 := Bx.new X 35 #[.int .i64 0, .int .i64 0, .slice none 0 0]
  have C1 := hC.step hb1
  have HG1 : Hid (X.grownBy (X.alloc (.cells #[.int .i64 0, .int .i64 0, .slice none 0 0] 35)) (some p)) := World.grownBy_alloc _ _ _
  have hws := hC.below.size
  generalize hW1 : X.alloc (.cells #[.int .i64 0, .int .i64 0, .slice none 0 0] 35) = X1 at *
  have hmix := mixedR
  obtain ⟨i0, hi0, hz0, hz1, hz2⟩ := info_parts2n Try.info2n
  go_enter Try.func74, Try.ntmps74
  go_wp2_with fail
  refine (belowC 5 5 rfl C1 (by omega) (by omega)).mono ?_
  rintro e X2 ⟨Y1, rfl, hY1, C2, hg2⟩
  have R2 := R1.grown hg2 (by simp; omega)
  have w1 : (1 : Int) + (Y1 : Int) ≤ 9223372036854775807 := by omega
  go_wp2_with fail
  refine (belowC 5 5 rfl C2 (by omega) (by omega)).mono ?_
  rintro e X3 ⟨Y2, rfl, hY2, C3, hg3⟩
  have R3 := R2.grown hg3 (by simp; omega)
  have w2 : (1 : Int) + (Y2 : Int) ≤ 9223372036854775807 := by omega
  have hNew := newS_any (1 + (Y1 : Int)) (1 + (Y2 : Int)) X3
  have hok0 : newL (1 + (Y1 : Int)) (1 + (Y2 : Int)) = ((1 + (Y1 : Int), 1 + (Y2 : Int), newH (1 + Y1) (1 + Y2)), true) := by
    rw [newL, if_pos (by omega)]
    have e1 : (1 + (Y1 : Int)).toNat = 1 + Y1 := by omega
    have e2 : (1 + (Y2 : Int)).toNat = 1 + Y2 := by omega
    rw [e1, e2]
  have HK0 : Hid (okRel (1 + (Y1 : Int)) (1 + (Y2 : Int)) (newH (1 + Y1) (1 + Y2))) := by
    have := new_ok (N := 1 + Y1) (B := 1 + Y2) (by omega) (by omega)
    rw [Hid]
    simpa using this
  rw [hok0] at hNew
  unfold AnsRl rlV at hNew
  simp only [] at hNew
  generalize newH (1 + Y1) (1 + Y2) = H0 at *
  go_wp2_with fail
  refine hNew.mono ?_
  rintro e X4 ⟨a0, c0, rfl, f0, ho0, hf0, hb4⟩
  clear hNew hok0
  have hb5 := one_alloc10 X4 (.cells #[.int .i64 (1 + (Y1 : Int)), .int .i64 (1 + (Y2 : Int)), .slice a0 H0.length c0] 35)
  have G5 := Bx.new X4 35 #[.int .i64 (1 + (Y1 : Int)), .int .i64 (1 + (Y2 : Int)), .slice a0 H0.length c0]
  have g12 := hg2.size
  have g23 := hg3.size
  have g34 := hb4.size
  have r1 := R1.lt
  have HG5 : X.grownBy (X4.alloc (.cells #[.int .i64 (1 + (Y1 : Int)), .int .i64 (1 + (Y2 : Int)), .slice a0 H0.length c0] 35)) (some p) := grown_trans (grown_trans (grown_trans (grown_trans HG1.out hg2) hg3) (grown_blw hb4 _)) (grown_blw hb5 _)
  have D5 : D10 w X (X4.alloc (.cells #[.int .i64 (1 + (Y1 : Int)), .int .i64 (1 + (Y2 : Int)), .slice a0 H0.length c0] 35)) p X.heap.size X4.heap.size a len cap bs (1 + (Y1 : Int)) (1 + (Y2 : Int)) a0 c0 H0 (X4.alloc (.cells #[.int .i64 (1 + (Y1 : Int)), .int .i64 (1 + (Y2 : Int)), .slice a0 H0.length c0] 35)).heap.size :=
    ⟨(C3.step hb4).step hb5, HG5, (R3.below hb4).below hb5, G5, ⟨f0, Cel.ow_below ho0 hb5, fun b hb => ⟨by have := hf0 b hb; omega, by have := Cel.ow_lt ho0 b hb; omega, by have := Cel.ow_lt ho0 b hb; simp; omega, by have := hf0 b hb; omega⟩⟩, ⟨.inl (by omega), by omega, by simp⟩, Nat.le_refl _, by omega, Nat.le_refl _⟩
  have hN0 : 1 ≤ 1 + (Y1 : Int) ∧ 1 + (Y1 : Int) ≤ 5 := by omega
  have hB0 : 1 ≤ 1 + (Y2 : Int) ∧ 1 + (Y2 : Int) ≤ 5 := by omega
  generalize hW5 : X4.alloc (.cells #[.int .i64 (1 + (Y1 : Int)), .int .i64 (1 + (Y2 : Int)), .slice a0 H0.length c0] 35) = X5 at *
  clear hb4 hb5 C1 C2 C3 R1 R2 R3 G5 hg2 hg3 HG1 HG5 ho0 hf0 hb1 g12 g23 g34 r1
  go_wp2_with fail
  refine (belowC 8 8 rfl D5.cc (by omega) (by omega)).mono ?_
  rintro e X6 ⟨K, rfl, hK, C6, hg6⟩
  have D6 := D5.drawn hg6 C6
  clear D5 hg6 C6 w1 w2 hW5
  generalize hNN : 1 + (Y1 : Int) = N0 at *
  generalize hBB : 1 + (Y2 : Int) = B0 at *
  clear hNN hBB
  generalize hB3 : X4.heap.size = B3 at *
  generalize hB2 : X.heap.size = B2 at *
  clear hB2 hB3
  have hK7 : K ≤ 7 := by omega
  go_wp2_with fail
  go_loopw [5] (fun n wr => ∃ (k : Nat) (N B : Int) (a' : Option Addr) (c : Nat) (H : List (List Int)) (M : Nat), k ≤ 7 ∧ n = .int .i64 (k : Int) ∧ D10 w X wr p B2 B3 a len cap bs N B a' c H M ∧ okRel N B H) (fun n _ => (intOf n).toNat)
  case atStart => exact ⟨K, _, _, _, _, _, _, hK7, rfl, D6, HK0.out⟩
  case round =>
    clear D6 HK0 hN0 hB0
    obtain ⟨k1, N, B, a', c, H, M, hk, rfl, hD, hok⟩ := hrel
    have D : Hid (D10 w X wr p B2 B3 a len cap bs N B a' c H M) := hD
    have HK : Hid (okRel N B H) := hok
    have hN := hok.1
    have hB := hok.2.1
    clear hD hok
    cases k1 with
    | zero =>
      have hgt : ¬ ((0 : Int) < ((0 : Nat) : Int)) := by omega
      go_wp2_with fail
      refine (onceC 12 D.out.cc (by omega)).mono ?_
      rintro e W1 ⟨t1, rfl, C1, g1⟩
      have D1 : D10 w X W1 p B2 B3 a len cap bs N B a' c H M := D.out.drawn g1 C1
      clear C1 g1 D
      have hl12 := okRel_small HK.out
      cases t1
      · skip
        obtain ⟨c0, c1, c2⟩ := D1.box.r3
        have u0 := D1.res.at 0 rfl
        have u1 := D1.res.at 1 rfl
        have u2 := D1.res.at 2 rfl
        have uf0 := D1.res.f 0
        have uf1 := D1.res.f 1
        have uf2 := D1.res.f 2
        have HE : Hid (Ans10 w X _ p a len cap bs _) := fin10 D1 (okRel_sm HK.out)
        go_wp2
        refine bodyPost_ret (v := .agg #[.int .i64 N, .int .i64 B, .slice a' H.length c]) (by simp [results, Try.results74, go_sem, u0, u1, u2]) rfl ?_
        exact HE.out
      · go_wp2_with fail
        refine (belowC 3 3 rfl D1.cc (by omega) (by omega)).mono ?_
        rintro e W2 ⟨y, rfl, hy, C2, g2⟩
        have D2 : D10 w X W2 p B2 B3 a len cap bs N B a' c H M := D1.drawn g2 C2
        clear C2 g2 D1
        obtain rfl | rfl | rfl : y = 0 ∨ y = 1 ∨ y = 2 := by omega
        · go_wp2_with fail
          refine (fromC 0 14 (by omega) (by omega) (by omega) D2.cc).mono ?_
          rintro e W3 ⟨x, rfl, hx0, hx1, C3, g3⟩
          have D3 : D10 w X W3 p B2 B3 a len cap bs N B a' c H M := D2.drawn g3 C3
          have tf0 := D3.box.f 0
          have t0 := D3.box.r3.1
          have D4 := D3.setN x
          clear C3 g3 D2 D3
          obtain ⟨c0, c1, c2⟩ := D4.box.r3
          have u0 := D4.res.at 0 rfl
          have u1 := D4.res.at 1 rfl
          have u2 := D4.res.at 2 rfl
          have uf0 := D4.res.f 0
          have uf1 := D4.res.f 1
          have uf2 := D4.res.f 2
          have HE : Hid (Ans10 w X _ p a len cap bs _) := fin10 D4 (⟨by omega, (okRel_sm HK.out).2⟩)
          go_wp2
          refine bodyPost_ret (v := .agg #[.int .i64 x, .int .i64 B, .slice a' H.length c]) (by simp [results, Try.results74, go_sem, u0, u1, u2]) rfl ?_
          exact HE.out
        · have hHl : (H.length : Int) = N := HK.out.2.2.1
          have hRl : ((row H 0).length : Int) = B := HK.out.2.2.2.1
          have hl0 : 0 < H.length := by omega
          have hHK := HK.out
          have hrl := okRel_rows hHK hl0
          have hfr := hl12.1 0 hl0
          obtain ⟨g, off, at', ct, ft, rfl, hcell, hfz, hgB, hrow, hft, hput⟩ := d10_row (t := 0) D2 hl0
          obtain ⟨x, xs, hxs⟩ : ∃ x xs, row H 0 = x :: xs := by
            cases e : row H 0 with
            | nil => rw [e] at hRl; simp at hRl; omega
            | cons x xs => exact ⟨x, xs, rfl⟩
          rw [hxs] at hcell hrow hrl hfr
          have hxf : Fits xs := fun z hz => hfr z (List.mem_cons_of_mem _ hz)
          have hxl : xs.length ≤ 13 := by simp at hrl; omega
          obtain ⟨a9, c9, G9, e9, hs9, hf9⟩ := ow_icl.1 hrow
          cases e9
          obtain ⟨g1, o1, rfl, _, _, _⟩ := hs9.cell (by simp)
          have hle := hs9.le.1
          rw [List.length_cons] at hcell hle
          rw [Nat.add_zero] at hcell hfz
          obtain ⟨d0, d1, d2⟩ := D2.box.r3
          have n1 : (1 : Int) ≤ ((xs.length + 1 : Nat) : Int) := by omega
          have n2 : (0 : Int) < (H.length : Int) := by omega
          have SM : Hid (SmR N B (H.set 0 xs)) := sm_set hHK hl0 hxf hxl (by omega)
          have hput' := fun v' f' => hput (W2.drewN 1) xs v' f' (D2.cc.step (Same.drewN W2 1).below) (Wrt.drewN (Wrt.refl _ _) 1)
          rw [Nat.add_zero] at hput'
          by_cases hc1 : ct = 1
          · subst hc1
            obtain ⟨hT, hnil⟩ := (ow_tail hrow).1 rfl
            obtain ⟨_, _, _, D4⟩ := hput' _ _ (Cel.ow_below hT (Same.drewN W2 1).below) (fun b hb => absurd hb id)
            subst hnil
            generalize H.set 0 [] = H2 at *
            have D5 : D10 w X (W2.setCell ⟨g, off, none⟩ (.slice (some ⟨g1, o1, none⟩) 0 0)).drew p B2 B3 a len cap bs N B (some ⟨g, off, none⟩) c H2 _ := D4
            clear hput hput' hT hrow hs9 hft HK hHK D2 D4 hHl hRl
            go_wp2_with fail
            go_region
            clear d0 d1 d2 hcell hfz
            generalize (W2.setCell ⟨g, off, none⟩ (.slice (some ⟨g1, o1, none⟩) 0 0)).drew = W4 at *
            obtain ⟨c0, c1, c2⟩ := D5.box.r3
            have u0 := D5.res.at 0 rfl
            have u1 := D5.res.at 1 rfl
            have u2 := D5.res.at 2 rfl
            have uf0 := D5.res.f 0
            have uf1 := D5.res.f 1
            have uf2 := D5.res.f 2
            have HE : Hid (Ans10 w X _ p a len cap bs _) := fin10 D5 (SM.out)
            go_wp2
            refine bodyPost_ret (v := .agg #[.int .i64 N, .int .i64 B, .slice (some ⟨g, off, none⟩) H2.length c]) (by simp [results, Try.results74, go_sem, u0, u1, u2]) rfl ?_
            exact HE.out
          · have hD := (ow_tail hrow).2 (by omega)
            obtain ⟨_, _, _, D4⟩ := hput' _ _ (Cel.ow_below hD (Same.drewN W2 1).below) (fun b hb => .inl hb)
            generalize H.set 0 xs = H2 at *
            have D5 : D10 w X (W2.setCell ⟨g, off, none⟩ (.slice (some ⟨g1, o1 + 1, none⟩) xs.length (ct - 1))).drew p B2 B3 a len cap bs N B (some ⟨g, off, none⟩) c H2 _ := D4
            clear hput hput' hD hrow hs9 hft HK hHK D2 D4 hHl hRl
            go_wp2_with fail
            go_region
            clear d0 d1 d2 hcell hfz
            generalize (W2.setCell ⟨g, off, none⟩ (.slice (some ⟨g1, o1 + 1, none⟩) xs.length (ct - 1))).drew = W4 at *
            obtain ⟨c0, c1, c2⟩ := D5.box.r3
            have u0 := D5.res.at 0 rfl
            have u1 := D5.res.at 1 rfl
            have u2 := D5.res.at 2 rfl
            have uf0 := D5.res.f 0
            have uf1 := D5.res.f 1
            have uf2 := D5.res.f 2
            have HE : Hid (Ans10 w X _ p a len cap bs _) := fin10 D5 (SM.out)
            go_wp2
            refine bodyPost_ret (v := .agg #[.int .i64 N, .int .i64 B, .slice (some ⟨g, off, none⟩) H2.length c]) (by simp [results, Try.results74, go_sem, u0, u1, u2]) rfl ?_
            exact HE.out
        · have hHl : 1 ≤ H.length := by have := HK.out.2.2.1; omega
          have hHK := HK.out
          obtain ⟨d0, d1, d2⟩ := D2.box.r3
          go_wp2_with fail
          refine (belowC H.length (H.length : Int) rfl D2.cc (by omega) (by omega)).mono ?_
          rintro e W3 ⟨t, rfl, ht, C3, g3⟩
          have D3 := D2.drawn g3 C3
          have hrl := okRel_rows hHK ht
          have hfr := hl12.1 t ht
          obtain ⟨g, off, at', ct, ft, rfl, hcell, hfz, hgB, hrow, hft, hput⟩ := d10_row (t := t) D3 ht
          clear d0 d1 d2
          obtain ⟨d0, d1, d2⟩ := D3.box.r3
          have t0 : (0 : Int) ≤ (t : Int) := by omega
          have t1 : (t : Int) < (H.length : Int) := by omega
          have hlo := D3.lo
          have hmx := D3.mx
          have SM : ∀ x : Int, -1 ≤ x → x ≤ 14 → SmR N B (H.set t (row H t ++ [x])) := fun x h1 h2 => sm_set hHK ht (fun z hz => by
            rcases List.mem_append.1 hz with h | h
            · exact hfr z h
            · rw [List.mem_singleton] at h; omega) (by simp; omega) (by omega)
          have hA : ∀ (V1 : World) (x : Int), W3.drew.grownBy V1 (some p) → ∀ Y, Same Y (V1.alloc (.cells #[.int .i64 x] 2)) → ∃ v' w', (Builtin.append_ #[24, 24] 24 #[.slice at' (row H t).length ct, .slice (some ⟨V1.heap.size, 0, none⟩) 1 1]).run Try.prog Y = .ok v' w' ∧
              ∃ a2 c2 f2, v' = .slice a2 ((row H t).length + 1) c2 ∧ Cel.ow w' (icl (row H t ++ [x])) v' f2 ∧ Wrt (fun b => b = p ∨ ft b) W3 w' ∧ Wrt ft (V1.alloc (.cells #[.int .i64 x] 2)) w' ∧ ∀ b, f2 b → ft b ∨ W3.heap.size ≤ b := fun V1 x hg Y hY => by
            have w0 : Wrt (fun b => some p = some b) W3.drew Y := ((Wrt.of_grown hg).alloc _).trans (hY.wrt (fun _ => False)) (fun _ _ h => absurd h id)
            have hyr := Cel.ow_wrt (w := W3.drew) (Cel.ow_below hrow (Same.drewN W3 1).below) w0 (fun b hb e => by cases e; have := hft _ hb; omega)
            obtain ⟨a2, c2, w', f2, hr, ho, hw, hf⟩ := ow_push (P := Try.prog) (w := Y) 24 24 2 i0 _ 1 8 Try.underlying24 hi0 hz0 hz1 hz2 rfl (by omega) hyr (ds := pl [.int .i64 x]) (fd := fun _ => False) (owL_pl.2 ⟨rfl, fun _ h => h⟩) (fun _ _ h => h) rfl (by simp [Value.oneCell']) V1.heap.size 2 (by rw [hY.heap]; exact heap_alloc_new V1 _) (by unfold maxLen; omega) (by omega)
            refine ⟨_, w', hr, a2, c2, f2, rfl, ?_, ?_, (hY.wrt ft).trans hw (fun _ _ h => h), fun b hb => ?_⟩
            · have e : icl (row H t ++ [x]) = .sl 1 ((row H t).length + 1) (pl ((row H t).map (Value.int .i64)) ++ pl [.int .i64 x]) := by simp [icl, pl]
              rw [e]
              exact ho
            · refine Wrt.trans (w1 := Y) (f := fun b => b = p ∨ ft b) ⟨w0.os, w0.tape, w0.output, w0.size, fun b hb hn => w0.block b hb (fun e => hn (.inl (by cases e; rfl)))⟩ hw (fun b _ h => .inr h)
            · rcases hf b hb with h | h | h
              · exact .inl h
              · exact absurd h id
              · exact .inr (by have := w0.size; have e : W3.drew.heap.size = W3.heap.size := rfl; omega)
          go_wp2_with fail
          refine gt_begin (S := fun X : World => X.cell? ⟨B3, 2, none⟩ = some (.slice (some ⟨g, off, none⟩) H.length c) ∧ X.cell? ⟨g, off + t, none⟩ = some (.slice at' (row H t).length ct)) 13 hmix (by kernel_rfl) ?_
          have hHeld : (fun X : World => X.cell? ⟨B3, 2, none⟩ = some (.slice (some ⟨g, off, none⟩) H.length c) ∧ X.cell? ⟨g, off + t, none⟩ = some (.slice at' (row H t).length ct)) W3.drew := ⟨d2, hcell⟩
          refine gt_take (i := 0) (v := ?_) rfl (by kernel_rfl) (by kernel_rfl) (by kernel_rfl) (by kernel_rfl) (fun _ _ _ h => h) (Or.inl ⟨by rfl, ?_⟩) hHeld ?_
          rotate_left
          · (intro X hSX; (try dsimp only at hSX); obtain ⟨g0, g1⟩ := hSX; go_simp; try with_reducible rfl)
          try simp only [Act.put, List.setIfInBounds_toArray, List.set_cons_zero, List.set_cons_succ]
          refine gt_take (i := 1) (v := ?_) rfl (by kernel_rfl) (by kernel_rfl) (by kernel_rfl) (by kernel_rfl) (fun _ _ _ h => h) (Or.inl ⟨by rfl, ?_⟩) hHeld ?_
          rotate_left
          · (intro X hSX; (try dsimp only at hSX); obtain ⟨g0, g1⟩ := hSX; go_simp; try with_reducible rfl)
          try simp only [Act.put, List.setIfInBounds_toArray, List.set_cons_zero, List.set_cons_succ]
          refine gt_take (i := 2) (v := ?_) rfl (by kernel_rfl) (by kernel_rfl) (by kernel_rfl) (by kernel_rfl) (fun _ _ _ h => h) (Or.inl ⟨by rfl, ?_⟩) hHeld ?_
          rotate_left
          · (intro X hSX; (try dsimp only at hSX); obtain ⟨g0, g1⟩ := hSX; go_simp; try with_reducible rfl)
          try simp only [Act.put, List.setIfInBounds_toArray, List.set_cons_zero, List.set_cons_succ]
          refine gt_take (i := 3) (v := ?_) rfl (by kernel_rfl) (by kernel_rfl) (by kernel_rfl) (by kernel_rfl) (fun _ _ _ h => h) (Or.inl ⟨by rfl, ?_⟩) hHeld ?_
          rotate_left
          · (intro X hSX; (try dsimp only at hSX); obtain ⟨g0, g1⟩ := hSX; go_simp; try with_reducible rfl)
          try simp only [Act.put, List.setIfInBounds_toArray, List.set_cons_zero, List.set_cons_succ]
          refine gt_take (i := 4) (v := ?_) rfl (by kernel_rfl) (by kernel_rfl) (by kernel_rfl) (by kernel_rfl) (fun _ _ _ h => h) (Or.inl ⟨by rfl, ?_⟩) hHeld ?_
          rotate_left
          · (intro X hSX; (try dsimp only at hSX); obtain ⟨g0, g1⟩ := hSX; go_simp; try with_reducible rfl)
          try simp only [Act.put, List.setIfInBounds_toArray, List.set_cons_zero, List.set_cons_succ]
          refine gt_take (i := 5) (v := ?_) rfl (by kernel_rfl) (by kernel_rfl) (by kernel_rfl) (by kernel_rfl) (fun _ _ _ h => h) (Or.inl ⟨by rfl, ?_⟩) hHeld ?_
          rotate_left
          · (intro X hSX; (try dsimp only at hSX); obtain ⟨g0, g1⟩ := hSX; go_simp; try with_reducible rfl)
          try simp only [Act.put, List.setIfInBounds_toArray, List.set_cons_zero, List.set_cons_succ]
          refine gt_take (i := 6) (v := ?_) rfl (by kernel_rfl) (by kernel_rfl) (by kernel_rfl) (by kernel_rfl) (fun _ _ _ h => h) (Or.inl ⟨by rfl, ?_⟩) hHeld ?_
          rotate_left
          · (intro X hSX; (try dsimp only at hSX); obtain ⟨g0, g1⟩ := hSX; go_simp; try with_reducible rfl)
          try simp only [Act.put, List.setIfInBounds_toArray, List.set_cons_zero, List.set_cons_succ]
          refine gt_take (i := 7) (v := ?_) rfl (by kernel_rfl) (by kernel_rfl) (by kernel_rfl) (by kernel_rfl) (fun _ _ _ h => h) (Or.inl ⟨by rfl, ?_⟩) hHeld ?_
          rotate_left
          · (intro X hSX; (try dsimp only at hSX); obtain ⟨g0, g1⟩ := hSX; go_simp; try with_reducible rfl)
          try simp only [Act.put, List.setIfInBounds_toArray, List.set_cons_zero, List.set_cons_succ]
          refine gt_take (i := 8) (v := ?_) rfl (by kernel_rfl) (by kernel_rfl) (by kernel_rfl) (by kernel_rfl) (fun _ _ _ h => h) (Or.inl ⟨by rfl, ?_⟩) hHeld ?_
          rotate_left
          · (intro X hSX; (try dsimp only at hSX); obtain ⟨g0, g1⟩ := hSX; go_simp; try with_reducible rfl)
          try simp only [Act.put, List.setIfInBounds_toArray, List.set_cons_zero, List.set_cons_succ]
          refine gt_one (i := 9) rfl (by kernel_rfl) (by kernel_rfl) (fun K hK => ?_)
          go_simp
          go_at_call 75
          refine (fromC (-1) 14 (by omega) (by omega) (by omega) (C3.step (Same.drewN W3 1).below)).mono ?_
          rintro e V1 ⟨x, rfl, hx0, hx1, CV, gV⟩
          have bV := (D3.box.below (Same.drewN W3 1).below).grown gV (by simp; omega)
          have cV : V1.cell? ⟨g, off + t, none⟩ = some (.slice at' (row H t).length ct) := (World.cell?_of_block (w := W3.drewN 1) (gV.block g (by have e : (W3.drewN 1).heap.size = W3.heap.size := rfl; omega) (by simp; omega))).trans hcell
          refine hK.out _ _ ⟨bV.r3.2.2, cV⟩ (fun hHeld2 => ?_)
          clear hK hHeld
          have hHeld := hHeld2
          try simp only [Act.put, List.setIfInBounds_toArray, List.set_cons_zero, List.set_cons_succ]
          refine gt_one (i := 10) rfl (by kernel_rfl) (by kernel_rfl) (fun K hK => ?_)
          go_simp
          refine hK.out _ _ ⟨(bV.alloc _).r3.2.2, (World.cell?_of_block (w := V1) ((World.grownBy_alloc V1 _ none).block g (by have e : (W3.drewN 1).heap.size = W3.heap.size := rfl; have := gV.size; omega) (by simp))).trans cV⟩ (fun hHeld3 => ?_)
          clear hK hHeld hHeld2
          have hHeld := hHeld3
          try simp only [Act.put, List.setIfInBounds_toArray, List.set_cons_zero, List.set_cons_succ]
          refine gt_one (i := 11) rfl (by kernel_rfl) (by kernel_rfl) (fun K hK => ?_)
          refine step_append_of (by rfl) (.tmp 84) (.tmp 87) _ _ (by rfl) _ _ (by rfl) (by rfl) (hA V1 x gV) ⟨rfl, rfl, rfl, rfl⟩ ?_
          rintro v' w4 ⟨a2, c2', f2, rfl, ho2, hw2, hw3, hf2⟩
          have C4 := cc_wrt (CV.step (one_alloc10 V1 (.cells #[.int .i64 x] 2))) hw3 (fun h => by have := hft _ h; omega) (fun b hb => by have := hft b hb; have := D3.wlo; omega)
          obtain ⟨y1, y2, y3, D4⟩ := hput w4 _ _ f2 C4 hw2 ho2 hf2
          have hSM := SM x hx0 hx1
          generalize H.set t (row H t ++ [x]) = H2 at *
          refine hK.out _ _ ⟨y3, y1⟩ (fun hHeld4 => ?_)
          clear hK hHeld hHeld3
          have hHeld := hHeld4
          try simp only [Act.put, List.setIfInBounds_toArray, List.set_cons_zero, List.set_cons_succ]
          refine gt_take (i := 12) (v := ?_) rfl (by kernel_rfl) (by kernel_rfl) (by kernel_rfl) (by kernel_rfl) (fun _ _ _ h => h) (Or.inl ⟨by rfl, ?_⟩) hHeld ?_
          rotate_left
          · (intro X hSX; (try dsimp only at hSX); obtain ⟨g0, g1⟩ := hSX; go_simp; try with_reducible rfl)
          try simp only [Act.put, List.setIfInBounds_toArray, List.set_cons_zero, List.set_cons_succ]
          refine gt_last rfl (by kernel_rfl) (by kernel_rfl) (fun K hK => ?_)
          go_simp
          refine hK.out _ _ ?_
          clear hHeld hHeld4 y1 y2 y3 hA hput SM C4 CV bV cV
          obtain ⟨c0, c1, c2⟩ := D4.box.r3
          have u0 := D4.res.at 0 rfl
          have u1 := D4.res.at 1 rfl
          have u2 := D4.res.at 2 rfl
          have uf0 := D4.res.f 0
          have uf1 := D4.res.f 1
          have uf2 := D4.res.f 2
          have HE : Hid (Ans10 w X _ p a len cap bs _) := fin10 D4 (hSM)
          go_wp2
          refine bodyPost_ret (v := .agg #[.int .i64 N, .int .i64 B, .slice (some ⟨g, off, none⟩) H2.length c]) (by simp [results, Try.results74, go_sem, u0, u1, u2]) rfl ?_
          exact HE.out

    | succ k =>
      have hgt : decide (0 < ((k + 1 : Nat) : Int)) = true := by simp
      have hgt2 : (0 : Int) < ((k + 1 : Nat) : Int) := by omega
      go_wp2_with fail
      refine (onceC 2 D.out.cc (by omega)).mono ?_
      rintro e W1 ⟨t1, rfl, C1, g1⟩
      have D1 : Hid (D10 w X W1 p B2 B3 a len cap bs N B a' c H M) := D.out.drawn g1 C1
      clear C1 g1 D
      have hsm := okRel_small HK.out
      have hb3l := D1.out.box.lt
      have hk1 : ((k + 1 : Nat) : Int) - 1 = (k : Int) := by omega
      cases t1
      · obtain ⟨N, rfl⟩ : ∃ n : Nat, N = (n : Int) := ⟨N.toNat, by omega⟩
        obtain ⟨B, rfl⟩ : ∃ n : Nat, B = (n : Int) := ⟨B.toNat, by omega⟩
        have SS : ∀ Y, D10 w X Y p B2 B3 a len cap bs (N : Int) (B : Int) a' c H M → (Y.cell? ⟨B3, 0, none⟩ = some (.int .i64 (N : Int)) ∧ Y.cell? ⟨B3, 1, none⟩ = some (.int .i64 (B : Int)) ∧ Y.cell? ⟨B3, 2, none⟩ = some (.slice a' H.length c) ∧ D10 w X Y p B2 B3 a len cap bs (N : Int) (B : Int) a' c H M) := fun Y h => ⟨h.box.r3.1, h.box.r3.2.1, h.box.r3.2.2, h⟩
        have hBN : ∀ Y, (Y.cell? ⟨B3, 0, none⟩ = some (.int .i64 (N : Int)) ∧ Y.cell? ⟨B3, 1, none⟩ = some (.int .i64 (B : Int)) ∧ Y.cell? ⟨B3, 2, none⟩ = some (.slice a' H.length c) ∧ D10 w X Y p B2 B3 a len cap bs (N : Int) (B : Int) a' c H M) → Calls Try.prog 57 #[.pointer (some ⟨p, 0, none⟩), .int .i64 (N : Int)] Y fun e w' => ∃ y : Nat, e = .returned (.int .i64 (y : Int)) ∧ D10 w X w' p B2 B3 a len cap bs (N : Int) (B : Int) a' c H M ∧ Y.grownBy w' (some p) := fun Y h => (belowC N (N : Int) rfl h.2.2.2.cc (by omega) (by omega)).mono (fun e w' ⟨y, he, _, C, g⟩ => ⟨y, he, h.2.2.2.drawn g C, g⟩)
        have hBB : ∀ Y, (Y.cell? ⟨B3, 0, none⟩ = some (.int .i64 (N : Int)) ∧ Y.cell? ⟨B3, 1, none⟩ = some (.int .i64 (B : Int)) ∧ Y.cell? ⟨B3, 2, none⟩ = some (.slice a' H.length c) ∧ D10 w X Y p B2 B3 a len cap bs (N : Int) (B : Int) a' c H M) → Calls Try.prog 57 #[.pointer (some ⟨p, 0, none⟩), .int .i64 (B : Int)] Y fun e w' => ∃ y : Nat, e = .returned (.int .i64 (y : Int)) ∧ D10 w X w' p B2 B3 a len cap bs (N : Int) (B : Int) a' c H M ∧ Y.grownBy w' (some p) := fun Y h => (belowC B (B : Int) rfl h.2.2.2.cc (by omega) (by omega)).mono (fun e w' ⟨y, he, _, C, g⟩ => ⟨y, he, h.2.2.2.drawn g C, g⟩)
        have hTu : ∀ Y ca y z, (Y.cell? ⟨B3, 0, none⟩ = some (.int .i64 (N : Int)) ∧ Y.cell? ⟨B3, 1, none⟩ = some (.int .i64 (B : Int)) ∧ Y.cell? ⟨B3, 2, none⟩ = some (.slice a' H.length c) ∧ D10 w X Y p B2 B3 a len cap bs (N : Int) (B : Int) a' c H M) → PsS Y ca 1 [(0, y, z)] → Calls Try.prog 34 #[rlV (N : Int) (B : Int) a' H.length c, .slice ca 1 1] Y fun e w' => AnsRl Y w' e (turnL (N : Int) (B : Int) H [(0, y, z)]) ∧ D10 w X w' p B2 B3 a len cap bs (N : Int) (B : Int) a' c H M := fun Y ca y z hY hp => (turnS_any (N : Int) (B : Int) a' H.length c H ca 1 1 [(0, y, z)] _ (hY.2.2.2.vv hsm.1) hp (by omega)).mono (fun e w' h => ⟨h, by obtain ⟨_, _, _, _, _, _, hb⟩ := h; exact hY.2.2.2.step hb⟩)
        have hD1 : D10 w X (W1.drewN 1) p B2 B3 a len cap bs (N : Int) (B : Int) a' c H M := D1.out.step (Same.drewN W1 1).below
        have hlo := D1.out.lo
        have hmx := D1.out.mx
        unfold AnsRl rlV at hTu
        go_wp2_with fail
        go_cut [6, 7] from 21 to 50 (fun s6 s7 wx => X10 w X wx p B2 B3 a len cap bs (N : Int) (B : Int) a' c H M s6 s7)
        case first =>
          go_region_held3 (fun Y : World => Y.cell? ⟨B3, 0, none⟩ = some (.int .i64 (N : Int)) ∧ Y.cell? ⟨B3, 1, none⟩ = some (.int .i64 (B : Int)) ∧ Y.cell? ⟨B3, 2, none⟩ = some (.slice a' H.length c) ∧ D10 w X Y p B2 B3 a len cap bs (N : Int) (B : Int) a' c H M)
            (first | (with_reducible exact SS _ D4) | (with_reducible exact SS _ D3) | (with_reducible exact SS _ D2) | (with_reducible exact SS _ (D4.step (one_alloc10 _ _))) | exact SS _ (((D4.far (by omega) 0 _).far (by omega) 1 _).far (by omega) 2 _) | exact SS _ (D10.step (And.right (And.right (And.right (by assumption)))) (one_alloc10 _ _)) | exact SS _ hD1)
            (first
              | (have yy := y; go_at_call 57; refine (hBB _ (by assumption)).mono ?_; rintro e V3 ⟨z, rfl, D3, g3⟩; have s3 := D3.mx; have t3 := g3.size; (try have z3a := zb_alloc g3 (by omega)); (try have z3b := z2a.grown g3 (by simp; omega)))
              | (go_at_call 57; refine (hBN _ (by assumption)).mono ?_; rintro e V2 ⟨y, rfl, D2, g2⟩; have s2 := D2.mx; have t2 := g2.size; (try have z2a := zb_drew g2 (by omega)))
              | (have zz := z; go_at_call 34; refine (hTu _ _ (y : Int) (z : Int) (by assumption) (by first | exact one_ps _ _ _ _ _ | exact (one_ps _ _ _ _ _).below (one_alloc10 _ _) | exact one_ps2 _ _ _ _ _ _)).mono ?_; rintro e V4 ⟨⟨a5, c5, rfl, f5, ho5, hf5, hb5⟩, D4⟩; have s4 := D4.mx; (try have q4 := (bx_after V3 _ 35 #[.int .i64 0, .int .i64 0, .slice none 0 0]).below hb5); (try have q4 := ((Bx.new V3 35 #[.int .i64 0, .int .i64 0, .slice none 0 0]).alloc _).below hb5); (try have q4 := (z3a.alloc _).below hb5); (try have q4 := (z3b.alloc _).below hb5); (try obtain ⟨zc0, zc1, zc2⟩ := q4.r3); (try have zf0 := q4.f 0); (try have zf1 := q4.f 1); (try have zf2 := q4.f 2)))
          all_goals (try go_wp2_with fail)
          all_goals go_meet
          all_goals (try simp only [World.size_alloc, World.heap_size_drew] at t2 t3 hf5)
          all_goals first
            | exact x10_set D4 q4 (by simp at t2 t3; omega) ho5 (fun b hb => by have := hf5 b hb; simp at this t2 t3; omega) turnL_ok
            | exact x10_new D4 ho5 (fun b hb => by have := hf5 b hb; simp at this; omega) turnL_ok
        case rest =>
          obtain ⟨xb, N2, B2', a2, c2, H2, t, f2, rfl, rfl, D5, q5, ho5, hf5, hok5⟩ := hcut
          obtain ⟨x0, x1, x2⟩ := q5.r3
          cases t
          · have DN : Hid (D10 w X wc p B2 B3 a len cap bs (N : Int) (B : Int) a' c H M) := D5
            clear SS hBN hBB hTu hD1 D5 ho5 hf5 q5
            go_wp2
            go_roundw
            case rel =>
              exact ⟨k, _, _, _, _, _, _, by omega, by go_num, DN.out, HK.out⟩
            case measure => simp [intOf]
          · have tf0 := D5.box.f 0
            have tf1 := D5.box.f 1
            have tf2 := D5.box.f 2
            obtain ⟨t0, t1, t2⟩ := D5.box.r3
            have DN : Hid (D10 w X _ p B2 B3 a len cap bs N2 B2' a2 c2 H2 wc.heap.size) := D5.put2 ho5 hf5
            have HN : Hid (okRel N2 B2' H2) := hok5 rfl
            clear SS hBN hBB hTu hD1 D5 ho5 hf5 q5
            go_wp2
            go_roundw
            case rel =>
              exact ⟨k, _, _, _, _, _, _, by omega, by go_num, DN.out, HN.out⟩
            case measure => simp [intOf]
      · have hCh : ∀ Y, Same Y W1 → Calls Try.prog 38 #[rlV N B a' H.length c] Y fun e w' => AnsP Y w' e (chainL N B H) := fun Y hY => chnS_any N B a' H.length c H Y ((D1.out.step hY.below).vv hsm.1)
        have hTu : ∀ Y ca cc, Below W1.heap.size W1 Y → PsS Y ca (chainL N B H).length (chainL N B H) → Calls Try.prog 34 #[rlV N B a' H.length c, .slice ca (chainL N B H).length cc] Y fun e w' => AnsRl Y w' e ((N, B, outs H (chainL N B H) (chainL N B H).length), true) := fun Y ca cc hY hp => by
          have := turnS_any N B a' H.length c H ca (chainL N B H).length cc (chainL N B H) Y ((D1.out.step hY).vv hsm.1) hp (by have := chainL_len N B H; omega)
          rwa [turnL, if_pos ⟨HK.out, chain_turn HK.out⟩] at this
        have HK2 : Hid (okRel N B (outs H (chainL N B H) (chainL N B H).length)) := outs_ok HK.out (chain_turn HK.out) _ (Nat.le_refl _)
        generalize chainL N B H = cs at *
        generalize outs H cs cs.length = H2 at *
        unfold AnsRl at hTu
        unfold rlV at *
        simp only [] at hTu
        obtain ⟨q0, q1, q2⟩ := D1.out.box.r3
        go_wp2_with fail
        refine gt_begin (S := fun X : World => X.cell? ⟨B3, 0, none⟩ = some (.int .i64 N) ∧ X.cell? ⟨B3, 1, none⟩ = some (.int .i64 B) ∧ X.cell? ⟨B3, 2, none⟩ = some (.slice a' H.length c)) 7 hmix (by kernel_rfl) ?_
        have hHeld : (fun X : World => X.cell? ⟨B3, 0, none⟩ = some (.int .i64 N) ∧ X.cell? ⟨B3, 1, none⟩ = some (.int .i64 B) ∧ X.cell? ⟨B3, 2, none⟩ = some (.slice a' H.length c)) W1.drew := ⟨q0, q1, q2⟩
        refine gt_take (i := 0) (v := ?_) rfl (by kernel_rfl) (by kernel_rfl) (by kernel_rfl) (by kernel_rfl) (fun _ _ _ h => h) (Or.inl ⟨by rfl, ?_⟩) hHeld ?_
        rotate_left
        · (intro X hSX; (try dsimp only at hSX); obtain ⟨g0, g1, g2⟩ := hSX; go_simp; try with_reducible rfl)
        try simp only [Act.put, List.setIfInBounds_toArray, List.set_cons_zero, List.set_cons_succ]
        refine gt_take (i := 1) (v := ?_) rfl (by kernel_rfl) (by kernel_rfl) (by kernel_rfl) (by kernel_rfl) (fun _ _ _ h => h) (Or.inl ⟨by rfl, ?_⟩) hHeld ?_
        rotate_left
        · (intro X hSX; (try dsimp only at hSX); obtain ⟨g0, g1, g2⟩ := hSX; go_simp; try with_reducible rfl)
        try simp only [Act.put, List.setIfInBounds_toArray, List.set_cons_zero, List.set_cons_succ]
        refine gt_one (i := 2) rfl (by kernel_rfl) (by kernel_rfl) (fun K hK => ?_)
        go_simp
        go_at_call 38
        refine (hCh W1.drew ⟨rfl, rfl, rfl, rfl⟩).mono ?_
        rintro e V2 ⟨g2, o2, c2, rfl, hg2, ho2, hb2⟩
        have bV2 : Below W1.heap.size W1 V2 := (Same.drewN W1 1).below.trans (hb2.mono (Nat.le_refl _))
        have D2 := D1.out.step bV2
        refine hK.out _ _ D2.box.r3 (fun hHeld2 => ?_)
        clear hK hHeld
        have hHeld := hHeld2
        try simp only [Act.put, List.setIfInBounds_toArray, List.set_cons_zero, List.set_cons_succ]
        have hPs : PsS V2 (some ⟨g2, o2, none⟩) cs.length cs := it_ps (it_op (lo := g2) (hi := g2 + 1) ho2 rfl ⟨Nat.le_refl _, by omega⟩)
        refine gt_one (i := 3) rfl (by kernel_rfl) (by kernel_rfl) (fun K hK => ?_)
        go_simp
        go_at_call 34
        refine (hTu V2 _ c2 bV2 hPs).mono ?_
        rintro e V3 ⟨a5, c5, rfl, f5, ho5, hf5, hb5⟩
        have bV3 : Below W1.heap.size W1 V3 := bV2.trans (hb5.mono bV2.size)
        have D3 := D1.out.step bV3
        refine hK.out _ _ D3.box.r3 (fun hHeld3 => ?_)
        clear hK hHeld hHeld2
        have hHeld := hHeld3
        try simp only [Act.put, List.setIfInBounds_toArray, List.set_cons_zero, List.set_cons_succ]
        refine gt_pure (i := 4) (v := ?_) rfl (by kernel_rfl) (by kernel_rfl) (by kernel_rfl) (fun _ _ _ h => h) (Or.inl ⟨by rfl, ?_⟩) ?_
        rotate_left
        · (intro X; go_simp; try with_reducible rfl)
        try simp only [Act.put, List.setIfInBounds_toArray, List.set_cons_zero, List.set_cons_succ]
        refine gt_pure (i := 5) (v := ?_) rfl (by kernel_rfl) (by kernel_rfl) (by kernel_rfl) (fun _ _ _ h => h) (Or.inl ⟨by rfl, ?_⟩) ?_
        rotate_left
        · (intro X; go_simp; try with_reducible rfl)
        try simp only [Act.put, List.setIfInBounds_toArray, List.set_cons_zero, List.set_cons_succ]
        refine gt_pure (i := 6) (v := ?_) rfl (by kernel_rfl) (by kernel_rfl) (by kernel_rfl) (fun _ _ _ h => h) (Or.inl ⟨by rfl, ?_⟩) ?_
        rotate_left
        · (intro X; go_simp; try with_reducible rfl)
        try simp only [Act.put, List.setIfInBounds_toArray, List.set_cons_zero, List.set_cons_succ]
        have tf0 := D3.box.f 0
        have tf1 := D3.box.f 1
        have tf2 := D3.box.f 2
        obtain ⟨t0, t1, t2⟩ := D3.box.r3
        have s2 := bV2.size
        have DN : Hid (D10 w X (((V3.setCell ⟨B3, 0, none⟩ (.int .i64 N)).setCell ⟨B3, 1, none⟩ (.int .i64 B)).setCell ⟨B3, 2, none⟩ (.slice a5 H2.length c5)) p B2 B3 a len cap bs N B a5 c5 H2 V3.heap.size) := D1.out.put bV3 ho5 (fun b hb => by have := hf5 b hb; omega)
        refine gt_last rfl (by kernel_rfl) (by kernel_rfl) (fun K hK => ?_)
        go_simp
        refine hK.out _ _ ?_
        clear hHeld hHeld3 t0 t1 t2 tf0 tf1 tf2 hCh hTu D2 D3 hb2 hb5 ho2 ho5 q0 q1 q2
        go_wp2
        go_roundw
        case rel => exact ⟨k, N, B, a5, c5, H2, _, by omega, by go_num, DN.out, HK2.out⟩
        case measure => simp [intOf]
end Go.Proofs.Ytdniajogojlmdaa
