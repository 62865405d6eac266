/-
  Several texts in one: LawMj.
-/
import Derived.Test.YtbmpapmdkmnhhaaMe
import Derived.Test.YtbmpapmdkmnhhaaLl
import Derived.Deep.CutRange
/-
  The walk of the law FnMajorities FROM what the program answers.
-/
namespace Go.Proofs.Ytbmpapmdkmnhhaa
set_option linter.unusedVariables false
set_option linter.unusedSimpArgs false
open Go.RowKit Go.Sort

theorem OSo.below {w w' : World} {s n c : Nat} {a : Option Addr} {xs : List Value} {G : Option Nat} (h : OSo w s a n c xs G) (hb : Below w.heap.size w w') : OSo w' s a n c xs G := h.wrt (f := fun _ => False) (Wrt.of_below hb) (fun b _ h => h)
theorem oi_vcp {w : World} {g og cg : Nat} {V : List Int} (h : OI w g og V.length cg V) (hf : Fits V) : VcP w (some ⟨g, og, none⟩) cg V := ow_vcp (ow_icl.2 ⟨_, _, some g, rfl, OSo.of h, fun b => Iff.rfl⟩) hf
theorem below_grownG {B X Y : World} {g : Nat} (h : Below B.heap.size B X) (hg : X.grownBy Y (some g)) (hX : B.heap.size ≤ g) : Below B.heap.size B Y := (Wrt.of_grown hg).below h h.size (fun b e => by cases e; exact hX)
/-- A list is appended to one without an element, in memory of one's own. -/
theorem mj_app1 {Y Z0 : World} {e : Nat} {sa : Option Addr} {sc : Nat} {s : List Int} (i0 : TypeInfo) (hi0 : Try.prog.info? 2 = some i0) (hz0 : i0.zero = some (.int .i64 0)) (hz1 : i0.size = 1) (hz2 : i0.bytes = 8) (hY : Below Y.heap.size Y Z0) (he : OI Z0 e 0 0 0 []) (heY : Y.heap.size ≤ e) (hs : VcP Z0 sa sc s) (hl : s.length ≤ 4) :
    ∀ Z, Same Z Z0 → ∃ v' w4, (Builtin.append_ #[24, 24] 24 #[.slice (some ⟨e, 0, none⟩) 0 0, .slice sa s.length sc]).run Try.prog Z = .ok v' w4 ∧ ∃ a' c' G', v' = .slice a' s.length c' ∧ OSo w4 1 a' s.length c' (s.map (Value.int .i64)) G' ∧ (∀ b, G' = some b → Y.heap.size ≤ b ∧ (b = e ∨ Z0.heap.size ≤ b)) ∧ Z0.grownBy w4 (some e) ∧ Below Y.heap.size Y w4 := by
  intro Z hZ
  have hb := hZ.below
  have hsz := hZ.heap
  have he' : OI Z e 0 0 0 [] := OSl.below he hb he.blk
  have hs' := hs.below hb
  obtain ⟨a', c', G', w4, hr, ho', hg, hat⟩ := run_append_oo (P := Try.prog) Z 24 24 2 i0 _ 1 8 Try.underlying24 hi0 hz0 hz1 hz2 rfl (by omega) (some ⟨e, 0, none⟩) 0 0 [] (some e) (OSo.of he') sa s.length sc (s.map (Value.int .i64)) (by simp) (by
    rcases hs'.vec.2.2 with h | ⟨b, off, rfl, hc⟩
    · exact .inl h
    · exact .inr ⟨_, rfl, num_news hc⟩) (fun u hu => by obtain ⟨z, _, rfl⟩ := List.mem_map.1 hu; rfl) (by unfold maxLen; omega) (by omega)
  simp only [Nat.zero_add, List.nil_append] at hr ho'
  refine ⟨_, w4, hr, a', c', G', rfl, ho', fun b hb' => ?_, ?_, ?_⟩
  · rcases hat with h | h
    · rw [h] at hb'; cases hb'; exact ⟨heY, .inl rfl⟩
    · rw [h] at hb'; cases hb'; rw [hsz]; exact ⟨hY.size, .inr (Nat.le_refl _)⟩
  · exact grown_trans ⟨hb.os, hb.tape, hb.output, hb.size, fun x hx _ => hb.block x hx⟩ hg
  · exact below_grownG (hY.trans (hb.mono hY.size)) hg heY
/-- 50 is appended to it. -/
theorem mj_app2 {Y Z0 : World} {f : Nat} {a' : Option Addr} {c' : Nat} {G' : Option Nat} {s : List Int} (i0 : TypeInfo) (hi0 : Try.prog.info? 2 = some i0) (hz0 : i0.zero = some (.int .i64 0)) (hz1 : i0.size = 1) (hz2 : i0.bytes = 8) (hY : Below Y.heap.size Y Z0) (ho : OSo Z0 1 a' s.length c' (s.map (Value.int .i64)) G') (hG : ∀ b, G' = some b → Y.heap.size ≤ b) (hf : Z0.cell? ⟨f, 0, none⟩ = some (.int .i64 50)) (hx : ∀ x ∈ s, -1 ≤ x ∧ x ≤ 10) (hl : s.length ≤ 4) :
    ∀ Z, Same Z Z0 → ∃ v' w4, (Builtin.append_ #[24, 24] 24 #[.slice a' s.length c', .slice (some ⟨f, 0, none⟩) 1 1]).run Try.prog Z = .ok v' w4 ∧ ∃ a2 c2, v' = .slice a2 (s ++ [50]).length c2 ∧ VcP w4 a2 c2 (s ++ [50]) ∧ Below Y.heap.size Y w4 := by
  intro Z hZ
  have hb := hZ.below
  have ho' : OSo Z 1 a' s.length c' (s.map (Value.int .i64)) G' := OSo.below ho hb
  have hf' : Z.cell? ⟨f, 0, none⟩ = some (.int .i64 50) := (hb.cell (World.block_lt_of_cell? _ _ hf)).trans hf
  obtain ⟨a2, c2, G2, w4, hr, ho2, hg, hat⟩ := run_append_oo (P := Try.prog) Z 24 24 2 i0 _ 1 8 Try.underlying24 hi0 hz0 hz1 hz2 rfl (by omega) a' s.length c' _ G' ho' (some ⟨f, 0, none⟩) 1 1 [.int .i64 50] rfl (.inr ⟨_, rfl, fun j u hu => by
    obtain rfl : j = 0 := by have := (List.getElem?_eq_some_iff.1 hu).1; simp at this; omega
    simp at hu
    rw [← hu]
    simpa [Addr.add] using hf'⟩) (by simp [Value.oneCell']) (by unfold maxLen; omega) (by omega)
  have e1 : (s ++ [50]).length = s.length + 1 := by simp
  refine ⟨_, w4, hr, a2, c2, by rw [e1], ?_, ?_⟩
  · refine ow_vcp (fp := fun b => G2 = some b) (ow_icl.2 ⟨a2, c2, G2, rfl, ?_, fun b => Iff.rfl⟩) (fun x hx' => by
      rcases List.mem_append.1 hx' with h | h
      · have := hx x h; omega
      · rw [List.mem_singleton.1 h]; omega)
    rw [e1, List.map_append]
    exact ho2
  · have hB := hY.trans (hb.mono hY.size)
    exact (Wrt.of_grown hg).below hB hB.size (fun b e => hG b e)
/-- What the law holds behind its first part. -/
structure Mh (w X : World) (o6 o9 : Nat) (F' : Int) (ta' : Option Addr) (tc' : Nat) (T' : List Int) (N : Int) (na : Option Addr) (nc : Nat) (Mn : List Int) (ga : Option Addr) (gc : Nat) (G : List Int) (ca : Option Addr) (cc : Nat) (C : List Int) : Prop where
  bel : Below w.heap.size w X
  x : Lh X o6 F' ta' tc' T'
  n : Lh X o9 N na nc Mn
  g : VcP X ga gc G
  c : VcP X ca cc C
theorem Mh.below {w X Y : World} {o6 o9 : Nat} {F' : Int} {ta' : Option Addr} {tc' : Nat} {T' : List Int} {N : Int} {na : Option Addr} {nc : Nat} {Mn : List Int} {ga : Option Addr} {gc : Nat} {G : List Int} {ca : Option Addr} {cc : Nat} {C : List Int} (h : Mh w X o6 o9 F' ta' tc' T' N na nc Mn ga gc G ca cc C) (hb : Below X.heap.size X Y) : Mh w Y o6 o9 F' ta' tc' T' N na nc Mn ga gc G ca cc C := ⟨h.bel.trans (hb.mono h.bel.size), h.x.below hb, h.n.below hb, h.g.below hb, h.c.below hb⟩
set_option maxRecDepth 100000 in
set_option maxHeartbeats 6400000 in
theorem lawFnMajorities (hVo : ImplViewOk) (hMa : ImplMajority) (hAf : ImplAfter) (a : Option Addr) (len cap : Nat) (bs : Nat → Int) (w : World) (hv : BVec w a len bs) :
    Calls Try.prog 4 #[.slice a len cap] w fun e w' => e = .returned (.bool true) ∧ Below w.heap.size w w' := by
  by_cases hbig : (4096 : Int) < (len : Int)
  · have hB := big_any a len cap w
    rw [decide_eq_true hbig] at hB
    go_enter Try.func4, Try.ntmps4
    go_wp2_with fail
    refine hB.mono ?_
    rintro e w1 ⟨rfl, hw1⟩
    have HW : Hid (w1 = w) := hw1
    clear hw1
    go_wp2
    go_ret
    exact ⟨rfl, by rw [HW.out]; exact Below.refl _ _⟩
  · have hB := big_any a len cap w
    rw [decide_eq_false hbig] at hB
    have hl : len ≤ 4096 := by omega
    obtain ⟨i0, hi0, hz0, hz1, hz2⟩ := info_parts2n Try.info2n
    go_enter Try.func4, Try.ntmps4
    go_wp2_with fail
    refine hB.mono ?_
    rintro e w0 ⟨rfl, hw0⟩
    have B0 : Below w.heap.size w w0 := by rw [hw0]; exact Below.refl _ _
    clear hw0 hB
    go_wp2_with fail
    refine (drawMj_any a len cap bs w0 (hv.below B0 (Nat.le_refl _)) hl).mono ?_
    rintro e w1 ⟨F, ta, tc, T, sa, sc, s, rfl, hR, hS, hb1⟩
    have B1 : Below w.heap.size w w1 := B0.trans (hb1.mono B0.size)
    have hTl : T.length ≤ 9 := hR.sm.2.1
    have hFv : I64v F := ⟨by have := hR.sm.1.1; dsimp only at this; omega, by have := hR.sm.1.2; dsimp only at this; omega⟩
    have hsl := hS.len
    have HSx : Hid (∀ x ∈ s, -1 ≤ x ∧ x ≤ 10) := hS.el_
    have HTx : Hid (∀ x ∈ T, -1 ≤ x ∧ x ≤ 100) := hR.sm.2.2
    have hb2 := one14 w1 (.cells #[.int .i64 F, .slice ta T.length tc] 34)
    have L2 : Lh _ w1.heap.size F ta tc T := Lh.new (F := F) hR.vcp
    have S2 := hS.vcp.below hb2
    have B2 : Below w.heap.size w _ := B1.trans (hb2.mono B1.size)
    unfold vwV
    generalize hW2 : w1.alloc (.cells #[.int .i64 F, .slice ta T.length tc] 34) = W2 at *
    have hMj : ∀ X b d (l : List Int), VcP X ta tc T → VcP X b d l → l.length ≤ 1048576 → Calls Try.prog 30 #[.agg #[.int .i64 F, .slice ta T.length tc], .slice b l.length d] X fun e w' => e = .returned (.bool (decide (mjP (F, T) l))) ∧ Below X.heap.size X w' := fun X b d l h1 h2 h3 => hMa F ta tc T b d l X hFv h1 (by omega) h2 h3
    have hMs : ∀ X, VcP X ta tc T → VcP X sa sc s → Calls Try.prog 33 #[.agg #[.int .i64 F, .slice ta T.length tc], .slice sa s.length sc] X fun e w' => e = .returned (.bool (decide (mjP (F, T) s))) ∧ Below X.heap.size X w' := fun X h1 h2 => (majS_any F ta tc T sa sc s X h1.vec (by omega) h2.vec (by unfold maxLen; omega)).mono (fun e w' h => ⟨h.1, h.2.1⟩)
    have hVi : ∀ X, VcP X ta tc T → Calls Try.prog 34 #[.agg #[.int .i64 F, .slice ta T.length tc]] X fun e w' => e = .returned (.bool (decide (okVw (F, T)))) ∧ Below X.heap.size X w' := fun X h1 => hVo F ta tc T X hFv h1 (by omega)
    have hVs : ∀ X, VcP X ta tc T → Calls Try.prog 35 #[.agg #[.int .i64 F, .slice ta T.length tc]] X fun e w' => e = .returned (.bool (decide (okVw (F, T)))) ∧ Below X.heap.size X w' := fun X h1 => (vwkS_any F ta tc T X h1.vec (by unfold maxLen; omega)).mono (fun e w' h => ⟨h.1, h.2.1⟩)
    clear hR hS hb1 hb2 B1
    obtain ⟨p0, p1⟩ := bx2 L2.box
    go_wp2_with fail
    refine (hMj W2 sa sc s L2.vcp S2 (by omega)).mono ?_
    rintro e w3 ⟨rfl, hb3⟩
    have B3 : Below w.heap.size w w3 := B2.trans (hb3.mono B2.size)
    have L3 := L2.below hb3
    have S3 := S2.below hb3
    clear p0 p1 L2 S2 B2 hb3
    go_wp2_with fail
    refine (drawAf_any a len cap bs w3 (hv.below B3 (Nat.le_refl _)) hl).mono ?_
    rintro e w4 ⟨F', ta', tc', T', ga, gc, G, ca, cc, C, rfl, hR', hG, hC, hb4⟩
    have B4 : Below w.heap.size w w4 := B3.trans (hb4.mono B3.size)
    have hTl' : T'.length ≤ 9 := hR'.sm.2.1
    have hFb : 0 ≤ F' ∧ F' ≤ 1000001 := hR'.sm.1
    have hFv' : I64v F' := ⟨by omega, by omega⟩
    have hGl := hG.len
    have hCl := hC.len
    have hb5 := one14 w4 (.cells #[.int .i64 F', .slice ta' T'.length tc'] 34)
    have M5 : Lh _ w4.heap.size F' ta' tc' T' := Lh.new (F := F') hR'.vcp
    have L5 := (L3.below hb4).below hb5
    have S5 := (S3.below hb4).below hb5
    have G5 := hG.vcp.below hb5
    have C5 := hC.vcp.below hb5
    have B5 : Below w.heap.size w _ := B4.trans (hb5.mono B4.size)
    unfold vwV
    generalize hW5 : w4.alloc (.cells #[.int .i64 F', .slice ta' T'.length tc'] 34) = W5 at *
    have hMx : ∀ X b d (l : List Int), VcP X ta' tc' T' → VcP X b d l → l.length ≤ 1048576 → Calls Try.prog 30 #[.agg #[.int .i64 F', .slice ta' T'.length tc'], .slice b l.length d] X fun e w' => e = .returned (.bool (decide (mjP (F', T') l))) ∧ Below X.heap.size X w' := fun X b d l h1 h2 h3 => hMa F' ta' tc' T' b d l X hFv' h1 (by omega) h2 h3
    have hAi : ∀ X, VcP X ta' tc' T' → VcP X ga gc G → VcP X ca cc C → Calls Try.prog 32 #[.agg #[.int .i64 F', .slice ta' T'.length tc'], .slice ga G.length gc, .slice ca C.length cc] X fun e w' => AnsVb X w' e (aftL (F', T') G C) := fun X h1 h2 h3 => hAf F' ta' tc' T' ga gc G ca cc C X hFv' h1 (by omega) h2 (by omega) h3 (by omega)
    have hAs : ∀ X, VcP X ta' tc' T' → VcP X ga gc G → VcP X ca cc C → Calls Try.prog 36 #[.agg #[.int .i64 F', .slice ta' T'.length tc'], .slice ga G.length gc, .slice ca C.length cc] X fun e w' => AnsVb X w' e (aftL (F', T') G C) := fun X h1 h2 h3 => aftS_any F' ta' tc' T' ga gc G ca cc C X h1.vec (by omega) h2.vec (by omega) h3.vec (by omega)
    have hsm := aftL_small (F', T') G C
    have HTo : Hid (∀ n, aftL (F', T') G C = (n, true) → okVw n ∧ n.1 = F' + 1 ∧ (∀ y ∈ n.2, y ∈ G → y ∈ C) ∧ ∀ st : List Int, (∀ y ∈ n.2, y ∈ T' → y ∈ st) → mjP (F', T') st) := fun n h => aft_told (v := (F', T')) h
    have HNo : Hid (∀ n, aftL (F', T') G C = (n, false) → n = (0, [])) := fun n h => aft_no h
    generalize aftL (F', T') G C = RR at *
    obtain ⟨⟨N, Mn⟩, ok⟩ := RR
    unfold AnsVb at hAi hAs
    simp only [] at hAi hAs hsm
    obtain ⟨hMl, hMx9, hN0, hN1⟩ := hsm
    have hfn : Fits Mn := fun x hx => by have := hMx9 x hx; omega
    have HMx9 : Hid (∀ x ∈ Mn, 0 ≤ x ∧ x ≤ 99) := hMx9
    have hNv : I64v N := ⟨by omega, by omega⟩
    clear hR' hG hC hb4 hb5 L3 S3 B3 B4 hMx9 hAf
    unfold vwV at hAi hAs
    obtain ⟨p0, p1⟩ := bx2 M5.box
    go_wp2_with fail
    refine (hAi W5 M5.vcp G5 C5).mono ?_
    rintro e w6 ⟨na, nc, rfl, hn⟩
    have hVn := it_vcp (It.of_newO hn) hfn
    obtain ⟨_, _, _, hb6⟩ := hn
    have hb7 := one14 w6 (.cells #[.int .i64 N, .slice na Mn.length nc] 34)
    have hb67 := hb6.trans (hb7.mono hb6.size)
    have N7 : Lh _ w6.heap.size N na nc Mn := Lh.new (F := N) hVn
    have H7 : Mh w _ w4.heap.size w6.heap.size F' ta' tc' T' N na nc Mn ga gc G ca cc C := ⟨B5.trans (hb67.mono B5.size), M5.below hb67, N7, G5.below hb67, C5.below hb67⟩
    have L7 := L5.below hb67
    have S7 := S5.below hb67
    generalize hW7 : w6.alloc (.cells #[.int .i64 N, .slice na Mn.length nc] 34) = W7 at *
    clear p0 p1 hVn hb6 hb7 hb67 N7 M5 G5 C5 L5 S5 B5 hAi
    have K3 : ∀ q : Bk W7, Lh q.w w1.heap.size F ta tc T := fun q => L7.below q.h
    have j1 : Hid (∀ q : Bk W7, _) := fun q => hMs q.w (K3 q).vcp (S7.below q.h)
    have j2 : Hid (∀ q : Bk W7, _) := fun q => hVi q.w (K3 q).vcp
    have j3 : Hid (∀ q : Bk W7, _) := fun q => hVs q.w (K3 q).vcp
    have e30 : ∀ q : Bk W7, q.w.cell? ⟨w1.heap.size, 0, none⟩ = some (.int .i64 F) := fun q => (bx2 (K3 q).box).1
    have e31 : ∀ q : Bk W7, q.w.cell? ⟨w1.heap.size, 1, none⟩ = some (.slice ta T.length tc) := fun q => (bx2 (K3 q).box).2
    have n1 : (decide (mjP (F, T) s) != decide (mjP (F, T) s)) = false := by simp
    have n2 : (decide (okVw (F, T)) != decide (okVw (F, T))) = false := by simp
    haveI : Inhabited (Bk W7) := ⟨⟨W7, Below.refl _ _⟩⟩
    clear K3
    go_wp2_with fail
    refine wp_region_bk (by kernel_rfl) (by kernel_rfl) ?_
    repeat (go_big_quiet_step ((first | (go_at_call 33; exact bk_call _ (j1.out _)) | (go_at_call 34; exact bk_call _ (j2.out _)) | (go_at_call 35; exact bk_call _ (j3.out _)))))
    refine wpQuiet_nil ?_
    intro wE hw'
    obtain ⟨⟨w8, hb8⟩, hw''⟩ := hw'
    have hwe : wE = w8 := hw''
    clear hw''
    subst hwe
    have H8 := H7.below hb8
    have L8 := L7.below hb8
    have S8 := S7.below hb8
    clear j1 j2 j3 e30 e31 H7 L7 S7 hb8 n1 n2 hMs hVi hVs
    obtain ⟨p0, p1⟩ := bx2 H8.x.box
    go_wp2_with fail
    refine (hAs wE H8.x.vcp H8.g H8.c).mono ?_
    rintro e w9 ⟨ya, yc, rfl, hn⟩
    have hVy := it_vcp (It.of_newO hn) hfn
    obtain ⟨_, _, _, hb9⟩ := hn
    have hb10 := one14 w9 (.cells #[.int .i64 N, .slice ya Mn.length yc] 34)
    have hb90 := hb9.trans (hb10.mono hb9.size)
    have Y10 : Lh _ w9.heap.size N ya yc Mn := Lh.new (F := N) hVy
    have H10 := H8.below hb90
    have L10 := L8.below hb90
    have S10 := S8.below hb90
    generalize hW10 : w9.alloc (.cells #[.int .i64 N, .slice ya Mn.length yc] 34) = W10 at *
    clear p0 p1 hVy hb9 hb10 hb90 H8 L8 S8 hAs
    have hok : (ok != ok) = false := by cases ok <;> rfl
    have hLk := likeVw_any N na ya nc yc Mn W10 H10.n.vcp.vec Y10.vcp.vec (by unfold maxLen; omega)
    unfold vwV at hLk
    obtain ⟨p0, p1⟩ := bx2 H10.n.box
    obtain ⟨q0, q1⟩ := bx2 Y10.box
    go_wp2_with fail
    refine hLk.mono ?_
    rintro e w11 ⟨rfl, hg11⟩
    have hb11 := hg11.1
    have H11 := H10.below hb11
    have L11 := L10.below hb11
    have S11 := S10.below hb11
    clear hg11 hb11 hLk hok p0 p1 q0 q1 H10 L10 S10 Y10
    generalize w1.heap.size = o3 at *
    generalize w4.heap.size = o6 at *
    generalize w6.heap.size = o9 at *
    by_cases hmj : mjP (F, T) s
    · have hd : decide (mjP (F, T) s) = true := by simpa using hmj
      rw [hd]
      have HX : Hid (Mh w w11 o6 o9 F' ta' tc' T' N na nc Mn ga gc G ca cc C ∧ Lh w11 o3 F ta tc T ∧ VcP w11 sa sc s) := ⟨H11, L11, S11⟩
      clear H11 L11 S11
      have HO0 : Hid (OI (w11.alloc (.cells #[] 2)) w11.heap.size 0 0 0 []) := num_empty _ 2
      have HB0 : Hid (Below w11.heap.size w11 (w11.alloc (.cells #[] 2))) := one14 _ _
      obtain ⟨p0, p1⟩ := bx2 (HX.out.2.1.below HB0.out).box
      go_wp2_with fail
      clear p0 p1
      go_loopw [13, 14] (fun v i wr => ∃ (k g og cg : Nat) (V : List Int), k ≤ T.length ∧ i = .int .i64 (k : Int) ∧ v = .slice (some ⟨g, og, none⟩) V.length cg ∧ V.length ≤ k ∧ (∀ y ∈ V, -1 ≤ y ∧ y ≤ 100) ∧ w11.heap.size ≤ g ∧ OI wr g og V.length cg V ∧ Below w11.heap.size w11 wr) (fun _ i _ => T.length - (intOf i).toNat)
      case atStart => exact ⟨0, w11.heap.size, 0, 0, [], Nat.zero_le _, rfl, rfl, by simp, fun y hy => absurd hy List.not_mem_nil, Nat.le_refl _, HO0.out, HB0.out⟩
      case round =>
        clear HO0 HB0
        obtain ⟨k, g, og, cg, V, hk, rfl, rfl, hVk, hVx, hgX, hO, hBX⟩ := hrel
        have HVx : Hid (∀ y ∈ V, -1 ≤ y ∧ y ≤ 100) := hVx
        clear hVx
        have Lr := HX.out.2.1.below hBX
        obtain ⟨p0, p1⟩ := bx2 Lr.box
        by_cases hlt : k < T.length
        · have k1 : (k : Int) < (T.length : Int) := by omega
          obtain ⟨b, off, rfl, hc⟩ : ∃ b off, ta = some ⟨b, off, none⟩ ∧ ∀ i, i < T.length → wr.cell? ⟨b, off + i, none⟩ = some (.int .i64 (el T i)) := by
            rcases Lr.vcp.vec.2.2 with h | h
            · omega
            · exact h
          have hck := hc k hlt
          have HXB : Hid (-1 ≤ el T k ∧ el T k ≤ 100) := HTx.out _ (el_in hlt)
          generalize el T k = x at *
          clear hc
          have Bw : Below w.heap.size w wr := (HX.out.1.below hBX).bel
          have hPk := pick_any a len cap bs (k : Int) 3 wr (hv.below Bw (Nat.le_refl _)) hl (by omega) (by omega) (by omega) (by omega)
          clear Bw
          go_wp2_with fail
          refine hPk.mono ?_
          rintro e wP ⟨z, rfl, hz0', hz3, hwP⟩
          subst hwP
          clear hPk
          by_cases hz : 0 < z
          · have d0 : decide (0 < z) = true := by simpa using hz
            have d1 : decide (z > 0) = true := by simpa using hz
            have hO2 : OSl (wP.alloc (.cells #[.int .i64 x] 2)) 1 g og V.length cg (V.map (Value.int .i64)) := OSl.below hO ((Below.refl _ _).alloc (Nat.le_refl _) _) hO.blk
            have HB6 : Hid (Below w11.heap.size w11 (wP.alloc (.cells #[.int .i64 x] 2))) := (hBX).alloc (hBX).size _
            clear Lr hO
            go_wp2_with (at_builtin; refine wpList_append_os _ rfl _ _ _ rfl 2 i0 _ 1 8 Try.underlying24 hi0 hz0 hz1 hz2 rfl (by omega) g og V.length cg _ rfl hO2 ⟨wP.heap.size, 0, none⟩ 1 1 [.int .i64 x] rfl rfl (World.news_of_block (cs := #[.int .i64 x]) (t := 2) (fr := (0, 0)) (heap_alloc_new _ _)) (by simp [Value.oneCell']) (by unfold maxLen; omega) (by omega) ?_; intro g6 og6 c6 v6 hO6 hg6 hat6)
            have NG : Hid (w11.heap.size ≤ g6) := by
              rcases hat6 with h | h
              · rw [h]; exact hgX
              · rw [h]; exact HB6.out.size
            have NB : Hid (Below w11.heap.size w11 v6) := below_grownG HB6.out hg6 hgX
            have NO : Hid (OI v6 g6 og6 (V ++ [x]).length c6 (V ++ [x])) := by
              rw [Hid, List.length_append, OI, List.map_append]; exact hO6
            have NX : Hid (∀ y ∈ V ++ [x], -1 ≤ y ∧ y ≤ 100) := fun y hy => by
              rcases List.mem_append.1 hy with h | h
              · exact HVx.out y h
              · rw [List.mem_singleton.1 h]; exact HXB.out
            clear hO6 hg6 hat6 hO2 HB6
            have HVl : Hid ((V ++ [x]).length = V.length + 1) := by rw [Hid, List.length_append]; rfl
            clear p0 p1 hck hBX
            (try go_wp2)
            go_roundw
            case rel => exact ⟨k + 1, g6, og6, c6, V ++ [x], by omega, by go_num, by rw [HVl.out], by rw [HVl.out]; omega, NX.out, NG.out, NO.out, NB.out⟩
            case measure => simp [intOf]; omega
          · have d0 : decide (0 < z) = false := by simpa using hz
            have d1 : decide (z > 0) = false := by simpa using hz
            have HO : Hid (OI wP g og V.length cg V ∧ Below w11.heap.size w11 wP) := ⟨hO, hBX⟩
            clear p0 p1 hck hBX hO Lr
            go_wp2
            go_roundw
            case rel => exact ⟨k + 1, g, og, cg, V, by omega, by go_num, rfl, by omega, HVx.out, hgX, HO.out⟩
            case measure => simp [intOf]; omega
        · have k1 : ¬ ((k : Int) < (T.length : Int)) := by omega
          have hVl : V.length ≤ 9 := by omega
          have HW : Hid (Mh w wr o6 o9 F' ta' tc' T' N na nc Mn ga gc G ca cc C ∧ Lh wr o3 F ta tc T ∧ VcP wr sa sc s ∧ OI wr g og V.length cg V) := ⟨HX.out.1.below hBX, Lr, HX.out.2.2.below hBX, hO⟩
          clear hO hBX Lr HX hgX hVk hk
          go_wp2_with fail
          clear p0 p1 k1
          generalize hWR : wr = W1 at *
          clear hWR
          go_loopw [15, 16] (fun v i wr => ∃ (k : Nat) (sh : Bool), k ≤ T.length ∧ i = .int .i64 (k : Int) ∧ v = .bool sh ∧ (∀ j, j < k → el T j ∈ s → el T j ∈ V → sh = true) ∧ Below W1.heap.size W1 wr) (fun _ i _ => T.length - (intOf i).toNat)
          case atStart => exact ⟨0, false, Nat.zero_le _, rfl, rfl, fun j hj => absurd hj (Nat.not_lt_zero _), Below.refl _ _⟩
          case round =>
            obtain ⟨k, sh, hk, rfl, rfl, hsh, hBX⟩ := hrel
            have HSH : Hid (∀ j, j < k → el T j ∈ s → el T j ∈ V → sh = true) := hsh
            clear hsh
            have Lr := HW.out.2.1.below hBX
            have Sr := HW.out.2.2.1.below hBX
            have Or : OI wr g og V.length cg V := HW.out.2.2.2.below hBX HW.out.2.2.2.blk
            obtain ⟨p0, p1⟩ := bx2 Lr.box
            by_cases hlt : k < T.length
            · have k1 : (k : Int) < (T.length : Int) := by omega
              cases sh
              · obtain ⟨b, off, rfl, hc⟩ : ∃ b off, ta = some ⟨b, off, none⟩ ∧ ∀ i, i < T.length → wr.cell? ⟨b, off + i, none⟩ = some (.int .i64 (el T i)) := by
                  rcases Lr.vcp.vec.2.2 with h | h
                  · omega
                  · exact h
                have hck := hc k hlt
                clear hc
                have HXm : Hid (∀ j, j < k + 1 → j < k ∨ el T j = el T k) := fun j hj => by
                  rcases Nat.lt_succ_iff_lt_or_eq.1 hj with h | h
                  · exact .inl h
                  · exact .inr (by rw [h])
                generalize el T k = x at *
                have hH1 := has14_any sa sc x s wr Sr.vec (by unfold maxLen; omega)
                by_cases hxs : x ∈ s
                · have d1 : decide (x ∈ s) = true := by simpa using hxs
                  rw [d1] at hH1
                  go_wp2_with fail
                  refine hH1.mono ?_
                  rintro e x1 ⟨rfl, hb1⟩
                  have hB1 := hBX.trans (hb1.mono hBX.size)
                  have hH2 := has14_any (some ⟨g, og, none⟩) cg x V x1 (oi_vcp (Or.below hb1 Or.blk) (fun y hy => by have := HVx.out y hy; omega)).vec (by unfold maxLen; omega)
                  obtain ⟨q0, q1⟩ := bx2 (Lr.below hb1).box
                  have hck1 := (hb1.cell (World.block_lt_of_cell? _ _ hck)).trans hck
                  obtain ⟨sh2, hs2⟩ : ∃ q : Bool, decide (x ∈ V) = q := ⟨_, rfl⟩
                  rw [hs2] at hH2
                  have HS2 : Hid (∀ j, j < k + 1 → el T j ∈ s → el T j ∈ V → sh2 = true) := fun j hj h1 h2 => by
                    rcases HXm.out j hj with h | h
                    · exact absurd (HSH.out j h h1 h2) (by decide)
                    · rw [h] at h2; rw [← hs2]; simpa using h2
                  clear p0 p1 hck hH1 hs2 d1 Lr Sr Or
                  go_wp2_with fail
                  refine hH2.mono ?_
                  rintro e x2 ⟨rfl, hb2⟩
                  have HB2 : Hid (Below W1.heap.size W1 x2) := hB1.trans (hb2.mono hB1.size)
                  clear hH2 q0 q1 hck1 hB1 hb1 hb2 hBX
                  go_wp2
                  go_roundw
                  case rel => exact ⟨k + 1, sh2, by omega, by go_num, rfl, HS2.out, HB2.out⟩
                  case measure => simp [intOf]; omega
                · have d1 : decide (x ∈ s) = false := by simpa using hxs
                  rw [d1] at hH1
                  have HS2 : Hid (∀ j, j < k + 1 → el T j ∈ s → el T j ∈ V → false = true) := fun j hj h1 h2 => by
                    rcases HXm.out j hj with h | h
                    · exact HSH.out j h h1 h2
                    · rw [h] at h1; exact absurd h1 hxs
                  go_wp2_with fail
                  refine hH1.mono ?_
                  rintro e x1 ⟨rfl, hb1⟩
                  have HB2 : Hid (Below W1.heap.size W1 x1) := hBX.trans (hb1.mono hBX.size)
                  clear hH1 p0 p1 hck hb1 hBX Lr Sr Or d1
                  go_wp2
                  go_roundw
                  case rel => exact ⟨k + 1, false, by omega, by go_num, rfl, HS2.out, HB2.out⟩
                  case measure => simp [intOf]; omega
              · have HB2 : Hid (Below W1.heap.size W1 wr) := hBX
                clear hBX Lr Sr Or
                go_wp2
                go_roundw
                case rel => exact ⟨k + 1, true, by omega, by go_num, rfl, fun _ _ _ _ => rfl, HB2.out⟩
                case measure => simp [intOf]; omega
            · have k1 : ¬ ((k : Int) < (T.length : Int)) := by omega
              have hsx : mjP (F, T) V → sh = true := fun h => by
                obtain ⟨x, h1, h2, h3⟩ := mj_share hmj h
                obtain ⟨j, hj, e⟩ := el_mem9.1 h1
                rw [← e] at h2 h3
                exact HSH.out j (by simp only at hj; omega) h2 h3
              have hm50 : mjP (F, T) (s ++ [50]) := mj_mono hmj (fun x _ h => List.mem_append.2 (.inl h))
              have d50 : decide (mjP (F, T) (s ++ [50])) = true := by simpa using hm50
              have hmix : Try.prog.follows .mixedOrders = true := by kernel_rfl
              have bd : Below wr.heap.size wr (wr.drewN 1) := belowN (Below.refl _ _)
              have hC1 := hMj (wr.drewN 1) (some ⟨g, og, none⟩) cg V (Lr.vcp.below bd) (oi_vcp (Or.below bd Or.blk) (fun y hy => by have := HVx.out y hy; omega)) (by omega)
              have HR : Hid (Mh w (wr.drewN 1) o6 o9 F' ta' tc' T' N na nc Mn ga gc G ca cc C ∧ Lh (wr.drewN 1) o3 F ta tc T ∧ VcP (wr.drewN 1) sa sc s) := ⟨(HW.out.1.below hBX).below bd, Lr.below bd, Sr.below bd⟩
              have x1 : wr.drew.cell? ⟨o3, 0, none⟩ = some (.int .i64 F) ∧ wr.drew.cell? ⟨o3, 1, none⟩ = some (.slice ta T.length tc) := bx2 HR.out.2.1.box
              have hs10 := HSx.out
              clear HW hBX Lr Sr Or HSH bd HVx
              obtain ⟨m2, hm2⟩ : ∃ q : Bool, decide (mjP (F, T) V) = q := ⟨_, rfl⟩
              have hsx2 : m2 = true → sh = true := fun h => hsx (by simpa [h] using hm2)
              rw [hm2] at hC1
              clear hsx hm2
              go_wp2_with fail
              go_cut [133] from 117 to 132 (fun s133 wx => s133 = .bool false ∧ Mh w wx o6 o9 F' ta' tc' T' N na nc Mn ga gc G ca cc C)
              case first =>
                cases m2
                · skip
                  refine gt_begin (S := fun X : World => X.cell? ⟨o3, 0, none⟩ = some (.int .i64 F) ∧ X.cell? ⟨o3, 1, none⟩ = some (.slice ta T.length tc)) 17 hmix (by kernel_rfl) ?_
                  have hHeld : (fun X : World => X.cell? ⟨o3, 0, none⟩ = some (.int .i64 F) ∧ X.cell? ⟨o3, 1, none⟩ = some (.slice ta T.length tc)) wr.drew := x1
                  refine gt_takeA (i := 0) (v := ?_) rfl (by kernel_rfl) (by kernel_rfl) (by kernel_rfl) (by kernel_rfl) (fun _ _ _ h => h) (Or.inl ⟨by rfl, ?_⟩) hHeld ?_
                  rotate_left
                  · (intro X hSX; (try dsimp only at hSX); obtain ⟨g0, g1⟩ := hSX; go_simp; try with_reducible rfl)
                  try simp only [Act.put, List.setIfInBounds_toArray, List.set_cons_zero, List.set_cons_succ]
                  refine gt_pure (i := 1) (v := ?_) rfl (by kernel_rfl) (by kernel_rfl) (by kernel_rfl) (fun _ _ _ h => h) (Or.inl ⟨by rfl, ?_⟩) ?_
                  rotate_left
                  · (intro X; go_simp; try with_reducible rfl)
                  try simp only [Act.put, List.setIfInBounds_toArray, List.set_cons_zero, List.set_cons_succ]
                  refine gt_one (i := 2) rfl (by kernel_rfl) (by kernel_rfl) (fun K hK => ?_)
                  go_simp
                  go_at_call 30
                  refine hC1.mono ?_
                  rintro e Y ⟨rfl, hbY⟩
                  have HY : Hid (Mh w Y o6 o9 F' ta' tc' T' N na nc Mn ga gc G ca cc C ∧ Lh Y o3 F ta tc T ∧ VcP Y sa sc s) := ⟨HR.out.1.below hbY, HR.out.2.1.below hbY, HR.out.2.2.below hbY⟩
                  refine hK.out _ _ (bx2 HY.out.2.1.box) (fun hHeld2 => ?_)
                  clear hK hHeld
                  have hHeld := hHeld2
                  clear hHeld2
                  try simp only [Act.put, List.setIfInBounds_toArray, List.set_cons_zero, List.set_cons_succ]
                  clear hC1 hbY
                  refine gt_pure (i := 3) (v := ?_) rfl (by kernel_rfl) (by kernel_rfl) (by kernel_rfl) (fun _ _ _ h => h) (Or.inl ⟨by rfl, ?_⟩) ?_
                  rotate_left
                  · (intro X; go_simp; try with_reducible rfl)
                  try simp only [Act.put, List.setIfInBounds_toArray, List.set_cons_zero, List.set_cons_succ]
                  refine gt_pure (i := 4) (v := undef) rfl (by kernel_rfl) (by kernel_rfl) (by kernel_rfl) (fun _ _ _ h => h) (Or.inr ⟨by rfl, rfl⟩) ?_
                  try simp only [Act.put, List.setIfInBounds_toArray, List.set_cons_zero, List.set_cons_succ]
                  refine gt_pure (i := 5) (v := undef) rfl (by kernel_rfl) (by kernel_rfl) (by kernel_rfl) (fun _ _ _ h => h) (Or.inr ⟨by rfl, rfl⟩) ?_
                  try simp only [Act.put, List.setIfInBounds_toArray, List.set_cons_zero, List.set_cons_succ]
                  refine gt_pure (i := 6) (v := ?_) rfl (by kernel_rfl) (by kernel_rfl) (by kernel_rfl) (fun _ _ _ h => h) (Or.inl ⟨by rfl, ?_⟩) ?_
                  rotate_left
                  · (intro X; go_simp; try with_reducible rfl)
                  try simp only [Act.put, List.setIfInBounds_toArray, List.set_cons_zero, List.set_cons_succ]
                  refine gt_pure (i := 7) (v := ?_) rfl (by kernel_rfl) (by kernel_rfl) (by kernel_rfl) (fun _ _ _ h => h) (Or.inl ⟨by rfl, ?_⟩) ?_
                  rotate_left
                  · (intro X; go_simp; try with_reducible rfl)
                  try simp only [Act.put, List.setIfInBounds_toArray, List.set_cons_zero, List.set_cons_succ]
                  refine gt_takeA (i := 8) (v := ?_) rfl (by kernel_rfl) (by kernel_rfl) (by kernel_rfl) (by kernel_rfl) (fun _ _ _ h => h) (Or.inl ⟨by rfl, ?_⟩) hHeld ?_
                  rotate_left
                  · (intro X hSX; (try dsimp only at hSX); obtain ⟨g0, g1⟩ := hSX; go_simp; try with_reducible rfl)
                  try simp only [Act.put, List.setIfInBounds_toArray, List.set_cons_zero, List.set_cons_succ]
                  refine gt_pure (i := 10) (v := ?_) rfl (by kernel_rfl) (by kernel_rfl) (by kernel_rfl) (fun _ _ _ h => h) (Or.inl ⟨by rfl, ?_⟩) ?_
                  rotate_left
                  · (intro X; go_simp; try with_reducible rfl)
                  try simp only [Act.put, List.setIfInBounds_toArray, List.set_cons_zero, List.set_cons_succ]
                  refine gt_two (i := 9) (j := 12) rfl rfl (by kernel_rfl) (by kernel_rfl) (fun K hK => ?_) (fun K hK => ?_)
                  · go_simp
                    have b1 := one14 Y (.cells #[] 2)
                    have oE : OI (Y.alloc (.cells #[] 2)) Y.heap.size 0 0 0 [] := num_empty _ 2
                    refine hK.out _ _ (bx2 (HY.out.2.1.below b1).box) (fun hHeld2 => ?_)
                    clear hK hHeld
                    have hHeld := hHeld2
                    clear hHeld2
                    try simp only [Act.put, List.setIfInBounds_toArray, List.set_cons_zero, List.set_cons_succ]
                    refine gt_two (i := 11) (j := 12) rfl rfl (by kernel_rfl) (by kernel_rfl) (fun K hK => ?_) (fun K hK => ?_)
                    · have hA1 := mj_app1 i0 hi0 hz0 hz1 hz2 b1 oE (Nat.le_refl _) (HY.out.2.2.below b1) hsl
                      refine step_append_ofG (by rfl) _ _ _ _ (by rfl) _ _ (by rfl) (by rfl) hA1 ⟨rfl, rfl, rfl, rfl⟩ ?_
                      rintro v' w4 ⟨a4, c4, G4, rfl, o4, g4, _, bY4⟩
                      refine hK.out _ _ (bx2 (HY.out.2.1.below bY4).box) (fun hHeld2 => ?_)
                      clear hK hHeld
                      have hHeld := hHeld2
                      clear hHeld2
                      try simp only [Act.put, List.setIfInBounds_toArray, List.set_cons_zero, List.set_cons_succ]
                      refine gt_one (i := 12) rfl (by kernel_rfl) (by kernel_rfl) (fun K hK => ?_)
                      go_simp
                      have b5 := one14 w4 (.cells #[.int .i64 50] 2)
                      have bY5x := bY4.trans (b5.mono bY4.size)
                      have hA2 := mj_app2 i0 hi0 hz0 hz1 hz2 bY5x (OSo.below o4 b5) (fun b h => (g4 b h).1) (f := w4.heap.size) ((Bx.new w4 2 #[.int .i64 50]).at 0 rfl) hs10 hsl
                      refine hK.out _ _ (bx2 (HY.out.2.1.below bY5x).box) (fun hHeld2 => ?_)
                      clear hK hHeld
                      have hHeld := hHeld2
                      clear hHeld2
                      try simp only [Act.put, List.setIfInBounds_toArray, List.set_cons_zero, List.set_cons_succ]
                      refine gt_one (i := 13) rfl (by kernel_rfl) (by kernel_rfl) (fun K hK => ?_)
                      refine step_append_ofG (by rfl) _ _ _ _ (by rfl) _ _ (by rfl) (by rfl) hA2 ⟨rfl, rfl, rfl, rfl⟩ ?_
                      rintro v' w5 ⟨a2, c2, rfl, hv5, bY5⟩
                      have H5 := HY.out.1.below bY5
                      have L5 := HY.out.2.1.below bY5
                      have hC2 := hMj w5 a2 c2 (s ++ [50]) L5.vcp hv5 (by simp; omega)
                      rw [d50] at hC2
                      have e50 : (s ++ [(50 : Int)]).length = s.length + 1 := by simp
                      rw [e50] at hC2
                      clear e50
                      refine hK.out _ _ (bx2 L5.box) (fun hHeld2 => ?_)
                      clear hK hHeld
                      have hHeld := hHeld2
                      clear hHeld2
                      try simp only [Act.put, List.setIfInBounds_toArray, List.set_cons_zero, List.set_cons_succ]
                      refine gt_one (i := 14) rfl (by kernel_rfl) (by kernel_rfl) (fun K hK => ?_)
                      go_simp
                      go_at_call 30
                      refine hC2.mono ?_
                      rintro e w6' ⟨rfl, hb6⟩
                      have H6 := H5.below hb6
                      have L6 := L5.below hb6
                      refine hK.out _ _ (bx2 L6.box) (fun hHeld2 => ?_)
                      clear hK hHeld
                      have hHeld := hHeld2
                      clear hHeld2
                      try simp only [Act.put, List.setIfInBounds_toArray, List.set_cons_zero, List.set_cons_succ]
                      refine gt_pure (i := 15) (v := ?_) rfl (by kernel_rfl) (by kernel_rfl) (by kernel_rfl) (fun _ _ _ h => h) (Or.inl ⟨by rfl, ?_⟩) ?_
                      rotate_left
                      · (intro X; go_simp; try with_reducible rfl)
                      try simp only [Act.put, List.setIfInBounds_toArray, List.set_cons_zero, List.set_cons_succ]
                      refine gt_pure (i := 16) (v := ?_) rfl (by kernel_rfl) (by kernel_rfl) (by kernel_rfl) (fun _ _ _ h => h) (Or.inl ⟨by rfl, ?_⟩) ?_
                      rotate_left
                      · (intro X; go_simp; try with_reducible rfl)
                      try simp only [Act.put, List.setIfInBounds_toArray, List.set_cons_zero, List.set_cons_succ]
                      refine gt_end (by kernel_rfl) ?_
                      try go_wp2_with fail
                      go_meet
                      exact ⟨rfl, H6⟩
                    · go_simp
                      have b2 := b1.trans ((one14 (Y.alloc (.cells #[] 2)) (.cells #[.int .i64 50] 2)).mono b1.size)
                      have oE2 : OI ((Y.alloc (.cells #[] 2)).alloc (.cells #[.int .i64 50] 2)) Y.heap.size 0 0 0 [] := OSl.below oE (one14 _ _) oE.blk
                      have hF := (Bx.new (Y.alloc (.cells #[] 2)) 2 #[.int .i64 50])
                      refine hK.out _ _ (bx2 (HY.out.2.1.below b2).box) (fun hHeld2 => ?_)
                      clear hK hHeld
                      have hHeld := hHeld2
                      clear hHeld2
                      try simp only [Act.put, List.setIfInBounds_toArray, List.set_cons_zero, List.set_cons_succ]
                      have hA1 := mj_app1 i0 hi0 hz0 hz1 hz2 b2 oE2 (Nat.le_refl _) (HY.out.2.2.below b2) hsl
                      refine gt_one (i := 11) rfl (by kernel_rfl) (by kernel_rfl) (fun K hK => ?_)
                      refine step_append_ofG (by rfl) _ _ _ _ (by rfl) _ _ (by rfl) (by rfl) hA1 ⟨rfl, rfl, rfl, rfl⟩ ?_
                      rintro v' w4 ⟨a4, c4, G4, rfl, o4, g4, gr4, bY4⟩
                      have hF4 := (hF.grown gr4 (by simp)).at 0 rfl
                      simp only [World.size_alloc] at hF4
                      have hA2 := mj_app2 i0 hi0 hz0 hz1 hz2 bY4 o4 (fun b h => (g4 b h).1) hF4 hs10 hsl
                      refine hK.out _ _ (bx2 (HY.out.2.1.below bY4).box) (fun hHeld2 => ?_)
                      clear hK hHeld
                      have hHeld := hHeld2
                      clear hHeld2
                      try simp only [Act.put, List.setIfInBounds_toArray, List.set_cons_zero, List.set_cons_succ]
                      refine gt_one (i := 13) rfl (by kernel_rfl) (by kernel_rfl) (fun K hK => ?_)
                      refine step_append_ofG (by rfl) _ _ _ _ (by rfl) _ _ (by rfl) (by rfl) hA2 ⟨rfl, rfl, rfl, rfl⟩ ?_
                      rintro v' w5 ⟨a2, c2, rfl, hv5, bY5⟩
                      have H5 := HY.out.1.below bY5
                      have L5 := HY.out.2.1.below bY5
                      have hC2 := hMj w5 a2 c2 (s ++ [50]) L5.vcp hv5 (by simp; omega)
                      rw [d50] at hC2
                      have e50 : (s ++ [(50 : Int)]).length = s.length + 1 := by simp
                      rw [e50] at hC2
                      clear e50
                      refine hK.out _ _ (bx2 L5.box) (fun hHeld2 => ?_)
                      clear hK hHeld
                      have hHeld := hHeld2
                      clear hHeld2
                      try simp only [Act.put, List.setIfInBounds_toArray, List.set_cons_zero, List.set_cons_succ]
                      refine gt_one (i := 14) rfl (by kernel_rfl) (by kernel_rfl) (fun K hK => ?_)
                      go_simp
                      go_at_call 30
                      refine hC2.mono ?_
                      rintro e w6' ⟨rfl, hb6⟩
                      have H6 := H5.below hb6
                      have L6 := L5.below hb6
                      refine hK.out _ _ (bx2 L6.box) (fun hHeld2 => ?_)
                      clear hK hHeld
                      have hHeld := hHeld2
                      clear hHeld2
                      try simp only [Act.put, List.setIfInBounds_toArray, List.set_cons_zero, List.set_cons_succ]
                      refine gt_pure (i := 15) (v := ?_) rfl (by kernel_rfl) (by kernel_rfl) (by kernel_rfl) (fun _ _ _ h => h) (Or.inl ⟨by rfl, ?_⟩) ?_
                      rotate_left
                      · (intro X; go_simp; try with_reducible rfl)
                      try simp only [Act.put, List.setIfInBounds_toArray, List.set_cons_zero, List.set_cons_succ]
                      refine gt_pure (i := 16) (v := ?_) rfl (by kernel_rfl) (by kernel_rfl) (by kernel_rfl) (fun _ _ _ h => h) (Or.inl ⟨by rfl, ?_⟩) ?_
                      rotate_left
                      · (intro X; go_simp; try with_reducible rfl)
                      try simp only [Act.put, List.setIfInBounds_toArray, List.set_cons_zero, List.set_cons_succ]
                      refine gt_end (by kernel_rfl) ?_
                      try go_wp2_with fail
                      go_meet
                      exact ⟨rfl, H6⟩
                  · go_simp
                    have b1 := one14 Y (.cells #[.int .i64 50] 2)
                    refine hK.out _ _ (bx2 (HY.out.2.1.below b1).box) (fun hHeld2 => ?_)
                    clear hK hHeld
                    have hHeld := hHeld2
                    clear hHeld2
                    try simp only [Act.put, List.setIfInBounds_toArray, List.set_cons_zero, List.set_cons_succ]
                    refine gt_one (i := 9) rfl (by kernel_rfl) (by kernel_rfl) (fun K hK => ?_)
                    go_simp
                    have b2 := b1.trans ((one14 (Y.alloc (.cells #[.int .i64 50] 2)) (.cells #[] 2)).mono b1.size)
                    have oE2 : OI ((Y.alloc (.cells #[.int .i64 50] 2)).alloc (.cells #[] 2)) (Y.alloc (.cells #[.int .i64 50] 2)).heap.size 0 0 0 [] := num_empty _ 2
                    simp only [World.size_alloc] at oE2
                    have hF := (Bx.new Y 2 #[.int .i64 50]).below (one14 _ (.cells #[] 2))
                    refine hK.out _ _ (bx2 (HY.out.2.1.below b2).box) (fun hHeld2 => ?_)
                    clear hK hHeld
                    have hHeld := hHeld2
                    clear hHeld2
                    try simp only [Act.put, List.setIfInBounds_toArray, List.set_cons_zero, List.set_cons_succ]
                    have hA1 := mj_app1 i0 hi0 hz0 hz1 hz2 b2 oE2 (by omega) (HY.out.2.2.below b2) hsl
                    refine gt_one (i := 11) rfl (by kernel_rfl) (by kernel_rfl) (fun K hK => ?_)
                    refine step_append_ofG (by rfl) _ _ _ _ (by rfl) _ _ (by rfl) (by rfl) hA1 ⟨rfl, rfl, rfl, rfl⟩ ?_
                    rintro v' w4 ⟨a4, c4, G4, rfl, o4, g4, gr4, bY4⟩
                    have hF4 := (hF.grown gr4 (by simp)).at 0 rfl
                    have hA2 := mj_app2 i0 hi0 hz0 hz1 hz2 bY4 o4 (fun b h => (g4 b h).1) hF4 hs10 hsl
                    refine hK.out _ _ (bx2 (HY.out.2.1.below bY4).box) (fun hHeld2 => ?_)
                    clear hK hHeld
                    have hHeld := hHeld2
                    clear hHeld2
                    try simp only [Act.put, List.setIfInBounds_toArray, List.set_cons_zero, List.set_cons_succ]
                    refine gt_one (i := 13) rfl (by kernel_rfl) (by kernel_rfl) (fun K hK => ?_)
                    refine step_append_ofG (by rfl) _ _ _ _ (by rfl) _ _ (by rfl) (by rfl) hA2 ⟨rfl, rfl, rfl, rfl⟩ ?_
                    rintro v' w5 ⟨a2, c2, rfl, hv5, bY5⟩
                    have H5 := HY.out.1.below bY5
                    have L5 := HY.out.2.1.below bY5
                    have hC2 := hMj w5 a2 c2 (s ++ [50]) L5.vcp hv5 (by simp; omega)
                    rw [d50] at hC2
                    have e50 : (s ++ [(50 : Int)]).length = s.length + 1 := by simp
                    rw [e50] at hC2
                    clear e50
                    refine hK.out _ _ (bx2 L5.box) (fun hHeld2 => ?_)
                    clear hK hHeld
                    have hHeld := hHeld2
                    clear hHeld2
                    try simp only [Act.put, List.setIfInBounds_toArray, List.set_cons_zero, List.set_cons_succ]
                    refine gt_one (i := 14) rfl (by kernel_rfl) (by kernel_rfl) (fun K hK => ?_)
                    go_simp
                    go_at_call 30
                    refine hC2.mono ?_
                    rintro e w6' ⟨rfl, hb6⟩
                    have H6 := H5.below hb6
                    have L6 := L5.below hb6
                    refine hK.out _ _ (bx2 L6.box) (fun hHeld2 => ?_)
                    clear hK hHeld
                    have hHeld := hHeld2
                    clear hHeld2
                    try simp only [Act.put, List.setIfInBounds_toArray, List.set_cons_zero, List.set_cons_succ]
                    refine gt_pure (i := 15) (v := ?_) rfl (by kernel_rfl) (by kernel_rfl) (by kernel_rfl) (fun _ _ _ h => h) (Or.inl ⟨by rfl, ?_⟩) ?_
                    rotate_left
                    · (intro X; go_simp; try with_reducible rfl)
                    try simp only [Act.put, List.setIfInBounds_toArray, List.set_cons_zero, List.set_cons_succ]
                    refine gt_pure (i := 16) (v := ?_) rfl (by kernel_rfl) (by kernel_rfl) (by kernel_rfl) (fun _ _ _ h => h) (Or.inl ⟨by rfl, ?_⟩) ?_
                    rotate_left
                    · (intro X; go_simp; try with_reducible rfl)
                    try simp only [Act.put, List.setIfInBounds_toArray, List.set_cons_zero, List.set_cons_succ]
                    refine gt_end (by kernel_rfl) ?_
                    try go_wp2_with fail
                    go_meet
                    exact ⟨rfl, H6⟩
                · obtain rfl := hsx2 rfl
                  refine gt_begin (S := fun X : World => X.cell? ⟨o3, 0, none⟩ = some (.int .i64 F) ∧ X.cell? ⟨o3, 1, none⟩ = some (.slice ta T.length tc)) 17 hmix (by kernel_rfl) ?_
                  have hHeld : (fun X : World => X.cell? ⟨o3, 0, none⟩ = some (.int .i64 F) ∧ X.cell? ⟨o3, 1, none⟩ = some (.slice ta T.length tc)) wr.drew := x1
                  refine gt_takeA (i := 0) (v := ?_) rfl (by kernel_rfl) (by kernel_rfl) (by kernel_rfl) (by kernel_rfl) (fun _ _ _ h => h) (Or.inl ⟨by rfl, ?_⟩) hHeld ?_
                  rotate_left
                  · (intro X hSX; (try dsimp only at hSX); obtain ⟨g0, g1⟩ := hSX; go_simp; try with_reducible rfl)
                  try simp only [Act.put, List.setIfInBounds_toArray, List.set_cons_zero, List.set_cons_succ]
                  refine gt_pure (i := 1) (v := ?_) rfl (by kernel_rfl) (by kernel_rfl) (by kernel_rfl) (fun _ _ _ h => h) (Or.inl ⟨by rfl, ?_⟩) ?_
                  rotate_left
                  · (intro X; go_simp; try with_reducible rfl)
                  try simp only [Act.put, List.setIfInBounds_toArray, List.set_cons_zero, List.set_cons_succ]
                  refine gt_one (i := 2) rfl (by kernel_rfl) (by kernel_rfl) (fun K hK => ?_)
                  go_simp
                  go_at_call 30
                  refine hC1.mono ?_
                  rintro e Y ⟨rfl, hbY⟩
                  have HY : Hid (Mh w Y o6 o9 F' ta' tc' T' N na nc Mn ga gc G ca cc C ∧ Lh Y o3 F ta tc T ∧ VcP Y sa sc s) := ⟨HR.out.1.below hbY, HR.out.2.1.below hbY, HR.out.2.2.below hbY⟩
                  refine hK.out _ _ (bx2 HY.out.2.1.box) (fun hHeld2 => ?_)
                  clear hK hHeld
                  have hHeld := hHeld2
                  clear hHeld2
                  try simp only [Act.put, List.setIfInBounds_toArray, List.set_cons_zero, List.set_cons_succ]
                  clear hC1 hbY
                  refine gt_pure (i := 3) (v := ?_) rfl (by kernel_rfl) (by kernel_rfl) (by kernel_rfl) (fun _ _ _ h => h) (Or.inl ⟨by rfl, ?_⟩) ?_
                  rotate_left
                  · (intro X; go_simp; try with_reducible rfl)
                  try simp only [Act.put, List.setIfInBounds_toArray, List.set_cons_zero, List.set_cons_succ]
                  refine gt_pure (i := 4) (v := ?_) rfl (by kernel_rfl) (by kernel_rfl) (by kernel_rfl) (fun _ _ _ h => h) (Or.inl ⟨by rfl, ?_⟩) ?_
                  rotate_left
                  · (intro X; go_simp; try with_reducible rfl)
                  try simp only [Act.put, List.setIfInBounds_toArray, List.set_cons_zero, List.set_cons_succ]
                  refine gt_pure (i := 5) (v := ?_) rfl (by kernel_rfl) (by kernel_rfl) (by kernel_rfl) (fun _ _ _ h => h) (Or.inl ⟨by rfl, ?_⟩) ?_
                  rotate_left
                  · (intro X; go_simp; try with_reducible rfl)
                  try simp only [Act.put, List.setIfInBounds_toArray, List.set_cons_zero, List.set_cons_succ]
                  refine gt_pure (i := 6) (v := ?_) rfl (by kernel_rfl) (by kernel_rfl) (by kernel_rfl) (fun _ _ _ h => h) (Or.inl ⟨by rfl, ?_⟩) ?_
                  rotate_left
                  · (intro X; go_simp; try with_reducible rfl)
                  try simp only [Act.put, List.setIfInBounds_toArray, List.set_cons_zero, List.set_cons_succ]
                  refine gt_pure (i := 7) (v := ?_) rfl (by kernel_rfl) (by kernel_rfl) (by kernel_rfl) (fun _ _ _ h => h) (Or.inl ⟨by rfl, ?_⟩) ?_
                  rotate_left
                  · (intro X; go_simp; try with_reducible rfl)
                  try simp only [Act.put, List.setIfInBounds_toArray, List.set_cons_zero, List.set_cons_succ]
                  refine gt_takeA (i := 8) (v := ?_) rfl (by kernel_rfl) (by kernel_rfl) (by kernel_rfl) (by kernel_rfl) (fun _ _ _ h => h) (Or.inl ⟨by rfl, ?_⟩) hHeld ?_
                  rotate_left
                  · (intro X hSX; (try dsimp only at hSX); obtain ⟨g0, g1⟩ := hSX; go_simp; try with_reducible rfl)
                  try simp only [Act.put, List.setIfInBounds_toArray, List.set_cons_zero, List.set_cons_succ]
                  refine gt_pure (i := 10) (v := ?_) rfl (by kernel_rfl) (by kernel_rfl) (by kernel_rfl) (fun _ _ _ h => h) (Or.inl ⟨by rfl, ?_⟩) ?_
                  rotate_left
                  · (intro X; go_simp; try with_reducible rfl)
                  try simp only [Act.put, List.setIfInBounds_toArray, List.set_cons_zero, List.set_cons_succ]
                  refine gt_two (i := 9) (j := 12) rfl rfl (by kernel_rfl) (by kernel_rfl) (fun K hK => ?_) (fun K hK => ?_)
                  · go_simp
                    have b1 := one14 Y (.cells #[] 2)
                    have oE : OI (Y.alloc (.cells #[] 2)) Y.heap.size 0 0 0 [] := num_empty _ 2
                    refine hK.out _ _ (bx2 (HY.out.2.1.below b1).box) (fun hHeld2 => ?_)
                    clear hK hHeld
                    have hHeld := hHeld2
                    clear hHeld2
                    try simp only [Act.put, List.setIfInBounds_toArray, List.set_cons_zero, List.set_cons_succ]
                    refine gt_two (i := 11) (j := 12) rfl rfl (by kernel_rfl) (by kernel_rfl) (fun K hK => ?_) (fun K hK => ?_)
                    · have hA1 := mj_app1 i0 hi0 hz0 hz1 hz2 b1 oE (Nat.le_refl _) (HY.out.2.2.below b1) hsl
                      refine step_append_ofG (by rfl) _ _ _ _ (by rfl) _ _ (by rfl) (by rfl) hA1 ⟨rfl, rfl, rfl, rfl⟩ ?_
                      rintro v' w4 ⟨a4, c4, G4, rfl, o4, g4, _, bY4⟩
                      refine hK.out _ _ (bx2 (HY.out.2.1.below bY4).box) (fun hHeld2 => ?_)
                      clear hK hHeld
                      have hHeld := hHeld2
                      clear hHeld2
                      try simp only [Act.put, List.setIfInBounds_toArray, List.set_cons_zero, List.set_cons_succ]
                      refine gt_one (i := 12) rfl (by kernel_rfl) (by kernel_rfl) (fun K hK => ?_)
                      go_simp
                      have b5 := one14 w4 (.cells #[.int .i64 50] 2)
                      have bY5x := bY4.trans (b5.mono bY4.size)
                      have hA2 := mj_app2 i0 hi0 hz0 hz1 hz2 bY5x (OSo.below o4 b5) (fun b h => (g4 b h).1) (f := w4.heap.size) ((Bx.new w4 2 #[.int .i64 50]).at 0 rfl) hs10 hsl
                      refine hK.out _ _ (bx2 (HY.out.2.1.below bY5x).box) (fun hHeld2 => ?_)
                      clear hK hHeld
                      have hHeld := hHeld2
                      clear hHeld2
                      try simp only [Act.put, List.setIfInBounds_toArray, List.set_cons_zero, List.set_cons_succ]
                      refine gt_one (i := 13) rfl (by kernel_rfl) (by kernel_rfl) (fun K hK => ?_)
                      refine step_append_ofG (by rfl) _ _ _ _ (by rfl) _ _ (by rfl) (by rfl) hA2 ⟨rfl, rfl, rfl, rfl⟩ ?_
                      rintro v' w5 ⟨a2, c2, rfl, hv5, bY5⟩
                      have H5 := HY.out.1.below bY5
                      have L5 := HY.out.2.1.below bY5
                      have hC2 := hMj w5 a2 c2 (s ++ [50]) L5.vcp hv5 (by simp; omega)
                      rw [d50] at hC2
                      have e50 : (s ++ [(50 : Int)]).length = s.length + 1 := by simp
                      rw [e50] at hC2
                      clear e50
                      refine hK.out _ _ (bx2 L5.box) (fun hHeld2 => ?_)
                      clear hK hHeld
                      have hHeld := hHeld2
                      clear hHeld2
                      try simp only [Act.put, List.setIfInBounds_toArray, List.set_cons_zero, List.set_cons_succ]
                      refine gt_one (i := 14) rfl (by kernel_rfl) (by kernel_rfl) (fun K hK => ?_)
                      go_simp
                      go_at_call 30
                      refine hC2.mono ?_
                      rintro e w6' ⟨rfl, hb6⟩
                      have H6 := H5.below hb6
                      have L6 := L5.below hb6
                      refine hK.out _ _ (bx2 L6.box) (fun hHeld2 => ?_)
                      clear hK hHeld
                      have hHeld := hHeld2
                      clear hHeld2
                      try simp only [Act.put, List.setIfInBounds_toArray, List.set_cons_zero, List.set_cons_succ]
                      refine gt_pure (i := 15) (v := ?_) rfl (by kernel_rfl) (by kernel_rfl) (by kernel_rfl) (fun _ _ _ h => h) (Or.inl ⟨by rfl, ?_⟩) ?_
                      rotate_left
                      · (intro X; go_simp; try with_reducible rfl)
                      try simp only [Act.put, List.setIfInBounds_toArray, List.set_cons_zero, List.set_cons_succ]
                      refine gt_pure (i := 16) (v := ?_) rfl (by kernel_rfl) (by kernel_rfl) (by kernel_rfl) (fun _ _ _ h => h) (Or.inl ⟨by rfl, ?_⟩) ?_
                      rotate_left
                      · (intro X; go_simp; try with_reducible rfl)
                      try simp only [Act.put, List.setIfInBounds_toArray, List.set_cons_zero, List.set_cons_succ]
                      refine gt_end (by kernel_rfl) ?_
                      try go_wp2_with fail
                      go_meet
                      exact ⟨rfl, H6⟩
                    · go_simp
                      have b2 := b1.trans ((one14 (Y.alloc (.cells #[] 2)) (.cells #[.int .i64 50] 2)).mono b1.size)
                      have oE2 : OI ((Y.alloc (.cells #[] 2)).alloc (.cells #[.int .i64 50] 2)) Y.heap.size 0 0 0 [] := OSl.below oE (one14 _ _) oE.blk
                      have hF := (Bx.new (Y.alloc (.cells #[] 2)) 2 #[.int .i64 50])
                      refine hK.out _ _ (bx2 (HY.out.2.1.below b2).box) (fun hHeld2 => ?_)
                      clear hK hHeld
                      have hHeld := hHeld2
                      clear hHeld2
                      try simp only [Act.put, List.setIfInBounds_toArray, List.set_cons_zero, List.set_cons_succ]
                      have hA1 := mj_app1 i0 hi0 hz0 hz1 hz2 b2 oE2 (Nat.le_refl _) (HY.out.2.2.below b2) hsl
                      refine gt_one (i := 11) rfl (by kernel_rfl) (by kernel_rfl) (fun K hK => ?_)
                      refine step_append_ofG (by rfl) _ _ _ _ (by rfl) _ _ (by rfl) (by rfl) hA1 ⟨rfl, rfl, rfl, rfl⟩ ?_
                      rintro v' w4 ⟨a4, c4, G4, rfl, o4, g4, gr4, bY4⟩
                      have hF4 := (hF.grown gr4 (by simp)).at 0 rfl
                      simp only [World.size_alloc] at hF4
                      have hA2 := mj_app2 i0 hi0 hz0 hz1 hz2 bY4 o4 (fun b h => (g4 b h).1) hF4 hs10 hsl
                      refine hK.out _ _ (bx2 (HY.out.2.1.below bY4).box) (fun hHeld2 => ?_)
                      clear hK hHeld
                      have hHeld := hHeld2
                      clear hHeld2
                      try simp only [Act.put, List.setIfInBounds_toArray, List.set_cons_zero, List.set_cons_succ]
                      refine gt_one (i := 13) rfl (by kernel_rfl) (by kernel_rfl) (fun K hK => ?_)
                      refine step_append_ofG (by rfl) _ _ _ _ (by rfl) _ _ (by rfl) (by rfl) hA2 ⟨rfl, rfl, rfl, rfl⟩ ?_
                      rintro v' w5 ⟨a2, c2, rfl, hv5, bY5⟩
                      have H5 := HY.out.1.below bY5
                      have L5 := HY.out.2.1.below bY5
                      have hC2 := hMj w5 a2 c2 (s ++ [50]) L5.vcp hv5 (by simp; omega)
                      rw [d50] at hC2
                      have e50 : (s ++ [(50 : Int)]).length = s.length + 1 := by simp
                      rw [e50] at hC2
                      clear e50
                      refine hK.out _ _ (bx2 L5.box) (fun hHeld2 => ?_)
                      clear hK hHeld
                      have hHeld := hHeld2
                      clear hHeld2
                      try simp only [Act.put, List.setIfInBounds_toArray, List.set_cons_zero, List.set_cons_succ]
                      refine gt_one (i := 14) rfl (by kernel_rfl) (by kernel_rfl) (fun K hK => ?_)
                      go_simp
                      go_at_call 30
                      refine hC2.mono ?_
                      rintro e w6' ⟨rfl, hb6⟩
                      have H6 := H5.below hb6
                      have L6 := L5.below hb6
                      refine hK.out _ _ (bx2 L6.box) (fun hHeld2 => ?_)
                      clear hK hHeld
                      have hHeld := hHeld2
                      clear hHeld2
                      try simp only [Act.put, List.setIfInBounds_toArray, List.set_cons_zero, List.set_cons_succ]
                      refine gt_pure (i := 15) (v := ?_) rfl (by kernel_rfl) (by kernel_rfl) (by kernel_rfl) (fun _ _ _ h => h) (Or.inl ⟨by rfl, ?_⟩) ?_
                      rotate_left
                      · (intro X; go_simp; try with_reducible rfl)
                      try simp only [Act.put, List.setIfInBounds_toArray, List.set_cons_zero, List.set_cons_succ]
                      refine gt_pure (i := 16) (v := ?_) rfl (by kernel_rfl) (by kernel_rfl) (by kernel_rfl) (fun _ _ _ h => h) (Or.inl ⟨by rfl, ?_⟩) ?_
                      rotate_left
                      · (intro X; go_simp; try with_reducible rfl)
                      try simp only [Act.put, List.setIfInBounds_toArray, List.set_cons_zero, List.set_cons_succ]
                      refine gt_end (by kernel_rfl) ?_
                      try go_wp2_with fail
                      go_meet
                      exact ⟨rfl, H6⟩
                  · go_simp
                    have b1 := one14 Y (.cells #[.int .i64 50] 2)
                    refine hK.out _ _ (bx2 (HY.out.2.1.below b1).box) (fun hHeld2 => ?_)
                    clear hK hHeld
                    have hHeld := hHeld2
                    clear hHeld2
                    try simp only [Act.put, List.setIfInBounds_toArray, List.set_cons_zero, List.set_cons_succ]
                    refine gt_one (i := 9) rfl (by kernel_rfl) (by kernel_rfl) (fun K hK => ?_)
                    go_simp
                    have b2 := b1.trans ((one14 (Y.alloc (.cells #[.int .i64 50] 2)) (.cells #[] 2)).mono b1.size)
                    have oE2 : OI ((Y.alloc (.cells #[.int .i64 50] 2)).alloc (.cells #[] 2)) (Y.alloc (.cells #[.int .i64 50] 2)).heap.size 0 0 0 [] := num_empty _ 2
                    simp only [World.size_alloc] at oE2
                    have hF := (Bx.new Y 2 #[.int .i64 50]).below (one14 _ (.cells #[] 2))
                    refine hK.out _ _ (bx2 (HY.out.2.1.below b2).box) (fun hHeld2 => ?_)
                    clear hK hHeld
                    have hHeld := hHeld2
                    clear hHeld2
                    try simp only [Act.put, List.setIfInBounds_toArray, List.set_cons_zero, List.set_cons_succ]
                    have hA1 := mj_app1 i0 hi0 hz0 hz1 hz2 b2 oE2 (by omega) (HY.out.2.2.below b2) hsl
                    refine gt_one (i := 11) rfl (by kernel_rfl) (by kernel_rfl) (fun K hK => ?_)
                    refine step_append_ofG (by rfl) _ _ _ _ (by rfl) _ _ (by rfl) (by rfl) hA1 ⟨rfl, rfl, rfl, rfl⟩ ?_
                    rintro v' w4 ⟨a4, c4, G4, rfl, o4, g4, gr4, bY4⟩
                    have hF4 := (hF.grown gr4 (by simp)).at 0 rfl
                    have hA2 := mj_app2 i0 hi0 hz0 hz1 hz2 bY4 o4 (fun b h => (g4 b h).1) hF4 hs10 hsl
                    refine hK.out _ _ (bx2 (HY.out.2.1.below bY4).box) (fun hHeld2 => ?_)
                    clear hK hHeld
                    have hHeld := hHeld2
                    clear hHeld2
                    try simp only [Act.put, List.setIfInBounds_toArray, List.set_cons_zero, List.set_cons_succ]
                    refine gt_one (i := 13) rfl (by kernel_rfl) (by kernel_rfl) (fun K hK => ?_)
                    refine step_append_ofG (by rfl) _ _ _ _ (by rfl) _ _ (by rfl) (by rfl) hA2 ⟨rfl, rfl, rfl, rfl⟩ ?_
                    rintro v' w5 ⟨a2, c2, rfl, hv5, bY5⟩
                    have H5 := HY.out.1.below bY5
                    have L5 := HY.out.2.1.below bY5
                    have hC2 := hMj w5 a2 c2 (s ++ [50]) L5.vcp hv5 (by simp; omega)
                    rw [d50] at hC2
                    have e50 : (s ++ [(50 : Int)]).length = s.length + 1 := by simp
                    rw [e50] at hC2
                    clear e50
                    refine hK.out _ _ (bx2 L5.box) (fun hHeld2 => ?_)
                    clear hK hHeld
                    have hHeld := hHeld2
                    clear hHeld2
                    try simp only [Act.put, List.setIfInBounds_toArray, List.set_cons_zero, List.set_cons_succ]
                    refine gt_one (i := 14) rfl (by kernel_rfl) (by kernel_rfl) (fun K hK => ?_)
                    go_simp
                    go_at_call 30
                    refine hC2.mono ?_
                    rintro e w6' ⟨rfl, hb6⟩
                    have H6 := H5.below hb6
                    have L6 := L5.below hb6
                    refine hK.out _ _ (bx2 L6.box) (fun hHeld2 => ?_)
                    clear hK hHeld
                    have hHeld := hHeld2
                    clear hHeld2
                    try simp only [Act.put, List.setIfInBounds_toArray, List.set_cons_zero, List.set_cons_succ]
                    refine gt_pure (i := 15) (v := ?_) rfl (by kernel_rfl) (by kernel_rfl) (by kernel_rfl) (fun _ _ _ h => h) (Or.inl ⟨by rfl, ?_⟩) ?_
                    rotate_left
                    · (intro X; go_simp; try with_reducible rfl)
                    try simp only [Act.put, List.setIfInBounds_toArray, List.set_cons_zero, List.set_cons_succ]
                    refine gt_pure (i := 16) (v := ?_) rfl (by kernel_rfl) (by kernel_rfl) (by kernel_rfl) (fun _ _ _ h => h) (Or.inl ⟨by rfl, ?_⟩) ?_
                    rotate_left
                    · (intro X; go_simp; try with_reducible rfl)
                    try simp only [Act.put, List.setIfInBounds_toArray, List.set_cons_zero, List.set_cons_succ]
                    refine gt_end (by kernel_rfl) ?_
                    try go_wp2_with fail
                    go_meet
                    exact ⟨rfl, H6⟩
              case rest =>
                obtain ⟨rfl, H6⟩ := hcut
                have HX : Hid (Mh w wc o6 o9 F' ta' tc' T' N na nc Mn ga gc G ca cc C) := H6
                clear H6
                cases ok
                · have e := HNo.out (N, Mn) rfl
                  obtain ⟨e1, e2⟩ := Prod.mk.inj e
                  subst e1
                  subst e2
                  have hLk := likeVw_any 0 na none nc 0 [] wc HX.out.n.vcp.vec ⟨rfl, fun x hx => absurd hx List.not_mem_nil, .inl rfl⟩ (by unfold maxLen; simp)
                  unfold vwV at hLk
                  obtain ⟨p0, p1⟩ := bx2 HX.out.n.box
                  go_wp2_with fail
                  refine hLk.mono ?_
                  rintro e x1 ⟨rfl, hg⟩
                  have HZ : Hid (Below w.heap.size w x1) := HX.out.bel.trans (hg.1.mono HX.out.bel.size)
                  clear hLk hg
                  go_wp2
                  go_ret
                  exact ⟨rfl, HZ.out⟩
                · obtain ⟨t1, t2, t3, t4⟩ := HTo.out (N, Mn) rfl
                  simp only [] at t2 t3 t4
                  have HT1 : Hid (okVw (N, Mn)) := t1
                  have HT3 : Hid (∀ y ∈ Mn, y ∈ G → y ∈ C) := t3
                  have HT4 : Hid (∀ st : List Int, (∀ y ∈ Mn, y ∈ T' → y ∈ st) → mjP (F', T') st) := t4
                  have HT2 : Hid (N = F' + 1) := t2
                  clear t1 t2 t3 t4 HTo HNo
                  have HO0 : Hid (OI (wc.alloc (.cells #[] 2)) wc.heap.size 0 0 0 []) := num_empty _ 2
                  have HB0 : Hid (Below wc.heap.size wc (wc.alloc (.cells #[] 2))) := one14 _ _
                  obtain ⟨p0, p1⟩ := bx2 (HX.out.below HB0.out).n.box
                  go_wp2_with fail
                  clear p0 p1
                  go_loopw [17, 18] (fun v i wr => ∃ (k g og cg : Nat) (V : List Int), k ≤ Mn.length ∧ i = .int .i64 (k : Int) ∧ v = .slice (some ⟨g, og, none⟩) V.length cg ∧ V.length ≤ k ∧ (∀ y ∈ V, 0 ≤ y ∧ y ≤ 99) ∧ (∀ j, j < k → el Mn j ∈ T' → el Mn j ∈ V) ∧ wc.heap.size ≤ g ∧ OI wr g og V.length cg V ∧ Below wc.heap.size wc wr) (fun _ i _ => Mn.length - (intOf i).toNat)
                  case atStart => exact ⟨0, wc.heap.size, 0, 0, [], Nat.zero_le _, rfl, rfl, by simp, fun y hy => absurd hy List.not_mem_nil, fun j hj => absurd hj (Nat.not_lt_zero _), Nat.le_refl _, HO0.out, HB0.out⟩
                  case round =>
                    clear HO0 HB0
                    obtain ⟨k, g, og, cg, V, hk, rfl, rfl, hVk, hVx, hVm, hgX, hO, hBX⟩ := hrel
                    have HVx : Hid (∀ y ∈ V, 0 ≤ y ∧ y ≤ 99) := hVx
                    have HVm : Hid (∀ j, j < k → el Mn j ∈ T' → el Mn j ∈ V) := hVm
                    clear hVx hVm
                    have Hr := HX.out.below hBX
                    by_cases hlt : k < Mn.length
                    · have k1 : (k : Int) < (Mn.length : Int) := by omega
                      obtain ⟨b, off, rfl, hc⟩ : ∃ b off, na = some ⟨b, off, none⟩ ∧ ∀ i, i < Mn.length → wc.cell? ⟨b, off + i, none⟩ = some (.int .i64 (el Mn i)) := by
                        rcases HX.out.n.vcp.vec.2.2 with h | h
                        · omega
                        · exact h
                      have HCk : Hid (∀ X, Below wc.heap.size wc X → X.cell? ⟨b, off + k, none⟩ = some (.int .i64 (el Mn k))) := fun X hX => (hX.cell (World.block_lt_of_cell? _ _ (hc k hlt))).trans (hc k hlt)
                      have HxM : Hid (el Mn k ∈ Mn) := el_in hlt
                      have HXB : Hid (0 ≤ el Mn k ∧ el Mn k ≤ 99) := HMx9.out _ (el_in hlt)
                      have HXm : Hid (∀ j, j < k + 1 → j < k ∨ el Mn j = el Mn k) := fun j hj => by
                        rcases Nat.lt_succ_iff_lt_or_eq.1 hj with h | h
                        · exact .inl h
                        · exact .inr (by rw [h])
                      generalize el Mn k = x at *
                      clear hc
                      have j1 : Hid (∀ q : Bk wr, Calls Try.prog 39 #[.slice ta' T'.length tc', .int .i64 x] q.w fun e w' => e = .returned (.bool (decide (x ∈ T'))) ∧ Below q.w.heap.size q.w w') := fun q => has14_any ta' tc' x T' q.w (Hr.below q.h).x.vcp.vec (by unfold maxLen; omega)
                      have e61 : ∀ q : Bk wr, q.w.cell? ⟨o6, 1, none⟩ = some (.slice ta' T'.length tc') := fun q => (bx2 (Hr.below q.h).x.box).2
                      have e91 : ∀ q : Bk wr, q.w.cell? ⟨o9, 1, none⟩ = some (.slice (some ⟨b, off, none⟩) Mn.length nc) := fun q => (bx2 (Hr.below q.h).n.box).2
                      have eck : ∀ q : Bk wr, q.w.cell? ⟨b, off + k, none⟩ = some (.int .i64 x) := fun q => HCk.out _ (hBX.trans (q.h.mono hBX.size))
                      have p1 := (bx2 Hr.n.box).2
                      haveI : Inhabited (Bk wr) := ⟨⟨wr, Below.refl _ _⟩⟩
                      go_wp2_with fail
                      refine wp_region_bk (by kernel_rfl) (by kernel_rfl) ?_
                      repeat (go_big_quiet_step ((go_at_call 39; exact bk_call _ (j1.out _))))
                      refine wpQuiet_nil ?_
                      intro wF hw'
                      obtain ⟨⟨wF', hbF⟩, hw''⟩ := hw'
                      have hwe : wF = wF' := hw''
                      clear hw''
                      subst hwe
                      have HB : Hid (Below wc.heap.size wc wF) := hBX.trans (hbF.mono hBX.size)
                      have oF : OI wF g og V.length cg V := hO.below hbF hO.blk
                      clear j1 e61 e91 eck p1 hbF hO hBX Hr
                      by_cases hxT : x ∈ T'
                      · have d0 : decide (x ∈ T') = true := by simpa using hxT
                        rw [d0]
                        clear d0
                        obtain ⟨p0, p1⟩ := bx2 (HX.out.below HB.out).n.box
                        have hck := HCk.out _ HB.out
                        have hO2 : OSl (wF.alloc (.cells #[.int .i64 x] 2)) 1 g og V.length cg (V.map (Value.int .i64)) := OSl.below oF ((Below.refl _ _).alloc (Nat.le_refl _) _) oF.blk
                        have HB6 : Hid (Below wc.heap.size wc (wF.alloc (.cells #[.int .i64 x] 2))) := (HB.out).alloc (HB.out).size _
                        clear oF
                        go_wp2_with (at_builtin; refine wpList_append_os _ rfl _ _ _ rfl 2 i0 _ 1 8 Try.underlying24 hi0 hz0 hz1 hz2 rfl (by omega) g og V.length cg _ rfl hO2 ⟨wF.heap.size, 0, none⟩ 1 1 [.int .i64 x] rfl rfl (World.news_of_block (cs := #[.int .i64 x]) (t := 2) (fr := (0, 0)) (heap_alloc_new _ _)) (by simp [Value.oneCell']) (by unfold maxLen; omega) (by omega) ?_; intro g6 og6 c6 v6 hO6 hg6 hat6; have NB0 := below_grownG HB6.out hg6 hgX; obtain ⟨p2, p3⟩ := bx2 (HX.out.below NB0).n.box; have hck2 := HCk.out _ NB0)
                        have NG : Hid (wc.heap.size ≤ g6) := by
                          rcases hat6 with h | h
                          · rw [h]; exact hgX
                          · rw [h]; exact HB6.out.size
                        have NB : Hid (Below wc.heap.size wc v6) := below_grownG HB6.out hg6 hgX
                        have NO : Hid (OI v6 g6 og6 (V ++ [x]).length c6 (V ++ [x])) := by
                          rw [Hid, List.length_append, OI, List.map_append]; exact hO6
                        have NX : Hid (∀ y ∈ V ++ [x], 0 ≤ y ∧ y ≤ 99) := fun y hy => by
                          rcases List.mem_append.1 hy with h | h
                          · exact HVx.out y h
                          · rw [List.mem_singleton.1 h]; exact HXB.out
                        clear hO6 hg6 hat6 hO2 HB6
                        clear p0 p1 hck HB p2 p3 hck2 NB0
                        have HB : Hid (Below wc.heap.size wc v6) := NB.out
                        have HO : Hid (OI v6 g6 og6 (V ++ [x]).length c6 (V ++ [x])) := NO.out
                        have NM : Hid (∀ j, j < k + 1 → el Mn j ∈ T' → el Mn j ∈ V ++ [x]) := fun j hj hT => by
                          rcases HXm.out j hj with h | h
                          · exact List.mem_append.2 (.inl (HVm.out j h hT))
                          · rw [h]; exact List.mem_append.2 (.inr (List.mem_singleton.2 rfl))
                        have hVk2 : (V ++ [x]).length ≤ k + 1 := by rw [List.length_append, List.length_singleton]; omega
                        have HVl : Hid ((V ++ [x]).length = V.length + 1) := by rw [Hid, List.length_append]; rfl
                        clear NB NO
                        have Hq := HX.out.below HB.out
                        obtain ⟨p0, p1⟩ := bx2 Hq.n.box
                        have hck := (HCk.out _ HB.out)
                        by_cases hxG : x ∈ G
                        · have d1 : decide (x ∈ G) = true := by simpa using hxG
                          have d2 : decide (x ∈ C) = true := by simpa using HT3.out x HxM.out hxG
                          have hH1 := has14_any ga gc x G v6 Hq.g.vec (by unfold maxLen; omega)
                          rw [d1] at hH1
                          refine hH1.mono ?_
                          rintro e x1 ⟨rfl, hbx1⟩
                          have Hq1 := Hq.below hbx1
                          have hH2 := has14_any ca cc x C x1 Hq1.c.vec (by unfold maxLen; omega)
                          rw [d2] at hH2
                          obtain ⟨p2, p3⟩ := bx2 Hq1.n.box
                          have hck1 := (hbx1.cell (World.block_lt_of_cell? _ _ hck)).trans hck
                          clear p0 p1 hck hH1 Hq Hq1 d1 d2
                          go_wp2_with fail
                          refine hH2.mono ?_
                          rintro e x2 ⟨rfl, hbx2⟩
                          have hbx := hbx1.trans (hbx2.mono hbx1.size)
                          have HBZ : Hid (Below wc.heap.size wc x2) := HB.out.trans (hbx.mono HB.out.size)
                          have HOZ := HO.out.below hbx HO.out.blk
                          have HOZ2 : Hid _ := HOZ
                          clear HOZ hH2 hbx1 hbx2 hbx p2 p3 hck1
                          go_wp2
                          go_roundw
                          case rel => exact ⟨k + 1, g6, og6, c6, V ++ [x], by omega, by go_num, by rw [HVl.out], hVk2, NX.out, NM.out, NG.out, HOZ2.out, HBZ.out⟩
                          case measure => simp [intOf]; omega
                        · have d1 : decide (x ∈ G) = false := by simpa using hxG
                          have hH1 := has14_any ga gc x G v6 Hq.g.vec (by unfold maxLen; omega)
                          rw [d1] at hH1
                          refine hH1.mono ?_
                          rintro e x2 ⟨rfl, hbx⟩
                          have HBZ : Hid (Below wc.heap.size wc x2) := HB.out.trans (hbx.mono HB.out.size)
                          have HOZ := HO.out.below hbx HO.out.blk
                          have HOZ2 : Hid _ := HOZ
                          clear HOZ hH1 hbx p0 p1 hck Hq d1
                          go_wp2
                          go_roundw
                          case rel => exact ⟨k + 1, g6, og6, c6, V ++ [x], by omega, by go_num, by rw [HVl.out], hVk2, NX.out, NM.out, NG.out, HOZ2.out, HBZ.out⟩
                          case measure => simp [intOf]; omega
                      · have d0 : decide (x ∈ T') = false := by simpa using hxT
                        rw [d0]
                        clear d0
                        have HO : Hid (OI wF g og V.length cg V) := oF
                        clear oF
                        have NM : Hid (∀ j, j < k + 1 → el Mn j ∈ T' → el Mn j ∈ V) := fun j hj hT => by
                          rcases HXm.out j hj with h | h
                          · exact HVm.out j h hT
                          · rw [h] at hT; exact absurd hT hxT
                        have Hq := HX.out.below HB.out
                        obtain ⟨p0, p1⟩ := bx2 Hq.n.box
                        have hck := (HCk.out _ HB.out)
                        by_cases hxG : x ∈ G
                        · have d1 : decide (x ∈ G) = true := by simpa using hxG
                          have d2 : decide (x ∈ C) = true := by simpa using HT3.out x HxM.out hxG
                          have hH1 := has14_any ga gc x G wF Hq.g.vec (by unfold maxLen; omega)
                          rw [d1] at hH1
                          go_wp2_with fail
                          refine hH1.mono ?_
                          rintro e x1 ⟨rfl, hbx1⟩
                          have Hq1 := Hq.below hbx1
                          have hH2 := has14_any ca cc x C x1 Hq1.c.vec (by unfold maxLen; omega)
                          rw [d2] at hH2
                          obtain ⟨p2, p3⟩ := bx2 Hq1.n.box
                          have hck1 := (hbx1.cell (World.block_lt_of_cell? _ _ hck)).trans hck
                          clear p0 p1 hck hH1 Hq Hq1 d1 d2
                          go_wp2_with fail
                          refine hH2.mono ?_
                          rintro e x2 ⟨rfl, hbx2⟩
                          have hbx := hbx1.trans (hbx2.mono hbx1.size)
                          have HBZ : Hid (Below wc.heap.size wc x2) := HB.out.trans (hbx.mono HB.out.size)
                          have HOZ := HO.out.below hbx HO.out.blk
                          have HOZ2 : Hid _ := HOZ
                          clear HOZ hH2 hbx1 hbx2 hbx p2 p3 hck1
                          go_wp2
                          go_roundw
                          case rel => exact ⟨k + 1, g, og, cg, V, by omega, by go_num, rfl, by omega, HVx.out, NM.out, hgX, HOZ2.out, HBZ.out⟩
                          case measure => simp [intOf]; omega
                        · have d1 : decide (x ∈ G) = false := by simpa using hxG
                          have hH1 := has14_any ga gc x G wF Hq.g.vec (by unfold maxLen; omega)
                          rw [d1] at hH1
                          go_wp2_with fail
                          refine hH1.mono ?_
                          rintro e x2 ⟨rfl, hbx⟩
                          have HBZ : Hid (Below wc.heap.size wc x2) := HB.out.trans (hbx.mono HB.out.size)
                          have HOZ := HO.out.below hbx HO.out.blk
                          have HOZ2 : Hid _ := HOZ
                          clear HOZ hH1 hbx p0 p1 hck Hq d1
                          go_wp2
                          go_roundw
                          case rel => exact ⟨k + 1, g, og, cg, V, by omega, by go_num, rfl, by omega, HVx.out, NM.out, hgX, HOZ2.out, HBZ.out⟩
                          case measure => simp [intOf]; omega
                    · have k1 : ¬ ((k : Int) < (Mn.length : Int)) := by omega
                      have hmj2 : mjP (F', T') V := HT4.out V (fun y hy hT => by
                        obtain ⟨j, hj, e⟩ := el_mem9.1 hy
                        rw [← e] at hT ⊢
                        exact HVm.out j (by omega) hT)
                      have d1 : decide (mjP (F', T') V) = true := by simpa using hmj2
                      have d2 : decide (okVw (N, Mn)) = true := by simpa using HT1.out
                      have hwr : wrap64 (F' + 1) = F' + 1 := by unfold wrap64; omega
                      have hne : (N == F' + 1) = true := by rw [HT2.out]; simp
                      have hV := hVo N na nc Mn wr hNv Hr.n.vcp (by omega)
                      rw [d2] at hV
                      unfold vwV at hV
                      obtain ⟨p0, p1⟩ := bx2 Hr.n.box
                      go_wp2_with fail
                      refine hV.mono ?_
                      rintro e x1 ⟨rfl, hb1⟩
                      have H1 := Hr.below hb1
                      have oX : OI x1 g og V.length cg V := hO.below hb1 hO.blk
                      have hM := hMx x1 _ cg V H1.x.vcp (oi_vcp oX (fun y hy => by have := HVx.out y hy; omega)) (by omega)
                      rw [d1] at hM
                      obtain ⟨q0, q1⟩ := bx2 H1.n.box
                      obtain ⟨q2, q3⟩ := bx2 H1.x.box
                      have HZ : Hid (Below w.heap.size w x1) := H1.bel
                      clear hV p0 p1 Hr hO hBX H1 oX hb1 d1 d2 hmj2
                      go_wp2_with fail
                      refine hM.mono ?_
                      rintro e x2 ⟨rfl, hb2⟩
                      have HZ2 : Hid (Below w.heap.size w x2) := HZ.out.trans (hb2.mono HZ.out.size)
                      clear hM q0 q1 q2 q3 hb2
                      go_wp2
                      go_ret
                      exact ⟨rfl, HZ2.out⟩
    · have hd : decide (mjP (F, T) s) = false := by simpa using hmj
      rw [hd]
      have HX : Hid (Mh w w11 o6 o9 F' ta' tc' T' N na nc Mn ga gc G ca cc C) := H11
      clear H11
      cases ok
      · have e := HNo.out (N, Mn) rfl
        obtain ⟨e1, e2⟩ := Prod.mk.inj e
        subst e1
        subst e2
        have hLk := likeVw_any 0 na none nc 0 [] w11 HX.out.n.vcp.vec ⟨rfl, fun x hx => absurd hx List.not_mem_nil, .inl rfl⟩ (by unfold maxLen; simp)
        unfold vwV at hLk
        obtain ⟨p0, p1⟩ := bx2 HX.out.n.box
        go_wp2_with fail
        refine hLk.mono ?_
        rintro e x1 ⟨rfl, hg⟩
        have HZ : Hid (Below w.heap.size w x1) := HX.out.bel.trans (hg.1.mono HX.out.bel.size)
        clear hLk hg
        go_wp2
        go_ret
        exact ⟨rfl, HZ.out⟩
      · obtain ⟨t1, t2, t3, t4⟩ := HTo.out (N, Mn) rfl
        simp only [] at t2 t3 t4
        have HT1 : Hid (okVw (N, Mn)) := t1
        have HT3 : Hid (∀ y ∈ Mn, y ∈ G → y ∈ C) := t3
        have HT4 : Hid (∀ st : List Int, (∀ y ∈ Mn, y ∈ T' → y ∈ st) → mjP (F', T') st) := t4
        have HT2 : Hid (N = F' + 1) := t2
        clear t1 t2 t3 t4 HTo HNo
        have HO0 : Hid (OI (w11.alloc (.cells #[] 2)) w11.heap.size 0 0 0 []) := num_empty _ 2
        have HB0 : Hid (Below w11.heap.size w11 (w11.alloc (.cells #[] 2))) := one14 _ _
        obtain ⟨p0, p1⟩ := bx2 (HX.out.below HB0.out).n.box
        go_wp2_with fail
        clear p0 p1
        go_loopw [17, 18] (fun v i wr => ∃ (k g og cg : Nat) (V : List Int), k ≤ Mn.length ∧ i = .int .i64 (k : Int) ∧ v = .slice (some ⟨g, og, none⟩) V.length cg ∧ V.length ≤ k ∧ (∀ y ∈ V, 0 ≤ y ∧ y ≤ 99) ∧ (∀ j, j < k → el Mn j ∈ T' → el Mn j ∈ V) ∧ w11.heap.size ≤ g ∧ OI wr g og V.length cg V ∧ Below w11.heap.size w11 wr) (fun _ i _ => Mn.length - (intOf i).toNat)
        case atStart => exact ⟨0, w11.heap.size, 0, 0, [], Nat.zero_le _, rfl, rfl, by simp, fun y hy => absurd hy List.not_mem_nil, fun j hj => absurd hj (Nat.not_lt_zero _), Nat.le_refl _, HO0.out, HB0.out⟩
        case round =>
          clear HO0 HB0
          obtain ⟨k, g, og, cg, V, hk, rfl, rfl, hVk, hVx, hVm, hgX, hO, hBX⟩ := hrel
          have HVx : Hid (∀ y ∈ V, 0 ≤ y ∧ y ≤ 99) := hVx
          have HVm : Hid (∀ j, j < k → el Mn j ∈ T' → el Mn j ∈ V) := hVm
          clear hVx hVm
          have Hr := HX.out.below hBX
          by_cases hlt : k < Mn.length
          · have k1 : (k : Int) < (Mn.length : Int) := by omega
            obtain ⟨b, off, rfl, hc⟩ : ∃ b off, na = some ⟨b, off, none⟩ ∧ ∀ i, i < Mn.length → w11.cell? ⟨b, off + i, none⟩ = some (.int .i64 (el Mn i)) := by
              rcases HX.out.n.vcp.vec.2.2 with h | h
              · omega
              · exact h
            have HCk : Hid (∀ X, Below w11.heap.size w11 X → X.cell? ⟨b, off + k, none⟩ = some (.int .i64 (el Mn k))) := fun X hX => (hX.cell (World.block_lt_of_cell? _ _ (hc k hlt))).trans (hc k hlt)
            have HxM : Hid (el Mn k ∈ Mn) := el_in hlt
            have HXB : Hid (0 ≤ el Mn k ∧ el Mn k ≤ 99) := HMx9.out _ (el_in hlt)
            have HXm : Hid (∀ j, j < k + 1 → j < k ∨ el Mn j = el Mn k) := fun j hj => by
              rcases Nat.lt_succ_iff_lt_or_eq.1 hj with h | h
              · exact .inl h
              · exact .inr (by rw [h])
            generalize el Mn k = x at *
            clear hc
            have j1 : Hid (∀ q : Bk wr, Calls Try.prog 39 #[.slice ta' T'.length tc', .int .i64 x] q.w fun e w' => e = .returned (.bool (decide (x ∈ T'))) ∧ Below q.w.heap.size q.w w') := fun q => has14_any ta' tc' x T' q.w (Hr.below q.h).x.vcp.vec (by unfold maxLen; omega)
            have e61 : ∀ q : Bk wr, q.w.cell? ⟨o6, 1, none⟩ = some (.slice ta' T'.length tc') := fun q => (bx2 (Hr.below q.h).x.box).2
            have e91 : ∀ q : Bk wr, q.w.cell? ⟨o9, 1, none⟩ = some (.slice (some ⟨b, off, none⟩) Mn.length nc) := fun q => (bx2 (Hr.below q.h).n.box).2
            have eck : ∀ q : Bk wr, q.w.cell? ⟨b, off + k, none⟩ = some (.int .i64 x) := fun q => HCk.out _ (hBX.trans (q.h.mono hBX.size))
            have p1 := (bx2 Hr.n.box).2
            haveI : Inhabited (Bk wr) := ⟨⟨wr, Below.refl _ _⟩⟩
            go_wp2_with fail
            refine wp_region_bk (by kernel_rfl) (by kernel_rfl) ?_
            repeat (go_big_quiet_step ((go_at_call 39; exact bk_call _ (j1.out _))))
            refine wpQuiet_nil ?_
            intro wF hw'
            obtain ⟨⟨wF', hbF⟩, hw''⟩ := hw'
            have hwe : wF = wF' := hw''
            clear hw''
            subst hwe
            have HB : Hid (Below w11.heap.size w11 wF) := hBX.trans (hbF.mono hBX.size)
            have oF : OI wF g og V.length cg V := hO.below hbF hO.blk
            clear j1 e61 e91 eck p1 hbF hO hBX Hr
            by_cases hxT : x ∈ T'
            · have d0 : decide (x ∈ T') = true := by simpa using hxT
              rw [d0]
              clear d0
              obtain ⟨p0, p1⟩ := bx2 (HX.out.below HB.out).n.box
              have hck := HCk.out _ HB.out
              have hO2 : OSl (wF.alloc (.cells #[.int .i64 x] 2)) 1 g og V.length cg (V.map (Value.int .i64)) := OSl.below oF ((Below.refl _ _).alloc (Nat.le_refl _) _) oF.blk
              have HB6 : Hid (Below w11.heap.size w11 (wF.alloc (.cells #[.int .i64 x] 2))) := (HB.out).alloc (HB.out).size _
              clear oF
              go_wp2_with (at_builtin; refine wpList_append_os _ rfl _ _ _ rfl 2 i0 _ 1 8 Try.underlying24 hi0 hz0 hz1 hz2 rfl (by omega) g og V.length cg _ rfl hO2 ⟨wF.heap.size, 0, none⟩ 1 1 [.int .i64 x] rfl rfl (World.news_of_block (cs := #[.int .i64 x]) (t := 2) (fr := (0, 0)) (heap_alloc_new _ _)) (by simp [Value.oneCell']) (by unfold maxLen; omega) (by omega) ?_; intro g6 og6 c6 v6 hO6 hg6 hat6; have NB0 := below_grownG HB6.out hg6 hgX; obtain ⟨p2, p3⟩ := bx2 (HX.out.below NB0).n.box; have hck2 := HCk.out _ NB0)
              have NG : Hid (w11.heap.size ≤ g6) := by
                rcases hat6 with h | h
                · rw [h]; exact hgX
                · rw [h]; exact HB6.out.size
              have NB : Hid (Below w11.heap.size w11 v6) := below_grownG HB6.out hg6 hgX
              have NO : Hid (OI v6 g6 og6 (V ++ [x]).length c6 (V ++ [x])) := by
                rw [Hid, List.length_append, OI, List.map_append]; exact hO6
              have NX : Hid (∀ y ∈ V ++ [x], 0 ≤ y ∧ y ≤ 99) := fun y hy => by
                rcases List.mem_append.1 hy with h | h
                · exact HVx.out y h
                · rw [List.mem_singleton.1 h]; exact HXB.out
              clear hO6 hg6 hat6 hO2 HB6
              clear p0 p1 hck HB p2 p3 hck2 NB0
              have HB : Hid (Below w11.heap.size w11 v6) := NB.out
              have HO : Hid (OI v6 g6 og6 (V ++ [x]).length c6 (V ++ [x])) := NO.out
              have NM : Hid (∀ j, j < k + 1 → el Mn j ∈ T' → el Mn j ∈ V ++ [x]) := fun j hj hT => by
                rcases HXm.out j hj with h | h
                · exact List.mem_append.2 (.inl (HVm.out j h hT))
                · rw [h]; exact List.mem_append.2 (.inr (List.mem_singleton.2 rfl))
              have hVk2 : (V ++ [x]).length ≤ k + 1 := by rw [List.length_append, List.length_singleton]; omega
              have HVl : Hid ((V ++ [x]).length = V.length + 1) := by rw [Hid, List.length_append]; rfl
              clear NB NO
              have Hq := HX.out.below HB.out
              obtain ⟨p0, p1⟩ := bx2 Hq.n.box
              have hck := (HCk.out _ HB.out)
              by_cases hxG : x ∈ G
              · have d1 : decide (x ∈ G) = true := by simpa using hxG
                have d2 : decide (x ∈ C) = true := by simpa using HT3.out x HxM.out hxG
                have hH1 := has14_any ga gc x G v6 Hq.g.vec (by unfold maxLen; omega)
                rw [d1] at hH1
                refine hH1.mono ?_
                rintro e x1 ⟨rfl, hbx1⟩
                have Hq1 := Hq.below hbx1
                have hH2 := has14_any ca cc x C x1 Hq1.c.vec (by unfold maxLen; omega)
                rw [d2] at hH2
                obtain ⟨p2, p3⟩ := bx2 Hq1.n.box
                have hck1 := (hbx1.cell (World.block_lt_of_cell? _ _ hck)).trans hck
                clear p0 p1 hck hH1 Hq Hq1 d1 d2
                go_wp2_with fail
                refine hH2.mono ?_
                rintro e x2 ⟨rfl, hbx2⟩
                have hbx := hbx1.trans (hbx2.mono hbx1.size)
                have HBZ : Hid (Below w11.heap.size w11 x2) := HB.out.trans (hbx.mono HB.out.size)
                have HOZ := HO.out.below hbx HO.out.blk
                have HOZ2 : Hid _ := HOZ
                clear HOZ hH2 hbx1 hbx2 hbx p2 p3 hck1
                go_wp2
                go_roundw
                case rel => exact ⟨k + 1, g6, og6, c6, V ++ [x], by omega, by go_num, by rw [HVl.out], hVk2, NX.out, NM.out, NG.out, HOZ2.out, HBZ.out⟩
                case measure => simp [intOf]; omega
              · have d1 : decide (x ∈ G) = false := by simpa using hxG
                have hH1 := has14_any ga gc x G v6 Hq.g.vec (by unfold maxLen; omega)
                rw [d1] at hH1
                refine hH1.mono ?_
                rintro e x2 ⟨rfl, hbx⟩
                have HBZ : Hid (Below w11.heap.size w11 x2) := HB.out.trans (hbx.mono HB.out.size)
                have HOZ := HO.out.below hbx HO.out.blk
                have HOZ2 : Hid _ := HOZ
                clear HOZ hH1 hbx p0 p1 hck Hq d1
                go_wp2
                go_roundw
                case rel => exact ⟨k + 1, g6, og6, c6, V ++ [x], by omega, by go_num, by rw [HVl.out], hVk2, NX.out, NM.out, NG.out, HOZ2.out, HBZ.out⟩
                case measure => simp [intOf]; omega
            · have d0 : decide (x ∈ T') = false := by simpa using hxT
              rw [d0]
              clear d0
              have HO : Hid (OI wF g og V.length cg V) := oF
              clear oF
              have NM : Hid (∀ j, j < k + 1 → el Mn j ∈ T' → el Mn j ∈ V) := fun j hj hT => by
                rcases HXm.out j hj with h | h
                · exact HVm.out j h hT
                · rw [h] at hT; exact absurd hT hxT
              have Hq := HX.out.below HB.out
              obtain ⟨p0, p1⟩ := bx2 Hq.n.box
              have hck := (HCk.out _ HB.out)
              by_cases hxG : x ∈ G
              · have d1 : decide (x ∈ G) = true := by simpa using hxG
                have d2 : decide (x ∈ C) = true := by simpa using HT3.out x HxM.out hxG
                have hH1 := has14_any ga gc x G wF Hq.g.vec (by unfold maxLen; omega)
                rw [d1] at hH1
                go_wp2_with fail
                refine hH1.mono ?_
                rintro e x1 ⟨rfl, hbx1⟩
                have Hq1 := Hq.below hbx1
                have hH2 := has14_any ca cc x C x1 Hq1.c.vec (by unfold maxLen; omega)
                rw [d2] at hH2
                obtain ⟨p2, p3⟩ := bx2 Hq1.n.box
                have hck1 := (hbx1.cell (World.block_lt_of_cell? _ _ hck)).trans hck
                clear p0 p1 hck hH1 Hq Hq1 d1 d2
                go_wp2_with fail
                refine hH2.mono ?_
                rintro e x2 ⟨rfl, hbx2⟩
                have hbx := hbx1.trans (hbx2.mono hbx1.size)
                have HBZ : Hid (Below w11.heap.size w11 x2) := HB.out.trans (hbx.mono HB.out.size)
                have HOZ := HO.out.below hbx HO.out.blk
                have HOZ2 : Hid _ := HOZ
                clear HOZ hH2 hbx1 hbx2 hbx p2 p3 hck1
                go_wp2
                go_roundw
                case rel => exact ⟨k + 1, g, og, cg, V, by omega, by go_num, rfl, by omega, HVx.out, NM.out, hgX, HOZ2.out, HBZ.out⟩
                case measure => simp [intOf]; omega
              · have d1 : decide (x ∈ G) = false := by simpa using hxG
                have hH1 := has14_any ga gc x G wF Hq.g.vec (by unfold maxLen; omega)
                rw [d1] at hH1
                go_wp2_with fail
                refine hH1.mono ?_
                rintro e x2 ⟨rfl, hbx⟩
                have HBZ : Hid (Below w11.heap.size w11 x2) := HB.out.trans (hbx.mono HB.out.size)
                have HOZ := HO.out.below hbx HO.out.blk
                have HOZ2 : Hid _ := HOZ
                clear HOZ hH1 hbx p0 p1 hck Hq d1
                go_wp2
                go_roundw
                case rel => exact ⟨k + 1, g, og, cg, V, by omega, by go_num, rfl, by omega, HVx.out, NM.out, hgX, HOZ2.out, HBZ.out⟩
                case measure => simp [intOf]; omega
          · have k1 : ¬ ((k : Int) < (Mn.length : Int)) := by omega
            have hmj2 : mjP (F', T') V := HT4.out V (fun y hy hT => by
              obtain ⟨j, hj, e⟩ := el_mem9.1 hy
              rw [← e] at hT ⊢
              exact HVm.out j (by omega) hT)
            have d1 : decide (mjP (F', T') V) = true := by simpa using hmj2
            have d2 : decide (okVw (N, Mn)) = true := by simpa using HT1.out
            have hwr : wrap64 (F' + 1) = F' + 1 := by unfold wrap64; omega
            have hne : (N == F' + 1) = true := by rw [HT2.out]; simp
            have hV := hVo N na nc Mn wr hNv Hr.n.vcp (by omega)
            rw [d2] at hV
            unfold vwV at hV
            obtain ⟨p0, p1⟩ := bx2 Hr.n.box
            go_wp2_with fail
            refine hV.mono ?_
            rintro e x1 ⟨rfl, hb1⟩
            have H1 := Hr.below hb1
            have oX : OI x1 g og V.length cg V := hO.below hb1 hO.blk
            have hM := hMx x1 _ cg V H1.x.vcp (oi_vcp oX (fun y hy => by have := HVx.out y hy; omega)) (by omega)
            rw [d1] at hM
            obtain ⟨q0, q1⟩ := bx2 H1.n.box
            obtain ⟨q2, q3⟩ := bx2 H1.x.box
            have HZ : Hid (Below w.heap.size w x1) := H1.bel
            clear hV p0 p1 Hr hO hBX H1 oX hb1 d1 d2 hmj2
            go_wp2_with fail
            refine hM.mono ?_
            rintro e x2 ⟨rfl, hb2⟩
            have HZ2 : Hid (Below w.heap.size w x2) := HZ.out.trans (hb2.mono HZ.out.size)
            clear hM q0 q1 q2 q3 hb2
            go_wp2
            go_ret
            exact ⟨rfl, HZ2.out⟩
end Go.Proofs.Ytbmpapmdkmnhhaa
