/-
  Several texts in one: Vwa Vwh.
-/
import Derived.Test.YtbmpapmdkmnhhaaLz
import Derived.Test.YtbmpapmdkmnhhaaJp
import Derived.Test.YtbmpapmdkmnhhaaLp
import Derived.Test.YtbmpapmdkmnhhaaHh
import Derived.Test.YtbmpapmdkmnhhaaKp
import Derived.Test.YtbmpapmdkmnhhaaGb
import Derived.Test.YtbmpapmdkmnhhaaGa
import Derived.Deep.RegionHeld3
/-
  The contract of the specification's After.
-/
namespace Go.Proofs.Ytbmpapmdkmnhhaa
set_option linter.unusedVariables false
set_option linter.unusedSimpArgs false
open Go.RowKit Go.Sort

theorem mixed14 : Try.prog.follows .mixedOrders = true := by kernel_rfl
theorem one14 (w : World) (o : Obj) : Below w.heap.size w (w.alloc o) := (Below.refl _ _).alloc (Nat.le_refl _) _
/-- What After holds: the view that came, the answer's room. -/
structure VH (w W : World) (F : Int) (a : Option Addr) (n cap : Nat) : Prop where
  box : Bx W w.heap.size 34 #[.int .i64 F, .slice a n cap]
  res : Bx W (w.heap.size + 1) 34 #[.int .i64 0, .slice none 0 0]
  below : Below w.heap.size w W
theorem VH.start (w : World) (F : Int) (a : Option Addr) (n cap : Nat) : VH w ((w.alloc (.cells #[.int .i64 F, .slice a n cap] 34)).alloc (.cells #[.int .i64 0, .slice none 0 0] 34)) F a n cap := by
  refine ⟨(Bx.new _ _ _).alloc _, ?_, ((Below.refl _ _).alloc (Nat.le_refl _) _).alloc (by simp) _⟩
  have := Bx.new (w.alloc (.cells #[.int .i64 F, .slice a n cap] 34)) 34 #[.int .i64 0, .slice none 0 0]
  simpa using this
theorem VH.step {w W W' : World} {F : Int} {a : Option Addr} {n cap : Nat} (h : VH w W F a n cap) (hb : Below W.heap.size W W') : VH w W' F a n cap := ⟨h.box.below hb, h.res.below hb, h.below.trans (hb.mono h.below.size)⟩
/-- Another new block is written. -/
theorem VH.other {w W W' : World} {F : Int} {a : Option Addr} {n cap : Nat} {f : Fp} (h : VH w W F a n cap) (hw : Wrt f W W') (hf : ∀ b, f b → w.heap.size + 2 ≤ b) : VH w W' F a n cap := ⟨h.box.wrt hw (fun h => by have := hf _ h; omega), h.res.wrt hw (fun h => by have := hf _ h; omega), hw.below h.below h.below.size (fun b hb => by have := hf b hb; omega)⟩
/-- A view and a flag as an answer. -/
def AnsVb (w w' : World) (e : Ending) (v : Vw × Bool) : Prop := ∃ a c, e = .returned (.tuple #[vwV v.1.1 a v.1.2.length c, .bool v.2]) ∧ NewO w w' (icl v.1.2) (.slice a v.1.2.length c)
theorem newO_nilV {w w' : World} (hb : Below w.heap.size w w') : NewO w w' (icl []) (.slice none 0 0) := ⟨fun _ => False, ow_icl.2 ⟨none, 0, none, rfl, OSo.nil _ _ plainN, fun b => by simp⟩, fun _ h => absurd h id, hb⟩
/-- The zero view is stored into the answer's room. -/
theorem VH.zero {w W : World} {F : Int} {a : Option Addr} {n cap : Nat} (h : VH w W F a n cap) : (((W.setCell ⟨w.heap.size + 1, 0, none⟩ (.int .i64 0)).setCell ⟨w.heap.size + 1, 1, none⟩ (.slice none 0 0)).cell? ⟨w.heap.size + 1, 0, none⟩ = some (.int .i64 0) ∧ ((W.setCell ⟨w.heap.size + 1, 0, none⟩ (.int .i64 0)).setCell ⟨w.heap.size + 1, 1, none⟩ (.slice none 0 0)).cell? ⟨w.heap.size + 1, 1, none⟩ = some (.slice none 0 0)) ∧ NewO w ((W.setCell ⟨w.heap.size + 1, 0, none⟩ (.int .i64 0)).setCell ⟨w.heap.size + 1, 1, none⟩ (.slice none 0 0)) (icl []) (.slice none 0 0) := by
  refine ⟨bx2 (T := 34) ?_, newO_nilV (setb2 h.below (Nat.le_succ _))⟩
  have := (h.res.setC 0 (.int .i64 0)).setC 1 (.slice none 0 0)
  simpa using this
/-- l1Put onto a list of one's own. -/
theorem put_ow (a : Option Addr) (cap : Nat) (xs : List Int) (n : Int) (w : World) (fp : Fp) (ho : Cel.ow w (icl xs) (.slice a xs.length cap) fp) (hf : Fits xs) (hn : xs.length ≤ 100000000) :
    Calls Try.prog 80 #[.slice a xs.length cap, .int .i64 n] w fun e w' => ∃ a' c' fp', e = .returned (.slice a' (putL xs n).length c') ∧ Cel.ow w' (icl (putL xs n)) (.slice a' (putL xs n).length c') fp' ∧ (∀ b, fp' b → fp b ∨ w.heap.size ≤ b) ∧ Below w.heap.size w w' := by
  obtain ⟨a0, c0, e0, hv, h1, h2⟩ := vw_icl (Cel.ow_vw ho) hf
  cases e0
  obtain ⟨a1, c1, G, e1, hs, hG⟩ := ow_icl.1 ho
  cases e1
  have hnone : a = none → cap = 0 := fun e => by
    rcases hs with ⟨_, h, _⟩ | ⟨g, off, ha, _⟩
    · exact h
    · rw [ha] at e; cases e
  refine (putO_any a cap xs n w hv hnone h1 h2 hn hs.plain).mono ?_
  rintro e w' (⟨rfl, h3, rfl⟩ | ⟨g, off, c, rfl, hg, hO, hb⟩)
  · exact ⟨a, cap, fp, by rw [h3], by rw [h3]; exact ho, fun b hb => .inl hb, Below.refl _ _⟩
  · exact ⟨_, c, fun b => b = g, rfl, ow_icl.2 ⟨_, c, some g, rfl, OSo.of hO, fun b => by simp [eq_comm]⟩, fun b hb => .inr (by rw [hb]; exact hg), hb⟩
theorem lft_step {M gone : List Int} {k : Nat} (h : k < M.length) : lftL (M.take (k + 1)) gone = lftL (M.take k) gone ++ (if el M k ∈ gone then [] else [el M k]) := by
  have e : M.take (k + 1) = M.take k ++ [el M k] := by
    rw [List.take_succ_eq_append_getElem h]
    simp [el, List.getD, h]
  rw [e]
  unfold lftL
  rw [List.filter_append]
  by_cases h2 : el M k ∈ gone <;> simp [h2]
theorem lft_len (M gone : List Int) : (lftL M gone).length ≤ M.length := List.length_filter_le _ _
theorem puts_step {L come : List Int} {k : Nat} (h : k < come.length) : putsL L (come.take (k + 1)) = putL (putsL L (come.take k)) (el come k) := by
  have e : come.take (k + 1) = come.take k ++ [el come k] := by
    rw [List.take_succ_eq_append_getElem h]
    simp [el, List.getD, h]
  rw [e, puts_snoc]
theorem puts_fits {L come : List Int} (h1 : Fits L) (h2 : Fits come) (k : Nat) : Fits (putsL L (come.take k)) := fun x hx => by
  rcases mem_puts.1 hx with h | h
  · exact h1 x h
  · exact h2 x (List.mem_of_mem_take h)
/-- What the second loop holds: the new view in block O. -/
structure AH (w W : World) (F : Int) (a : Option Addr) (n cap O : Nat) (oa : Option Addr) (oc : Nat) (P : List Int) (fp : Fp) : Prop where
  vh : VH w W F a n cap
  out : Bx W O 34 #[.int .i64 (F + 1), .slice oa P.length oc]
  own : Cel.ow W (icl P) (.slice oa P.length oc) fp
  fpl : ∀ b, fp b → w.heap.size + 2 ≤ b ∧ b ≠ O
  hO : w.heap.size + 2 ≤ O
theorem AH.drewN {w W : World} {F : Int} {a : Option Addr} {n cap O : Nat} {oa : Option Addr} {oc : Nat} {P : List Int} {fp : Fp} (h : AH w W F a n cap O oa oc P fp) (k : Nat) : AH w (W.drewN k) F a n cap O oa oc P fp :=
  ⟨h.vh.step (Same.drewN W k).below, h.out.below (Same.drewN W k).below, Cel.ow_below h.own (Same.drewN W k).below, h.fpl, h.hO⟩
/-- One more is put, and stored. -/
theorem AH.put {w W W' : World} {F : Int} {a : Option Addr} {n cap O : Nat} {oa a' : Option Addr} {oc c' : Nat} {P P' : List Int} {fp fp' : Fp} (h : AH w W F a n cap O oa oc P fp) (hb : Below W.heap.size W W') (ho : Cel.ow W' (icl P') (.slice a' P'.length c') fp') (hf : ∀ b, fp' b → fp b ∨ W.heap.size ≤ b) :
    AH w (W'.setCell ⟨O, 1, none⟩ (.slice a' P'.length c')) F a n cap O a' c' P' fp' := by
  have hO := h.hO
  have hOl := h.out.lt
  have hf' : ∀ b, fp' b → w.heap.size + 2 ≤ b ∧ b ≠ O := fun b hb' => by
    rcases hf b hb' with h1 | h1
    · exact h.fpl b h1
    · omega
  have hw := Wrt.set W' O 1 (.slice a' P'.length c')
  refine ⟨(h.vh.step hb).other hw (fun b e => by rw [e]; exact hO), ?_, Cel.ow_wrt ho hw (fun b hb' e => (hf' b hb').2 e), hf', hO⟩
  have := (h.out.below hb).setC 1 (.slice a' P'.length c')
  simpa using this
set_option maxRecDepth 100000 in
set_option maxHeartbeats 6400000 in
theorem aftS_any (F : Int) (a : Option Addr) (cap : Nat) (M : List Int) (b1 : Option Addr) (cb1 : Nat) (gone : List Int) (b2 : Option Addr) (cb2 : Nat) (come : List Int) (w : World) (hv : Vec w a M.length M) (hm : M.length ≤ 1048576) (hg : Vec w b1 gone.length gone) (hgm : gone.length ≤ 1048576) (hc : Vec w b2 come.length come) (hcm : come.length ≤ 1048576) :
    Calls Try.prog 36 #[vwV F a M.length cap, .slice b1 gone.length cb1, .slice b2 come.length cb2] w fun e w' => AnsVb w w' e (aftL (F, M) gone come) := by
  obtain ⟨i0, hi0, hz0, hz1, hz2⟩ := info_parts2n Try.info2n
  have hH := VH.start w F a M.length cap
  have hK := vwkS_any F a cap M _ (hv.below hH.below (Nat.le_refl _)) (by unfold maxLen; omega)
  have hmix := mixed14
  have HV : Hid (Vec w a M.length M) := hv
  have HGO : Hid (Vec w b1 gone.length gone) := hg
  have HCO : Hid (Vec w b2 come.length come) := hc
  obtain ⟨q0, q1⟩ := bx2 hH.box
  unfold vwV at hK ⊢
  clear hv hg hc
  by_cases hok : okVw (F, M)
  · rw [decide_eq_true hok] at hK
    have h8 := hok.2.1
    have hF := hok.1
    dsimp only at h8 hF
    have HOK : Hid (okVw (F, M)) := hok
    have hMf : Fits M := fun x hx => by have := hok.2.2.2 x hx; omega
    clear hok
    have HH : Hid (VH w ((w.alloc (.cells #[.int .i64 F, .slice a M.length cap] 34)).alloc (.cells #[.int .i64 0, .slice none 0 0] 34)) F a M.length cap) := hH
    clear hH
    go_enter Try.func36, Try.ntmps36
    go_wp2_with (go_at_call 35; refine hK.mono ?_; rintro e w1 ⟨rfl, hg1⟩)
    have H1 := HH.out.step hg1.1
    have hs1 : w.heap.size + 2 ≤ w1.heap.size := by have := hg1.1.size; simp at this; omega
    have H2 := H1.step (one14 w1 (.cells #[] 2))
    have HH2 : Hid (VH w (w1.alloc (.cells #[] 2)) F a M.length cap) := H2
    clear H1 H2 HH hg1 hK q0 q1
    go_loopw [8, 9] (fun v i wr => ∃ (k g og cg : Nat), k ≤ M.length ∧ i = .int .i64 (k : Int) ∧ v = .slice (some ⟨g, og, none⟩) (lftL (M.take k) gone).length cg ∧ w.heap.size + 2 ≤ g ∧ OI wr g og (lftL (M.take k) gone).length cg (lftL (M.take k) gone) ∧ VH w wr F a M.length cap) (fun _ i _ => M.length - (intOf i).toNat)
    case atStart => exact ⟨0, w1.heap.size, 0, 0, Nat.zero_le _, rfl, rfl, hs1, num_empty _ 2, HH2.out⟩
    case round =>
      clear HH2 hs1
      obtain ⟨k, g, og, cg, hk, rfl, rfl, hgg, hO, hVH⟩ := hrel
      obtain ⟨q0, q1⟩ := bx2 hVH.box
      have LO : Hid (OI wr g og (lftL (M.take k) gone).length cg (lftL (M.take k) gone)) := hO
      have LH : Hid (VH w wr F a M.length cap) := hVH
      have LLE : (lftL (M.take k) gone).length ≤ 8 := Nat.le_trans (lft_len _ _) (by simp; omega)
      clear hO
      by_cases hlt : k < M.length
      · have k1 : (k : Int) < (M.length : Int) := by omega
        have k0 : (0 : Int) ≤ (k : Int) := by omega
        have hB := hVH.below
        obtain ⟨bm, om, rfl, hcell⟩ := (HV.out.below hB (Nat.le_refl _)).cells h8.1
        have hck := hcell k hlt
        have hHas := l1Has_any b1 gone.length cb1 (el M k) gone wr (HGO.out.below hB (Nat.le_refl _)) (by unfold maxLen; omega)
        have HST : Hid (lftL (M.take (k + 1)) gone = lftL (M.take k) gone ++ (if el M k ∈ gone then [] else [el M k])) := lft_step hlt
        clear hcell hB hVH
        by_cases hin : el M k ∈ gone
        · have HN : Hid (lftL (M.take (k + 1)) gone = lftL (M.take k) gone) := by rw [Hid, HST.out, if_pos hin]; simp
          rw [decide_eq_true hin] at hHas
          clear hin HST
          generalize el M k = E at *
          go_wp2_with (go_at_call 77; refine hHas.mono ?_; rintro e w' ⟨rfl, hw'⟩; rw [hw']; clear hw')
          go_roundw
          case rel => exact ⟨k + 1, g, og, cg, by omega, by go_num, by rw [HN.out], hgg, by rw [HN.out]; exact LO.out, LH.out⟩
          case measure => simp [intOf]; omega
        · have HN : Hid (lftL (M.take (k + 1)) gone = lftL (M.take k) gone ++ [el M k]) := by rw [Hid, HST.out, if_neg hin]
          rw [decide_eq_false hin] at hHas
          clear hin HST
          generalize el M k = E at *
          generalize hX1 : lftL (M.take (k + 1)) gone = X1 at *
          generalize lftL (M.take k) gone = X0 at *
          have hO2 : OSl (wr.alloc (.cells #[.int .i64 E] 2)) 1 g og X0.length cg (X0.map (Value.int .i64)) := OSl.below LO.out ((Below.refl _ _).alloc (Nat.le_refl _) _) LO.out.blk
          go_wp2_with (first
            | (go_at_call 77; refine hHas.mono ?_; rintro e w' ⟨rfl, hw'⟩; rw [hw']; clear hw')
            | (at_builtin; refine wpList_append_os _ rfl _ _ _ rfl 2 i0 _ 1 8 Try.underlying24 hi0 hz0 hz1 hz2 rfl (by omega) g og X0.length cg _ rfl hO2 ⟨wr.heap.size, 0, none⟩ 1 1 [.int .i64 E] rfl rfl (World.news_of_block (cs := #[.int .i64 E]) (t := 2) (fr := (0, 0)) (heap_alloc_new _ _)) (by simp [Value.oneCell']) (by unfold maxLen; omega) (by omega) ?_; intro g6 o6 c6 w6 hO6 hg6 hat6))
          have hsz : w.heap.size + 2 ≤ wr.heap.size := by have := LO.out.blk; omega
          have NG : Hid (w.heap.size + 2 ≤ g6) := by
            rcases hat6 with h | h
            · rw [h]; exact hgg
            · rw [h]; exact Nat.le_trans hsz (by simp)
          have NL : Hid (X1.length = X0.length + 1) := by rw [Hid, HN.out]; simp
          have NO : Hid (OI w6 g6 o6 X1.length c6 X1) := by
            rw [Hid, NL.out, HN.out, OI, List.map_append]; exact hO6
          have NH : Hid (VH w w6 F (some ⟨bm, om, none⟩) M.length cap) := (LH.out.step (one14 wr (.cells #[.int .i64 E] 2))).other (Wrt.of_grown hg6) (fun b hb => by cases hb; exact hgg)
          clear hO6 hg6 hat6 hO2 hsz
          go_roundw
          case rel => exact ⟨k + 1, g6, o6, c6, by omega, by go_num, by rw [hX1, NL.out], NG.out, by rw [hX1]; exact NO.out, NH.out⟩
          case measure => simp [intOf]; omega
      · have k1 : ¬ ((k : Int) < (M.length : Int)) := by omega
        obtain rfl : k = M.length := by omega
        rw [List.take_length] at LO LLE ⊢
        have hLf : Fits (lftL M gone) := fun x hx => hMf x (mem_lft.1 hx).1
        have hMj := majS_any F a cap M (some ⟨g, og, none⟩) cg (lftL M gone) wr (HV.out.below hVH.below (Nat.le_refl _)) hm (LO.out.vec hLf) (by unfold maxLen; omega)
        unfold vwV at hMj
        clear hVH
        generalize hLL : lftL M gone = L at *
        have HLL : Hid (lftL M gone = L) := hLL
        clear hLL
        by_cases hmj : mjP (F, M) L
        · rw [decide_eq_true hmj] at hMj
          have HMJ : Hid (mjP (F, M) L) := hmj
          have hwF : wrap64 (F + 1) = F + 1 := by unfold wrap64; omega
          clear hmj
          go_wp2_with fail
          refine hMj.mono ?_
          rintro e w2 ⟨rfl, hg2⟩
          have H2 := LH.out.step hg2.1
          obtain ⟨t0, t1⟩ := bx2 H2.box
          have O2 := LO.out.below hg2.1 LO.out.blk
          have hs2 : w.heap.size + 2 ≤ w2.heap.size := by have := O2.blk; omega
          have HA0 : Hid (AH w (w2.alloc (.cells #[.int .i64 (F + 1), .slice (some ⟨g, og, none⟩) L.length cg] 34)) F a M.length cap w2.heap.size (some ⟨g, og, none⟩) cg L (fun b => b = g)) := by
            have hb3 := one14 w2 (.cells #[.int .i64 (F + 1), .slice (some ⟨g, og, none⟩) L.length cg] 34)
            exact ⟨H2.step hb3, Bx.new _ _ _, Cel.ow_below (ow_icl.2 ⟨_, _, some g, rfl, OSo.of O2, fun b => by simp [eq_comm]⟩) hb3, fun b hb => by rw [hb]; exact ⟨hgg, by have := O2.blk; omega⟩, hs2⟩
          clear hMj H2 O2 LO LH hg2 q0 q1
          go_wp2_with fail
          clear hwF t0 t1
          generalize hO : w2.heap.size = O at *
          go_loopw [11] (fun i wr => ∃ (k oc : Nat) (oa : Option Addr) (fp : Fp), k ≤ come.length ∧ i = .int .i64 (k : Int) ∧ AH w wr F a M.length cap O oa oc (putsL L (come.take k)) fp) (fun i _ => come.length - (intOf i).toNat)
          case atStart => exact ⟨0, cg, some ⟨g, og, none⟩, _, Nat.zero_le _, rfl, HA0.out⟩
          case round =>
            clear HA0
            obtain ⟨k, oc, oa, fp, hk, rfl, hA⟩ := hrel
            have hPl : (putsL L (come.take k)).length ≤ 100000000 := Nat.le_trans (puts_len _ _) (by simp; omega)
            by_cases hlt : k < come.length
            · have k1 : (k : Int) < (come.length : Int) := by omega
              have k0 : (0 : Int) ≤ (k : Int) := by omega
              have hA1 : AH w wr.drew F a M.length cap O oa oc (putsL L (come.take k)) fp := hA.drewN 1
              have hBw := hA1.vh.below
              obtain ⟨bc, o3, rfl, hcc⟩ := (HCO.out.below hBw (Nat.le_refl _)).cells (by omega)
              have hck := hcc k hlt
              obtain ⟨c0, c1⟩ := bx2 hA1.out
              have hPf : Fits (putsL L (come.take k)) := puts_fits hLf HCO.out.2.1 k
              have hPut := put_ow oa oc (putsL L (come.take k)) (el come k) wr.drew fp hA1.own hPf hPl
              have HST : Hid (putsL L (come.take (k + 1)) = putL (putsL L (come.take k)) (el come k)) := puts_step hlt
              rw [← HST.out] at hPut
              clear hcc hBw hPf
              generalize el come k = E at *
              generalize hP1 : putsL L (come.take (k + 1)) = P1 at *
              generalize putsL L (come.take k) = P0 at *
              go_wp2_with fail
              go_region_law
                (go_simp; go_at_call 80; refine hPut.mono ?_; rintro e w4 ⟨a4, c4, fp4, rfl, ho4, hf4, hb4⟩; have N4 := hA1.put hb4 ho4 hf4; have d1 := (bx2 (hA1.out.below hb4)).2; have d2 := (hA1.out.below hb4).f 1)
              all_goals
                have HN4 : Hid (AH w (w4.setCell ⟨O, 1, none⟩ (.slice a4 P1.length c4)) F a M.length cap O a4 c4 P1 fp4) := N4
                clear N4 d1 d2 hb4 ho4 hf4 hA hA1 hPut
                go_wp2
                go_roundw
                case rel => exact ⟨k + 1, c4, a4, fp4, by omega, by go_num, by rw [hP1]; exact HN4.out⟩
                case measure => simp [intOf]; omega
            · have k1 : ¬ ((k : Int) < (come.length : Int)) := by omega
              obtain rfl : k = come.length := by omega
              rw [List.take_length] at hA hPl
              obtain ⟨c0, c1⟩ := bx2 hA.out
              have hPf : Fits (putsL L come) := by have := puts_fits hLf HCO.out.2.1 come.length; rwa [List.take_length] at this
              obtain ⟨x0, y0, e0, hvP, h1P, h2P⟩ := vw_icl (Cel.ow_vw hA.own) hPf
              cases e0
              have hK2 := vwkS_any (F + 1) oa oc (putsL L come) wr hvP (by unfold maxLen; omega)
              unfold vwV at hK2
              have HAF : Hid (∀ h : okVw (F + 1, putsL L come), aftL (F, M) gone come = ((F + 1, putsL L come), true)) := fun h => by
                have hp : aftP (F, M) gone come := ⟨HOK.out, by rw [HLL.out]; exact HMJ.out, by rw [HLL.out]; exact h⟩
                rw [aftL, if_pos hp, HLL.out]
              have HAN : Hid (¬ okVw (F + 1, putsL L come) → aftL (F, M) gone come = ((0, []), false)) := fun h => by
                rw [aftL, if_neg]
                intro hp
                exact h (by have := hp.2.2; rw [HLL.out] at this; exact this)
              generalize putsL L come = P at *
              by_cases hok2 : okVw (F + 1, P)
              · have HZ : Hid (aftL (F, M) gone come = ((F + 1, P), true)) := HAF.out hok2
                rw [decide_eq_true hok2] at hK2
                clear hok2 HAF HAN hvP
                go_wp2_with fail
                refine hK2.mono ?_
                rintro e w5 ⟨rfl, hg5⟩
                have H5 := hA.vh.step hg5.1
                have O5 := hA.out.below hg5.1
                have W5 := Cel.ow_below hA.own hg5.1
                obtain ⟨d0, d1⟩ := bx2 O5
                obtain ⟨r0, r1⟩ := bx2 H5.res
                have f0 := H5.res.f 0
                have f1 := H5.res.f 1
                have hw5 := setw2 w5 (w.heap.size + 1) (x := .int .i64 (F + 1)) (y := .slice oa P.length oc)
                obtain ⟨z0, z1⟩ := bx2 (T := 34) (x := .int .i64 (F + 1)) (y := .slice oa P.length oc) (by simpa using (H5.res.setC 0 (.int .i64 (F + 1))).setC 1 (.slice oa P.length oc))
                have HN : Hid (NewO w ((w5.setCell ⟨w.heap.size + 1, 0, none⟩ (.int .i64 (F + 1))).setCell ⟨w.heap.size + 1, 1, none⟩ (.slice oa P.length oc)) (icl P) (.slice oa P.length oc)) :=
                  ⟨fp, Cel.ow_wrt W5 hw5 (fun b hb e => by have := (hA.fpl b hb).1; omega), fun b hb => by have := (hA.fpl b hb).1; omega, setb2 H5.below (Nat.le_succ _)⟩
                clear hA hg5 H5 O5 W5 hK2 c0 c1
                go_wp2
                refine bodyPost_ret (v := .tuple #[.agg #[.int .i64 (F + 1), .slice oa P.length oc], .bool true]) (by simp [results, Try.results36, go_sem, z0, z1]) rfl ?_
                rw [HZ.out]
                exact ⟨oa, oc, rfl, HN.out⟩
              · have HZ : Hid (aftL (F, M) gone come = ((0, []), false)) := HAN.out hok2
                rw [decide_eq_false hok2] at hK2
                clear hok2 HAF HAN hvP
                go_wp2_with fail
                refine hK2.mono ?_
                rintro e w5 ⟨rfl, hg5⟩
                have H2 := hA.vh.step hg5.1
                obtain ⟨r0, r1⟩ := bx2 H2.res
                have f0 := H2.res.f 0
                have f1 := H2.res.f 1
                obtain ⟨⟨z0, z1⟩, hN⟩ := H2.zero
                have HN : Hid (NewO w ((w5.setCell ⟨w.heap.size + 1, 0, none⟩ (.int .i64 0)).setCell ⟨w.heap.size + 1, 1, none⟩ (.slice none 0 0)) (icl []) (.slice none 0 0)) := hN
                clear hN H2 hg5 hA hK2 c0 c1
                go_wp2
                refine bodyPost_ret (v := .tuple #[.agg #[.int .i64 0, .slice none 0 0], .bool false]) (by simp [results, Try.results36, go_sem, z0, z1]) rfl ?_
                rw [HZ.out]
                exact ⟨none, 0, rfl, HN.out⟩
        · rw [decide_eq_false hmj] at hMj
          have HZ : Hid (aftL (F, M) gone come = ((0, []), false)) := by
            rw [Hid, aftL, if_neg]
            intro h
            exact hmj (by have := h.2.1; rw [HLL.out] at this; exact this)
          clear hmj
          go_wp2_with fail
          refine hMj.mono ?_
          rintro e w2 ⟨rfl, hg2⟩
          have H2 := LH.out.step hg2.1
          obtain ⟨r0, r1⟩ := bx2 H2.res
          have f0 := H2.res.f 0
          have f1 := H2.res.f 1
          obtain ⟨⟨z0, z1⟩, hN⟩ := H2.zero
          have HN : Hid (NewO w ((w2.setCell ⟨w.heap.size + 1, 0, none⟩ (.int .i64 0)).setCell ⟨w.heap.size + 1, 1, none⟩ (.slice none 0 0)) (icl []) (.slice none 0 0)) := hN
          clear hN H2 hg2 hMj LO LH q0 q1
          go_wp2
          refine bodyPost_ret (v := .tuple #[.agg #[.int .i64 0, .slice none 0 0], .bool false]) (by simp [results, Try.results36, go_sem, z0, z1]) rfl ?_
          rw [HZ.out]
          exact ⟨none, 0, rfl, HN.out⟩
  · rw [decide_eq_false hok] at hK
    have HZ : Hid (aftL (F, M) gone come = ((0, []), false)) := by
      rw [Hid, aftL, if_neg]
      intro h
      exact hok h.1
    have HH : Hid (VH w ((w.alloc (.cells #[.int .i64 F, .slice a M.length cap] 34)).alloc (.cells #[.int .i64 0, .slice none 0 0] 34)) F a M.length cap) := hH
    clear hok hH
    go_enter Try.func36, Try.ntmps36
    go_wp2_with fail
    refine hK.mono ?_
    rintro e w1 ⟨rfl, hg1⟩
    have H2 := HH.out.step hg1.1
    obtain ⟨r0, r1⟩ := bx2 H2.res
    have f0 := H2.res.f 0
    have f1 := H2.res.f 1
    obtain ⟨⟨z0, z1⟩, hN⟩ := H2.zero
    have HN : Hid (NewO w ((w1.setCell ⟨w.heap.size + 1, 0, none⟩ (.int .i64 0)).setCell ⟨w.heap.size + 1, 1, none⟩ (.slice none 0 0)) (icl []) (.slice none 0 0)) := hN
    clear hN H2 hg1 hK HH q0 q1
    go_wp2
    refine bodyPost_ret (v := .tuple #[.agg #[.int .i64 0, .slice none 0 0], .bool false]) (by simp [results, Try.results36, go_sem, z0, z1]) rfl ?_
    rw [HZ.out]
    exact ⟨none, 0, rfl, HN.out⟩
end Go.Proofs.Ytbmpapmdkmnhhaa

/-
  What the program's functions of views must answer; the laws' own szView, toView, eqView, likeView, markView, heldView.
-/
namespace Go.Proofs.Ytbmpapmdkmnhhaa
set_option linter.unusedVariables false
set_option linter.unusedSimpArgs false
open Go.RowKit Go.Sort

/-- A number of 64 bits. -/
def I64v (x : Int) : Prop := -9223372036854775808 ≤ x ∧ x ≤ 9223372036854775807
/-- A list of numbers that a program is handed: to be read; its address plain. -/
structure VcP (w : World) (a : Option Addr) (c : Nat) (M : List Int) : Prop where
  vec : Vec w a M.length M
  le : M.length ≤ c
  mx : c ≤ maxLen
  pl : PlainA a
  nn : a = none → c = 0
theorem VcP.below {w w' : World} {a : Option Addr} {c : Nat} {M : List Int} (h : VcP w a c M) (hb : Below w.heap.size w w') : VcP w' a c M := ⟨h.vec.below hb (Nat.le_refl _), h.le, h.mx, h.pl, h.nn⟩
theorem ow_vcp {w : World} {a : Option Addr} {c : Nat} {M : List Int} {fp : Fp} (h : Cel.ow w (icl M) (.slice a M.length c) fp) (hf : Fits M) : VcP w a c M := by
  obtain ⟨a0, c0, e0, hv, h1, h2⟩ := vw_icl (Cel.ow_vw h) hf
  cases e0
  obtain ⟨a1, c1, G, e1, hs, hG⟩ := ow_icl.1 h
  cases e1
  refine ⟨hv, h1, h2, hs.plain, fun e => ?_⟩
  rcases hs with ⟨_, h, _⟩ | ⟨g, off, ha, _⟩
  · exact h
  · rw [ha] at e; cases e
theorem it_vcp {w : World} {a : Option Addr} {c lo hi : Nat} {M : List Int} (h : It w [icl M] [.slice a M.length c] lo hi) (hf : Fits M) : VcP w a c M := by
  obtain ⟨f, h1, _⟩ := h.ow1
  exact ow_vcp h1 hf
def ImplViewOk : Prop := ∀ (F : Int) (a : Option Addr) (c : Nat) (M : List Int) (w : World), I64v F → VcP w a c M → M.length ≤ 1048576 → Calls Try.prog 34 #[vwV F a M.length c] w fun e w' => e = .returned (.bool (decide (okVw (F, M)))) ∧ Below w.heap.size w w'
def ImplLeader : Prop := ∀ (F : Int) (a : Option Addr) (c : Nat) (M : List Int) (b : Option Addr) (d : Nat) (s : List Int) (w : World), I64v F → VcP w a c M → M.length ≤ 1048576 → VcP w b d s → s.length ≤ 1048576 → Calls Try.prog 41 #[vwV F a M.length c, .slice b s.length d] w fun e w' => e = .returned (.int .i64 (ldL (F, M) s)) ∧ Below w.heap.size w w'
def ImplMajority : Prop := ∀ (F : Int) (a : Option Addr) (c : Nat) (M : List Int) (b : Option Addr) (d : Nat) (s : List Int) (w : World), I64v F → VcP w a c M → M.length ≤ 1048576 → VcP w b d s → s.length ≤ 1048576 → Calls Try.prog 30 #[vwV F a M.length c, .slice b s.length d] w fun e w' => e = .returned (.bool (decide (mjP (F, M) s))) ∧ Below w.heap.size w w'
def ImplRank : Prop := ∀ (F : Int) (a : Option Addr) (c : Nat) (M : List Int) (node : Int) (w : World), I64v F → VcP w a c M → M.length ≤ 1048576 → I64v node → Calls Try.prog 44 #[vwV F a M.length c, .int .i64 node] w fun e w' => e = .returned (.int .i64 (rnkL (F, M) node)) ∧ Below w.heap.size w w'
def ImplAfter : Prop := ∀ (F : Int) (a : Option Addr) (c : Nat) (M : List Int) (b1 : Option Addr) (d1 : Nat) (gone : List Int) (b2 : Option Addr) (d2 : Nat) (come : List Int) (w : World), I64v F → VcP w a c M → M.length ≤ 1048576 → VcP w b1 d1 gone → gone.length ≤ 1048576 → VcP w b2 d2 come → come.length ≤ 1048576 → Calls Try.prog 32 #[vwV F a M.length c, .slice b1 gone.length d1, .slice b2 come.length d2] w fun e w' => AnsVb w w' e (aftL (F, M) gone come)
set_option maxHeartbeats 400000 in
theorem szI14_any (a : Option Addr) (len cap : Nat) (left : Int) (w : World) (hm : len ≤ maxLen) (hl : 0 ≤ left ∧ left ≤ 1048576) :
    Calls Try.prog 83 #[.slice a len cap, .int .i64 left] w fun e w' => e = .returned (.int .i64 (if (len : Int) ≤ left then left - (len : Int) else -1)) ∧ w' = w := by
  unfold maxLen at hm
  have h1 : wrap64 (left - (len : Int)) = left - (len : Int) := by unfold wrap64; omega
  by_cases h : (len : Int) ≤ left
  · rw [if_pos h]
    have h2 : decide (left - (len : Int) < 0) = false := by simp; omega
    go_enter Try.func83, Try.ntmps83
    go_wp2
    go_ret
    exact ⟨rfl, rfl⟩
  · rw [if_neg h]
    have h2 : decide (left - (len : Int) < 0) = true := by simp; omega
    go_enter Try.func83, Try.ntmps83
    go_wp2
    go_ret
    exact ⟨rfl, rfl⟩
set_option maxRecDepth 100000 in
set_option maxHeartbeats 800000 in
theorem szVw_any (F : Int) (a : Option Addr) (cap : Nat) (M : List Int) (left : Int) (w : World) (hm : M.length ≤ maxLen) (hl : 0 ≤ left ∧ left ≤ 1048576) :
    Calls Try.prog 46 #[vwV F a M.length cap, .int .i64 left] w fun e w' => ∃ q : Int, e = .returned (.int .i64 q) ∧ (q = -1 ∨ 0 ≤ q ∧ q + (M.length : Int) = left) ∧ Below w.heap.size w w' := by
  have hb := one14 w (.cells #[.int .i64 F, .slice a M.length cap] 50)
  have hS := szI14_any a M.length cap left (w.alloc (.cells #[.int .i64 F, .slice a M.length cap] 50)) hm hl
  unfold vwV
  by_cases h : (M.length : Int) ≤ left
  · rw [if_pos h] at hS
    obtain ⟨q, hq⟩ : ∃ q, left - (M.length : Int) = q := ⟨_, rfl⟩
    rw [hq] at hS
    have h0 : decide (q < 0) = false := by simp; omega
    have HQ : Hid (0 ≤ q ∧ q + (M.length : Int) = left) := by rw [Hid]; omega
    clear hq
    go_enter Try.func46, Try.ntmps46
    go_wp2_with (go_at_call 83; refine hS.mono ?_; rintro e w' ⟨rfl, hw'⟩; rw [hw']; clear hw')
    go_ret
    exact ⟨q, rfl, .inr HQ.out, hb⟩
  · rw [if_neg h] at hS
    go_enter Try.func46, Try.ntmps46
    go_wp2_with (go_at_call 83; refine hS.mono ?_; rintro e w' ⟨rfl, hw'⟩; rw [hw']; clear hw')
    go_ret
    exact ⟨-1, rfl, .inl rfl, hb⟩
/-- A view as an answer. -/
def AnsVw (w w' : World) (e : Ending) (v : Vw) : Prop := ∃ a c, e = .returned (vwV v.1 a v.2.length c) ∧ NewO w w' (icl v.2) (.slice a v.2.length c)
set_option maxRecDepth 100000 in
set_option maxHeartbeats 800000 in
theorem toVw_any (F : Int) (a : Option Addr) (cap : Nat) (M : List Int) (w : World) (hv : Vec w a M.length M) (hm : M.length ≤ 1048576) :
    Calls Try.prog 47 #[vwV F a M.length cap] w fun e w' => AnsVw w w' e (F, M) := by
  have hb1 := one14 w (.cells #[.int .i64 F, .slice a M.length cap] 50)
  have hb2 := hb1.trans ((one14 (w.alloc (.cells #[.int .i64 F, .slice a M.length cap] 50)) (.cells #[.int .i64 0, .slice none 0 0] 34)).mono hb1.size)
  have hb3 := hb2.trans ((one14 ((w.alloc (.cells #[.int .i64 F, .slice a M.length cap] 50)).alloc (.cells #[.int .i64 0, .slice none 0 0] 34)) (.cells #[.int .i64 F, .slice none 0 0] 34)).mono hb2.size)
  have x1 := Bx.new (w.alloc (.cells #[.int .i64 F, .slice a M.length cap] 50)) 34 #[.int .i64 0, .slice none 0 0]
  have x2 := Bx.new ((w.alloc (.cells #[.int .i64 F, .slice a M.length cap] 50)).alloc (.cells #[.int .i64 0, .slice none 0 0] 34)) 34 #[.int .i64 F, .slice none 0 0]
  have x1' := x1.alloc (.cells #[.int .i64 F, .slice none 0 0] 34)
  simp only [World.size_alloc] at x1' x2
  have hS := copy_any a M.length cap M _ (hv.below hb3 (Nat.le_refl _)) (by omega)
  have HB : Hid _ := hb3
  have X1 : Hid (Bx (((w.alloc (.cells #[.int .i64 F, .slice a M.length cap] 50)).alloc (.cells #[.int .i64 0, .slice none 0 0] 34)).alloc (.cells #[.int .i64 F, .slice none 0 0] 34)) (w.heap.size + 1) 34 #[.int .i64 0, .slice none 0 0]) := x1'
  have X2 : Hid (Bx (((w.alloc (.cells #[.int .i64 F, .slice a M.length cap] 50)).alloc (.cells #[.int .i64 0, .slice none 0 0] 34)).alloc (.cells #[.int .i64 F, .slice none 0 0] 34)) (w.heap.size + 1 + 1) 34 #[.int .i64 F, .slice none 0 0]) := x2
  unfold vwV
  clear hv hb1 hb2 hb3 x1 x2 x1'
  go_enter Try.func47, Try.ntmps47
  go_wp2_with (go_at_call 49; refine hS.mono ?_; rintro e w2 ⟨b2, rfl, hf2, hO2, hb2⟩; have y1 := X1.out.below hb2; have y2 := X2.out.below hb2; obtain ⟨u0, u1⟩ := bx2 y1; obtain ⟨v0, v1⟩ := bx2 y2; have f1 := y2.f 1; have z2 := y2.setC 1 (.slice (some ⟨b2, 0, none⟩) M.length M.length); have z1 := y1.far (i := 1) (show w.heap.size + 1 ≠ w.heap.size + 1 + 1 by omega) (.slice (some ⟨b2, 0, none⟩) M.length M.length); obtain ⟨p0, p1⟩ := bx2 z1; have q0 := z2.at 0 rfl; have q1 := z2.at 1 rfl; have r0 := z1.f 0; have r1 := z1.f 1)
  refine bodyPost_ret (v := .agg #[.int .i64 F, .slice (some ⟨b2, 0, none⟩) M.length M.length]) (by simp [results, Try.results47, go_sem, *]) rfl ?_
  simp only [World.size_alloc] at hf2
  have ho2 : Cel.ow w2 (icl M) (.slice (some ⟨b2, 0, none⟩) M.length M.length) (fun b => b = b2) := ow_icl.2 ⟨_, _, some b2, rfl, OSo.of (OI.own (RowOf.own hO2 (by unfold maxLen; omega))), fun b => by simp [eq_comm]⟩
  refine ⟨some ⟨b2, 0, none⟩, M.length, rfl, fun b => b = b2, Cel.ow_wrt (Cel.ow_wrt ho2 (Wrt.set w2 (w.heap.size + 1 + 1) 1 _) (fun b hb e => by omega)) (setw2 _ (w.heap.size + 1)) (fun b hb e => by omega), fun b hb => by omega, setb2 ((HB.out.trans (hb2.mono HB.out.size)).setCell (p := ⟨w.heap.size + 1 + 1, 1, none⟩) (show w.heap.size ≤ w.heap.size + 1 + 1 by omega) _) (by omega)⟩
set_option maxRecDepth 100000 in
set_option maxHeartbeats 800000 in
theorem eqVw_any (F : Int) (a a' : Option Addr) (c c' : Nat) (M : List Int) (w : World) (hz : Vec w a M.length M) (hy : Vec w a' M.length M) (hm : M.length ≤ maxLen) :
    Calls Try.prog 48 #[vwV F a M.length c, vwV F a' M.length c'] w fun e w' => e = .returned (.bool true) ∧ Grew w w' := by
  have hg : Grew w ((w.alloc (.cells #[.int .i64 F, .slice a M.length c] 34)).alloc (.cells #[.int .i64 F, .slice a' M.length c'] 34)) := ((Grew.refl _).alloc _).alloc _
  have hE := eq_any a a' M.length c M.length c' M M _ (hz.below hg.1 (Nat.le_refl _)) (hy.below hg.1 (Nat.le_refl _)) hm
  have hd : decide (M = M) = true := by simp
  rw [hd] at hE
  have hne : (F != F) = false := by simp
  unfold vwV
  clear hz hy hd
  go_enter Try.func48, Try.ntmps48
  go_wp2_with (go_at_call 50; refine hE.mono ?_; rintro e w2 ⟨rfl, q2, hw2⟩; have hg2 : Grew w w2 := (by rw [hw2]; exact hg.drewN q2); clear hw2)
  go_ret
  exact ⟨rfl, hg2⟩
set_option maxRecDepth 100000 in
set_option maxHeartbeats 800000 in
theorem likeVw_any (F : Int) (a a' : Option Addr) (c c' : Nat) (M : List Int) (w : World) (hz : Vec w a M.length M) (hy : Vec w a' M.length M) (hm : M.length ≤ maxLen) :
    Calls Try.prog 37 #[vwV F a M.length c, vwV F a' M.length c'] w fun e w' => e = .returned (.bool true) ∧ Grew w w' := by
  have hg : Grew w ((w.alloc (.cells #[.int .i64 F, .slice a M.length c] 34)).alloc (.cells #[.int .i64 F, .slice a' M.length c'] 34)) := ((Grew.refl _).alloc _).alloc _
  have hE := like_any a a' M.length c M.length c' M M _ (hz.below hg.1 (Nat.le_refl _)) (hy.below hg.1 (Nat.le_refl _)) hm
  rw [sameB_self] at hE
  have hne : (F == F) = true := by simp
  unfold vwV
  clear hz hy
  go_enter Try.func37, Try.ntmps37
  go_wp2_with (go_at_call 17; refine hE.mono ?_; rintro e w2 ⟨rfl, q2, hw2⟩; have hg2 : Grew w w2 := (by rw [hw2]; exact hg.drewN q2); clear hw2)
  go_ret
  exact ⟨rfl, hg2⟩
set_option maxRecDepth 100000 in
set_option maxHeartbeats 800000 in
theorem markVw_it (F : Int) (a : Option Addr) (c k0 lo hi : Nat) (M : List Int) (w : World) (h : It w [icl M] [.slice a M.length c] lo hi) (hk : k0 ≤ 10000000) (hn : M.length ≤ 10000000) :
    Calls Try.prog 51 #[vwV F a M.length c, .int .i64 (k0 : Int)] w fun e w' => e = .returned (.int .i64 ((k0 : Int) + (M.length : Int))) ∧ It w' [icl (marks M.length k0)] [.slice a M.length c] lo hi ∧ Wrt (Iv lo hi) w w' := by
  have hb := one14 w (.cells #[.int .i64 F, .slice a M.length c] 34)
  have hM := mkI_it a c k0 lo hi M _ (h.below hb) hk hn
  unfold vwV
  clear h
  go_enter Try.func51, Try.ntmps51
  go_wp2_with (go_at_call 52; refine hM.mono ?_; rintro e w2 ⟨rfl, h2, hw2⟩)
  go_ret
  exact ⟨rfl, h2, (Wrt.of_below hb).trans hw2 (fun _ _ h => h)⟩
set_option maxRecDepth 100000 in
set_option maxHeartbeats 800000 in
theorem heldVw_it (F : Int) (a : Option Addr) (c k0 n lo hi : Nat) (w : World) (h : It w [icl (marks n k0)] [.slice a n c] lo hi) (hk : k0 ≤ 10000000) (hn : n ≤ 10000000) :
    Calls Try.prog 53 #[vwV F a n c, .int .i64 (k0 : Int)] w fun e w' => e = .returned (.int .i64 ((k0 : Int) + (n : Int))) ∧ Below w.heap.size w w' := by
  have hb := one14 w (.cells #[.int .i64 F, .slice a n c] 34)
  have hM := hdI_it a c k0 n lo hi _ (h.below hb) hk hn
  have hnn : ¬ ((k0 : Int) + (n : Int) < 0) := by omega
  unfold vwV
  clear h
  go_enter Try.func53, Try.ntmps53
  go_wp2_with (go_at_call 84; refine hM.mono ?_; rintro e w' ⟨rfl, hw'⟩; rw [hw']; clear hw')
  go_ret
  exact ⟨rfl, hb⟩
end Go.Proofs.Ytbmpapmdkmnhhaa
