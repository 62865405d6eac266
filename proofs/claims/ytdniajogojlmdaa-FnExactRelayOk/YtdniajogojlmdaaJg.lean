/-
  Several texts in one: Rfu Rcn.
-/
import Derived.Test.YtdniajogojlmdaaJf
/-
  The specification's Full.
-/
namespace Go.Proofs.Ytdniajogojlmdaa
set_option linter.unusedVariables false
set_option linter.unusedSimpArgs false
open Go.RowKit Go.Sort

set_option maxRecDepth 100000 in
set_option maxHeartbeats 1600000 in
theorem fulS_any (N B : Int) (a : Option Addr) (len cap : Nat) (H : List (List Int)) (w : World) (hv : VV w a len cap H) :
    Calls Try.prog 40 #[rlV N B a len cap] w fun e w' => e = .returned (.bool (fullB N B H)) ∧ Grew w w' := by
  have hG0 : Grew w (w.alloc (.cells #[.int .i64 N, .int .i64 B, .slice a len cap] 35)) := (Grew.refl _).alloc _
  have hvW := hv.grew hG0
  have hR := rokS_any N B a len cap H _ hvW
  unfold rlV at hR ⊢
  have hHl := hv.n
  have c1 : (w.alloc (.cells #[.int .i64 N, .int .i64 B, .slice a len cap] 35)).cell? ⟨w.heap.size, 1, none⟩ = some (.int .i64 B) := by simp
  have c2 : (w.alloc (.cells #[.int .i64 N, .int .i64 B, .slice a len cap] 35)).cell? ⟨w.heap.size, 2, none⟩ = some (.slice a len cap) := by simp
  have HG : Hid (Grew w (w.alloc (.cells #[.int .i64 N, .int .i64 B, .slice a len cap] 35))) := hG0
  have c0 : (w.alloc (.cells #[.int .i64 N, .int .i64 B, .slice a len cap] 35)).cell? ⟨w.heap.size, 0, none⟩ = some (.int .i64 N) := by simp
  clear hv hG0
  generalize hW0 : w.alloc (.cells #[.int .i64 N, .int .i64 B, .slice a len cap] 35) = W0 at *
  by_cases ho : okRel N B H
  · have hl1 : 1 ≤ len ∧ len ≤ 12 := by have := ho.1; have := ho.2.2.1; omega
    obtain ⟨b, off, x0, q0, rfl, _⟩ := hvW.row 0 (by omega)
    have hrow : Hid (∀ i, i < len → ∃ x c, W0.cell? ⟨b, off + i, none⟩ = some (.slice x (row H i).length c)) := fun i hi => by
      obtain ⟨b', off', x, c, e, h1, h2, h3, h4⟩ := hvW.row i hi
      cases e
      exact ⟨x, c, h1⟩
    have HT : Hid ((∀ i, i < len → ((row H i).length : Int) = B) → fullB N B H = true) := fun h => decide_eq_true ⟨ho, fun i hi => h i (by omega)⟩
    have HN : Hid (∀ i, i < len → ¬ ((row H i).length : Int) = B → fullB N B H = false) := fun i hi h => decide_eq_false (fun k => h (k.2 i (by omega)))
    rw [decide_eq_true ho] at hR
    clear ho hvW
    go_enter Try.func40, Try.ntmps40
    go_wp2_with (go_at_call 42; refine hR.mono ?_; rintro e w1 ⟨rfl, hg1⟩)
    go_loopw [3] (fun i wr => ∃ k n : Nat, k ≤ len ∧ i = .int .i64 k ∧ wr = w1.drewN n ∧ ∀ j, j < k → ((row H j).length : Int) = B) (fun i _ => len - (intOf i).toNat)
    case atStart => exact ⟨0, 0, Nat.zero_le _, rfl, rfl, fun j hj => by omega⟩
    case round =>
      obtain ⟨k, n, hk, rfl, rfl, hall⟩ := hrel
      have HA : Hid (∀ j, j < k → ((row H j).length : Int) = B) := hall
      have d1 := hg1.cell c1
      have d2 := hg1.cell c2
      have HW : Hid (Grew w w1) := HG.out.trans hg1
      clear hall
      by_cases hlt : k < len
      · obtain ⟨x, c, hcx⟩ := hrow.out k hlt
        have hck := hg1.cell hcx
        have k1 : (k : Int) < (len : Int) := by omega
        have k0 : (0 : Int) ≤ (k : Int) := by omega
        by_cases e : ((row H k).length : Int) = B
        · have e' : (((row H k).length : Int) != B) = false := by simpa using e
          have HE : Hid (∀ j, j < k + 1 → ((row H j).length : Int) = B) := fun j hj => by
            rcases Nat.lt_succ_iff_lt_or_eq.1 hj with h1 | h1
            · exact HA.out j h1
            · rw [h1]; exact e
          clear e hg1 hR
          generalize (row H k).length = L at *
          go_wp2_with fail
          go_quiet (fail)
          go_wp2
          go_roundw
          case rel => exact ⟨k + 1, _, by omega, by go_num, rfl, HE.out⟩
          case measure => simp [intOf]; omega
        · have e' : (((row H k).length : Int) != B) = true := by simpa using e
          have HZ : Hid (fullB N B H = false) := HN.out k hlt e
          clear e hg1 hR
          generalize (row H k).length = L at *
          go_wp2_with fail
          go_quiet (fail)
          go_wp2
          go_ret
          exact ⟨ret_bool (by rw [HZ.out]), by first | exact HW.out.drewN _ | exact (HW.out.drewN _).drewN _⟩
      · have HZ : Hid (fullB N B H = true) := HT.out (fun i hi => HA.out i (by omega))
        have hkl : k = len := by omega
        subst hkl
        clear hg1 hR
        go_wp2
        go_ret
        exact ⟨ret_bool (by rw [HZ.out]), HW.out.drewN _⟩
  · rw [decide_eq_false ho] at hR
    have HZ : Hid (fullB N B H = false) := decide_eq_false (fun k => ho k.1)
    clear ho hvW
    go_enter Try.func40, Try.ntmps40
    go_wp2_with (go_at_call 42; refine hR.mono ?_; rintro e w1 ⟨rfl, hg1⟩)
    go_ret
    exact ⟨ret_bool (by rw [HZ.out]), HG.out.trans hg1⟩
end Go.Proofs.Ytdniajogojlmdaa

/-
  Passes in memory; the specification's Chain.
-/
namespace Go.Proofs.Ytdniajogojlmdaa
set_option linter.unusedVariables false
set_option linter.unusedSimpArgs false
open Go.RowKit Go.Sort

/-- Passes as cells. -/
def pvs (L : List Ps) : List Value := L.flatMap (fun c => [.int .i64 c.1, .int .i64 c.2.1, .int .i64 c.2.2])
theorem pvs_len (L : List Ps) : (pvs L).length = L.length * 3 := by
  induction L with
  | nil => rfl
  | cons c L ih => simp only [pvs, List.flatMap_cons, List.length_append, List.length_cons, List.length_nil] at ih ⊢; omega
theorem pvs_snoc (L : List Ps) (c : Ps) : pvs (L ++ [c]) = pvs L ++ [.int .i64 c.1, .int .i64 c.2.1, .int .i64 c.2.2] := by simp [pvs]
theorem pvs_at (L : List Ps) : ∀ i, i < L.length → (pvs L)[i * 3]? = some (.int .i64 (pat L i).1) ∧ (pvs L)[i * 3 + 1]? = some (.int .i64 (pat L i).2.1) ∧ (pvs L)[i * 3 + 2]? = some (.int .i64 (pat L i).2.2) := by
  induction L with
  | nil => intro i hi; simp at hi
  | cons c L ih =>
    intro i hi
    have e : pvs (c :: L) = .int .i64 c.1 :: .int .i64 c.2.1 :: .int .i64 c.2.2 :: pvs L := by simp [pvs]
    rw [e]
    cases i with
    | zero => simp [pat]
    | succ i =>
      have := ih i (by simpa using hi)
      rw [show (i + 1) * 3 = i * 3 + 1 + 1 + 1 by omega]
      simpa [pat] using this
/-- A list of passes in a slice of one's own. -/
def OP (w : World) (g off n cap : Nat) (L : List Ps) : Prop := OSl w 3 g off n cap (pvs L)
theorem pass_empty (w : World) (T : TypeId) : OP (w.alloc (.cells #[] T)) w.heap.size 0 0 0 [] :=
  ⟨rfl, Nat.le_refl _, Nat.zero_le _, by simp, fun i hi => by omega, fun i hi => by omega, fun i hi => by omega⟩
/-- An answer that is a list of passes. -/
def AnsP (w w' : World) (e : Ending) (L : List Ps) : Prop := ∃ g off c, e = .returned (.slice (some ⟨g, off, none⟩) L.length c) ∧ w.heap.size ≤ g ∧ OP w' g off L.length c L ∧ Below w.heap.size w w'
theorem infoPass : (Try.prog.info? 79).map (fun i => (i.zero, i.size, i.bytes)) = some (some (.agg #[.int .i64 0, .int .i64 0, .int .i64 0]), 3, 24) := by kernel_rfl
theorem chnAt_len (H : List (List Int)) (k : Nat) : (chnAt H k).length ≤ 1 := by
  unfold chnAt
  split <;> simp
theorem chn_len (H : List (List Int)) (m : Nat) : (chn H m).length ≤ m := by
  induction m with
  | zero => simp [chn]
  | succ m ih => rw [chn_succ, List.length_append]; have := chnAt_len H m; omega
theorem chnAt_some {H : List (List Int)} {k j : Nat} (hj : j < (row H k).length) (hn : ∀ t, t < j → el (row H k) t ∈ row H (k + 1)) (h : ¬ el (row H k) j ∈ row H (k + 1)) : chnAt H k = [((k : Int), (k : Int) + 1, el (row H k) j)] := by
  have : firstN (row H k) (row H (k + 1)) = some (el (row H k) j) := by
    unfold firstN
    rw [List.find?_eq_some_iff_getElem]
    refine ⟨by simpa using h, j, hj, by simp [el, hj], fun t ht => ?_⟩
    have := hn t ht
    have e : el (row H k) t = (row H k)[t]'(by omega) := by simp [el, show t < (row H k).length by omega]
    rw [e] at this
    simpa using this
  unfold chnAt
  rw [this]
  simp
theorem chnAt_none {H : List (List Int)} {k : Nat} (hn : ∀ t, t < (row H k).length → el (row H k) t ∈ row H (k + 1)) : chnAt H k = [] := by
  have : firstN (row H k) (row H (k + 1)) = none := by
    unfold firstN
    rw [List.find?_eq_none]
    intro q hq
    obtain ⟨t, ht, rfl⟩ := el_mem10.1 hq
    simpa using hn t ht
  unfold chnAt
  rw [this]
theorem VV.below {w w' : World} {a : Option Addr} {len cap : Nat} {H : List (List Int)} (h : VV w a len cap H) (hb : Below w.heap.size w w') : VV w' a len cap H :=
  ⟨h.n, h.le, h.mx, fun i hi => by
    obtain ⟨b, off, x, c, e, h1, h2, h3, h4⟩ := h.row i hi
    exact ⟨b, off, x, c, e, (hb.cell (World.block_lt_of_cell? _ _ h1)).trans h1, h2.below hb (Nat.le_refl _), h3, h4⟩⟩
theorem below_cell {w w' : World} (hb : Below w.heap.size w w') {p : Addr} {v : Value} (h : w.cell? p = some v) : w'.cell? p = some v := (hb.cell (World.block_lt_of_cell? _ _ h)).trans h

set_option maxRecDepth 100000 in
set_option maxHeartbeats 3200000 in
theorem chnS_any (N B : Int) (a : Option Addr) (len cap : Nat) (H : List (List Int)) (w : World) (hv : VV w a len cap H) :
    Calls Try.prog 38 #[rlV N B a len cap] w fun e w' => AnsP w w' e (chainL N B H) := by
  obtain ⟨i0, hi0, hz0, hz1, hz2⟩ := info_parts2n infoPass
  have hG0 : Grew w (w.alloc (.cells #[.int .i64 N, .int .i64 B, .slice a len cap] 35)) := (Grew.refl _).alloc _
  have hvW := hv.grew hG0
  have hGE : Grew (w.alloc (.cells #[.int .i64 N, .int .i64 B, .slice a len cap] 35)) ((w.alloc (.cells #[.int .i64 N, .int .i64 B, .slice a len cap] 35)).alloc (.cells #[] 79)) := (Grew.refl _).alloc _
  have hR := rokS_any N B a len cap H _ (hvW.grew hGE)
  unfold rlV at hR ⊢
  have hHl := hv.n
  have c0 : (w.alloc (.cells #[.int .i64 N, .int .i64 B, .slice a len cap] 35)).cell? ⟨w.heap.size, 0, none⟩ = some (.int .i64 N) := by simp
  have c1 : (w.alloc (.cells #[.int .i64 N, .int .i64 B, .slice a len cap] 35)).cell? ⟨w.heap.size, 1, none⟩ = some (.int .i64 B) := by simp
  have c2 : (w.alloc (.cells #[.int .i64 N, .int .i64 B, .slice a len cap] 35)).cell? ⟨w.heap.size, 2, none⟩ = some (.slice a len cap) := by simp
  have hsz : (w.alloc (.cells #[.int .i64 N, .int .i64 B, .slice a len cap] 35)).heap.size = w.heap.size + 1 := by simp
  have HG : Hid (Grew w (w.alloc (.cells #[.int .i64 N, .int .i64 B, .slice a len cap] 35))) := hG0
  clear hv hG0
  generalize hW0 : w.alloc (.cells #[.int .i64 N, .int .i64 B, .slice a len cap] 35) = W0 at *
  have hE := pass_empty W0 79
  rw [hsz] at hE
  have c0' := hGE.cell c0
  have c1' := hGE.cell c1
  have c2' := hGE.cell c2
  have HE : Hid (OP (W0.alloc (.cells #[] 79)) (w.heap.size + 1) 0 0 0 [] ∧ Grew W0 (W0.alloc (.cells #[] 79))) := ⟨hE, hGE⟩
  clear hE hGE
  by_cases ho : okRel N B H
  · rw [decide_eq_true ho] at hR
    have hl1 : 1 ≤ len ∧ len ≤ 12 := by have := ho.1; have := ho.2.2.1; omega
    have hN : N = (len : Int) := by have := ho.2.2.1; omega
    have HZ : Hid (chainL N B H = chn H (len - 1)) := by rw [Hid, chainL, if_pos ho, hN]; rfl
    have hrl : ∀ i, i < len → (row H i).length ≤ maxLen := fun i hi => by
      obtain ⟨_, _, _, c, _, _, _, h3, h4⟩ := hvW.row i hi
      exact Nat.le_trans h3 h4
    subst hN
    obtain ⟨b, off, x0, q0, rfl, _⟩ := hvW.row 0 (by omega)
    have hrow : Hid (∀ W, Below W0.heap.size W0 W → ∀ i, i < len → ∃ x c, W.cell? ⟨b, off + i, none⟩ = some (.slice x (row H i).length c) ∧ Vec W x (row H i).length (row H i)) := fun W hb i hi => by
      obtain ⟨b', off', x, c, e, h1, h2, h3, h4⟩ := (hvW.below hb).row i hi
      cases e
      exact ⟨x, c, h1, h2⟩
    clear ho hvW
    go_enter Try.func38, Try.ntmps38
    go_wp2_with (go_at_call 42; refine hR.mono ?_; rintro e w1 ⟨rfl, hg1⟩)
    have H1 : Hid (OP w1 (w.heap.size + 1) 0 0 0 [] ∧ Below W0.heap.size W0 w1) := ⟨OSl.below HE.out.1 hg1.1 HE.out.1.blk, (HE.out.2.trans hg1).1⟩
    clear hg1 hR
    go_loopw [3, 4] (fun v i wr => ∃ k g og cg : Nat, k ≤ len - 1 ∧ i = .int .i64 k ∧ v = .slice (some ⟨g, og, none⟩) (chn H k).length cg ∧ w.heap.size + 1 ≤ g ∧ OP wr g og (chn H k).length cg (chn H k) ∧ Below W0.heap.size W0 wr) (fun _ i _ => len - (intOf i).toNat)
    case atStart => exact ⟨0, _, 0, 0, Nat.zero_le _, rfl, rfl, Nat.le_refl _, H1.out.1, H1.out.2⟩
    case round =>
      obtain ⟨k, g, og, cg, hk, rfl, rfl, hg, hO, hB⟩ := hrel
      have LO : Hid (OP wr g og (chn H k).length cg (chn H k)) := hO
      have LB : Hid (Below W0.heap.size W0 wr) := hB
      have LG : Hid (w.heap.size + 1 ≤ g) := hg
      have d0 := below_cell hB c0
      have d2 := below_cell hB c2
      clear hO hB hg
      have hcl := chn_len H k
      by_cases hlt : k < len - 1
      · have k1 : (k : Int) + 1 < (len : Int) := by omega
        have k2 : (k : Int) < (len : Int) := by omega
        have k0 : (0 : Int) ≤ (k : Int) := by omega
        have k3 : (0 : Int) ≤ (k : Int) + 1 := by omega
        have k4 : ((k : Int) + 1).toNat = k + 1 := by omega
        have HS : Hid (chn H (k + 1) = chn H k ++ chnAt H k) := chn_succ H k
        have HX : Hid (∀ j, j < (row H k).length → (∀ t, t < j → el (row H k) t ∈ row H (k + 1)) → ¬ el (row H k) j ∈ row H (k + 1) → chnAt H k = [((k : Int), (k : Int) + 1, el (row H k) j)]) := fun j h1 h2 h3 => chnAt_some h1 h2 h3
        have HY : Hid ((∀ t, t < (row H k).length → el (row H k) t ∈ row H (k + 1)) → chnAt H k = []) := fun h => chnAt_none h
        have hr0 := fun W hb => hrow.out W hb k (by omega)
        have hr1 := fun W hb => hrow.out W hb (k + 1) (by omega)
        have hl0 := hrl k (by omega)
        have hl1' := hrl (k + 1) (by omega)
        unfold maxLen at hl0
        obtain ⟨x, c, hcx, hvx⟩ := hr0 wr LB.out
        generalize row H k = h at *
        generalize row H (k + 1) = h' at *
        go_wp2_with fail
        go_loopw [3, 5] (fun v i w5 => ∃ j m : Nat, j ≤ h.length ∧ i = .int .i64 j ∧ v = .slice (some ⟨g, og, none⟩) (chn H k).length cg ∧ w5 = wr.drewN m ∧ ∀ t, t < j → el h t ∈ h') (fun _ i _ => h.length - (intOf i).toNat)
        case atStart => exact ⟨0, 0, Nat.zero_le _, rfl, rfl, rfl, fun t ht => by omega⟩
        case round =>
          obtain ⟨j, m, hj, rfl, rfl, rfl, hin⟩ := hrel
          have HI : Hid (∀ t, t < j → el h t ∈ h') := hin
          clear hin
          by_cases hjl : j < h.length
          · obtain ⟨x', c', hcx', hvx'⟩ := hr1 wr LB.out
            rcases hvx.2.2 with hz | ⟨bx, ox, rfl, hcs⟩
            · omega
            have hcj := hcs j hjl
            have hHs := fun n => l1Has_any x' _ c' (el h j) h' (wr.drewN n) (hvx'.drewN n) hl1'
            have j1 : (j : Int) < (h.length : Int) := by omega
            have j0 : (0 : Int) ≤ (j : Int) := by omega
            by_cases hm : el h j ∈ h'
            · rw [decide_eq_true hm] at hHs
              have HM : Hid (∀ t, t < j + 1 → el h t ∈ h') := fun t ht => by
                rcases Nat.lt_succ_iff_lt_or_eq.1 ht with h1 | h1
                · exact HI.out t h1
                · rw [h1]; exact hm
              clear hm
              go_wp2_with fail
              go_quiet ((go_at_call 82; exact (hHs _).mono (fun e w' h => ⟨h.1, _, h.2⟩)))
              go_wp2
              go_roundw
              case rel => exact ⟨j + 1, _, by omega, by go_num, rfl, rfl, HM.out⟩
              case measure => simp [intOf]; omega
            · rw [decide_eq_false hm] at hHs
              have HC : Hid (chn H (k + 1) = chn H k ++ [((k : Int), (k : Int) + 1, el h j)]) := by rw [Hid, HS.out, HX.out j hjl HI.out hm]
              clear hm
              generalize hq : el h j = q at *
              go_wp2_with fail
              go_quiet ((go_at_call 82; exact (hHs _).mono (fun e w' h => ⟨h.1, _, h.2⟩)))
              have hO2 : ∀ Y : World, Y = (wr.drewN m).drewN nq → OSl (Y.alloc (.cells #[.int .i64 (k : Int), .int .i64 ((k : Int) + 1), .int .i64 q] 79)) 3 g og (chn H k).length cg (pvs (chn H k)) := fun Y hY => by
                subst hY
                exact OSl.below (OSl.drewN (OSl.drewN LO.out m) nq) ((Below.refl _ _).alloc (Nat.le_refl _) _) LO.out.blk
              have LB2 : ∀ Y : World, Y = (wr.drewN m).drewN nq → Hid (Below W0.heap.size W0 Y) := fun Y hY => by
                subst hY
                exact belowN (belowN LB.out)
              have y2 : ((wr.drewN m).drewN nq).cell? ⟨w.heap.size, 2, none⟩ = some (.slice (some ⟨b, off, none⟩) len cap) := d2
              have yx : ((wr.drewN m).drewN nq).cell? ⟨b, off + k, none⟩ = some (.slice (some ⟨bx, ox, none⟩) h.length c) := hcx
              have yj : ((wr.drewN m).drewN nq).cell? ⟨bx, ox + j, none⟩ = some (.int .i64 q) := hcj
              generalize hY : (wr.drewN m).drewN nq = Y at *
              have LO2 := hO2 Y rfl
              have LBY := LB2 Y rfl
              clear hO2 LB2 hY hHs hcs hr0 hr1 hvx hvx' hcx hcx' hcj d0 d2 HX HY HS HI LO LB
              generalize hL1 : chn H (k + 1) = L1 at *
              generalize hL0 : chn H k = L0 at *
              go_wp2_with (at_builtin; refine wpList_append_os _ rfl _ _ _ rfl 79 i0 _ 3 24 Try.underlying36 hi0 hz0 hz1 hz2 rfl (by omega) g og L0.length cg _ rfl LO2 ⟨Y.heap.size, 0, none⟩ 1 1 [.int .i64 (k : Int), .int .i64 ((k : Int) + 1), .int .i64 q] rfl rfl (World.news_of_block (cs := #[.int .i64 (k : Int), .int .i64 ((k : Int) + 1), .int .i64 q]) (t := 79) (fr := (0, 0)) (heap_alloc_new _ _)) (by simp [Value.oneCell']) (by unfold maxLen; omega) (by omega) ?_; intro g6 o6 c6 w6 hO6 hg6 hat6)
              have hYs := LBY.out.size
              have NG : Hid (w.heap.size + 1 ≤ g6) := by
                rcases hat6 with h | h
                · rw [h]; exact LG.out
                · rw [h]; exact Nat.le_trans (by rw [← hsz]; exact hYs) (show Y.heap.size ≤ _ by simp)
              have NL : Hid (L1.length = L0.length + 1) := by rw [Hid, HC.out]; simp
              have NO : Hid (OP w6 g6 o6 L1.length c6 L1) := by
                rw [Hid, NL.out, HC.out, OP, pvs_snoc]; exact hO6
              have NB : Hid (Below W0.heap.size W0 w6) := below_grown6 (LBY.out.alloc hYs _) hg6 (by rw [hsz]; exact LG.out) (Nat.le_trans hYs (by simp))
              clear hO6 hg6 hat6 LO2
              go_roundw
              case rel => exact ⟨k + 1, g6, o6, c6, by omega, by go_num, by rw [hL1, NL.out], NG.out, by rw [hL1]; exact NO.out, NB.out⟩
              case measure => simp [intOf]; omega
          · have HC : Hid (chn H (k + 1) = chn H k) := by rw [Hid, HS.out, HY.out (fun t ht => HI.out t (by omega)), List.append_nil]
            go_wp2
            go_roundw
            case rel => exact ⟨k + 1, g, og, cg, by omega, by go_num, by rw [HC.out], LG.out, by rw [HC.out]; exact OSl.drewN LO.out _, belowN LB.out⟩
            case measure => simp [intOf]; omega
      · have hkl : k = len - 1 := by omega
        have k1 : ¬ ((k : Int) + 1 < (len : Int)) := by omega
        have HF : Hid (AnsP w wr (.returned (.slice (some ⟨g, og, none⟩) (chn H k).length cg)) (chainL (len : Int) B H)) := by
          rw [Hid, HZ.out, ← hkl]
          exact ⟨g, og, cg, rfl, by have := LG.out; omega, LO.out, HG.out.1.trans (LB.out.mono HG.out.1.size)⟩
        clear hkl
        go_wp2
        go_ret
        exact HF.out
  · rw [decide_eq_false ho] at hR
    have HZ : Hid (chainL N B H = []) := by rw [Hid, chainL, if_neg ho]
    clear ho hvW
    go_enter Try.func38, Try.ntmps38
    go_wp2_with (go_at_call 42; refine hR.mono ?_; rintro e w1 ⟨rfl, hg1⟩)
    go_ret
    rw [HZ.out]
    exact ⟨_, 0, 0, rfl, by omega, OSl.below HE.out.1 hg1.1 HE.out.1.blk, ((HG.out.trans HE.out.2).trans hg1).1⟩
end Go.Proofs.Ytdniajogojlmdaa
