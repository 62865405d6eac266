/-
  Several texts in one: Rhr Rhp.
-/
import Derived.Test.YtdniajogojlmdaaJs
/-
  The laws' own helpers on relays: szRelay, toRelay, eqRelay, markRelay, heldRelay, likeRelay; on passes: szPassS, toPassS.
-/
namespace Go.Proofs.Ytdniajogojlmdaa
set_option linter.unusedVariables false
set_option linter.unusedSimpArgs false
open Go.RowKit Go.Sort

set_option maxHeartbeats 400000 in
theorem szR_any (N B : Int) (a : Option Addr) (len cap : Nat) (H : List (List Int)) (w : World) (hv : VV w a len cap H) :
    Calls Try.prog 46 #[rlV N B a len cap, .int .i64 1048576] w fun e w' => ∃ q : Int, e = .returned (.int .i64 q) ∧ (q = -1 ∨ 0 ≤ q ∧ q + (len : Int) + (tot H len : Int) = 1048576) ∧ Below w.heap.size w w' := by
  have hB := one_alloc10 w (.cells #[.int .i64 N, .int .i64 B, .slice a len cap] 51)
  have hS := szII_any a len cap H 1048576 _ (hv.below hB) ⟨by omega, by omega⟩
  unfold rlV
  go_enter Try.func46, Try.ntmps46
  go_wp2_with fail
  refine hS.mono ?_
  rintro e w' ⟨q, rfl, hq, hw'⟩
  rw [hw']
  clear hw'
  rcases hq with rfl | ⟨h0, h1⟩
  · go_wp2
    go_ret
    exact ⟨-1, rfl, .inl rfl, hB⟩
  · have h2 : decide (q < 0) = false := by simp; omega
    go_wp2
    go_ret
    exact ⟨q, rfl, .inr ⟨h0, h1⟩, hB⟩

set_option maxRecDepth 100000 in
set_option maxHeartbeats 800000 in
theorem toR_any (N B : Int) (a : Option Addr) (len cap : Nat) (H : List (List Int)) (w : World) (hv : VV w a len cap H) (hl : len ≤ 1048576) (hr : ∀ i, i < len → (row H i).length ≤ 17592186044416) :
    Calls Try.prog 47 #[rlV N B a len cap] w fun e w' => ∃ a', e = .returned (rlV N B a' len len) ∧ NewO w w' (iicl H) (.slice a' len len) := by
  have G0 : Grew w (((w.alloc (.cells #[.int .i64 N, .int .i64 B, .slice a len cap] 51)).alloc (.cells #[.int .i64 0, .int .i64 0, .slice none 0 0] 35)).alloc (.cells #[.int .i64 N, .int .i64 B, .slice none 0 0] 35)) := (((Grew.refl _).alloc _).alloc _).alloc _
  have z1 : Bx (((w.alloc (.cells #[.int .i64 N, .int .i64 B, .slice a len cap] 51)).alloc (.cells #[.int .i64 0, .int .i64 0, .slice none 0 0] 35)).alloc (.cells #[.int .i64 N, .int .i64 B, .slice none 0 0] 35)) (w.heap.size + 1) 35 #[.int .i64 0, .int .i64 0, .slice none 0 0] := by
    have := (Bx.new (w.alloc (.cells #[.int .i64 N, .int .i64 B, .slice a len cap] 51)) 35 #[.int .i64 0, .int .i64 0, .slice none 0 0]).alloc (.cells #[.int .i64 N, .int .i64 B, .slice none 0 0] 35)
    simpa using this
  have o1 : Bx (((w.alloc (.cells #[.int .i64 N, .int .i64 B, .slice a len cap] 51)).alloc (.cells #[.int .i64 0, .int .i64 0, .slice none 0 0] 35)).alloc (.cells #[.int .i64 N, .int .i64 B, .slice none 0 0] 35)) (w.heap.size + 1 + 1) 35 #[.int .i64 N, .int .i64 B, .slice none 0 0] := by
    have := Bx.new ((w.alloc (.cells #[.int .i64 N, .int .i64 B, .slice a len cap] 51)).alloc (.cells #[.int .i64 0, .int .i64 0, .slice none 0 0] 35)) 35 #[.int .i64 N, .int .i64 B, .slice none 0 0]
    simpa using this
  have hT := toII_any a len cap H _ (hv.grew G0) hl hr
  have HG : Hid (Grew w (((w.alloc (.cells #[.int .i64 N, .int .i64 B, .slice a len cap] 51)).alloc (.cells #[.int .i64 0, .int .i64 0, .slice none 0 0] 35)).alloc (.cells #[.int .i64 N, .int .i64 B, .slice none 0 0] 35))) := G0
  clear G0
  unfold rlV
  go_enter Try.func47, Try.ntmps47
  go_wp2_with fail
  refine hT.mono ?_
  rintro e w1 ⟨rfl, fp, hO, hnew, hb1⟩
  generalize hW0 : ((w.alloc (.cells #[.int .i64 N, .int .i64 B, .slice a len cap] 51)).alloc (.cells #[.int .i64 0, .int .i64 0, .slice none 0 0] 35)).alloc (.cells #[.int .i64 N, .int .i64 B, .slice none 0 0] 35) = W0 at *
  have z2 := z1.below hb1
  have o2 := o1.below hb1
  have zl := z1.lt
  have ol := o1.lt
  obtain ⟨t0, t1, t2⟩ := z2.r3
  have tf0 := z2.f 0
  have tf1 := z2.f 1
  have tf2 := z2.f 2
  obtain ⟨s0, s1, s2⟩ := o2.r3
  have sf2 := o2.f 2
  have hN : Below w.heap.size w w1 := HG.out.1.trans (hb1.mono HG.out.1.size)
  have HN : Hid (NewO w ((((w1.setCell ⟨w.heap.size + 1 + 1, 2, none⟩ (.slice (some ⟨W0.heap.size, 0, none⟩) len len)).setCell ⟨w.heap.size + 1, 0, none⟩ (.int .i64 N)).setCell ⟨w.heap.size + 1, 1, none⟩ (.int .i64 B)).setCell ⟨w.heap.size + 1, 2, none⟩ (.slice (some ⟨W0.heap.size, 0, none⟩) len len)) (iicl H) (.slice (some ⟨W0.heap.size, 0, none⟩) len len)) := by
    have hfp : ∀ b, fp b → w.heap.size + 1 + 1 < b := fun b hb => by have := hnew b hb; omega
    refine ⟨fp, ?_, fun b hb => by have := hfp b hb; omega, below3 (hN.setCell (p := ⟨w.heap.size + 1 + 1, 2, none⟩) (by show w.heap.size ≤ w.heap.size + 1 + 1; omega) _) (Nat.le_succ _)⟩
    exact Cel.ow_wrt (Cel.ow_wrt hO (Wrt.set w1 (w.heap.size + 1 + 1) 2 _) (fun b hb e => by have := hfp b hb; omega)) (wrt3 _ (w.heap.size + 1)) (fun b hb e => by have := hfp b hb; omega)
  clear hO hnew hb1 hN z1 o1 z2 o2
  generalize W0.heap.size = BW at *
  go_wp2
  refine bodyPost_ret (v := .agg #[.int .i64 N, .int .i64 B, .slice (some ⟨BW, 0, none⟩) len len]) (by simp [results, Try.results47, go_sem, t0, t1, t2]) rfl ?_
  exact ⟨_, rfl, HN.out⟩

set_option maxHeartbeats 800000 in
theorem eqR_any (N B : Int) (a a' : Option Addr) (n c c' : Nat) (H : List (List Int)) (w : World) (h : VV w a n c H) (h' : VV w a' n c' H) :
    Calls Try.prog 48 #[rlV N B a n c, rlV N B a' n c'] w fun e w' => e = .returned (.bool true) ∧ Below w.heap.size w w' := by
  have hB : Below w.heap.size w ((w.alloc (.cells #[.int .i64 N, .int .i64 B, .slice a n c] 35)).alloc (.cells #[.int .i64 N, .int .i64 B, .slice a' n c'] 35)) := ((Below.refl _ _).alloc (Nat.le_refl _) _).alloc (by simp) _
  have hE := eqII_any a a' n c c' H _ (h.below hB) (h'.below hB)
  have b0 : (N != N) = false := by simp
  have b1 : (B != B) = false := by simp
  unfold rlV
  go_enter Try.func48, Try.ntmps48
  go_wp2_with (go_at_call 90; refine hE.mono ?_; rintro e w' ⟨rfl, q, hw'⟩; rw [hw']; clear hw')
  go_ret
  exact ⟨rfl, belowN hB⟩

set_option maxHeartbeats 800000 in
theorem likeR_any (N B : Int) (a a' : Option Addr) (n c c' : Nat) (H : List (List Int)) (w : World) (h : VV w a n c H) (h' : VV w a' n c' H) :
    Calls Try.prog 35 #[rlV N B a n c, rlV N B a' n c'] w fun e w' => e = .returned (.bool true) ∧ Grew w w' := by
  have hB : Grew w ((w.alloc (.cells #[.int .i64 N, .int .i64 B, .slice a n c] 35)).alloc (.cells #[.int .i64 N, .int .i64 B, .slice a' n c'] 35)) := ((Grew.refl _).alloc _).alloc _
  have hE := likeII_any a a' n c c' H _ (h.below hB.1) (h'.below hB.1)
  have b0 : (N == N) = true := by simp
  have b1 : (B == B) = true := by simp
  unfold rlV
  go_enter Try.func35, Try.ntmps35
  go_wp2_with (go_at_call 84; refine hE.mono ?_; rintro e w' ⟨rfl, q, hw'⟩; rw [hw']; clear hw')
  go_ret
  exact ⟨rfl, hB.drewN _⟩

set_option maxHeartbeats 800000 in
theorem markR_any (N B : Int) (a : Option Addr) (c k0 : Nat) (H : List (List Int)) (fp : Fp) (w : World) (h : Cel.ow w (iicl H) (.slice a H.length c) fp) (hk : k0 ≤ 1000) (hn : H.length ≤ 1048576) (ht : tot H H.length ≤ 9000000) :
    Calls Try.prog 49 #[rlV N B a H.length c, .int .i64 (k0 : Int)] w fun e w' => e = .returned (.int .i64 ((k0 + tot H H.length : Nat) : Int)) ∧ Cel.ow w' (iicl (mkd H k0 H.length)) (.slice a H.length c) fp ∧ Wrt fp w w' := by
  have hB := one_alloc10 w (.cells #[.int .i64 N, .int .i64 B, .slice a H.length c] 35)
  have hM := markII_any a c k0 H fp _ (Cel.ow_below h hB) hk hn ht
  unfold rlV
  go_enter Try.func49, Try.ntmps49
  go_wp2_with (go_at_call 91; refine hM.mono ?_; rintro e w' ⟨rfl, h1, h2⟩)
  go_ret
  exact ⟨rfl, h1, (Wrt.of_below hB).trans h2 (fun _ _ h => h)⟩
set_option maxHeartbeats 800000 in
theorem heldR_any (N B : Int) (a : Option Addr) (c k0 : Nat) (H : List (List Int)) (fp : Fp) (w : World) (h : Cel.ow w (iicl (mkd H k0 H.length)) (.slice a H.length c) fp) (hk : k0 ≤ 1000) (hn : H.length ≤ 1048576) (ht : tot H H.length ≤ 9000000) :
    Calls Try.prog 50 #[rlV N B a H.length c, .int .i64 (k0 : Int)] w fun e w' => e = .returned (.int .i64 ((k0 + tot H H.length : Nat) : Int)) ∧ Below w.heap.size w w' := by
  have hB := one_alloc10 w (.cells #[.int .i64 N, .int .i64 B, .slice a H.length c] 35)
  have hM := heldII_any a c k0 H fp _ (Cel.ow_below h hB) hk hn ht
  have hneg : decide (((k0 + tot H H.length : Nat) : Int) < 0) = false := by simp; omega
  unfold rlV
  generalize ((k0 + tot H H.length : Nat) : Int) = q at *
  go_enter Try.func50, Try.ntmps50
  go_wp2_with (go_at_call 92; refine hM.mono ?_; rintro e w' ⟨rfl, hw'⟩; rw [hw']; clear hw')
  go_ret
  exact ⟨rfl, hB⟩

set_option maxHeartbeats 400000 in
theorem szP_any (a : Option Addr) (len cap : Nat) (left : Int) (w : World) (hm : len ≤ maxLen) (hl : 0 ≤ left ∧ left ≤ 1048576) :
    Calls Try.prog 51 #[.slice a len cap, .int .i64 left] w fun e w' => e = .returned (.int .i64 (if (len : Int) ≤ left then left - (len : Int) else -1)) ∧ w' = w := by
  unfold maxLen at hm
  have h1 : wrap64 (left - (len : Int)) = left - (len : Int) := by unfold wrap64; omega
  by_cases h : (len : Int) ≤ left
  · rw [if_pos h]
    have h2 : decide (left - (len : Int) < 0) = false := by simp; omega
    go_enter Try.func51, Try.ntmps51
    go_wp2
    go_ret
    exact ⟨rfl, rfl⟩
  · rw [if_neg h]
    have h2 : decide (left - (len : Int) < 0) = true := by simp; omega
    go_enter Try.func51, Try.ntmps51
    go_wp2
    go_ret
    exact ⟨rfl, rfl⟩

set_option maxHeartbeats 400000 in
theorem toP1_any (x y z : Int) (w : World) : Calls Try.prog 93 #[.agg #[.int .i64 x, .int .i64 y, .int .i64 z]] w fun e w' => e = .returned (.agg #[.int .i64 x, .int .i64 y, .int .i64 z]) ∧ Grew w w' := by
  go_enter Try.func93, Try.ntmps93
  go_wp2
  refine bodyPost_ret (v := .agg #[.int .i64 x, .int .i64 y, .int .i64 z]) (by simp [results, Try.results93, go_sem]) rfl ?_
  exact ⟨rfl, (((Grew.refl _).alloc _).alloc _).alloc _⟩
end Go.Proofs.Ytdniajogojlmdaa

/-
  The laws' own toPassS and likePasses.
-/
namespace Go.Proofs.Ytdniajogojlmdaa
set_option linter.unusedVariables false
set_option linter.unusedSimpArgs false
open Go.RowKit Go.Sort

theorem make_ps (n : Nat) (hn : n ≤ 1048576) (w : World) :
    (Instr.makeSlice 36 (.int .i64 (n : Int)) (.int .i64 (n : Int))).run Try.prog w = .ok (.slice (some ⟨w.heap.size, 0, none⟩) n n) (w.alloc (.cells (madeCells #[.int .i64 0, .int .i64 0, .int .i64 0] (n * 3)) 79)) := by
  obtain ⟨i, hi, hz, hs, hb⟩ := info_parts2n infoPass
  have hr := run_make (P := Try.prog) w 36 79 i _ Try.underlying36 hi hz .i64 .i64 n n (by omega) (Int.le_refl _) (by rw [hb]; omega) (by omega)
  simp only [Int.toNat_natCast, hs] at hr
  exact hr
theorem pvs_set : ∀ {L : List Ps} {k : Nat} (p : Ps), k < L.length → pvs (L.set k p) = (pvs L).take (k * 3) ++ [.int .i64 p.1, .int .i64 p.2.1, .int .i64 p.2.2] ++ (pvs L).drop (k * 3 + 3)
  | [], k, p, h => by simp at h
  | c :: L, 0, p, h => by simp [pvs]
  | c :: L, k + 1, p, h => by
    have ih := pvs_set (L := L) (k := k) p (by simpa using h)
    have e1 : ∀ (c : Ps) (L : List Ps), pvs (c :: L) = .int .i64 c.1 :: .int .i64 c.2.1 :: .int .i64 c.2.2 :: pvs L := fun c L => by simp [pvs]
    rw [List.set_cons_succ, e1, e1, ih, show (k + 1) * 3 = k * 3 + 1 + 1 + 1 by omega, show k * 3 + 1 + 1 + 1 + 3 = k * 3 + 3 + 1 + 1 + 1 by omega]
    simp only [List.take_succ_cons, List.drop_succ_cons, List.cons_append]
theorem OP.put {w : World} {g off n cap k : Nat} {L : List Ps} (h : OP w g off n cap L) (hk : k < n) (p : Ps) :
    OP (((w.setCell ⟨g, off + k * 3, none⟩ (.int .i64 p.1)).setCell ⟨g, off + k * 3 + 1, none⟩ (.int .i64 p.2.1)).setCell ⟨g, off + k * 3 + 2, none⟩ (.int .i64 p.2.2)) g off n cap (L.set k p) := by
  have hl := h.length
  have := osl_seg (vs := [.int .i64 p.1, .int .i64 p.2.1, .int .i64 p.2.2]) (k := k * 3) h (by simp; omega)
  unfold OP
  rw [pvs_set p (by omega)]
  exact this
def zps : Ps := (0, 0, 0)
def prtP (cs : List Ps) (k : Nat) : List Ps := cs.take k ++ List.replicate (cs.length - k) zps
theorem prtP_set {H : List Ps} {k : Nat} (hk : k < H.length) : (prtP H k).set k (pat H k) = prtP H (k + 1) := by
  apply List.ext_getElem
  · simp [prtP]; omega
  · intro i h1 h2
    rw [List.getElem_set]
    have hi : i < H.length := by simp [prtP] at h1; omega
    by_cases e : k = i
    · subst e
      rw [if_pos rfl]
      simp [prtP, pat, List.getD, hk]
      rw [List.getElem_append_left (by simp; omega)]
      simp
    · rw [if_neg e]
      simp only [prtP]
      by_cases hlt : i < k
      · rw [List.getElem_append_left (by simp; omega), List.getElem_append_left (by simp; omega)]
        simp
      · rw [List.getElem_append_right (by simp; omega), List.getElem_append_right (by simp; omega)]
        simp
theorem op_made (w : World) (n : Nat) (hn : n ≤ 1048576) : OP (w.alloc (.cells (madeCells #[.int .i64 0, .int .i64 0, .int .i64 0] (n * 3)) 79)) w.heap.size 0 n n (List.replicate n zps) := by
  have h := osl_made w #[.int .i64 0, .int .i64 0, .int .i64 0] 3 n 79 rfl (by omega) (by unfold maxLen; omega)
  have e : pvs (List.replicate n zps) = (List.replicate n (#[Value.int .i64 0, Value.int .i64 0, Value.int .i64 0] : Array Value).toList).flatten := by
    induction n with
    | zero => rfl
    | succ n ih => rw [List.replicate_succ, List.replicate_succ, List.flatten_cons, ← ih (by omega) (osl_made w #[.int .i64 0, .int .i64 0, .int .i64 0] 3 n 79 rfl (by omega) (by unfold maxLen; omega))]; simp [pvs, zps]
  unfold OP
  rw [e]
  exact h

set_option maxRecDepth 100000 in
set_option maxHeartbeats 1600000 in
theorem toPs_any (a : Option Addr) (len cap : Nat) (cs : List Ps) (w : World) (hv : PsS w a len cs) (hl : len ≤ 1048576) :
    Calls Try.prog 52 #[.slice a len cap] w fun e w' => e = .returned (.slice (some ⟨w.heap.size, 0, none⟩) len len) ∧ OP w' w.heap.size 0 len len cs ∧ Below w.heap.size w w' := by
  have HV : Hid (PsS w a len cs) := hv
  have HL : Hid (cs.length = len) := hv.1
  have hmk := make_ps len hl
  have HS : Hid (OP (w.alloc (.cells (madeCells #[.int .i64 0, .int .i64 0, .int .i64 0] (len * 3)) 79)) w.heap.size 0 len len (prtP cs 0) ∧ Below w.heap.size w (w.alloc (.cells (madeCells #[.int .i64 0, .int .i64 0, .int .i64 0] (len * 3)) 79))) := by
    refine ⟨?_, one_alloc10 _ _⟩
    have := op_made w len hl
    have e : prtP cs 0 = List.replicate len zps := by simp [prtP, hv.1]
    rw [e]
    exact this
  clear hv
  go_enter Try.func52, Try.ntmps52
  go_wp2_with fail
  clear hmk
  generalize w.alloc (.cells (madeCells #[.int .i64 0, .int .i64 0, .int .i64 0] (len * 3)) 79) = W0 at *
  go_loopw [4] (fun i wr => ∃ k : Nat, k ≤ len ∧ i = .int .i64 k ∧ OP wr w.heap.size 0 len len (prtP cs k) ∧ Below w.heap.size w wr) (fun i _ => len - (intOf i).toNat)
  case atStart => exact ⟨0, Nat.zero_le _, rfl, HS.out.1, HS.out.2⟩
  case round =>
    obtain ⟨k, hk, rfl, ho, hb⟩ := hrel
    by_cases hlt : k < len
    · obtain ⟨_, h0 | ⟨pb, poff, rfl, hpc⟩⟩ := HV.out.below hb
      · omega
      obtain ⟨p0, p1, p2⟩ := hpc k hlt
      have k1 : (k : Int) < (len : Int) := by omega
      have k0 : (0 : Int) ≤ (k : Int) := by omega
      have HST : Hid (∀ w1 : World, Grew wr w1 → (∃ u0 u1 u2, w1.cell? ⟨w.heap.size, k * 3, none⟩ = some u0 ∧ w1.cell? ⟨w.heap.size, k * 3 + 1, none⟩ = some u1 ∧ w1.cell? ⟨w.heap.size, k * 3 + 2, none⟩ = some u2) ∧ (w1.frozen? ⟨w.heap.size, k * 3, none⟩ = false ∧ w1.frozen? ⟨w.heap.size, k * 3 + 1, none⟩ = false ∧ w1.frozen? ⟨w.heap.size, k * 3 + 2, none⟩ = false) ∧
          OP (((w1.setCell ⟨w.heap.size, k * 3, none⟩ (.int .i64 (pat cs k).1)).setCell ⟨w.heap.size, k * 3 + 1, none⟩ (.int .i64 (pat cs k).2.1)).setCell ⟨w.heap.size, k * 3 + 2, none⟩ (.int .i64 (pat cs k).2.2)) w.heap.size 0 len len (prtP cs (k + 1)) ∧
          Below w.heap.size w (((w1.setCell ⟨w.heap.size, k * 3, none⟩ (.int .i64 (pat cs k).1)).setCell ⟨w.heap.size, k * 3 + 1, none⟩ (.int .i64 (pat cs k).2.1)).setCell ⟨w.heap.size, k * 3 + 2, none⟩ (.int .i64 (pat cs k).2.2))) := fun w1 hg => by
        have o1 := ho.below hg.1 ho.blk
        have hbw := hb.trans (hg.1.mono hb.size)
        have hput := OP.put o1 hlt (pat cs k)
        rw [prtP_set (by rw [HL.out]; exact hlt)] at hput
        simp only [Nat.zero_add] at hput
        have c0 := o1.c0 hlt
        have c1 := o1.c1 hlt
        have c2 := o1.c2 hlt
        have f0 := o1.free (k * 3) (by omega)
        have f1 := o1.free (k * 3 + 1) (by omega)
        have f2 := o1.free (k * 3 + 2) (by omega)
        simp only [Nat.zero_add] at c0 c1 c2 f0 f1 f2
        exact ⟨⟨_, _, _, c0, c1, c2⟩, ⟨f0, f1, f2⟩, hput, ((hbw.setCell (p := ⟨w.heap.size, k * 3, none⟩) (Nat.le_refl _) _).setCell (p := ⟨w.heap.size, k * 3 + 1, none⟩) (Nat.le_refl _) _).setCell (p := ⟨w.heap.size, k * 3 + 2, none⟩) (Nat.le_refl _) _⟩
      clear ho hb hpc
      generalize (pat cs k).1 = x at *
      generalize (pat cs k).2.1 = y at *
      generalize (pat cs k).2.2 = z at *
      go_wp2_with fail
      refine (toP1_any x y z wr).mono ?_
      rintro e w1 ⟨rfl, hg1⟩
      obtain ⟨⟨u0, u1, u2, c0, c1, c2⟩, ⟨f0, f1, f2⟩, hput, hbw⟩ := HST.out w1 hg1
      clear hg1 p0 p1 p2
      go_wp2
      go_roundw
      case rel => exact ⟨k + 1, by omega, by go_num, hput, hbw⟩
      case measure => simp [intOf]; omega
    · have e : len = k := by omega
      subst e
      have e1 : prtP cs len = cs := by rw [← HL.out]; simp [prtP]
      rw [e1] at ho
      go_wp2
      go_ret
      exact ⟨rfl, ho, hb⟩
end Go.Proofs.Ytdniajogojlmdaa
