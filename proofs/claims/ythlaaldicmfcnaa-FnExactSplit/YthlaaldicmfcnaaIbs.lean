/-
  The program's numbered and Split.
-/
import Derived.Test.YthlaaldicmfcnaaKp
import Derived.Test.YthlaaldicmfcnaaCln
namespace Go.Proofs.Ythlaaldicmfcnaa
set_option linter.unusedVariables false
set_option linter.unusedSimpArgs false
open Go.RowKit Go.Sort

/-- The first k of these texts as blocks of so many. -/
def nbs (zs : List (List UInt8)) (N k : Nat) : List Blk := (List.range k).map (fun i : Nat => ((i : Int), (N : Int), zs.getD i []))
theorem nbs_succ (zs : List (List UInt8)) (N k : Nat) : nbs zs N (k + 1) = nbs zs N k ++ [((k : Int), (N : Int), zs.getD k [])] := by simp [nbs, List.range_succ]
theorem nbs_len (zs : List (List UInt8)) (N k : Nat) : (nbs zs N k).length = k := by simp [nbs]
def pts (s : List UInt8) (z m : Nat) : List (List UInt8) := (List.range m).map (pt11 s z)
theorem pts_len (s : List UInt8) (z m : Nat) : (pts s z m).length = m := by simp [pts]
theorem pts_succ (s : List UInt8) (z m : Nat) : pts s z (m + 1) = pts s z m ++ [pt11 s z m] := by simp [pts, List.range_succ]
theorem nbs_pts (s : List UInt8) (z m : Nat) : nbs (pts s z m) m m = spl s z m m := by
  apply List.map_congr_left
  intro i hi
  rw [List.mem_range] at hi
  simp [pts, List.getD, hi]
theorem pts_short {s : List UInt8} {z m : Nat} (hz : z ≤ 100) : ∀ i, i < m → ((pts s z m).getD i []).length ≤ 1048576 := by
  intro i hi
  have := pt11_len s z i
  simp only [pts, List.getD, List.getElem?_map, List.getElem?_range hi, Option.map_some, Option.getD_some]
  omega
attribute [local irreducible] sv
set_option maxRecDepth 100000 in
set_option maxHeartbeats 1600000 in
theorem numbered_any (g off n cap : Nat) (zs : List (List UInt8)) (w : World) (h : OS w g off n cap zs) (hn : n ≤ 12) (hz : ∀ i, i < n → (zs.getD i []).length ≤ 1048576) :
    Calls Try.prog 64 #[.slice (some ⟨g, off, none⟩) n cap] w fun e w' => AnsB w w' e (nbs zs n n) := by
  obtain ⟨i0, hi0, hz0, hz1, hz2⟩ := info_parts2n infoBlock
  have HO : Hid (OS w g off n cap zs) := h
  have HZ : Hid (∀ i, i < n → (zs.getD i []).length ≤ 1048576) := hz
  clear h hz
  go_enter Try.func64, Try.ntmps64
  go_wp2
  go_loopw [3, 9] (fun v i wr => ∃ (k q oq cq : Nat), k ≤ n ∧ i = .int .i64 (k : Int) ∧ v = .slice (some ⟨q, oq, none⟩) (nbs zs n k).length cq ∧ w.heap.size ≤ q ∧ OB wr q oq (nbs zs n k).length cq (nbs zs n k) ∧ Below w.heap.size w wr) (fun _ i _ => n - (intOf i).toNat)
  case atStart => exact ⟨0, w.heap.size, 0, 0, Nat.zero_le _, rfl, rfl, Nat.le_refl _, block_empty _ _, (Below.refl _ _).alloc (Nat.le_refl _) _⟩
  case round =>
    obtain ⟨k, q, oq, cq, hk, rfl, rfl, hq, hO, hB⟩ := hrel
    have LO : Hid (OB wr q oq (nbs zs n k).length cq (nbs zs n k)) := hO
    have LB : Hid (Below w.heap.size w wr) := hB
    have LG : Hid (w.heap.size ≤ q) := hq
    have LLE : (nbs zs n k).length ≤ 12 := by rw [nbs_len]; omega
    clear hO hq
    by_cases hlt : k < n
    · have k1 : (k : Int) < (n : Int) := by omega
      have k0 : (0 : Int) ≤ (k : Int) := by omega
      have HR : Hid (nbs zs n (k + 1) = nbs zs n k ++ [((k : Int), (n : Int), zs.getD k [])]) := nbs_succ zs n k
      have c0 := (HO.out.below hB HO.out.blk).cellAt hlt
      have C := fun X => clone_any (zs.getD k []) X (HZ.out k hlt)
      generalize zs.getD k [] = T at *
      generalize hW1 : nbs zs n (k + 1) = W1 at *
      generalize nbs zs n k = W0 at *
      clear hB
      go_wp2_with (first
        | (go_at_call 77; refine (C _).mono ?_; rintro e w5 ⟨rfl, hb5⟩; have L5 : Below w.heap.size w w5 := LB.out.trans (hb5.mono LB.out.size); have hO2 : OSl (w5.alloc (.cells #[.int .i64 (k : Int), .int .i64 (n : Int), .string (sv T)] 46)) 3 q oq W0.length cq (bvs W0) := OSl.below (LO.out.below hb5 LO.out.blk) ((Below.refl _ _).alloc (Nat.le_refl _) _) (Nat.lt_of_lt_of_le LO.out.blk hb5.size))
        | (at_builtin; refine wpList_append_os _ rfl _ _ _ rfl 46 i0 _ 3 32 Try.underlying35 hi0 hz0 hz1 hz2 rfl (by omega) q oq W0.length cq _ rfl hO2 ⟨w5.heap.size, 0, none⟩ 1 1 [.int .i64 (k : Int), .int .i64 (n : Int), .string (sv T)] rfl rfl (World.news_of_block (cs := #[.int .i64 (k : Int), .int .i64 (n : Int), .string (sv T)]) (t := 46) (fr := (0, 0)) (heap_alloc_new _ _)) (by simp [Value.oneCell']) (by unfold maxLen; omega) (by omega) ?_; intro g6 o6 c6 w6 hO6 hg6 hat6))
      have NG : Hid (w.heap.size ≤ g6) := by
        rcases hat6 with h | h
        · rw [h]; exact LG.out
        · rw [h]; exact Nat.le_trans L5.size (by simp)
      have NL : Hid (W1.length = W0.length + 1) := by rw [Hid, HR.out]; simp
      have NO : Hid (OB w6 g6 o6 W1.length c6 W1) := by
        rw [Hid, NL.out, HR.out, OB, bvs_snoc]; exact hO6
      have NB : Hid (Below w.heap.size w w6) := below_grown6 (L5.alloc L5.size _) hg6 LG.out (Nat.le_trans L5.size (by simp))
      clear hO6 hg6 hat6 hO2 L5 hb5
      go_roundw
      case rel => exact ⟨k + 1, g6, o6, c6, by omega, by go_num, by rw [hW1, NL.out], NG.out, by rw [hW1]; exact NO.out, NB.out⟩
      case measure => simp [intOf]; omega
    · have k1 : ¬ ((k : Int) < (n : Int)) := by omega
      obtain rfl : k = n := by omega
      clear hB
      go_wp2
      go_ret
      exact ⟨q, oq, cq, rfl, LG.out, LO.out, LB.out⟩
theorem prs_end {n Z k : Nat} (hZ : 1 ≤ Z) (h0 : k = 0 ∨ k * Z < n) (h1 : n - k * Z ≤ Z) : prs n Z = k + 1 := by
  unfold prs
  rcases h0 with rfl | h0
  · have : (n + Z - 1) / Z ≤ 1 := by
      rw [Nat.div_le_iff_le_mul_add_pred (by omega)]
      omega
    omega
  · have : (n + Z - 1) / Z = k + 1 := by
      rw [Nat.div_eq_iff (by omega)]
      rw [Nat.add_mul]
      omega
    omega
theorem prs_over {n Z k : Nat} (hZ : 1 ≤ Z) (h0 : k * Z < n) : k < prs n Z := by
  unfold prs
  have : k < (n + Z - 1) / Z := by
    have : k + 1 ≤ (n + Z - 1) / Z := (Nat.le_div_iff_mul_le (by omega)).2 (by rw [Nat.add_mul]; omega)
    omega
  omega
theorem oS_empty (w : World) (T : TypeId) : OS (w.alloc (.cells #[] T)) w.heap.size 0 0 0 [] := os_empty w T
set_option maxRecDepth 100000 in
set_option maxHeartbeats 1600000 in
theorem splI_any (s : List UInt8) (size : Int) (w : World) (hl : s.length ≤ 1048576) : Calls Try.prog 27 #[.string (sv s), .int .i64 size] w fun e w' => AnsB w w' e (splitL s size) := by
  obtain ⟨i0, hi0, hz0, hz1, hz2⟩ := info_parts2n Try.info9
  cases e0 : inB size 1 100 with
  | false =>
    have HZ : Hid (splitL s size = []) := by rw [Hid, splitL, e0]; rfl
    have h9 : size < 1 ∨ (¬ size < 1 ∧ 100 < size) := by
      have : ¬ (1 ≤ size ∧ size ≤ 100) := fun h => by rw [inB7.2 h] at e0; cases e0
      omega
    clear e0
    rcases h9 with h1 | ⟨h1, h2⟩ <;>
    · go_enter Try.func27, Try.ntmps27
      go_wp2_with fail
      go_step3
      go_wp2
      rw [Exit.noGoto_ret]
      go_ret
      rw [HZ.out]
      exact ⟨_, 0, 0, rfl, Nat.le_refl _, block_empty _ _, (Below.refl _ _).alloc (Nat.le_refl _) _⟩
  | true =>
    have hk := inB7.1 e0
    obtain ⟨Z, rfl⟩ : ∃ Z : Nat, size = (Z : Int) := ⟨size.toNat, by omega⟩
    have hZ1 : 1 ≤ Z := by omega
    have hZ2 : Z ≤ 100 := by omega
    have HB : Hid (splitL s (Z : Int) = if prs s.length Z ≤ 12 then spl s Z (prs s.length Z) (prs s.length Z) else []) := by
      rw [Hid, splitL, e0]
      simp only [Bool.true_and, Int.toNat_natCast, decide_eq_true_eq]
    have h1 : ¬ ((Z : Int) < 1) := by omega
    have h2 : ¬ ((100 : Int) < (Z : Int)) := by omega
    clear e0 hk
    go_enter Try.func27, Try.ntmps27
    go_wp2_with fail
    go_step3
    go_wp2_with fail
    go_step3
    go_wp2
    clear h1 h2
    have h100 : (Z : Int) ≤ 100 := by omega
    go_loopg [5, 6] 13 (fun g v r wr => ∃ (k q oq cq : Nat), k ≤ 12 ∧ k + g = 13 ∧ v = .slice (some ⟨q, oq, none⟩) k cq ∧ r = .string (sv (s.drop (k * Z))) ∧ (k = 0 ∨ k * Z < s.length) ∧ w.heap.size ≤ q ∧ OS wr q oq k cq (pts s Z k) ∧ Below w.heap.size w wr)
    case atStart => exact ⟨0, w.heap.size, 0, 0, by omega, rfl, rfl, by simp, .inl rfl, Nat.le_refl _, oS_empty _ _, (Below.refl _ _).alloc (Nat.le_refl _) _⟩
    case round =>
      obtain ⟨k, q, oq, cq, hk, hkg, rfl, rfl, h0, hq, hO, hB⟩ := hrel
      have LO : Hid (OS wr q oq k cq (pts s Z k)) := hO
      have LB : Hid (Below w.heap.size w wr) := hB
      have LG : Hid (w.heap.size ≤ q) := hq
      have L0 : Hid (k = 0 ∨ k * Z < s.length) := h0
      clear hO hB hq h0
      by_cases h12 : k = 12
      · have e12 : ((k : Int) == 12) = true := by rw [h12]; rfl
        have HZ : Hid (splitL s (Z : Int) = []) := by
          rw [Hid, HB.out, if_neg]
          rcases L0.out with h | h
          · omega
          · have := prs_over hZ1 h; omega
        clear h12
        go_wp2
        rw [Exit.noGoto_ret]
        go_ret
        rw [HZ.out]
        exact ⟨_, 0, 0, rfl, LB.out.size, block_empty _ _, LB.out.alloc LB.out.size _⟩
      · have e12 : ((k : Int) == 12) = false := by simp; omega
        have hkl : k < 12 := by omega
        have hdl : (s.drop (k * Z)).length = s.length - k * Z := List.length_drop
        have hsz := sv_size (s.drop (k * Z))
        by_cases hend : (s.drop (k * Z)).length ≤ Z
        · have hend' : ((s.drop (k * Z)).length : Int) ≤ (Z : Int) := by omega
          have HP : Hid (prs s.length Z = k + 1) := prs_end hZ1 L0.out (by rw [← hdl]; exact hend)
          have HPT : Hid (pts s Z (k + 1) = pts s Z k ++ [s.drop (k * Z)]) := by
            rw [Hid, pts_succ, pt11, List.take_of_length_le hend]
          have HZ : Hid (splitL s (Z : Int) = nbs (pts s Z (k + 1)) (k + 1) (k + 1)) := by
            rw [Hid, HB.out, HP.out, if_pos (by omega), nbs_pts]
          have HSH := pts_short (s := s) (m := k + 1) hZ2
          clear hdl h12
          generalize s.drop (k * Z) = R at *
          generalize pts s Z (k + 1) = P1 at *
          generalize pts s Z k = P0 at *
          have hO2 : OSl (wr.alloc (.cells #[.string (sv R)] 9)) 1 q oq k cq (svs P0) := OSl.below LO.out ((Below.refl _ _).alloc (Nat.le_refl _) _) LO.out.blk
          go_wp2_with (at_builtin; refine wpList_append_os _ rfl _ _ _ rfl 9 i0 _ 1 16 Try.underlying70 hi0 hz0 hz1 hz2 rfl (by omega) q oq k cq _ rfl hO2 ⟨wr.heap.size, 0, none⟩ 1 1 [.string (sv R)] rfl rfl (World.news_of_block (cs := #[.string (sv R)]) (t := 9) (fr := (0, 0)) (heap_alloc_new _ _)) (by simp [Value.oneCell']) (by unfold maxLen; omega) (by omega) ?_; intro g6 o6 c6 w6 hO6 hg6 hat6)
          have NO : OS w6 g6 o6 (k + 1) c6 P1 := by rw [HPT.out, OS, svs_app]; exact hO6
          have NG : w.heap.size ≤ g6 := by
            rcases hat6 with h | h
            · rw [h]; exact LG.out
            · rw [h]; exact Nat.le_trans LB.out.size (by simp)
          have NB : Hid (Below w.heap.size w w6) := below_grown6 (LB.out.alloc LB.out.size _) hg6 LG.out (Nat.le_trans LB.out.size (by simp))
          refine (numbered_any g6 o6 (k + 1) c6 P1 w6 NO (by omega) HSH).mono ?_
          rintro e w7 ⟨g7, o7, c7, rfl, hg7, hO7, hb7⟩
          have NB7 : Hid (Below w.heap.size w w7) := NB.out.trans (hb7.mono NB.out.size)
          have NG7 : Hid (w.heap.size ≤ g7) := Nat.le_trans NB.out.size hg7
          have NO7 : Hid (OB w7 g7 o7 (nbs P1 (k + 1) (k + 1)).length c7 (nbs P1 (k + 1) (k + 1))) := hO7
          clear hO6 hg6 hat6 hO2 NO NG hg7 hO7 hb7
          go_wp2
          rw [Exit.noGoto_ret]
          go_ret
          rw [HZ.out]
          exact ⟨g7, o7, c7, rfl, NG7.out, NO7.out, NB7.out⟩
        · have hend' : ¬ (((s.drop (k * Z)).length : Int) ≤ (Z : Int)) := by omega
          have hz0' : (0 : Int) ≤ (Z : Int) := by omega
          have hz1' : (Z : Int) ≤ ((s.drop (k * Z)).length : Int) := by omega
          have HPT : Hid (pts s Z (k + 1) = pts s Z k ++ [(s.drop (k * Z)).take Z]) := by
            rw [Hid, pts_succ, pt11]
          have HD : Hid (s.drop ((k + 1) * Z) = (s.drop (k * Z)).drop Z) := by
            rw [Hid, List.drop_drop, Nat.add_mul, Nat.one_mul]
          have HM : Hid ((k + 1) * Z < s.length) := by
            rw [Hid, Nat.add_mul]; omega
          have x1 : (sv (s.drop (k * Z))).extract 0 Z = sv ((s.drop (k * Z)).take Z) := by rw [sv_sub]; simp
          have x2 : (sv (s.drop (k * Z))).extract Z (s.drop (k * Z)).length = sv ((s.drop (k * Z)).drop Z) := by
            rw [sv_sub, List.take_of_length_le]; rw [List.length_drop]; exact Nat.le_refl _
          clear hdl h12
          generalize hR1 : s.drop ((k + 1) * Z) = R1 at *
          generalize s.drop (k * Z) = R at *
          generalize hP1 : pts s Z (k + 1) = P1 at *
          generalize pts s Z k = P0 at *
          have hO2 : OSl (wr.alloc (.cells #[.string (sv (R.take Z))] 9)) 1 q oq k cq (svs P0) := OSl.below LO.out ((Below.refl _ _).alloc (Nat.le_refl _) _) LO.out.blk
          go_wp2_with (at_builtin; refine wpList_append_os _ rfl _ _ _ rfl 9 i0 _ 1 16 Try.underlying70 hi0 hz0 hz1 hz2 rfl (by omega) q oq k cq _ rfl hO2 ⟨wr.heap.size, 0, none⟩ 1 1 [.string (sv (R.take Z))] rfl rfl (World.news_of_block (cs := #[.string (sv (R.take Z))]) (t := 9) (fr := (0, 0)) (heap_alloc_new _ _)) (by simp [Value.oneCell']) (by unfold maxLen; omega) (by omega) ?_; intro g6 o6 c6 w6 hO6 hg6 hat6)
          have NO : Hid (OS w6 g6 o6 (k + 1) c6 P1) := by rw [Hid, HPT.out, OS, svs_app]; exact hO6
          have NG : Hid (w.heap.size ≤ g6) := by
            rcases hat6 with h | h
            · rw [h]; exact LG.out
            · rw [h]; exact Nat.le_trans LB.out.size (by simp)
          have NB : Hid (Below w.heap.size w w6) := below_grown6 (LB.out.alloc LB.out.size _) hg6 LG.out (Nat.le_trans LB.out.size (by simp))
          clear hO6 hg6 hat6 hO2
          go_roundg (12 - k)
          case rel => exact ⟨k + 1, g6, o6, c6, by omega, by omega, rfl, by rw [hR1, HD.out], .inr HM.out, NG.out, by rw [hP1]; exact NO.out, NB.out⟩
          case measure => omega
theorem implSplit : ImplSplit := fun s size w hl _ => (splI_any s size w hl).mono (fun e w' h => h.bs)
end Go.Proofs.Ythlaaldicmfcnaa
