/-
  Several texts in one: Bks Bkj.
-/
import Derived.Test.YthlaaldicmfcnaaKn
import Derived.Test.YthlaaldicmfcnaaGa
import Derived.Test.YthlaaldicmfcnaaIw
/-
  The contracts of the specification's l11Block, Split and Lacking.
-/
namespace Go.Proofs.Ythlaaldicmfcnaa
set_option linter.unusedVariables false
set_option linter.unusedSimpArgs false
open Go.RowKit Go.Sort

attribute [local irreducible] sv
set_option maxHeartbeats 800000 in
theorem blk1_any (x y : Int) (z : List UInt8) (w : World) (hz : z.length ≤ 1000000000000) : Calls Try.prog 68 #[.agg #[.int .i64 x, .int .i64 y, .string (sv z)]] w fun e w' => e = .returned (.bool (okBk (x, y, z))) ∧ Grew w w' := by
  have hsz := sv_size z
  have HG : ∀ o, Hid (Grew w (w.alloc o)) := fun o => (Grew.refl _).alloc _
  cases e0 : inB y 1 12 with
  | false =>
    have HZ : Hid (okBk (x, y, z) = false) := by rw [Hid, okBk, e0]; rfl
    go_enter Try.func68, Try.ntmps68
    go_wp2_with (go_at_call 62; refine (l1In_any _ _ _ _).mono ?_; rintro e w' ⟨rfl, hw'⟩; rw [hw']; clear hw')
    go_ret
    exact ⟨ret_bool (by rw [HZ.out]), (HG _).out⟩
  | true =>
    have hy := inB7.1 e0
    have b1 : y - 1 ≤ 9223372036854775807 := by omega
    have b2 : -9223372036854775808 ≤ y - 1 := by omega
    cases e1 : inB x 0 (y - 1) with
    | false =>
      have HZ : Hid (okBk (x, y, z) = false) := by rw [Hid, okBk, e0, e1]; rfl
      go_enter Try.func68, Try.ntmps68
      go_wp2_with (go_at_call 62; refine (l1In_any _ _ _ _).mono ?_; rintro e w' ⟨rfl, hw'⟩; rw [hw']; clear hw')
      go_ret
      exact ⟨ret_bool (by rw [HZ.out]), (HG _).out⟩
    | true =>
      have HZ : Hid (okBk (x, y, z) = decide ((z.length : Int) ≤ 100)) := by
        rw [Hid, okBk, e0, e1]
        simp only [Bool.true_and]
        exact decide_eq_decide.2 (by omega)
      go_enter Try.func68, Try.ntmps68
      go_wp2_with (go_at_call 62; refine (l1In_any _ _ _ _).mono ?_; rintro e w' ⟨rfl, hw'⟩; rw [hw']; clear hw')
      go_ret
      exact ⟨ret_bool (by rw [HZ.out]), (HG _).out⟩

theorem pt11_cut {s : List UInt8} {z k : Nat} : (s.drop (k * z)).take (min s.length (k * z + z) - k * z) = pt11 s z k := by
  unfold pt11
  apply List.ext_getElem?
  intro i
  simp only [List.getElem?_take, List.getElem?_drop]
  by_cases h1 : i < z
  · rw [if_pos h1]
    by_cases h2 : i < min s.length (k * z + z) - k * z
    · rw [if_pos h2]
    · rw [if_neg h2]
      symm
      exact List.getElem?_eq_none (by omega)
  · rw [if_neg h1, if_neg (by omega)]
set_option maxRecDepth 100000 in
set_option maxHeartbeats 1600000 in
theorem splS_any (s : List UInt8) (size : Int) (w : World) (hl : s.length ≤ 1048576) : Calls Try.prog 33 #[.string (sv s), .int .i64 size] w fun e w' => AnsB w w' e (splitL s size) := by
  obtain ⟨i0, hi0, hz0, hz1, hz2⟩ := info_parts2n infoBlock
  have hsz := sv_size s
  cases e0 : inB size 1 100 with
  | false =>
    have HZ : Hid (splitL s size = []) := by rw [Hid, splitL, e0]; rfl
    go_enter Try.func33, Try.ntmps33
    go_wp2_with (go_at_call 62; refine (l1In_any _ _ _ _).mono ?_; rintro e w' ⟨rfl, hw'⟩; rw [hw']; clear hw')
    go_ret
    rw [HZ.out]
    exact ⟨_, 0, 0, rfl, Nat.le_refl _, block_empty _ _, (Below.refl _ _).alloc (Nat.le_refl _) _⟩
  | true =>
    have hk := inB7.1 e0
    obtain ⟨Z, rfl⟩ : ∃ Z : Nat, size = (Z : Int) := ⟨size.toNat, by omega⟩
    have hZ1 : 1 ≤ Z := by omega
    have hZ2 : Z ≤ 100 := by omega
    have hdv : Int.tdiv ((s.length : Int) + (Z : Int) - 1) (Z : Int) = (((s.length + Z - 1) / Z : Nat) : Int) := by
      rw [Int.tdiv_eq_ediv_of_nonneg (by omega), show (s.length : Int) + (Z : Int) - 1 = ((s.length + Z - 1 : Nat) : Int) by omega]
      rfl
    have hmx : max (1 : Int) (((s.length + Z - 1) / Z : Nat) : Int) = ((prs s.length Z : Nat) : Int) := by unfold prs; omega
    have hz0' : ((Z : Int) == 0) = false := by simp; omega
    have hz0'' : ¬ ((Z : Int) = 0) := by omega
    have hdb : (s.length + Z - 1) / Z ≤ 2000000 := Nat.le_trans (Nat.div_le_self _ _) (by omega)
    have HM : Hid (∀ k, 1 ≤ k → k < prs s.length Z → k * Z < s.length) := fun k h1 h2 => prs_many hZ1 h1 h2
    have HB : Hid (splitL s (Z : Int) = if prs s.length Z ≤ 12 then spl s Z (prs s.length Z) (prs s.length Z) else []) := by
      rw [Hid, splitL, e0]
      simp only [Bool.true_and, Int.toNat_natCast, decide_eq_true_eq]
    have hpb : prs s.length Z ≤ 2000000 := by unfold prs; omega
    generalize (s.length + Z - 1) / Z = D at *
    generalize prs s.length Z = n at *
    by_cases hn : n ≤ 12
    · have hn' : ¬ ((12 : Int) < (n : Int)) := by omega
      have HZ : Hid (splitL s (Z : Int) = spl s Z n n) := by rw [Hid, HB.out, if_pos hn]
      clear HB hpb
      go_enter Try.func33, Try.ntmps33
      go_wp2_with (first | (go_at_call 62; refine (l1In_any _ _ _ _).mono ?_; rintro e w' ⟨rfl, hw'⟩; rw [hw']; clear hw') | (go_at_call 54; refine (l1Max_any _ _ _).mono ?_; rintro e w' ⟨rfl, hw'⟩; rw [hw']; clear hw'))
      go_loopw [5, 7] (fun v i wr => ∃ (k g og cg : Nat), k ≤ n ∧ i = .int .i64 (k : Int) ∧ v = .slice (some ⟨g, og, none⟩) (spl s Z n k).length cg ∧ w.heap.size ≤ g ∧ OB wr g og (spl s Z n k).length cg (spl s Z n k) ∧ Below w.heap.size w wr) (fun _ i _ => n - (intOf i).toNat)
      case atStart => exact ⟨0, w.heap.size, 0, 0, Nat.zero_le _, rfl, rfl, Nat.le_refl _, block_empty _ _, (Below.refl _ _).alloc (Nat.le_refl _) _⟩
      case round =>
        clear hdv hmx hz0' hz0'' hdb
        obtain ⟨k, g, og, cg, hk, rfl, rfl, hg, hO, hB⟩ := hrel
        have LO : Hid (OB wr g og (spl s Z n k).length cg (spl s Z n k)) := hO
        have LB : Hid (Below w.heap.size w wr) := hB
        have LG : Hid (w.heap.size ≤ g) := hg
        have LLE : (spl s Z n k).length ≤ 12 := by rw [spl_len]; omega
        clear hO hB hg
        by_cases hlt : k < n
        · have k1 : (k : Int) < (n : Int) := by omega
          have HR : Hid (spl s Z n (k + 1) = spl s Z n k ++ [((k : Int), (n : Int), pt11 s Z k)]) := spl_succ s Z n k
          have hkzL : k * Z ≤ s.length := by
            rcases Nat.eq_zero_or_pos k with e | e
            · subst e; simp
            · exact Nat.le_of_lt (HM.out k e hlt)
          have hcut : (sv s).extract (k * Z) (min s.length (k * Z + Z)) = sv (pt11 s Z k) := by rw [sv_sub, pt11_cut]
          have hkzI : (k : Int) * (Z : Int) = ((k * Z : Nat) : Int) := by simp
          generalize k * Z = kz at *
          have hmn : min (s.length : Int) ((kz : Int) + (Z : Int)) = ((min s.length (kz + Z) : Nat) : Int) := by omega
          have m1 : kz ≤ min s.length (kz + Z) := by omega
          have m2 : min s.length (kz + Z) ≤ s.length := by omega
          generalize min s.length (kz + Z) = mn at *
          have m3 : (kz : Int) ≤ (mn : Int) := by omega
          have m4 : (mn : Int) ≤ (s.length : Int) := by omega
          generalize pt11 s Z k = T at *
          generalize hW1 : spl s Z n (k + 1) = W1 at *
          generalize spl s Z n k = W0 at *
          have hO2 : OSl (wr.alloc (.cells #[.int .i64 (k : Int), .int .i64 (n : Int), .string (sv T)] 46)) 3 g og W0.length cg (bvs W0) := OSl.below LO.out ((Below.refl _ _).alloc (Nat.le_refl _) _) LO.out.blk
          go_wp2_with (first | (go_at_call 55; refine (l1Min_any _ _ _).mono ?_; rintro e w' ⟨rfl, hw'⟩; rw [hw']; clear hw') | (at_builtin; refine wpList_append_os _ rfl _ _ _ rfl 46 i0 _ 3 32 Try.underlying35 hi0 hz0 hz1 hz2 rfl (by omega) g og W0.length cg _ rfl hO2 ⟨wr.heap.size, 0, none⟩ 1 1 [.int .i64 (k : Int), .int .i64 (n : Int), .string (sv T)] rfl rfl (World.news_of_block (cs := #[.int .i64 (k : Int), .int .i64 (n : Int), .string (sv T)]) (t := 46) (fr := (0, 0)) (heap_alloc_new _ _)) (by simp [Value.oneCell']) (by unfold maxLen; omega) (by omega) ?_; intro g6 o6 c6 w6 hO6 hg6 hat6))
          have NG : Hid (w.heap.size ≤ g6) := by
            rcases hat6 with h | h
            · rw [h]; exact LG.out
            · rw [h]; exact Nat.le_trans LB.out.size (by simp)
          have NL : Hid (W1.length = W0.length + 1) := by rw [Hid, HR.out]; simp
          have NO : Hid (OB w6 g6 o6 W1.length c6 W1) := by
            rw [Hid, NL.out, HR.out, OB, bvs_snoc]; exact hO6
          have NB : Hid (Below w.heap.size w w6) := below_grown6 (LB.out.alloc LB.out.size _) hg6 LG.out (Nat.le_trans LB.out.size (by simp))
          clear hO6 hg6 hat6 hO2
          go_roundw
          case rel => exact ⟨k + 1, g6, o6, c6, by omega, by go_num, by rw [hW1, NL.out], NG.out, by rw [hW1]; exact NO.out, NB.out⟩
          case measure => simp [intOf]; omega
        · have k1 : ¬ ((k : Int) < (n : Int)) := by omega
          obtain rfl : k = n := by omega
          go_wp2
          go_ret
          rw [HZ.out]
          exact ⟨g, og, cg, rfl, LG.out, LO.out, LB.out⟩
    · have hn' : (12 : Int) < (n : Int) := by omega
      have HZ : Hid (splitL s (Z : Int) = []) := by rw [Hid, HB.out, if_neg hn]
      clear HB
      go_enter Try.func33, Try.ntmps33
      go_wp2_with (first | (go_at_call 62; refine (l1In_any _ _ _ _).mono ?_; rintro e w' ⟨rfl, hw'⟩; rw [hw']; clear hw') | (go_at_call 54; refine (l1Max_any _ _ _).mono ?_; rintro e w' ⟨rfl, hw'⟩; rw [hw']; clear hw'))
      go_ret
      rw [HZ.out]
      exact ⟨_, 0, 0, rfl, Nat.le_refl _, block_empty _ _, (Below.refl _ _).alloc (Nat.le_refl _) _⟩
end Go.Proofs.Ythlaaldicmfcnaa

/-
  The contracts of the specification's Lacking and Joined.
-/
namespace Go.Proofs.Ythlaaldicmfcnaa
set_option linter.unusedVariables false
set_option linter.unusedSimpArgs false
open Go.RowKit Go.Sort

theorem take_bat {L : List Blk} {k : Nat} (h : k < L.length) : L.take (k + 1) = L.take k ++ [bat L k] := by
  rw [List.take_succ_eq_append_getElem h]
  simp [bat, List.getD, h]
theorem hasB_take {L : List Blk} {total : Int} {i k : Nat} (h : k < L.length) : hasB (L.take (k + 1)) total i = (hasB (L.take k) total i || (okBk (bat L k) && ((bat L k).2.1 == total && (bat L k).1 == (i : Int)))) := by
  rw [take_bat h, hasB, List.any_append]
  simp [hasB]
/-- Texts in a list of blocks that are not too long to be read. -/
def ShortB (L : List Blk) : Prop := ∀ i, i < L.length → (bat L i).2.2.length ≤ 1000000000
attribute [local irreducible] sv
set_option maxRecDepth 100000 in
set_option maxHeartbeats 1600000 in
theorem lacS_any (a : Option Addr) (n cap : Nat) (L : List Blk) (total : Int) (w : World) (hv : BkS w a n L) (hsh : ShortB L) (hm : n ≤ maxLen) :
    Calls Try.prog 35 #[.slice a n cap, .int .i64 total] w fun e w' => AnsN w w' e (lackL L total) := by
  obtain ⟨i0, hi0, hz0, hz1, hz2⟩ := info_parts2n Try.info2n
  unfold maxLen at hm
  cases e0 : inB total 1 12 with
  | false =>
    have HZ : Hid (lackL L total = []) := by rw [Hid, lackL, e0]; rfl
    go_enter Try.func35, Try.ntmps35
    go_wp2_with (go_at_call 62; refine (l1In_any _ _ _ _).mono ?_; rintro e w' ⟨rfl, hw'⟩; rw [hw']; clear hw')
    go_ret
    rw [HZ.out]
    exact ⟨_, 0, 0, rfl, Nat.le_refl _, num_empty _ 2, (Below.refl _ _).alloc (Nat.le_refl _) _⟩
  | true =>
    have hk := inB7.1 e0
    obtain ⟨T, rfl⟩ : ∃ T : Nat, total = (T : Int) := ⟨total.toNat, by omega⟩
    have HZ : Hid (lackL L (T : Int) = lck L (T : Int) T) := by rw [Hid, lackL, e0]; simp
    have HV : Hid (BkS w a n L) := hv
    have HN : Hid (L.length = n) := hv.1
    clear hv
    go_enter Try.func35, Try.ntmps35
    go_wp2_with (go_at_call 62; refine (l1In_any _ _ _ _).mono ?_; rintro e w' ⟨rfl, hw'⟩; rw [hw']; clear hw')
    clear e0
    go_loopw [5, 6] (fun v i wr => ∃ (k g og cg : Nat), k ≤ T ∧ i = .int .i64 (k : Int) ∧ v = .slice (some ⟨g, og, none⟩) (lck L (T : Int) k).length cg ∧ w.heap.size ≤ g ∧ OI wr g og (lck L (T : Int) k).length cg (lck L (T : Int) k) ∧ Below w.heap.size w wr) (fun _ i _ => T - (intOf i).toNat)
    case atStart => exact ⟨0, w.heap.size, 0, 0, Nat.zero_le _, rfl, rfl, Nat.le_refl _, num_empty _ 2, (Below.refl _ _).alloc (Nat.le_refl _) _⟩
    case round =>
      obtain ⟨k, g, og, cg, hk9, rfl, rfl, hg, hO, hB⟩ := hrel
      by_cases hlt : k < T
      · have k1 : (k : Int) < (T : Int) := by omega
        have LO : Hid (OI wr g og (lck L (T : Int) k).length cg (lck L (T : Int) k)) := hO
        have LB : Hid (Below w.heap.size w wr) := hB
        have LG : Hid (w.heap.size ≤ g) := hg
        have LLE : (lck L (T : Int) k).length ≤ 12 := Nat.le_trans (lck_len _ _ _) (by omega)
        have HR : Hid (lck L (T : Int) (k + 1) = lck L (T : Int) k ++ (if hasB L (T : Int) k = true then [] else [(k : Int)])) := lck_succ L (T : Int) k
        clear hO hB hg
        generalize hWR : wr = W0 at *
        clear hWR
        go_wp2_with fail
        go_loopw [7, 8] (fun f i wi => ∃ j : Nat, j ≤ n ∧ i = .int .i64 (j : Int) ∧ f = .bool (hasB (L.take j) (T : Int) k) ∧ Below W0.heap.size W0 wi) (fun _ i _ => n - (intOf i).toNat)
        case atStart => exact ⟨0, Nat.zero_le _, rfl, rfl, Below.refl _ _⟩
        case round =>
          obtain ⟨j, hj, rfl, rfl, hb⟩ := hrel
          have HBI : Hid (Below W0.heap.size W0 wr) := hb
          by_cases hjn : j < n
          · have j1 : (j : Int) < (n : Int) := by omega
            have j0 : (0 : Int) ≤ (j : Int) := by omega
            obtain ⟨_, h0 | ⟨bb, bo, rfl, hcs⟩⟩ := (HV.out.below LB.out).below hb
            · omega
            obtain ⟨c0, c1, c2⟩ := hcs j hjn
            have HS : Hid (hasB (L.take (j + 1)) (T : Int) k = (hasB (L.take j) (T : Int) k || (okBk (bat L j) && ((bat L j).2.1 == (T : Int) && (bat L j).1 == (k : Int))))) := hasB_take (by rw [HN.out]; exact hjn)
            have hzl := hsh j (by rw [HN.out]; exact hjn)
            have hbat : bat L j = ((bat L j).1, (bat L j).2.1, (bat L j).2.2) := rfl
            have C := blk1_any (bat L j).1 (bat L j).2.1 (bat L j).2.2 wr (by omega)
            rw [← hbat] at C
            generalize okBk (bat L j) = ob at *
            generalize (bat L j).1 = x at *
            generalize (bat L j).2.1 = y at *
            generalize (bat L j).2.2 = z at *
            generalize hFN : hasB (L.take (j + 1)) (T : Int) k = fn at *
            generalize hasB (L.take j) (T : Int) k = fo at *
            clear hcs hb hbat
            cases fo
            · cases ob
              · have HE : Hid (fn = false) := HS.out
                go_wp2_with (go_at_call 68; refine C.mono ?_; rintro e w' ⟨rfl, hg'⟩; have hb' := hg'.1; clear hg')
                go_roundw
                case rel => exact ⟨j + 1, by omega, by go_num, by rw [hFN, HE.out], HBI.out.trans (hb'.mono HBI.out.size)⟩
                case measure => simp [intOf]; omega
              · cases ey : (y == (T : Int))
                · have HE : Hid (fn = false) := by rw [Hid, HS.out, ey]; rfl
                  go_wp2_with (go_at_call 68; refine C.mono ?_; rintro e w' ⟨rfl, hg'⟩; have hb' := hg'.1; have c0' := (hb'.cell (World.block_lt_of_cell? _ _ c0)).trans c0; have c1' := (hb'.cell (World.block_lt_of_cell? _ _ c1)).trans c1; clear hg')
                  go_roundw
                  case rel => exact ⟨j + 1, by omega, by go_num, by rw [hFN, HE.out], HBI.out.trans (hb'.mono HBI.out.size)⟩
                  case measure => simp [intOf]; omega
                · have HE : Hid (fn = (x == (k : Int))) := by rw [Hid, HS.out, ey]; simp
                  go_wp2_with (go_at_call 68; refine C.mono ?_; rintro e w' ⟨rfl, hg'⟩; have hb' := hg'.1; have c0' := (hb'.cell (World.block_lt_of_cell? _ _ c0)).trans c0; have c1' := (hb'.cell (World.block_lt_of_cell? _ _ c1)).trans c1; clear hg')
                  go_roundw
                  case rel => exact ⟨j + 1, by omega, by go_num, by rw [hFN, HE.out], HBI.out.trans (hb'.mono HBI.out.size)⟩
                  case measure => simp [intOf]; omega
            · have HE : Hid (fn = true) := HS.out
              clear C
              go_wp2
              go_roundw
              case rel => exact ⟨j + 1, by omega, by go_num, by rw [hFN, HE.out], HBI.out⟩
              case measure => simp [intOf]; omega
          · have j1 : ¬ ((j : Int) < (n : Int)) := by omega
            have hjL : L.take j = L := by rw [List.take_of_length_le]; rw [HN.out]; omega
            rw [hjL]
            have B2 : Hid (Below w.heap.size w wr) := LB.out.trans (hb.mono LB.out.size)
            have O2 : Hid (OI wr g og (lck L (T : Int) k).length cg (lck L (T : Int) k)) := LO.out.below hb LO.out.blk
            clear hb hjL
            generalize hasB L (T : Int) k = fo at *
            cases fo
            · have HR' : Hid (lck L (T : Int) (k + 1) = lck L (T : Int) k ++ [(k : Int)]) := by rw [Hid, HR.out]; simp
              generalize hX1 : lck L (T : Int) (k + 1) = X1 at *
              generalize lck L (T : Int) k = X0 at *
              have hO2 : OSl (wr.alloc (.cells #[.int .i64 (k : Int)] 2)) 1 g og X0.length cg (X0.map (Value.int .i64)) := OSl.below O2.out ((Below.refl _ _).alloc (Nat.le_refl _) _) O2.out.blk
              go_wp2_with (at_builtin; refine wpList_append_os _ rfl _ _ _ rfl 2 i0 _ 1 8 Try.underlying24 hi0 hz0 hz1 hz2 rfl (by omega) g og X0.length cg _ rfl hO2 ⟨wr.heap.size, 0, none⟩ 1 1 [.int .i64 (k : Int)] rfl rfl (World.news_of_block (cs := #[.int .i64 (k : Int)]) (t := 2) (fr := (0, 0)) (heap_alloc_new _ _)) (by simp [Value.oneCell']) (by unfold maxLen; omega) (by omega) ?_; intro g6 o6 c6 w6 hO6 hg6 hat6)
              have NG : Hid (w.heap.size ≤ g6) := by
                rcases hat6 with h | h
                · rw [h]; exact LG.out
                · rw [h]; exact Nat.le_trans B2.out.size (by simp)
              have NL : Hid (X1.length = X0.length + 1) := by rw [Hid, HR'.out]; simp
              have NO : Hid (OI w6 g6 o6 X1.length c6 X1) := by
                rw [Hid, NL.out, HR'.out, OI, List.map_append]; exact hO6
              have NB : Hid (Below w.heap.size w w6) := below_grown6 (B2.out.alloc B2.out.size _) hg6 LG.out (Nat.le_trans B2.out.size (by simp))
              clear hO6 hg6 hat6 hO2
              go_roundw
              case rel => exact ⟨k + 1, g6, o6, c6, by omega, by go_num, by rw [hX1, NL.out], NG.out, by rw [hX1]; exact NO.out, NB.out⟩
              case measure => simp [intOf]; omega
            · have HR' : Hid (lck L (T : Int) (k + 1) = lck L (T : Int) k) := by rw [Hid, HR.out]; simp
              go_wp2
              go_roundw
              case rel => exact ⟨k + 1, g, og, cg, by omega, by go_num, by rw [HR'.out], LG.out, by rw [HR'.out]; exact O2.out, B2.out⟩
              case measure => simp [intOf]; omega
      · have k1 : ¬ ((k : Int) < (T : Int)) := by omega
        obtain rfl : k = T := by omega
        go_wp2
        go_ret
        rw [HZ.out]
        exact ⟨g, og, cg, rfl, hg, hO, hB⟩
theorem allB_take {L : List Blk} (h : ∀ j, j < L.length → okBk (bat L j) = true ∧ (bat L j).2.1 = (bat L 0).2.1) : allB L = true := by
  rw [allB_iff]
  intro b hb
  obtain ⟨i, hi, rfl⟩ := mem_bat hb
  exact h i hi
theorem allB_not {L : List Blk} {j : Nat} (hj : j < L.length) (h : ¬ (okBk (bat L j) = true ∧ (bat L j).2.1 = (bat L 0).2.1)) : joinL L = ([], false) :=
  joinL_no (fun hh => h (allB_iff.1 hh.2 _ (bat_mem hj)))
/-- The first one with this index, from m on. -/
def At11 (L : List Blk) (i m : Nat) (x : Int) : Prop := (x = -1 ∧ ∀ j, m ≤ j → j < L.length → (bat L j).1 ≠ (i : Int)) ∨ ∃ j : Nat, x = (j : Int) ∧ m ≤ j ∧ j < L.length ∧ (bat L j).1 = (i : Int) ∧ ∀ t, m ≤ t → t < j → (bat L t).1 ≠ (i : Int)
theorem At11.start (L : List Blk) (i : Nat) : At11 L i L.length (-1) := .inl ⟨rfl, fun j h1 h2 => by omega⟩
theorem At11.hit {L : List Blk} {i m : Nat} {x : Int} (hm : m < L.length) (h : (bat L m).1 = (i : Int)) : At11 L i m (m : Int) := .inr ⟨m, rfl, Nat.le_refl _, hm, h, fun t h1 h2 => by omega⟩
theorem At11.miss {L : List Blk} {i m : Nat} {x : Int} (hx : At11 L i (m + 1) x) (h : (bat L m).1 ≠ (i : Int)) : At11 L i m x := by
  rcases hx with ⟨rfl, hx⟩ | ⟨j, rfl, h1, h2, h3, h4⟩
  · refine .inl ⟨rfl, fun j h1 h2 => ?_⟩
    by_cases e : j = m
    · rw [e]; exact h
    · exact hx j (by omega) h2
  · refine .inr ⟨j, rfl, by omega, h2, h3, fun t h5 h6 => ?_⟩
    by_cases e : t = m
    · rw [e]; exact h
    · exact h4 t (by omega) h6
theorem At11.none {L : List Blk} {i : Nat} {x : Int} (h : At11 L i 0 x) (hx : x < 0) : fst11 L i = Option.none := by
  rcases h with ⟨_, h⟩ | ⟨j, rfl, _⟩
  · rw [fst11_none]
    intro b hb
    obtain ⟨k, hk, rfl⟩ := mem_bat hb
    exact h k (Nat.zero_le _) hk
  · omega
theorem At11.found {L : List Blk} {i : Nat} {x : Int} (h : At11 L i 0 x) (hx : 0 ≤ x) : ∃ j : Nat, x = (j : Int) ∧ j < L.length ∧ fst11 L i = Option.some (bat L j) := by
  rcases h with ⟨rfl, _⟩ | ⟨j, rfl, _, h2, h3, h4⟩
  · omega
  · refine ⟨j, rfl, h2, ?_⟩
    unfold fst11
    rw [List.find?_eq_some_iff_getElem]
    have e : ∀ t, (ht : t < L.length) → bat L t = L[t] := fun t ht => by simp [bat, List.getD, ht]
    refine ⟨by simpa using h3, j, h2, (e j h2).symm, fun t ht => ?_⟩
    have := h4 t (Nat.zero_le _) ht
    rw [e t (by omega)] at this
    simpa using this
theorem gath_short {L : List Blk} (h : allB L = true) : ∀ {m : Nat} {s : List UInt8}, gath L m = some s → s.length ≤ m * 100
  | 0, s, hs => by simp [gath] at hs; simp [← hs]
  | m + 1, s, hs => by
    unfold gath at hs
    split at hs
    · rename_i s0 b h1 h2
      have ih := gath_short h h1
      have hb := (okBk_iff.1 (allB_iff.1 h b (List.mem_of_find?_eq_some h2)).1).2.2
      simp at hs
      rw [← hs, List.length_append]
      omega
    · cases hs
theorem gath_next {L : List Blk} {m : Nat} {s : List UInt8} {b : Blk} (h : gath L m = some s) (hb : fst11 L m = some b) : gath L (m + 1) = some (s ++ b.2.2) := by
  unfold gath
  rw [h, hb]
set_option maxRecDepth 100000 in
set_option maxHeartbeats 3200000 in
theorem joiS_any (a : Option Addr) (n cap : Nat) (L : List Blk) (w : World) (hv : BkS w a n L) (hsh : ShortB L) (hm : n ≤ 1048576) :
    Calls Try.prog 31 #[.slice a n cap] w fun e w' => e = .returned (.tuple #[.string (sv (joinL L).1), .bool (joinL L).2]) ∧ Below w.heap.size w w' := by
  have HNIL : Hid ((⟨#[]⟩ : ByteArray) = sv []) := by unfold sv; rfl
  have hmix := mixed11
  have HN : Hid (L.length = n) := hv.1
  rcases Nat.eq_zero_or_pos n with e | e
  · subst e
    have HZ : Hid (joinL L = ([], false)) := joinL_no (fun h => h.1 (List.eq_nil_of_length_eq_zero HN.out))
    go_enter Try.func31, Try.ntmps31
    go_wp2
    refine bodyPost_ret (v := .tuple #[.string ⟨#[]⟩, .bool false]) (by simp [results, Try.results31, go_sem]) rfl ?_
    rw [HZ.out, HNIL.out]
    exact ⟨rfl, Below.refl _ _⟩
  · have ne0 : ((n : Int) == 0) = false := by simp; omega
    have HV : Hid (BkS w a n L) := hv
    obtain ⟨_, h0 | ⟨bb, bo, rfl, _⟩⟩ := hv
    · omega
    go_enter Try.func31, Try.ntmps31
    go_wp2_with fail
    go_loopw [4] (fun i wr => ∃ k : Nat, k ≤ n ∧ i = .int .i64 (k : Int) ∧ (∀ j, j < k → okBk (bat L j) = true ∧ (bat L j).2.1 = (bat L 0).2.1) ∧ Below w.heap.size w wr) (fun i _ => n - (intOf i).toNat)
    case atStart => exact ⟨0, Nat.zero_le _, rfl, fun j hj => by omega, Below.refl _ _⟩
    case round =>
      obtain ⟨k, hk, rfl, hall, hgr⟩ := hrel
      have HA : Hid (∀ j, j < k → okBk (bat L j) = true ∧ (bat L j).2.1 = (bat L 0).2.1) := hall
      have HG : Hid (Below w.heap.size w wr) := hgr
      clear hall
      by_cases hlt : k < n
      · have k1 : (k : Int) < (n : Int) := by omega
        have k0 : (0 : Int) ≤ (k : Int) := by omega
        have n0 : (0 : Int) < (n : Int) := by omega
        obtain ⟨_, h0 | ⟨bb', bo', e', hcs⟩⟩ := HV.out.below hgr
        · omega
        cases e'
        obtain ⟨c0, c1, c2⟩ := hcs k hlt
        obtain ⟨d0, d1, d2⟩ := hcs 0 e
        simp only [Nat.zero_mul, Nat.add_zero] at d0 d1 d2
        have p0 : ∀ q : Bk wr, q.w.cell? ⟨bb, bo + k * 3, none⟩ = some (.int .i64 (bat L k).1) := fun q => (q.h.cell (World.block_lt_of_cell? _ _ c0)).trans c0
        have p1 : ∀ q : Bk wr, q.w.cell? ⟨bb, bo + k * 3 + 1, none⟩ = some (.int .i64 (bat L k).2.1) := fun q => (q.h.cell (World.block_lt_of_cell? _ _ c1)).trans c1
        have p2 : ∀ q : Bk wr, q.w.cell? ⟨bb, bo + k * 3 + 2, none⟩ = some (.string (sv (bat L k).2.2)) := fun q => (q.h.cell (World.block_lt_of_cell? _ _ c2)).trans c2
        have q1 : ∀ q : Bk wr, q.w.cell? ⟨bb, bo + 1, none⟩ = some (.int .i64 (bat L 0).2.1) := fun q => (q.h.cell (World.block_lt_of_cell? _ _ d1)).trans d1
        have hzl := hsh k (by rw [HN.out]; exact hlt)
        have hbat : bat L k = ((bat L k).1, (bat L k).2.1, (bat L k).2.2) := rfl
        have C : ∀ X, Calls Try.prog 68 #[.agg #[.int .i64 (bat L k).1, .int .i64 (bat L k).2.1, .string (sv (bat L k).2.2)]] X fun e w' => e = .returned (.bool (okBk (bat L k))) ∧ Below X.heap.size X w' := fun X => by
          have := blk1_any (bat L k).1 (bat L k).2.1 (bat L k).2.2 X (by omega)
          rw [← hbat] at this
          exact this.mono (fun e w' h => ⟨h.1, h.2.1⟩)
        have HY : Hid (okBk (bat L k) = true → (bat L k).2.1 = (bat L 0).2.1 → ∀ j, j < k + 1 → okBk (bat L j) = true ∧ (bat L j).2.1 = (bat L 0).2.1) := fun h1 h2 j hj => by
          rcases Nat.lt_succ_iff_lt_or_eq.1 hj with h | h
          · exact HA.out j h
          · rw [h]; exact ⟨h1, h2⟩
        have HNo : Hid (¬ (okBk (bat L k) = true ∧ (bat L k).2.1 = (bat L 0).2.1) → joinL L = ([], false)) := fun h => allB_not (by rw [HN.out]; exact hlt) h
        generalize okBk (bat L k) = ob at *
        generalize (bat L k).1 = x at *
        generalize (bat L k).2.1 = y at *
        generalize (bat L k).2.2 = z at *
        generalize hY0 : (bat L 0).2.1 = y0 at *
        clear hcs c0 c1 c2 d0 d1 d2 hbat hgr
        cases ob
        · have HZ : Hid (joinL L = ([], false)) := HNo.out (by simp)
          go_wp2_with fail
          refine wp_region_bk (by kernel_rfl) (by kernel_rfl) ?_
          repeat (go_big_quiet_step ((first | (go_at_call 68; exact bk_call _ (C _)) | rfl)))
          refine wpQuiet_nil ?_
          intro wE hw'
          obtain ⟨⟨w11, hb11⟩, hw''⟩ := hw'
          have hwe : wE = w11 := hw''
          clear hw''
          subst hwe
          have HGE : Hid (Below w.heap.size w wE) := HG.out.trans (hb11.mono HG.out.size)
          clear p0 p1 p2 q1 C hb11
          go_wp2
          refine bodyPost_ret (v := .tuple #[.string ⟨#[]⟩, .bool false]) (by simp [results, Try.results31, go_sem]) rfl ?_
          rw [HZ.out, HNIL.out]
          exact ⟨rfl, HGE.out⟩
        · by_cases hy : y = y0
          · have ey : (y != y0) = false := by simp [hy]
            have HN2 : Hid (∀ j, j < k + 1 → okBk (bat L j) = true ∧ (bat L j).2.1 = y0) := HY.out rfl hy
            clear HY HNo hy
            go_wp2_with fail
            refine wp_region_bk (by kernel_rfl) (by kernel_rfl) ?_
            repeat (go_big_quiet_step ((first | (go_at_call 68; exact bk_call _ (C _)) | rfl)))
            refine wpQuiet_nil ?_
            intro wE hw'
            obtain ⟨⟨w11, hb11⟩, hw''⟩ := hw'
            have hwe : wE = w11 := hw''
            clear hw''
            subst hwe
            have HGE : Hid (Below w.heap.size w wE) := HG.out.trans (hb11.mono HG.out.size)
            clear p0 p1 p2 q1 C hb11
            go_wp2
            go_roundw
            case rel => exact ⟨k + 1, by omega, by go_num, HN2.out, HGE.out⟩
            case measure => simp [intOf]; omega
          · have ey : (y != y0) = true := by simp [hy]
            have HZ : Hid (joinL L = ([], false)) := HNo.out (fun h => hy h.2)
            clear HY HNo hy
            go_wp2_with fail
            refine wp_region_bk (by kernel_rfl) (by kernel_rfl) ?_
            repeat (go_big_quiet_step ((first | (go_at_call 68; exact bk_call _ (C _)) | rfl)))
            refine wpQuiet_nil ?_
            intro wE hw'
            obtain ⟨⟨w11, hb11⟩, hw''⟩ := hw'
            have hwe : wE = w11 := hw''
            clear hw''
            subst hwe
            have HGE : Hid (Below w.heap.size w wE) := HG.out.trans (hb11.mono HG.out.size)
            clear p0 p1 p2 q1 C hb11
            go_wp2
            refine bodyPost_ret (v := .tuple #[.string ⟨#[]⟩, .bool false]) (by simp [results, Try.results31, go_sem]) rfl ?_
            rw [HZ.out, HNIL.out]
            exact ⟨rfl, HGE.out⟩
      · have k1 : ¬ ((k : Int) < (n : Int)) := by omega
        obtain rfl : k = n := by omega
        have HAL : Hid (allB L = true) := allB_take (fun j hj => HA.out j (by rw [← HN.out]; exact hj))
        have hb0 := (okBk_iff.1 (HA.out 0 e).1).1
        obtain ⟨T, hT⟩ : ∃ T : Nat, (bat L 0).2.1 = (T : Int) := ⟨(bat L 0).2.1.toNat, by omega⟩
        have hT12 : T ≤ 12 := by omega
        have HJ : Hid (joinL L = jnO (gath L T)) := by
          rw [Hid, joinL, if_pos ⟨fun h => by rw [h] at HN; have := HN.out; simp at this; omega, HAL.out⟩, hT]
          simp
        have HG0 : Hid (Below w.heap.size w wr) := hgr
        have HT0 : Hid ((bat L 0).2.1 = (T : Int)) := hT
        clear HA hgr hT hb0
        generalize hWR : wr = W0 at *
        clear hWR
        go_wp2_with fail
        go_loopw [5, 6] (fun v i wr => ∃ (m : Nat) (s : List UInt8), m ≤ T ∧ i = .int .i64 (m : Int) ∧ v = .string (sv s) ∧ gath L m = some s ∧ Hid (wr = W0)) (fun _ i _ => T - (intOf i).toNat)
        case atStart => exact ⟨0, [], Nat.zero_le _, rfl, by rw [← HNIL.out], rfl, rfl⟩
        case round =>
          obtain ⟨m, s, hm9, rfl, rfl, hgt, HW0⟩ := hrel
          have HGT : Hid (gath L m = some s) := hgt
          have hsl : s.length ≤ 1200 := Nat.le_trans (gath_short HAL.out hgt) (by omega)
          clear hgt
          obtain ⟨_, h0 | ⟨bb', bo', e', hcs⟩⟩ := HV.out.below HG0.out
          · omega
          cases e'
          rw [← HW0.out] at hcs
          have HCS : Hid (∀ i, i < k → wr.cell? ⟨bb, bo + i * 3, none⟩ = some (.int .i64 (bat L i).1) ∧ wr.cell? ⟨bb, bo + i * 3 + 1, none⟩ = some (.int .i64 (bat L i).2.1) ∧ wr.cell? ⟨bb, bo + i * 3 + 2, none⟩ = some (.string (sv (bat L i).2.2))) := hcs
          obtain ⟨d0, d1, d2⟩ := hcs 0 e
          simp only [Nat.zero_mul, Nat.add_zero] at d1
          rw [HT0.out] at d1
          have n0 : (0 : Int) < (k : Int) := by omega
          have hsz := sv_size s
          clear hcs d0 d2
          by_cases hlt : m < T
          · have m1 : (m : Int) < (T : Int) := by omega
            go_wp2_with fail
            clear d1
            go_loopw [7, 8] (fun x y wi => ∃ (j : Nat) (z : Int), j ≤ k ∧ y = .int .i64 ((j : Int) - 1) ∧ x = .int .i64 z ∧ At11 L m j z ∧ Hid (wi = W0)) (fun _ y _ => (intOf y + 1).toNat)
            case atStart => exact ⟨k, -1, Nat.le_refl _, rfl, rfl, by rw [← HN.out]; exact At11.start L m, HW0⟩
            case round =>
              have HC0 : Hid (∀ i, i < k → W0.cell? ⟨bb, bo + i * 3, none⟩ = some (.int .i64 (bat L i).1) ∧ W0.cell? ⟨bb, bo + i * 3 + 1, none⟩ = some (.int .i64 (bat L i).2.1) ∧ W0.cell? ⟨bb, bo + i * 3 + 2, none⟩ = some (.string (sv (bat L i).2.2))) := by have := HCS.out; rw [HW0.out] at this; exact this
              clear HCS HW0
              obtain ⟨j, z, hj, rfl, rfl, hat, HW1⟩ := hrel
              have HCS : Hid (∀ i, i < k → wr.cell? ⟨bb, bo + i * 3, none⟩ = some (.int .i64 (bat L i).1) ∧ wr.cell? ⟨bb, bo + i * 3 + 1, none⟩ = some (.int .i64 (bat L i).2.1) ∧ wr.cell? ⟨bb, bo + i * 3 + 2, none⟩ = some (.string (sv (bat L i).2.2))) := by rw [Hid, HW1.out]; exact HC0.out
              have HAT : Hid (At11 L m j z) := hat
              clear hat
              cases j with
              | zero =>
                have z0 : ¬ ((0 : Int) ≤ ((0 : Nat) : Int) - 1) := by omega
                by_cases hz : z < 0
                · have HZ : Hid (joinL L = ([], false)) := by
                    rw [Hid, HJ.out, gath_lacks (HAT.out.none hz) hlt]
                    rfl
                  go_wp2
                  refine bodyPost_ret (v := .tuple #[.string ⟨#[]⟩, .bool false]) (by simp [results, Try.results31, go_sem]) rfl ?_
                  rw [HZ.out, HNIL.out]
                  exact ⟨rfl, by rw [HW1.out]; exact HG0.out⟩
                · obtain ⟨q, rfl, hq, hfq⟩ := HAT.out.found (by omega)
                  rw [HN.out] at hq
                  obtain ⟨c0, c1, c2⟩ := HCS.out q hq
                  have HN2 : Hid (gath L (m + 1) = some (s ++ (bat L q).2.2)) := gath_next HGT.out hfq
                  have ht100 : (bat L q).2.2.length ≤ 100 := (okBk_iff.1 (allB_iff.1 HAL.out _ (bat_mem (by rw [HN.out]; exact hq))).1).2.2
                  have hst := sv_size (bat L q).2.2
                  have happ := sv_app s (bat L q).2.2
                  have q0 : (0 : Int) ≤ (q : Int) := by omega
                  have q1 : (q : Int) < (k : Int) := by omega
                  generalize (bat L q).2.2 = tx at *
                  clear hfq
                  go_wp2
                  go_roundw
                  case rel => exact ⟨m + 1, s ++ tx, by omega, by go_num, by rw [← happ], HN2.out, HW1⟩
                  case measure => simp [intOf]; omega
              | succ j =>
                obtain ⟨c0, c1, c2⟩ := HCS.out j (by omega)
                have z0 : (0 : Int) ≤ ((j + 1 : Nat) : Int) - 1 := by omega
                have z1 : ((j + 1 : Nat) : Int) - 1 = (j : Int) := by omega
                have z2 : (j : Int) < (k : Int) := by omega
                have z3 : (0 : Int) ≤ (j : Int) := by omega
                by_cases hx : (bat L j).1 = (m : Int)
                · have hx' : ((bat L j).1 == (m : Int)) = true := by simp [hx]
                  have HNX : Hid (At11 L m j (j : Int)) := At11.hit (x := 0) (by rw [HN.out]; omega) hx
                  generalize (bat L j).1 = bx at *
                  clear hx
                  rw [z1]
                  go_wp2
                  go_roundw
                  case rel => exact ⟨j, (j : Int), by omega, by go_num, rfl, HNX.out, HW1⟩
                  case measure => simp [intOf]
                · have hx' : ((bat L j).1 == (m : Int)) = false := by simp [hx]
                  have HNX : Hid (At11 L m j z) := HAT.out.miss hx
                  generalize (bat L j).1 = bx at *
                  clear hx
                  rw [z1]
                  go_wp2
                  go_roundw
                  case rel => exact ⟨j, z, by omega, by go_num, rfl, HNX.out, HW1⟩
                  case measure => simp [intOf]
          · have m1 : ¬ ((m : Int) < (T : Int)) := by omega
            obtain rfl : m = T := by omega
            have HZ : Hid (joinL L = (s, true)) := by rw [Hid, HJ.out, HGT.out]; rfl
            go_wp2
            refine bodyPost_ret (v := .tuple #[.string (sv s), .bool true]) (by simp [results, Try.results31, go_sem]) rfl ?_
            rw [HZ.out]
            exact ⟨rfl, by rw [HW0.out]; exact HG0.out⟩
end Go.Proofs.Ythlaaldicmfcnaa
