/-
  The walk of the law FnNewest.
-/
import Derived.Test.YtacogcfdolmfpaaDr6
import Derived.Test.YtacogcfdolmfpaaLawCl
namespace Go.Proofs.Ytacogcfdolmfpaa
set_option linter.unusedSimpArgs false
set_option linter.unusedVariables false
open Go.RowKit Go.Sort

theorem nw_cases (es : List Ev) (n : Nat) (node : Int) : nwT es n node = [] ∨ (okT es n = true ∧ ∃ L, lastB es node n = some L ∧ nwT es n node = cl es L) := by
  unfold nwT
  by_cases h : okT es n = true
  · rw [if_pos h]
    cases hl : lastB es node n with
    | none => exact .inl rfl
    | some L => exact .inr ⟨h, L, rfl, rfl⟩
  · rw [if_neg h]; exact .inl rfl
/-- How many of the first j that are counted are of each node. -/
def cntL (es : List Ev) (P : List Nat) (j : Nat) : List Int := (List.range 8).map (fun (p : Nat) => (((P.take j).filter (fun x => decide ((evAt es x).n = (p : Int)))).length : Int))
theorem cntL_len (es : List Ev) (P : List Nat) (j : Nat) : (cntL es P j).length = 8 := by simp [cntL]
theorem cntL_el {es : List Ev} {P : List Nat} {j p : Nat} (hp : p < 8) : el (cntL es P j) p = (((P.take j).filter (fun x => decide ((evAt es x).n = (p : Int)))).length : Int) := by simp [cntL, el, hp]
theorem cntL_bound {es : List Ev} {P : List Nat} {j p : Nat} (hp : p < 8) : 0 ≤ el (cntL es P j) p ∧ el (cntL es P j) p ≤ P.length := by
  rw [cntL_el hp]
  have h1 := List.length_filter_le (fun x => decide ((evAt es x).n = (p : Int))) (P.take j)
  have h2 := List.length_take_le' j P
  omega
theorem cntL_zero (es : List Ev) (P : List Nat) : cntL es P 0 = zer8 := by
  refine eq_of_all (by rw [cntL_len, zer8_len]) (fun p hp => ?_)
  rw [cntL_len] at hp
  rw [cntL_el hp, el_zer8]; rfl
theorem cntL_step {es : List Ev} {P : List Nat} {j p : Nat} (hj : j < P.length) (hp : p < 8) (hn : (evAt es P[j]).n = (p : Int)) : (cntL es P j).set p (el (cntL es P j) p + 1) = cntL es P (j + 1) := by
  refine eq_of_all (by rw [List.length_set, cntL_len, cntL_len]) (fun q hq => ?_)
  rw [List.length_set, cntL_len] at hq
  have e : el ((cntL es P j).set p (el (cntL es P j) p + 1)) q = if p = q then el (cntL es P j) p + 1 else el (cntL es P j) q := by
    simp only [el, List.getD_eq_getElem?_getD, List.getElem?_set, cntL_len]
    by_cases h : p = q
    · subst h; simp [hp]
    · simp [h]
  rw [e, cntL_el hq, cntL_el hp, cntL_el hq, List.take_succ_eq_append_getElem hj, List.filter_append, List.length_append]
  by_cases h : p = q
  · subst h
    rw [if_pos rfl, List.filter_cons, if_pos (by simp [hn])]
    simp
  · rw [if_neg h, List.filter_cons, if_neg (by simp [hn]; omega)]
    simp
theorem cntL_done {es : List Ev} {n L : Nat} (hok : okT es n = true) (hL : L < n) : cntL es (pastL es L ++ [L]) (pastL es L ++ [L]).length = cl es L := by
  refine eq_of_all (by rw [cntL_len, cl_len]) (fun p hp => ?_)
  rw [cntL_len] at hp
  rw [cntL_el hp, List.take_length, cl_count hok hL hp]
theorem own_num {es : List Ev} {n L p : Nat} (hok : okT es n = true) (hL : lastB es (p : Int) n = some L) : el (cl es L) p = (num es (p : Int) n : Int) := by
  obtain ⟨h1, h2, h3⟩ := lastB_some hL
  rw [cl_own hok h1 h2]
  have := num_flat (es := es) (p := (p : Int)) (i := L + 1) (k := n) (by omega) (fun j h4 h5 => h3 j (by omega) h5)
  rw [this]
theorem num_le (es : List Ev) (p : Int) (k : Nat) : num es p k ≤ k := by
  induction k with
  | zero => exact Nat.le_refl _
  | succ k ih => simp only [num]; split <;> omega

set_option maxRecDepth 100000 in
set_option maxHeartbeats 3200000 in
/-- The law FnNewest. -/
theorem lawFnNewest (a : Option Addr) (len cap : Nat) (bs : Nat → Int) (w : World) (hv : BVec w a len bs) :
    Calls Try.prog 6 #[.slice a len cap] w fun e w' => e = .returned (.bool true) ∧ Below w.heap.size w w' := by
  by_cases hbig : (4096 : Int) < (len : Int)
  · have hB := big_any a len cap w
    rw [decide_eq_true hbig] at hB
    go_enter Try.func6, Try.ntmps6
    go_wp2_with fail
    refine hB.mono ?_
    rintro e w1 ⟨rfl, hw1⟩
    have HW : Hid (w1 = w) := hw1
    clear hw1
    go_wp2
    go_ret
    exact ⟨rfl, by rw [HW.out]; exact Below.refl _ _⟩
  · have hB := big_any a len cap w
    rw [decide_eq_false hbig] at hB
    have hl : len ≤ 4096 := by omega
    have hmk := run_make_row' (P := Try.prog) 24 2 (.int .i64 0) 8 Try.underlying24 Try.info2 rfl .i64 .i64 8 (by omega) (by omega)
    have h8 : ((8 : Nat) : Int) = 8 := rfl
    simp only [h8] at hmk
    obtain ⟨i0, hi0, hz0, hz1, hz2⟩ := info_parts Try.info2
    go_enter Try.func6, Try.ntmps6
    go_wp2_with fail
    refine hB.mono ?_
    rintro e w0 ⟨rfl, hw0⟩
    have hv0 : BVec w0 a len bs := by rw [hw0]; exact hv
    have B0 : Below w.heap.size w w0 := by rw [hw0]; exact Below.refl _ _
    clear hw0 hB
    go_wp2_with fail
    refine (drawNewest_any a len cap bs w0 hv0 hl).mono ?_
    rintro e w1 ⟨g, f, c, es, node, rfl, hes, hd0, hd1, hoe, hb1⟩
    have B1 : Below w.heap.size w w1 := B0.trans (hb1.mono B0.size)
    have hnc := hoe.le
    have hnm : es.length ≤ maxLen := by unfold maxLen; omega
    have KE : Hid (∀ X, Below w1.heap.size w1 X → EvsAt X g f es.length es) := fun X hX => evs_below hoe.at hX (Nat.le_refl _)
    have hI := implNewest_any g f es.length c es node w1 hoe.at hnm hnc (by omega)
    have hS := fun X (hX : EvsAt X g f es.length es) => specNewest_any g f es.length c es node X hX hnm hnc (by omega)
    have hC := fun X (hX : EvsAt X g f es.length es) => specClocks_any g f es.length c es X hX hnm hnc
    clear hv0 B0 hb1 hoe
    generalize es.length = n at *
    rcases nw_cases es n node with h0 | ⟨hok, L, hL, h0⟩
    · rw [h0] at hI hS
      go_wp2_with fail
      refine hI.mono ?_
      rintro e w2 ⟨gv, fv, cv, rfl, _, v2, hb2⟩
      go_wp2_with fail
      refine (hS w2 (KE.out w2 hb2)).mono ?_
      rintro e w3 ⟨gs, fs, cs, rfl, _, s3, hb3⟩
      have v3 := v2.below hb3 v2.blk
      have b13 : Below w1.heap.size w1 w3 := hb2.trans (hb3.mono hb2.size)
      have hF : Fits ([] : List Int) := fun x hx => by simp at hx
      have hsame := sameB_self ([] : List Int)
      go_wp2_with fail
      refine (like_any _ _ _ _ _ _ ([] : List Int) [] w3 (v3.vec hF) (s3.vec hF) (by simp)).mono ?_
      rintro e w4 ⟨rfl, n4, hw4⟩
      have B4 : Hid (Below w.heap.size w w4) := by rw [Hid, hw4]; exact belowN (B1.trans (b13.mono B1.size))
      clear hw4 v3 s3 hb2 hb3 v2 b13
      go_wp2
      go_ret
      exact ⟨rfl, B4.out⟩
    · rw [h0] at hI hS
      obtain ⟨hLn, hLp, _⟩ := lastB_some hL
      obtain ⟨h40, hall⟩ := okT_all hok
      have hrp := okE_rng (hall L hLn)
      obtain ⟨p, rfl⟩ : ∃ p : Nat, node = (p : Int) := ⟨node.toNat, by omega⟩
      have hp8 : p < 8 := by omega
      have hI8 : Calls Try.prog 52 #[.slice (some ⟨g, f, none⟩) n c, .int .i64 (p : Int)] w1 fun e w' => ∃ g off c, e = .returned (.slice (some ⟨g, off, none⟩) 8 c) ∧ OI w' g off 8 c (cl es L) ∧ Below w1.heap.size w1 w' :=
        hI.mono (fun e w' ⟨g, off, c, he, _, h2, h3⟩ => ⟨g, off, c, by rw [he, cl_len], by rw [cl_len] at h2; exact h2, h3⟩)
      have hS8 : ∀ X, EvsAt X g f n es → Calls Try.prog 53 #[.slice (some ⟨g, f, none⟩) n c, .int .i64 (p : Int)] X fun e w' => ∃ g off c, e = .returned (.slice (some ⟨g, off, none⟩) 8 c) ∧ OI w' g off 8 c (cl es L) ∧ Below X.heap.size X w' := fun X hX =>
        (hS X hX).mono (fun e w' ⟨g, off, c, he, _, h2, h3⟩ => ⟨g, off, c, by rw [he, cl_len], by rw [cl_len] at h2; exact h2, h3⟩)
      have HL : Hid (lastB es (p : Int) n = some L) := hL
      have HOK : Hid (okT es n = true) := hok
      have HRN : Hid (∀ j, j < n → 0 ≤ (evAt es j).n ∧ (evAt es j).n ≤ 7) := fun j hj => okE_rng (hall j hj)
      have HLP : Hid ((evAt es L).n = (p : Int)) := hLp
      have HF : Hid (∀ i, i < n → Fits (cl es i)) := fun i hi => fits8 (cl_len es i) (fun j hj => by have := cl_bound es i j hj; omega)
      have HUN : Hid (∀ i, i < n → (evAt es i).n = (p : Int) → underB (cl es i) (cl es L) = true) := fun i hi hip => by
        rw [cl_under hok hi hLn]
        rcases Nat.lt_trichotomy i L with h | h | h
        · exact .inr (anc_node h (by rw [hip, hLp]))
        · exact .inl h
        · exact absurd hip ((lastB_some hL).2.2 i h hi)
      rw [ckN_true hok] at hC
      clear hI hS h0 hok hall hL hLp hrp hd0 hd1
      go_wp2_with fail
      refine hI8.mono ?_
      rintro e w2 ⟨gv, fv, cv, rfl, v2, hb2⟩
      go_wp2_with fail
      refine (hS8 w2 (KE.out w2 hb2)).mono ?_
      rintro e w3 ⟨gs, fs, cs, rfl, s3, hb3⟩
      have v3 := v2.below hb3 v2.blk
      have b13 : Below w1.heap.size w1 w3 := hb2.trans (hb3.mono hb2.size)
      have hsame := sameB_self (cl es L)
      go_wp2_with fail
      refine (like_any _ _ _ _ _ _ (cl es L) (cl es L) w3 (v3.vec (HF.out L hLn)) (s3.vec (HF.out L hLn)) (by unfold maxLen; omega)).mono ?_
      rintro e w4 ⟨rfl, n4, hw4⟩
      have b14 : Below w1.heap.size w1 w4 := by rw [hw4]; exact belowN b13
      have v4 : OI w4 gv fv 8 cv (cl es L) := by rw [hw4]; exact v3.drewN n4
      clear hw4 v3 s3 hb2 hb3 v2 b13 hI8 hS8
      go_wp2_with fail
      refine (hC w4 (KE.out w4 b14)).mono ?_
      rintro e w5 ⟨gc, fc, cc, rc, rfl, _, V5, hb5⟩
      have B5 : Hid (Below w1.heap.size w1 w5) := b14.trans (hb5.mono b14.size)
      have HV5 : Hid (VR w5 w4.heap.size gc fc n cc n rc (cl es)) := V5
      have v5 : Hid (OI w5 gv fv 8 cv (cl es L)) := v4.below hb5 v4.blk
      have HE5 : Hid (EvsAt w5 g f n es) := KE.out w5 B5.out
      have H8 : Hid (∀ i, i < n → (cl es i).length = 8) := fun i _ => cl_len es i
      clear b14 hb5 V5 v4 hC hsame
      go_wp2
      go_loopw [7, 8, 9] (fun la ow i wr => ∃ j : Nat, j ≤ n ∧ i = .int .i64 j ∧ la = .int .i64 (ixI (lastB es (p : Int) j)) ∧ ow = .int .i64 ((num es (p : Int) j : Nat) : Int) ∧ ∃ q, wr = w5.drewN q) (fun _ _ i _ => n - (intOf i).toNat)
      case atStart => exact ⟨0, Nat.zero_le _, rfl, rfl, rfl, 0, rfl⟩
      case round =>
        obtain ⟨j, hj, rfl, rfl, rfl, q, rfl⟩ := hrel
        by_cases hlt : j < n
        · have e0 := (HE5.out j hlt).1
          have hj1 : (j : Int) < (n : Int) := by omega
          have hj0 : (0 : Int) ≤ (j : Int) := by omega
          have hnl := num_le es (p : Int) j
          by_cases hjp : (evAt es j).n = (p : Int)
          · have HJ1 : Hid (lastB es (p : Int) (j + 1) = some j) := by rw [Hid, lastB_succ, if_pos hjp]
            have HJ2 : Hid (num es (p : Int) (j + 1) = num es (p : Int) j + 1) := num_at hjp
            have hU := fun X => implUnder_any (some ⟨(rc j).1, (rc j).2.1, none⟩) (some ⟨gv, fv, none⟩) 8 (rc j).2.2 8 cv (cl es j) (cl es L) (w5.drewN X) (((HV5.out.row8 H8.out hlt).vec (HF.out j hlt)).drewN X) ((v5.out.vec (HF.out L hLn)).drewN X) (HV5.out.row8 H8.out hlt).le v5.out.le (HV5.out.row8 H8.out hlt).max v5.out.max
            rw [HUN.out j hlt hjp] at hU
            rw [hjp] at e0
            have x1 := HV5.out.at8 H8.out hlt hlt
            have hbd : ((num es (p : Int) j : Nat) : Int) + 1 ≤ 9223372036854775807 := by omega
            have hbd0 : -9223372036854775808 ≤ ((num es (p : Int) j : Nat) : Int) + 1 := by omega
            clear hjp
            go_wp2_with fail
            refine (hU q).mono ?_
            rintro e w6 ⟨rfl, n6, rfl⟩
            clear hU
            go_wp2
            go_roundw
            case rel => exact ⟨j + 1, by omega, by go_num, by rw [HJ1.out]; rfl, by rw [HJ2.out]; simp, _, rfl⟩
            case measure => simp [intOf]; omega
          · have HJ1 : Hid (lastB es (p : Int) (j + 1) = lastB es (p : Int) j) := by rw [Hid, lastB_succ, if_neg hjp]
            have HJ2 : Hid (num es (p : Int) (j + 1) = num es (p : Int) j) := by simp [Hid, num, hjp]
            have hd : ((evAt es j).n == (p : Int)) = false := by simpa using hjp
            clear hjp
            go_wp2
            go_roundw
            case rel => exact ⟨j + 1, by omega, by go_num, by rw [HJ1.out], by rw [HJ2.out], _, rfl⟩
            case measure => simp [intOf]; omega
        · have hjn : j = n := by omega
          subst hjn
          rw [HL.out]
          simp only [ixI]
          obtain ⟨W, hW⟩ : ∃ W, w5.drewN q = W := ⟨_, rfl⟩
          rw [hW]
          have BW : Hid (Below w1.heap.size w1 W) := by rw [Hid, ← hW]; exact belowN B5.out
          have vW : Hid (OI W gv fv 8 cv (cl es L)) := by rw [Hid, ← hW]; exact v5.out.drewN q
          clear hW B5 v5 HE5
          have hP := specPast_any g f j c es (L : Int) W (KE.out W BW.out) hnm hnc (by omega)
          rw [pastT_ok HOK.out (numB_iff.2 (by omega))] at hP
          have eL : ((L : Int)).toNat = L := rfl
          rw [eL] at hP
          have HPL : Hid ((nI (pastL es L)).length ≤ 40) := by
            have := pastT_len es j (L : Int)
            rw [pastT_ok HOK.out (numB_iff.2 (by omega)), eL] at this
            exact this
          have HPm : Hid ((pastL es L ++ [L]).length = (nI (pastL es L)).length + 1) := by simp [Hid, nI]
          have HPn : Hid (nI (pastL es L ++ [L]) = nI (pastL es L) ++ [(L : Int)]) := (nI_snoc _ _).symm
          have HPx : Hid (∀ x ∈ pastL es L ++ [L], x < j) := fun x hx => by
            rw [List.mem_append, List.mem_singleton] at hx
            rcases hx with h | h
            · have := (mem_pastL.1 h).lt; omega
            · omega
          have HDN : Hid (cntL es (pastL es L ++ [L]) (pastL es L ++ [L]).length = cl es L) := cntL_done HOK.out hLn
          have HON : Hid (el (cl es L) p = (num es (p : Int) j : Int)) := own_num HOK.out HL.out
          have HFL : Hid (Fits (cl es L)) := HF.out L hLn
          generalize pastL es L ++ [L] = P at *
          generalize hQe : nI (pastL es L) = Q at *
          obtain ⟨M, hM⟩ : ∃ M, Q.length = M := ⟨_, rfl⟩
          rw [hM] at HPm HPL
          have hP' : Calls Try.prog 39 #[.slice (some ⟨g, f, none⟩) j c, .int .i64 (L : Int)] W fun e w' => ∃ gp fp cp, e = .returned (.slice (some ⟨gp, fp, none⟩) M cp) ∧ W.heap.size ≤ gp ∧ OI w' gp fp M cp Q ∧ Below W.heap.size W w' :=
            hP.mono (fun e w' ⟨g, off, c, he, h1, h2, h3⟩ => ⟨g, off, c, by rw [he, hM], h1, by rw [hM] at h2; exact h2, h3⟩)
          have hM40 := HPL.out
          clear hP hQe hM HUN HV5 H8
          go_wp2_with fail
          refine hP'.mono ?_
          rintro e w7 ⟨gp, fp, cp, rfl, hgp, hp7, hb7⟩
          have B7 : Hid (Below w1.heap.size w1 w7) := BW.out.trans (hb7.mono BW.out.size)
          have v7 : Hid (OI w7 gv fv 8 cv (cl es L)) := vW.out.below hb7 vW.out.blk
          have hvg : gv < W.heap.size := vW.out.blk
          have hWs : w1.heap.size ≤ W.heap.size := BW.out.size
          clear hP' BW vW hb7
          go_wp2_with (at_builtin; refine wpList_append_os _ rfl _ _ _ rfl 2 i0 _ 1 8 Try.underlying24 hi0 hz0 hz1 hz2 rfl (by omega) gp fp M cp (Q.map (Value.int .i64)) rfl (OSl.below hp7 ((Below.refl _ _).alloc (Nat.le_refl _) _) hp7.blk) ⟨w7.heap.size, 0, none⟩ 1 1 [.int .i64 (L : Int)] rfl rfl (World.news_of_block (cs := #[.int .i64 (L : Int)]) (t := 2) (fr := (0, 0)) (heap_alloc_new w7 _)) (by simp [Value.oneCell']) (by unfold maxLen; omega) (by omega) ?_; intro gA fA cA wA hoA hgA hatA)
          have s7 := B7.out.size
          have HoP : Hid (OI wA gA fA (M + 1) cA (nI P)) := by
            rw [Hid, HPn.out]
            exact oi_snoc hoA
          have BA : Hid (Below w1.heap.size w1 wA) := below_grown (B7.out.alloc s7 _) hgA (by omega) (by simp; omega)
          have vA : Hid (OI wA gv fv 8 cv (cl es L)) := (v7.out.below ((Below.refl _ _).alloc (Nat.le_refl _) _) v7.out.blk).grown hgA (by simp; omega)
          have HC0 : Hid (OI (wA.alloc (.cells (madeCells #[.int .i64 0] 8) 2)) wA.heap.size 0 8 8 (cntL es P 0)) := by
            rw [Hid, cntL_zero]; exact oi_made wA 8 (by unfold maxLen; omega)
          have bA0 : Hid (Below wA.heap.size wA (wA.alloc (.cells (madeCells #[.int .i64 0] 8) 2))) := (Below.refl _ _).alloc (Nat.le_refl _) _
          have hsA : w1.heap.size ≤ wA.heap.size := BA.out.size
          clear hoA hgA hatA hp7 B7 v7 s7
          have hM1 : ((M + 1 : Nat) : Int) = (M : Int) + 1 := by omega
          go_wp2
          go_loopw [12] (fun i wr => ∃ t : Nat, t ≤ M + 1 ∧ i = .int .i64 t ∧ OI wr wA.heap.size 0 8 8 (cntL es P t) ∧ Below wA.heap.size wA wr) (fun i _ => M + 1 - (intOf i).toNat)
          case atStart => exact ⟨0, Nat.zero_le _, rfl, HC0.out, bA0.out⟩
          case round =>
            obtain ⟨t, ht, rfl, hct, hbt⟩ := hrel
            have KC : Hid (OI wr wA.heap.size 0 8 8 (cntL es P t)) := hct
            have KB : Hid (Below wA.heap.size wA wr) := hbt
            clear hct hbt HC0 bA0
            by_cases htl : t < M + 1
            · have htP : t < P.length := by rw [HPm.out]; exact htl
              have y1 := (HoP.out.below KB.out HoP.out.blk).cellAt htl
              rw [nI_el htP] at y1
              have hxj := HPx.out P[t] (List.getElem_mem htP)
              have HST : Hid (∀ p', p' < 8 → (evAt es P[t]).n = ((p' : Nat) : Int) → (cntL es P t).set p' (el (cntL es P t) p' + 1) = cntL es P (t + 1)) := fun p' h1 h2 => cntL_step htP h1 h2
              generalize P[t] = x at *
              have y2 := (KE.out wr (BA.out.trans (KB.out.mono hsA)) x hxj).1
              have hxr := HRN.out x hxj
              obtain ⟨p', hp'⟩ : ∃ p' : Nat, (evAt es x).n = (p' : Int) := ⟨(evAt es x).n.toNat, by omega⟩
              have hp'8 : p' < 8 := by omega
              have HS2 := HST.out p' hp'8 hp'
              rw [hp'] at y2
              have HSN : Hid ((cntL es P t).set p' (el (cntL es P t) p' + 1) = cntL es P (t + 1)) := HS2
              have y3 := KC.out.cellAt (i := p') hp'8
              have y4 := KC.out.free p' (by omega)
              simp only [Nat.zero_add] at y3 y4
              have hcb := cntL_bound (es := es) (P := P) (j := t) hp'8
              rw [HPm.out] at hcb
              have hbd : el (cntL es P t) p' + 1 ≤ 9223372036854775807 := by omega
              have hbd0 : -9223372036854775808 ≤ el (cntL es P t) p' + 1 := by omega
              have g1 : (t : Int) < ((M + 1 : Nat) : Int) := by omega
              have g1' : (t : Int) < (M : Int) + 1 := by omega
              have g0 : (0 : Int) ≤ (t : Int) := by omega
              have x1 : (x : Int) < (j : Int) := by omega
              have x0 : (0 : Int) ≤ (x : Int) := by omega
              have q1 : (p' : Int) < 8 := by omega
              have q0 : (0 : Int) ≤ (p' : Int) := by omega
              have R1 : Hid (OI (wr.setCell ⟨wA.heap.size, p', none⟩ (.int .i64 (el (cntL es P t) p' + 1))) wA.heap.size 0 8 8 (cntL es P (t + 1))) := by
                rw [Hid, ← HSN.out]; exact KC.out.set0 hp'8 _
              have R2 : Hid (Below wA.heap.size wA (wr.setCell ⟨wA.heap.size, p', none⟩ (.int .i64 (el (cntL es P t) p' + 1)))) := KB.out.setCell (Nat.le_refl _) _
              clear HST HS2 hp' hxr HSN hcb
              go_wp2_with fail
              go_region
              clear y1 y2 y3 y4 hbd hbd0
              go_wp2
              go_roundw
              case rel => exact ⟨t + 1, by omega, by go_num, R1.out.drewN 1, belowN (n := 1) R2.out⟩
              case measure => simp [intOf]; omega
            · have htM : t = M + 1 := by omega
              have HC1 : Hid (OI wr wA.heap.size 0 8 8 (cl es L)) := by
                have h := KC.out
                rw [htM, ← HPm.out, HDN.out] at h
                exact h
              have vr : Hid (OI wr gv fv 8 cv (cl es L)) := vA.out.below KB.out vA.out.blk
              have z1 := vr.out.cellAt (i := p) hp8
              rw [HON.out] at z1
              have hpI : (p : Int) < 8 := by omega
              have hpI0 : (0 : Int) ≤ (p : Int) := by omega
              have hsame := sameB_self (cl es L)
              have hlk := like_any (some ⟨wA.heap.size, 0, none⟩) (some ⟨gv, fv, none⟩) 8 8 8 cv (cl es L) (cl es L) wr (HC1.out.vec HFL.out) (vr.out.vec HFL.out) (by unfold maxLen; omega)
              rw [hsame] at hlk
              clear hsame htM
              go_wp2_with fail
              refine hlk.mono ?_
              rintro e w9 ⟨rfl, n9, hw9⟩
              have B9 : Hid (Below w.heap.size w w9) := by
                rw [Hid, hw9]
                exact belowN (B1.trans ((BA.out.trans (KB.out.mono hsA)).mono B1.size))
              clear hw9 hlk z1
              go_wp2
              go_ret
              exact ⟨rfl, B9.out⟩
end Go.Proofs.Ytacogcfdolmfpaa
