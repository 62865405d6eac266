/-
  Several texts in one: LawDbl.
-/
import Derived.Test.YtjefneaghlohlaaIu
import Derived.Test.YtjefneaghlohlaaIq
/-
  The law FnDoubling FROM what the program's Calls and Rounds answer.
-/
namespace Go.Proofs.Ytjefneaghlohlaa
set_option linter.unusedVariables false
set_option linter.unusedSimpArgs false
open Go.RowKit Go.Sort

/-- The numbers 0, 1, .. below x. -/
def upN (x : Nat) : List Int := (List.range x).map (fun i : Nat => (i : Int))
theorem upN_succ (x : Nat) : upN (x + 1) = upN x ++ [(x : Int)] := by simp [upN, List.range_succ]
theorem upN_len (x : Nat) : (upN x).length = x := by simp [upN]
theorem upN_el {x i : Nat} (h : i < x) : el (upN x) i = (i : Int) := by simp [upN, el, h]
theorem mem_upN {x : Nat} {q : Int} : q ∈ upN x ↔ 0 ≤ q ∧ q < (x : Int) := by
  simp only [upN, List.mem_map, List.mem_range]
  constructor
  · rintro ⟨i, hi, rfl⟩; omega
  · rintro ⟨h0, h1⟩; exact ⟨q.toNat, by omega, by omega⟩
theorem upN_fits {x : Nat} (h : x ≤ 100000) : Fits (upN x) := fun q hq => by have := mem_upN.1 hq; omega
theorem cal_cat {r n t : Nat} (h : t < n) : cat (cal r n) t = ((t : Int), ((2 ^ r + t : Nat) : Int)) := by simp [cat, cal, h]

theorem num_one (w : World) (x : Int) : OI (w.alloc (.cells #[.int .i64 x] 2)) w.heap.size 0 1 1 [x] := by
  have h : Bx (w.alloc (.cells #[.int .i64 x] 2)) w.heap.size 2 #[.int .i64 x] := Bx.new w 2 _
  refine ⟨rfl, Nat.le_refl _, by unfold maxLen; omega, h.lt, fun i hi => ?_, fun i hi => ?_, fun i hi => h.f _⟩
  · obtain rfl : i = 0 := by omega
    exact h.cell 0
  · obtain rfl : i = 0 := by omega
    rw [h.cell]; rfl

set_option maxRecDepth 100000 in
set_option maxHeartbeats 6400000 in
/-- The law FnDoubling. -/
theorem lawFnDoubling (hR : ImplRounds) (hC : ImplCalls) (a : Option Addr) (len cap : Nat) (bs : Nat → Int) (w : World) (hv : BVec w a len bs) :
    Calls Try.prog 5 #[.slice a len cap] w fun e w' => e = .returned (.bool true) ∧ Below w.heap.size w w' := by
  obtain ⟨i0, hi0, hz0, hz1, hz2⟩ := info_parts2n Try.info2n
  by_cases hbig : (4096 : Int) < (len : Int)
  · have hB := big_any a len cap w
    rw [decide_eq_true hbig] at hB
    go_enter Try.func5, Try.ntmps5
    go_wp2_with fail
    refine hB.mono ?_
    rintro e w1 ⟨rfl, hw1⟩
    have HW : Hid (w1 = w) := hw1
    clear hw1
    go_wp2
    go_ret
    exact ⟨rfl, by rw [HW.out]; exact Below.refl _ _⟩
  · have hB := big_any a len cap w
    rw [decide_eq_false hbig] at hB
    have hl : len ≤ 4096 := by omega
    go_enter Try.func5, Try.ntmps5
    go_wp2_with fail
    refine hB.mono ?_
    rintro e w0 ⟨rfl, hw0⟩
    have B0 : Below w.heap.size w w0 := by rw [hw0]; exact Below.refl _ _
    clear hw0 hB
    go_wp2_with fail
    refine (drawCalls_any a len cap bs w0 (hv.below B0 (Nat.le_refl _)) hl).mono ?_
    rintro e w1 ⟨n, r, rfl, hn, hr, hb1⟩
    have B1 : Below w.heap.size w w1 := B0.trans (hb1.mono B0.size)
    have hr64 : I64t r := ⟨by omega, by omega⟩
    go_wp2_with fail
    refine (hC n r w1 hn hr64).mono ?_
    rintro e w2 ⟨g, og, cg, rfl, hg, hO2, hb2⟩
    have B2 : Below w.heap.size w w2 := B1.trans (hb2.mono B1.size)
    go_wp2_with fail
    refine (drawRounds_any a len cap bs w2 (hv.below B2 (Nat.le_refl _)) hl).mono ?_
    rintro e w3 ⟨m, rfl, hm, hb3⟩
    have B3 : Below w.heap.size w w3 := B2.trans (hb3.mono B2.size)
    have hO3 := hO2.below hb3 hO2.blk
    have hS := calS_any n r w3
    generalize calL n r = Z at *
    go_wp2_with fail
    refine hS.mono ?_
    rintro e w4 ⟨g4, o4, c4, rfl, hg4, hO4, hb4⟩
    have B4 : Below w.heap.size w w4 := B3.trans (hb4.mono B3.size)
    go_wp2_with fail
    refine (likeCl_any _ _ _ _ _ _ Z w4 (hO3.below hb4 hO3.blk) hO4).mono ?_
    rintro e w5 ⟨rfl, hb5⟩
    have B5 : Below w.heap.size w w5 := B4.trans (hb5.mono B4.size)
    clear hO2 hO3 hO4 hS hb1 hb2 hb3 hb4 hb5 hg hg4 B0 B1 B2 B3 B4
    have nr : (rndL m != rndL m) = false := by simp
    go_wp2_with fail
    refine (hR m w5 hm).mono ?_
    rintro e w6 ⟨rfl, hb6⟩
    have B6 : Below w.heap.size w w6 := B5.trans (hb6.mono B5.size)
    go_wp2_with fail
    refine (rndS_any m w6).mono ?_
    rintro e w6' ⟨rfl, hw6⟩
    rw [hw6]
    clear hw6 hb6 B5
    by_cases hm1 : m < 1
    · clear hR hC
      go_wp2
      go_ret
      exact ⟨rfl, B6⟩
    · by_cases hm2 : 200 < m
      · have hm1' : decide (m < 1) = false := by simpa using hm1
        clear hR hC hm1
        go_wp2
        go_ret
        exact ⟨rfl, B6⟩
      · have hm1' : decide (m < 1) = false := by simpa using hm1
        have hm2' : decide (200 < m) = false := by simpa using hm2
        obtain ⟨M, rfl⟩ : ∃ M : Nat, m = (M : Int) := ⟨m.toNat, by omega⟩
        have hM1 : 1 ≤ M := by omega
        have hM2 : M ≤ 200 := by omega
        have hRM : rndL (M : Int) = (rnd M : Int) := by rw [rndL, if_pos (inB7.2 ⟨by omega, by omega⟩), Int.toNat_natCast]
        have hRk := fun X => hR (M : Int) X hm
        rw [hRM] at hRk nr ⊢
        have HR8 : Hid (rnd M ≤ 8) := by
          rw [Hid]
          rcases Nat.lt_or_ge 8 (rnd M) with h3 | h3
          · have h4 := rnd_lt h3
            have e : (2 : Nat) ^ 8 = 256 := rfl
            omega
          · exact h3
        have hK7 := (Below.refl w6.heap.size w6).alloc (Nat.le_refl _) (.cells #[.int .i64 0] 2)
        have hO7 : OI (w6.alloc (.cells #[.int .i64 0] 2)) w6.heap.size 0 1 1 (upN 1) := num_one w6 0
        have B7 : Below w.heap.size w (w6.alloc (.cells #[.int .i64 0] 2)) := B6.trans (hK7.mono B6.size)
        have hws := B6.size
        generalize hW7 : w6.alloc (.cells #[.int .i64 0] 2) = W7 at *
        go_wp2_with fail
        refine (hRk W7).mono ?_
        rintro e w8 ⟨rfl, hb8⟩
        have B8 : Below w.heap.size w w8 := B7.trans (hb8.mono B7.size)
        have hO8 := hO7.below hb8 hO7.blk
        have HMR : Hid (∀ i, i < rnd M → 2 ^ i < M) := fun i hi => rnd_lt hi
        have HMG : Hid (M ≤ 2 ^ rnd M) := rnd_ge
        generalize rnd M = R at *
        clear hRk hRM hK7 hO7 B7 B6 hb8 hR hm1 hm2 nr
        go_wp2_with fail
        go_loopw [7, 9] (fun v i wr => ∃ (x k0 g og cg : Nat), k0 ≤ R ∧ x = min (2 ^ k0) M ∧ i = .int .i64 (k0 : Int) ∧ v = .slice (some ⟨g, og, none⟩) x cg ∧ w.heap.size ≤ g ∧ OI wr g og x cg (upN x) ∧ Below w.heap.size w wr) (fun _ i _ => R - (intOf i).toNat)
        case atStart => exact ⟨1, 0, w6.heap.size, 0, 1, Nat.zero_le _, by simp; omega, rfl, rfl, hws, hO8, B8⟩
        case round =>
          obtain ⟨x, k0, g, og, cg, hk0, hx, rfl, rfl, hg, hO, hB⟩ := hrel
          have KO : Hid (OI wr g og x cg (upN x)) := hO
          have KB : Hid (Below w.heap.size w wr) := hB
          have KG : Hid (w.heap.size ≤ g) := hg
          clear hO8 B8 hO hB hg
          by_cases hlt : k0 < R
          · have hq := HMR.out k0 hlt
            have h9 : k0 ≤ 9 := by have := HR8.out; omega
            have hcal : calL (M : Int) (k0 : Int) = cal k0 (calN M k0) := by
              rw [calL, if_pos (by simp only [Bool.and_eq_true, inB7]; omega)]
              simp
            have hCk := hC (M : Int) (k0 : Int) wr hm ⟨by omega, by omega⟩
            rw [hcal] at hCk
            have k1 : (k0 : Int) < (R : Int) := by omega
            have hxq : x = 2 ^ k0 := by omega
            have HN : Hid (calN M k0 ≤ 2 ^ k0 ∧ 2 ^ k0 + calN M k0 = min (2 * 2 ^ k0) M) := by rw [Hid]; unfold calN; omega
            have HP : Hid (2 ^ (k0 + 1) = 2 * 2 ^ k0) := by rw [Hid, Nat.pow_succ]; omega
            have HC : Hid (∀ t, t < calN M k0 → cat (cal k0 (calN M k0)) t = ((t : Int), ((2 ^ k0 + t : Nat) : Int))) := fun t ht => cal_cat ht
            have hLl := cal_len k0 (calN M k0)
            unfold AnsC at hCk
            rw [hLl] at hCk
            rw [hxq] at KO ⊢
            have hQ200 : 2 ^ k0 ≤ 200 := by omega
            have hQ1 : 1 ≤ 2 ^ k0 := Nat.one_le_two_pow
            clear hx hxq hcal hLl
            generalize 2 ^ k0 = Q at *
            generalize calN M k0 = N at *
            generalize cal k0 N = C at *
            go_wp2_with fail
            refine hCk.mono ?_
            rintro e w10 ⟨d, od, cd, rfl, hd, hOd, hb10⟩
            have B10 : Below w.heap.size w w10 := KB.out.trans (hb10.mono KB.out.size)
            have O10 := KO.out.below hb10 KO.out.blk
            have hgd : g ≠ d := by have := KO.out.blk; omega
            have hNQ := HN.out.1
            have hKG := KG.out
            clear hCk hb10 hd KO KB KG hq
            go_wp2_with fail
            go_loopw [7, 12] (fun v i wx => ∃ (t g og cg : Nat), t ≤ N ∧ i = .int .i64 (t : Int) ∧ v = .slice (some ⟨g, og, none⟩) (Q + t) cg ∧ w.heap.size ≤ g ∧ g ≠ d ∧ OI wx g og (Q + t) cg (upN (Q + t)) ∧ OC wx d od N cd C ∧ Below w.heap.size w wx) (fun _ i _ => N - (intOf i).toNat)
            case atStart => exact ⟨0, g, og, cg, Nat.zero_le _, rfl, rfl, hKG, hgd, O10, hOd, B10⟩
            case round =>
              obtain ⟨t, g, og, cg, ht, rfl, rfl, hg, hgd, hO, hOc, hB⟩ := hrel
              clear O10 hOd B10
              have hcg := hO.le
              have hmx := hO.max
              have hcd := hOc.le
              have hmd := hOc.max
              unfold maxLen at hmx hmd
              by_cases htn : t < N
              · have hcat := HC.out t htn
                have c0 := hOc.c0 htn
                have c1 := hOc.c1 htn
                rw [hcat] at c0 c1
                dsimp only at c0 c1
                have hA1 : ∀ n, Calls Try.prog 40 #[.slice (some ⟨g, og, none⟩) Q cg, .int .i64 (t : Int)] (wr.drewN n) fun e w' => e = .returned (.bool true) ∧ ∃ m, w' = wr.drewN m := fun n => by
                  have h := has9_any g og Q cg (t : Int) (upN Q) (wr.drewN n) (upN_len Q) (fun i hi => by
                    have := (hO.drewN n).cellAt (i := i) (by omega)
                    rw [upN_el (by omega)] at this
                    rw [upN_el hi]; exact this) (by unfold maxLen; omega)
                  rw [decide_eq_true (mem_upN.2 ⟨by omega, by omega⟩)] at h
                  exact h.mono (fun e w' h => ⟨h.1, n, h.2⟩)
                have hA2 : ∀ n, Calls Try.prog 40 #[.slice (some ⟨g, og, none⟩) (Q + t) cg, .int .i64 ((Q + t : Nat) : Int)] (wr.drewN n) fun e w' => e = .returned (.bool false) ∧ ∃ m, w' = wr.drewN m := fun n => by
                  have h := has9_any g og (Q + t) cg ((Q + t : Nat) : Int) (upN (Q + t)) (wr.drewN n) (upN_len _) (fun i hi => (hO.drewN n).cellAt hi) (by unfold maxLen; omega)
                  rw [decide_eq_false (fun h => by have := mem_upN.1 h; omega)] at h
                  exact h.mono (fun e w' h => ⟨h.1, n, h.2⟩)
                have hA3 : ∀ n, Calls Try.prog 47 #[.slice (some ⟨d, od, none⟩) t cd, .int .i64 (t : Int)] (wr.drewN n) fun e w' => e = .returned (.bool false) ∧ ∃ m, w' = wr.drewN m := fun n =>
                  (has2_no d od cd N t C (t : Int) (wr.drewN n) (hOc.drewN n) (by omega) (fun j hj => by rw [HC.out j (by omega)]; dsimp only; omega) cd).mono (fun e w' h => ⟨h.1, n, h.2⟩)
                have t1 : (t : Int) < (N : Int) := by omega
                have t0 : (0 : Int) ≤ (t : Int) := by omega
                have q0 : (0 : Int) ≤ (Q : Int) := by omega
                have q1 : (Q : Int) ≤ (cg : Int) := by omega
                have t2 : (t : Int) ≤ (cd : Int) := by omega
                have HOc : Hid (OC wr d od N cd C) := hOc
                have HO : Hid (OI wr g og (Q + t) cg (upN (Q + t))) := hO
                have HB : Hid (Below w.heap.size w wr) := hB
                have HG : Hid (w.heap.size ≤ g ∧ g ≠ d) := ⟨hg, hgd⟩
                have HS : Hid (upN (Q + t + 1) = upN (Q + t) ++ [((Q + t : Nat) : Int)]) := upN_succ _
                clear hO hOc hB hg hcat hgd
                generalize hx : Q + t = x at *
                have HX : Hid (Q + t = x) := hx
                clear hx
                have x200 : x ≤ 400 := by have := HX.out; omega
                rcases Nat.eq_zero_or_pos t with h0 | h0
                · have hd0 : decide ((0 : Int) < (t : Int)) = false := by simp; omega
                  have hd1 : decide (0 < t) = false := by simp; omega
                  have H0 : Hid (t = 0) := h0
                  clear h0
                  go_wp2_with fail
                  go_quiet ((first | (go_at_call 40; first | (with_reducible exact hA1 _) | (with_reducible exact hA2 _)) | (go_at_call 47; with_reducible exact hA3 _)))
                  clear hA1 hA2 hA3
                  have hO2 : OSl ((wr.drewN nq).alloc (.cells #[.int .i64 (x : Int)] 2)) 1 g og x cg ((upN x).map (Value.int .i64)) := OSl.below (HO.out.drewN nq) ((Below.refl _ _).alloc (Nat.le_refl _) _) HO.out.blk
                  go_wp2_with (at_builtin; refine wpList_append_os _ rfl _ _ _ rfl 2 i0 _ 1 8 Try.underlying24 hi0 hz0 hz1 hz2 rfl (by omega) g og x cg _ rfl hO2 ⟨wr.heap.size, 0, none⟩ 1 1 [.int .i64 (x : Int)] rfl rfl (World.news_of_block (cs := #[.int .i64 (x : Int)]) (t := 2) (fr := (0, 0)) (heap_alloc_new _ _)) (by simp [Value.oneCell']) (by unfold maxLen; omega) (by omega) ?_; intro g6 o6 c6 w6' hO6 hg6 hat6)
                  have NG : Hid (w.heap.size ≤ g6 ∧ g6 ≠ d) := by
                    have hdl := HOc.out.blk
                    have hgo := HG.out
                    have hsz := HB.out.size
                    rcases hat6 with h | h
                    · rw [h]; exact hgo
                    · rw [h]; simp; constructor
                      · omega
                      · intro e; omega
                  have NO : Hid (OI w6' g6 o6 (x + 1) c6 (upN (x + 1))) := by
                    rw [Hid, HS.out, OI, List.map_append]; exact hO6
                  have NC : Hid (OC w6' d od N cd C) := OSl.of_block HOc.out ((hg6.block d (by simp; have := HOc.out.blk; omega) (by have := HG.out.2; simp; omega)).trans (Below.heap_alloc _ _ _ (by have := HOc.out.blk; exact this))) (Nat.lt_of_lt_of_le HOc.out.blk (Nat.le_trans (by simp) hg6.size))
                  have NB : Hid (Below w.heap.size w w6') := below_grown6 ((belowN (n := nq) HB.out).alloc (by exact HB.out.size) _) hg6 HG.out.1 (Nat.le_trans HB.out.size (by simp))
                  have NX : Hid (Q + (t + 1) = x + 1) := by rw [Hid, ← HX.out]; omega
                  clear hO6 hg6 hat6 hO2
                  go_roundw
                  case rel => exact ⟨t + 1, g6, o6, c6, by omega, by go_num, by rw [NX.out], NG.out.1, NG.out.2, by rw [NX.out]; exact NO.out, NC.out, NB.out⟩
                  case measure => simp [intOf]; omega
                · have hd0 : (0 : Int) < (t : Int) := by omega
                  have hd1 : decide (0 < t) = true := by simpa using h0
                  go_wp2_with fail
                  go_quiet ((first | (go_at_call 40; first | (with_reducible exact hA1 _) | (with_reducible exact hA2 _)) | (go_at_call 47; with_reducible exact hA3 _)))
                  clear hA1 hA2 hA3
                  have hO2 : OSl ((wr.drewN nq).alloc (.cells #[.int .i64 (x : Int)] 2)) 1 g og x cg ((upN x).map (Value.int .i64)) := OSl.below (HO.out.drewN nq) ((Below.refl _ _).alloc (Nat.le_refl _) _) HO.out.blk
                  go_wp2_with (at_builtin; refine wpList_append_os _ rfl _ _ _ rfl 2 i0 _ 1 8 Try.underlying24 hi0 hz0 hz1 hz2 rfl (by omega) g og x cg _ rfl hO2 ⟨wr.heap.size, 0, none⟩ 1 1 [.int .i64 (x : Int)] rfl rfl (World.news_of_block (cs := #[.int .i64 (x : Int)]) (t := 2) (fr := (0, 0)) (heap_alloc_new _ _)) (by simp [Value.oneCell']) (by unfold maxLen; omega) (by omega) ?_; intro g6 o6 c6 w6' hO6 hg6 hat6)
                  have NG : Hid (w.heap.size ≤ g6 ∧ g6 ≠ d) := by
                    have hdl := HOc.out.blk
                    have hgo := HG.out
                    have hsz := HB.out.size
                    rcases hat6 with h | h
                    · rw [h]; exact hgo
                    · rw [h]; simp; constructor
                      · omega
                      · intro e; omega
                  have NO : Hid (OI w6' g6 o6 (x + 1) c6 (upN (x + 1))) := by
                    rw [Hid, HS.out, OI, List.map_append]; exact hO6
                  have NC : Hid (OC w6' d od N cd C) := OSl.of_block HOc.out ((hg6.block d (by simp; have := HOc.out.blk; omega) (by have := HG.out.2; simp; omega)).trans (Below.heap_alloc _ _ _ (by have := HOc.out.blk; exact this))) (Nat.lt_of_lt_of_le HOc.out.blk (Nat.le_trans (by simp) hg6.size))
                  have NB : Hid (Below w.heap.size w w6') := below_grown6 ((belowN (n := nq) HB.out).alloc (by exact HB.out.size) _) hg6 HG.out.1 (Nat.le_trans HB.out.size (by simp))
                  have NX : Hid (Q + (t + 1) = x + 1) := by rw [Hid, ← HX.out]; omega
                  clear hO6 hg6 hat6 hO2
                  go_roundw
                  case rel => exact ⟨t + 1, g6, o6, c6, by omega, by go_num, by rw [NX.out], NG.out.1, NG.out.2, by rw [NX.out]; exact NO.out, NC.out, NB.out⟩
                  case measure => simp [intOf]; omega
              · obtain rfl : t = N := by omega
                have hmin := HN.out.2
                have HF : Hid (∃ (x k0' g' og' cg' : Nat), k0' ≤ R ∧ x = min (2 ^ k0') M ∧ Value.int .i64 ((k0 : Int) + 1) = .int .i64 (k0' : Int) ∧ Value.slice (some ⟨g, og, none⟩) (Q + t) cg = .slice (some ⟨g', og', none⟩) x cg' ∧ w.heap.size ≤ g' ∧ OI wr g' og' x cg' (upN x) ∧ Below w.heap.size w wr) :=
                  ⟨Q + t, k0 + 1, g, og, cg, by omega, by rw [HP.out]; exact hmin, by go_num, rfl, hg, hO, hB⟩
                have hkk : (k0 : Int) < (R : Int) := by omega
                clear hO hOc hB
                by_cases hfull : Q + t = M
                · have e1 : (((Q + t : Nat) : Int) != (M : Int)) = false := by simp; omega
                  clear hmin hfull
                  generalize Q + t = x at *
                  go_wp2
                  go_roundw
                  case rel => exact HF.out
                  case measure => simp [intOf]; omega
                · have e1 : (((Q + t : Nat) : Int) != (M : Int)) = true := by simp; omega
                  have e2 : (((Q + t : Nat) : Int) != 2 * (Q : Int)) = false := by simp; omega
                  clear hmin hfull
                  generalize Q + t = x at *
                  go_wp2
                  go_roundw
                  case rel => exact HF.out
                  case measure => simp [intOf]; omega
          · obtain rfl : k0 = R := by omega
            have hxM : x = M := by have := HMG.out; omega
            have e1 : ((x : Int) == (M : Int)) = true := by simp; omega
            have hBw := KB.out
            rcases Nat.eq_zero_or_pos k0 with h0 | h0
            · have e2 : ((k0 : Int) == 0) = true := by simp; omega
              clear hx hxM
              go_wp2
              go_ret
              exact ⟨rfl, hBw⟩
            · have e2 : ((k0 : Int) == 0) = false := by simp; omega
              obtain ⟨k1, rfl⟩ : ∃ k1, k0 = k1 + 1 := ⟨k0 - 1, by omega⟩
              have hlt1 := HMR.out k1 (by omega)
              have h8 : k1 + 1 ≤ 8 := HR8.out
              have h10 : k1 ≤ 10 := by clear hlt1 HMR HMG hx hxM; omega
              have hwp := wrap_pow h10
              have e3 : ((2 ^ k1 : Nat) : Int) < (M : Int) := Int.ofNat_lt.2 hlt1
              clear hx hxM
              generalize 2 ^ k1 = q at *
              go_wp2
              go_ret
              exact ⟨rfl, hBw⟩
end Go.Proofs.Ytjefneaghlohlaa
