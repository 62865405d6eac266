/-
  The walk of the law FnLamport.
-/
import Derived.Test.YtehnnfpjdfffcaaDr5
import Derived.Test.YtehnnfpjdfffcaaLawOrd
namespace Go.Proofs.Ytehnnfpjdfffcaa
set_option linter.unusedSimpArgs false
set_option linter.unusedVariables false
open Go.RowKit Go.Sort

set_option maxRecDepth 100000 in
set_option maxHeartbeats 3200000 in
/-- The law FnLamport. -/
theorem lawLamport (a : Option Addr) (len cap : Nat) (bs : Nat → Int) (w : World) (hv : BVec w a len bs) :
    Calls Try.prog 4 #[.slice a len cap] w fun e w' => e = .returned (.bool true) ∧ Below w.heap.size w w' := by
  by_cases hbig : (4096 : Int) < (len : Int)
  · have hB := big_any a len cap w
    rw [decide_eq_true hbig] at hB
    go_enter Try.func4, Try.ntmps4
    go_wp2_with fail
    refine hB.mono ?_
    rintro e w1 ⟨rfl, hw1⟩
    have HW : Hid (w1 = w) := hw1
    clear hw1
    go_wp2
    go_ret
    exact ⟨rfl, by rw [HW.out]; exact Below.refl _ _⟩
  · have hB := big_any a len cap w
    rw [decide_eq_false hbig] at hB
    have hl : len ≤ 4096 := by omega
    go_enter Try.func4, Try.ntmps4
    go_wp2_with fail
    refine hB.mono ?_
    rintro e w0 ⟨rfl, hw0⟩
    have hv0 : BVec w0 a len bs := by rw [hw0]; exact hv
    have B0 : Below w.heap.size w w0 := by rw [hw0]; exact Below.refl _ _
    clear hw0 hB
    go_wp2_with fail
    refine (drawStamps_any a len cap bs w0 hv0 hl).mono ?_
    rintro e w1 ⟨v, g, f, n, c, es, rfl, rfl, hn, hnc, hcm, hE1, hb1⟩
    have B1 : Below w.heap.size w w1 := B0.trans (hb1.mono B0.size)
    have hnm : n ≤ maxLen := by unfold maxLen; omega
    have KE : Hid (∀ X, Below w1.heap.size w1 X → EvsAt X g f n es) := fun X hX => evs_below hE1 hX (Nat.le_refl _)
    have hv1 := hv0.below hb1 (Nat.le_refl _)
    go_wp2_with fail
    refine (implStamps_any g f n c es w1 hE1 hnm hnc).mono ?_
    rintro e w2 ⟨gs, fs, cs, rfl, _, hs2, hb2⟩
    go_wp2_with fail
    refine (implOrder_any g f n c es w2 (KE.out w2 hb2) hnm hnc).mono ?_
    rintro e w3 ⟨Z, hZ, go, fo, co, rfl, _, ho3, hb3⟩
    have b13 : Below w1.heap.size w1 w3 := hb2.trans (hb3.mono hb2.size)
    have hs3 := hs2.below hb3 hs2.blk
    have B3 : Below w.heap.size w w3 := B1.trans (b13.mono B1.size)
    have hv3 := hv1.below b13 (Nat.le_refl _)
    clear hs2 hb2 hb3 hE1 hb1 hv0 hv1 B0
    go_wp2_with fail
    refine (drawAhead_any a len cap bs w3 hv3 hl).mono ?_
    rintro e w4 ⟨gq, fq, cq, eq, i, k, rfl, hq14, hk0, hk1, hoq, hb4⟩
    have b14 : Below w1.heap.size w1 w4 := b13.trans (hb4.mono b13.size)
    have hs4 := hs3.below hb4 hs3.blk
    have ho4 := ho3.below hb4 ho3.blk
    have hql := hoq.le
    have hqm : eq.length ≤ maxLen := by unfold maxLen; omega
    have KQ : Hid (∀ X, Below w4.heap.size w4 X → EvsAt X gq fq eq.length eq) := fun X hX => evs_below hoq.at hX (Nat.le_refl _)
    clear hs3 ho3 hb4 b13 hv3 hoq B3
    go_wp2_with fail
    refine (specStamps_any g f n c es w4 (KE.out w4 b14) hnm hnc).mono ?_
    rintro e w5 ⟨g5, f5, c5, rfl, _, hs5, hb5⟩
    have hst := stT_fits es n
    have hsl := stT_len es n
    have hs4' := hs4.below hb5 hs4.blk
    go_wp2_with fail
    refine (like_any _ _ _ _ _ _ (stT es n) (stT es n) w5 (hs4'.vec hst) (hs5.vec hst) (by unfold maxLen; omega)).mono ?_
    rintro e w6 ⟨rfl, n6, hw6⟩
    have hsame := sameB_self (stT es n)
    have b46 : Below w4.heap.size w4 w6 := by rw [hw6]; exact belowN hb5
    have hs6 : OI w6 gs fs (stT es n).length cs (stT es n) := by rw [hw6]; exact hs4'.drewN n6
    have ho6 := ho4.below b46 ho4.blk
    clear hw6 hs5 hb5 hs4' hs4 ho4
    have b16 : Below w1.heap.size w1 w6 := b14.trans (b46.mono b14.size)
    go_wp2_with fail
    refine (specOrder_any g f n c es w6 (KE.out w6 b16) hnm hnc).mono ?_
    rintro e w7 ⟨Z', hZ', g7, f7, c7, he7, _, hz7, hb7⟩
    rw [← hZ.unique hZ'] at he7 hz7
    subst he7
    have hzb := hZ.bounds
    have ho7 := ho6.below hb7 ho6.blk
    have hs7 := hs6.below hb7 hs6.blk
    go_wp2_with fail
    refine (like_any _ _ _ _ _ _ Z Z w7 (ho7.vec hzb.2) (hz7.vec hzb.2) (by unfold maxLen; omega)).mono ?_
    rintro e w8 ⟨rfl, n8, hw8⟩
    have hsame2 := sameB_self Z
    have b18 : Below w1.heap.size w1 w8 := by rw [hw8]; exact belowN (b16.trans (hb7.mono b16.size))
    have b48 : Below w4.heap.size w4 w8 := by rw [hw8]; exact belowN (b46.trans (hb7.mono b46.size))
    have ho8 : OI w8 go fo Z.length co Z := by rw [hw8]; exact ho7.drewN n8
    have hs8 : OI w8 gs fs (stT es n).length cs (stT es n) := by rw [hw8]; exact hs7.drewN n8
    clear hw8 hz7 hb7 ho7 hs7 ho6 hs6 b16 b46 b14
    go_wp2_with fail
    refine (implAhead_any gq fq eq.length cq eq i k w8 (KQ.out w8 b48) hqm hql).mono ?_
    rintro e w9 ⟨rfl, hb9⟩
    have b49 : Below w4.heap.size w4 w9 := b48.trans (hb9.mono b48.size)
    go_wp2_with fail
    refine (specAhead_any gq fq eq.length cq eq i k w9 (KQ.out w9 b49) hqm hql (by omega)).mono ?_
    rintro e w10 ⟨rfl, hb10⟩
    have b110 : Below w1.heap.size w1 w10 := (b18.trans (hb9.mono b18.size)).trans (hb10.mono (b18.trans (hb9.mono b18.size)).size)
    have ho10 := (ho8.below hb9 ho8.blk).below hb10 (ho8.below hb9 ho8.blk).blk
    have hs10 := (hs8.below hb9 hs8.blk).below hb10 (hs8.below hb9 hs8.blk).blk
    generalize hdd : decide (i ∈ pastT eq eq.length k) = d at *
    have hdn : (d != d) = false := by simp
    clear hdd hb9 hb10 ho8 hs8 b49 b48 b18
    go_wp2_with fail
    refine (implTok_any g f n c es w10 (KE.out w10 b110) hnm hnc).mono ?_
    rintro e w11 ⟨rfl, hg11⟩
    have b111 : Below w1.heap.size w1 w11 := b110.trans (hg11.1.mono b110.size)
    go_wp2_with fail
    refine (specTok_any g f n c es w11 (KE.out w11 b111) hnm hnc).mono ?_
    rintro e w12 ⟨rfl, hg12⟩
    have b112 : Below w1.heap.size w1 w12 := b111.trans (hg12.1.mono b111.size)
    have ho12 := (ho10.below hg11.1 ho10.blk).below hg12.1 (ho10.below hg11.1 ho10.blk).blk
    have hs12 := (hs10.below hg11.1 hs10.blk).below hg12.1 (hs10.below hg11.1 hs10.blk).blk
    have htn : (okT es n != okT es n) = false := by simp
    clear hg11 hg12 ho10 hs10 b110 b111
    go_wp2_with fail
    refine (specTok_any g f n c es w12 (KE.out w12 b112) hnm hnc).mono ?_
    rintro e w13 ⟨rfl, hg13⟩
    have b113 : Below w1.heap.size w1 w13 := b112.trans (hg13.1.mono b112.size)
    have ho13 := ho12.below hg13.1 ho12.blk
    have hs13 := hs12.below hg13.1 hs12.blk
    have KB : Hid (Below w1.heap.size w1 w13) := b113
    have KO : Hid (OI w13 go fo Z.length co Z) := ho13
    have KS : Hid (OI w13 gs fs (stT es n).length cs (stT es n)) := hs13
    clear hg13 ho12 hs12 b112 b113 ho13 hs13 htn hdn
    rcases hZ with ⟨hno, rfl⟩ | ⟨hok, O, hO, rfl⟩
    · have hz0 : stT es n = [] := by unfold stT; rw [hno]; rfl
      rw [hno]
      have hl0 : (stT es n).length = 0 := by rw [hz0]; rfl
      go_wp2
      go_ret
      exact ⟨ret_bool (by simp [hl0]), B1.trans (KB.out.mono B1.size)⟩
    · rw [hok]
      have h40 := (okT_all hok).1
      have hOl := hO.length
      have hzl : (nI O).length = n := by rw [nI_len, hOl]
      have hstl : stT es n = stL es n := by unfold stT; rw [if_pos hok]
      have hstn : (stT es n).length = n := by rw [hstl, stL_len]
      have KO' : Hid (OI w13 go fo n co (nI O)) := by have h := KO.out; rwa [hzl] at h
      have KS' : Hid (∀ j, j < n → w13.cell? ⟨gs, fs + j, none⟩ = some (.int .i64 (st es j))) := fun j hj => by
        have h := KS.out.cellAt (i := j) (by rw [hstn]; exact hj)
        rwa [hstl, el_stL hj] at h
      have hSP := fun m X (hX : Below w1.heap.size w1 X) (hm : m < n) => specPast_any g f n c es ((m : Nat) : Int) X (KE.out X hX) hnm hnc (by omega)
      have KP : Hid (∀ (m : Nat) X (hX : Below w1.heap.size w1 X) (hm : m < n), Calls Try.prog 39 #[.slice (some ⟨g, f, none⟩) n c, .int .i64 (m : Int)] X fun e w' => Ans X w' e (nI (pastL es m))) := fun m X hX hm => by
        have h := hSP m X hX hm
        rw [pastT_ok hok (numB_iff.2 (by omega))] at h
        exact h
      have HO : Hid (IsOrder es n O) := hO
      have HOl : Hid (O.length = n) := hOl
      have hne : ((n : Int) != (n : Int)) = false := by simp
      rw [hzl, hstn]
      clear KO KS hSP hstl hstn hO hOl hzl hsl hst hsame hsame2 hzb
      go_wp2
      go_loopw [9] (fun i wr => ∃ q : Nat, q ≤ n ∧ i = .int .i64 q ∧ OI wr go fo n co (nI O) ∧ (∀ j, j < n → wr.cell? ⟨gs, fs + j, none⟩ = some (.int .i64 (st es j))) ∧ Below w1.heap.size w1 wr) (fun i _ => n - (intOf i).toNat)
      case atStart => exact ⟨0, Nat.zero_le _, rfl, KO'.out, KS'.out, KB.out⟩
      case round =>
        obtain ⟨q, hq, rfl, hown, hss, hbel⟩ := hrel
        clear KO' KS' KB
        by_cases hlt : q < n
        · have hqO : q < O.length := by rw [HOl.out]; exact hlt
          have cq := hown.cellAt hlt
          rw [nI_el hqO] at cq
          have hm : O[q] < n := HO.out.lt (List.getElem_mem hqO)
          have HAH : Hid (∀ z, Anc es z O[q] → z ∈ O.take q) := fun z hz => HO.out.ahead hqO hz
          have HFR : Hid (O[q] ∉ O.take q) := HO.out.fresh hqO
          generalize hme : O[q] = m at *
          clear hme
          have hq1 : (q : Int) < (n : Int) := by omega
          have hq0 : (0 : Int) ≤ (q : Int) := by omega
          have hqc : (q : Int) ≤ (co : Int) := by have := hown.le; omega
          go_wp2_with fail
          refine (KP.out m wr hbel hm).mono ?_
          rintro e w14 ⟨gx, fx, cx, rfl, _, hx14, hb14⟩
          have ho14 : Hid (OI w14 go fo n co (nI O)) := hown.below hb14 hown.blk
          have hs14 : Hid (∀ j, j < n → w14.cell? ⟨gs, fs + j, none⟩ = some (.int .i64 (st es j))) := fun j hj => (hb14.cell (World.block_lt_of_cell? _ _ (hss j hj))).trans (hss j hj)
          have hx14' : Hid (OI w14 gx fx (nI (pastL es m)).length cx (nI (pastL es m))) := hx14
          have b14 : Hid (Below w1.heap.size w1 w14) := hbel.trans (hb14.mono hbel.size)
          have hpl2 : (nI (pastL es m)).length ≤ 50 := by rw [nI_len]; have := pastL_len es m; omega
          have cqw : w14.cell? ⟨go, fo + q, none⟩ = some (.int .i64 (m : Int)) := (hb14.cell (World.block_lt_of_cell? _ _ cq)).trans cq
          have KCQ : Hid (w14.cell? ⟨go, fo + q, none⟩ = some (.int .i64 (m : Int))) := cqw
          clear hx14 hb14 hown hss hbel cq cqw
          go_wp2
          go_loopw [11] (fun y wx => ∃ t k' : Nat, t ≤ (nI (pastL es m)).length ∧ y = .int .i64 t ∧ wx = w14.drewN k') (fun y _ => (nI (pastL es m)).length - (intOf y).toNat)
          case atStart => exact ⟨0, 0, Nat.zero_le _, rfl, rfl⟩
          case round =>
            obtain ⟨t, k', ht, rfl, rfl⟩ := hrel
            have sm := hs14.out m hm
            have cm := KCQ.out
            have hm1 : (m : Int) < (n : Int) := by omega
            have hm0 : (0 : Int) ≤ (m : Int) := by omega
            by_cases htl : t < (nI (pastL es m)).length
            · have htO : t < (pastL es m).length := by rw [← nI_len]; exact htl
              have ct := hx14'.out.cellAt htl
              rw [nI_el htO] at ct
              have hA : Anc es (pastL es m)[t] m := mem_pastL.1 (List.getElem_mem htO)
              generalize hze : (pastL es m)[t] = z at *
              clear hze
              have hzm := hA.lt
              have hzs := st_anc hA
              have sz := hs14.out z (by omega)
              have hin := HAH.out z hA
              have hz1 : (z : Int) < (n : Int) := by omega
              have hz0 : (0 : Int) ≤ (z : Int) := by omega
              have ht1 : (t : Int) < ((nI (pastL es m)).length : Int) := by omega
              have ht0 : (0 : Int) ≤ (t : Int) := by omega
              have hge : decide (st es m ≤ st es z) = false := by simp; omega
              have hH : ∀ X, Calls Try.prog 40 #[.slice (some ⟨go, fo, none⟩) q co, .int .i64 (z : Int)] (w14.drewN X) fun e w' => e = .returned (.bool true) ∧ w' = w14.drewN X := fun X => by
                have hh := has_any go fo q co (z : Int) (nI (O.take q)) (w14.drewN X) (by rw [nI_len, List.length_take, HOl.out]; omega) (fun j hj => ((oi_takeN ho14.out (by omega)).drewN X).cellAt hj) (by unfold maxLen; omega)
                rwa [decide_eq_true (nI_mem.2 hin)] at hh
              clear hA hin hzs
              go_wp2_with fail
              go_quiet (first | (go_at_call 40; exact (hH _).mono (fun e w' h => ⟨h.1, _, h.2⟩)))
              go_wp2
              go_roundw
              case rel => exact ⟨t + 1, _, by omega, by go_num, rfl⟩
              case measure => simp [intOf]; omega
            · have hH : ∀ X, Calls Try.prog 40 #[.slice (some ⟨go, fo, none⟩) q co, .int .i64 (m : Int)] (w14.drewN X) fun e w' => e = .returned (.bool false) ∧ w' = w14.drewN X := fun X => by
                have hh := has_any go fo q co (m : Int) (nI (O.take q)) (w14.drewN X) (by rw [nI_len, List.length_take, HOl.out]; omega) (fun j hj => ((oi_takeN ho14.out (by omega)).drewN X).cellAt hj) (by unfold maxLen; omega)
                rwa [decide_eq_false (fun h => HFR.out (nI_mem.1 h))] at hh
              go_wp2_with fail
              go_quiet (first | (go_at_call 40; exact (hH _).mono (fun e w' h => ⟨h.1, _, h.2⟩)))
              go_wp2
              go_roundw
              case rel => exact ⟨q + 1, by omega, by go_num, ho14.out.drewN _, hs14.out, belowN b14.out⟩
              case measure => simp [intOf]; omega
        · have Kb : Hid (Below w1.heap.size w1 wr) := hbel
          clear hown hbel hss
          go_wp2
          go_ret
          exact ⟨rfl, B1.trans (Kb.out.mono B1.size)⟩
end Go.Proofs.Ytehnnfpjdfffcaa
