/-
  Several texts in one: Cts Cws Car Cfl Hyc.
-/
import Derived.Test.YtacjpebifacclaaGg
import Derived.Test.YtacjpebifacclaaGc
import Derived.Test.YtacjpebifacclaaGe
import Derived.Deep.LoopGhost
/-
  The contracts of the specification's small functions on cuts: l4All, l4Cut, l4In, l4Rank, l4Bad, CutOk.
-/
namespace Go.Proofs.Ytacjpebifacclaa
set_option linter.unusedSimpArgs false
set_option linter.unusedVariables false
open Go.RowKit Go.Sort

/-- A cut of a trace, consistent or not. -/
def cutB (es : List Ev) (n : Nat) (c : List Int) : Bool := okT es n && decide (c.length = 8) && underB c (allL es n)
/-- A consistent cut of a trace. -/
def okC (es : List Ev) (n : Nat) (c : List Int) : Bool := cutB es n c && (firstBad es c n).isNone
theorem allL_b6 {es : List Ev} {n : Nat} (h40 : n ≤ 40) : ∀ j, j < 8 → 0 ≤ el (allL es n) j ∧ el (allL es n) j ≤ 1000000 := fun j hj => by
  rw [allL_el hj]
  have := num_leK es (j : Int) n
  omega
theorem cutB_iff {es : List Ev} {n : Nat} {c : List Int} : cutB es n c = true ↔ IsCut es n c := by
  unfold cutB underB twoB leB
  constructor
  · intro h
    simp only [Bool.and_eq_true, decide_eq_true_eq, List.all_eq_true, List.mem_range] at h
    obtain ⟨⟨ho, hl⟩, ⟨⟨hc, _⟩, _⟩, hle⟩ := h
    refine ⟨ho, hl, fun p hp => ?_, fun p hp => ?_⟩
    · unfold okB at hc
      simp only [Bool.and_eq_true, List.all_eq_true] at hc
      have := hc.2 _ (el_mem (xs := c) (i := p) (by omega))
      simp only [inB, Bool.and_eq_true, decide_eq_true_eq] at this
      exact this.1
    · have := hle p (by omega)
      rwa [allL_el hp] at this
  · intro h
    have h40 := h.le40
    have hc : okB c = true := ok8 h.len (fun j hj => by
      have := h.lo j hj
      have := h.hi j hj
      have := num_leK es (j : Int) n
      omega)
    rw [h.ok, hc, ok8 (allL_len es n) (allL_b6 h40), h.len, allL_len]
    simp only [decide_true, Bool.and_self, Bool.true_and, List.all_eq_true, List.mem_range, decide_eq_true_eq]
    intro p hp
    rw [allL_el hp]
    exact h.hi p hp
theorem okC_iff {es : List Ev} {n : Nat} {c : List Int} : okC es n c = true ↔ IsCut es n c ∧ Cons es n c := by
  unfold okC
  rw [Bool.and_eq_true, cutB_iff, Option.isNone_iff_eq_none, cons_iff]
theorem allL_zero (es : List Ev) : allL es 0 = zer8 := by
  refine eq_of_all (by rw [allL_len, zer8_len]) (fun p hp => ?_)
  rw [allL_len] at hp
  rw [allL_el hp, el_zer8]; rfl
theorem allL_step {es : List Ev} {k p : Nat} (hp : p < 8) (hn : (evAt es k).n = (p : Int)) : (allL es k).set p (el (allL es k) p + 1) = allL es (k + 1) := by
  refine eq_of_all (by rw [List.length_set, allL_len, allL_len]) (fun q hq => ?_)
  rw [List.length_set, allL_len] at hq
  rw [el_set8 (by rw [allL_len]; exact hp), allL_el hq, allL_el hp, allL_el hq]
  by_cases h : p = q
  · subst h
    rw [if_pos rfl, num_at hn]
    omega
  · rw [if_neg h]
    simp only [num]
    rw [if_neg (by rw [hn]; omega)]
    rfl

set_option maxRecDepth 100000 in
set_option maxHeartbeats 1600000 in
theorem l4All_any (b off len cap : Nat) (es : List Ev) (w : World) (hc : EvsAt w b off len es) (hok : okT es len = true) :
    Calls Try.prog 133 #[.slice (some ⟨b, off, none⟩) len cap] w fun e w' => Ans w w' e (allL es len) := by
  obtain ⟨h40, hall⟩ := okT_all hok
  have HRN : Hid (∀ j, j < len → 0 ≤ (evAt es j).n ∧ (evAt es j).n ≤ 7) := fun j hj => okE_rng (hall j hj)
  have hmk := run_make_row' (P := Try.prog) 24 2 (.int .i64 0) 8 Try.underlying24 Try.info2 rfl .i64 .i64 8 (by omega) (by omega)
  have h8 : ((8 : Nat) : Int) = 8 := rfl
  simp only [h8] at hmk
  have H0 : Hid (OI (w.alloc (.cells (madeCells #[.int .i64 0] 8) 2)) w.heap.size 0 8 8 (allL es 0)) := by rw [Hid, allL_zero]; exact oi_made w 8 (by unfold maxLen; omega)
  clear hall hok
  go_enter Try.func133, Try.ntmps133
  go_wp2
  go_loopw [4] (fun i wr => ∃ k : Nat, k ≤ len ∧ i = .int .i64 k ∧ OI wr w.heap.size 0 8 8 (allL es k) ∧ Below w.heap.size w wr) (fun i _ => len - (intOf i).toNat)
  case atStart => exact ⟨0, Nat.zero_le _, rfl, H0.out, (Below.refl _ _).alloc (Nat.le_refl _) _⟩
  case round =>
    obtain ⟨k, hk, rfl, hown, hbel⟩ := hrel
    have KO : Hid (OI wr w.heap.size 0 8 8 (allL es k)) := hown
    have KB : Hid (Below w.heap.size w wr) := hbel
    clear hown hbel H0
    by_cases hlt : k < len
    · have y0 := (evs_below hc KB.out (Nat.le_refl _) k hlt).1
      have hr := HRN.out k hlt
      obtain ⟨p, hp⟩ : ∃ p : Nat, (evAt es k).n = (p : Int) := ⟨(evAt es k).n.toNat, by omega⟩
      have hp8 : p < 8 := by omega
      rw [hp] at y0
      have y3 := KO.out.cellAt (i := p) hp8
      have y4 := KO.out.free p (by omega)
      simp only [Nat.zero_add] at y3 y4
      have hb := allL_b6 (es := es) (n := k) (by omega) p hp8
      have hbd : el (allL es k) p + 1 ≤ 9223372036854775807 := by omega
      have hbd0 : -9223372036854775808 ≤ el (allL es k) p + 1 := by omega
      have k1 : (k : Int) < (len : Int) := by omega
      have k0 : (0 : Int) ≤ (k : Int) := by omega
      have p1 : (p : Int) < 8 := by omega
      have p0 : (0 : Int) ≤ (p : Int) := by omega
      have R1 : Hid (OI (wr.setCell ⟨w.heap.size, p, none⟩ (.int .i64 (el (allL es k) p + 1))) w.heap.size 0 8 8 (allL es (k + 1))) := by
        rw [Hid, ← allL_step hp8 hp]; exact KO.out.set0 hp8 _
      have R2 : Hid (Below w.heap.size w (wr.setCell ⟨w.heap.size, p, none⟩ (.int .i64 (el (allL es k) p + 1)))) := KB.out.setCell (Nat.le_refl _) _
      clear hp hr hb
      go_wp2_with fail
      go_region
      clear y0 y3 y4 hbd hbd0
      go_wp2
      go_roundw
      case rel => exact ⟨k + 1, by omega, by go_num, R1.out.drewN 1, belowN (n := 1) R2.out⟩
      case measure => simp [intOf]; omega
    · have hkl : k = len := by omega
      subst hkl
      go_wp2
      go_ret
      exact ⟨w.heap.size, 0, 8, by rw [allL_len]; rfl, Nat.le_refl _, by rw [allL_len]; exact KO.out, KB.out⟩

set_option maxRecDepth 100000 in
set_option maxHeartbeats 1600000 in
theorem l4Cut_any (b off len cap : Nat) (es : List Ev) (a : Option Addr) (m c : Nat) (xs : List Int) (w : World) (hc : EvsAt w b off len es) (hm : len ≤ maxLen) (hcap : len ≤ cap) (hv : Vec w a m xs) (hmx : m ≤ maxLen) :
    Calls Try.prog 107 #[.slice (some ⟨b, off, none⟩) len cap, .slice a m c] w fun e w' => e = .returned (.bool (cutB es len xs)) ∧ Below w.heap.size w w' := by
  have hT := specTok_any b off len cap es w hc hm hcap
  have hlen := hv.1
  cases ho : okT es len
  · rw [ho] at hT
    have HZ : Hid (cutB es len xs = false) := by rw [Hid, cutB, ho]; rfl
    go_enter Try.func107, Try.ntmps107
    go_wp2_with fail
    refine hT.mono ?_
    rintro e w1 ⟨rfl, hg1⟩
    have HG : Hid (Below w.heap.size w w1) := hg1.1
    clear hg1
    go_wp2
    go_ret
    exact ⟨ret_bool (by rw [HZ.out]), HG.out⟩
  · rw [ho] at hT
    by_cases h8 : m = 8
    · subst h8
      have HZ : Hid (cutB es len xs = underB xs (allL es len)) := by rw [Hid, cutB, ho, hlen]; rfl
      go_enter Try.func107, Try.ntmps107
      go_wp2_with fail
      refine hT.mono ?_
      rintro e w1 ⟨rfl, hg1⟩
      have hA := l4All_any b off len cap es w1 (hc.grew hg1) ho
      have B1 : Below w.heap.size w w1 := hg1.1
      have hv1 := hv.below hg1.1 (Nat.le_refl _)
      have h40 := (okT_all ho).1
      have hF : Fits (allL es len) := fits8 (allL_len es len) (allL_b6 h40)
      clear hg1
      go_wp2_with fail
      refine hA.mono ?_
      rintro e w2 ⟨g, f, cg, rfl, _, o2, hb2⟩
      have B2 : Below w.heap.size w w2 := B1.trans (hb2.mono B1.size)
      have hv2 := hv1.below hb2 (Nat.le_refl _)
      have hl8 := allL_len es len
      go_wp2_with fail
      refine (specUnder_any a (some ⟨g, f, none⟩) 8 c (allL es len).length cg xs (allL es len) w2 hv2 (o2.vec hF) hmx (by rw [hl8]; unfold maxLen; omega)).mono ?_
      rintro e w3 ⟨rfl, n3, hw3⟩
      have B3 : Hid (Below w.heap.size w w3) := by rw [Hid, hw3]; exact belowN B2
      clear hw3 hv2 hv1 o2 hb2 B1 B2 hl8
      go_wp2
      go_ret
      exact ⟨ret_bool (by rw [HZ.out]), B3.out⟩
    · have HZ : Hid (cutB es len xs = false) := by rw [Hid, cutB, hlen, decide_eq_false h8]; simp
      have hd : ((m : Int) == 8) = false := by simp; omega
      go_enter Try.func107, Try.ntmps107
      go_wp2_with fail
      refine hT.mono ?_
      rintro e w1 ⟨rfl, hg1⟩
      have HG : Hid (Below w.heap.size w w1) := hg1.1
      clear hg1
      go_wp2
      go_ret
      exact ⟨ret_bool (by rw [HZ.out]), HG.out⟩

set_option maxRecDepth 100000 in
set_option maxHeartbeats 1600000 in
theorem l4Rank_any (b off len cap k : Nat) (es : List Ev) (w : World) (hc : EvsAt w b off len es) (hm : len ≤ 1000000) (hk : k < len) :
    Calls Try.prog 112 #[.slice (some ⟨b, off, none⟩) len cap, .int .i64 (k : Int)] w fun e w' => e = .returned (.int .i64 ((rankN es k : Nat) : Int)) ∧ ∃ n, w' = w.drewN n := by
  obtain ⟨c0, _, _⟩ := hc k hk
  have hk1 : (k : Int) < (len : Int) := by omega
  have hk0 : (0 : Int) ≤ (k : Int) := by omega
  go_enter Try.func112, Try.ntmps112
  go_wp2
  go_loopw [5, 6] (fun q i wr => ∃ j : Nat, j ≤ k ∧ i = .int .i64 j ∧ q = .int .i64 ((num es (evAt es k).n j : Nat) : Int) ∧ ∃ n, wr = w.drewN n) (fun _ i _ => k - (intOf i).toNat)
  case atStart => exact ⟨0, Nat.zero_le _, rfl, rfl, 0, rfl⟩
  case round =>
    obtain ⟨j, hj, rfl, rfl, n, rfl⟩ := hrel
    by_cases hlt : j < k
    · obtain ⟨d0, _, _⟩ := hc j (by omega)
      have j1 : (j : Int) < (len : Int) := by omega
      have j2 : (j : Int) < (k : Int) := by omega
      have j0 : (0 : Int) ≤ (j : Int) := by omega
      have hnl := num_leK es (evAt es k).n j
      by_cases he : (evAt es j).n = (evAt es k).n
      · have HN : Hid (num es (evAt es k).n (j + 1) = num es (evAt es k).n j + 1) := num_at he
        have hd : ((evAt es j).n == (evAt es k).n) = true := by simpa using he
        have hbd : ((num es (evAt es k).n j : Nat) : Int) + 1 ≤ 9223372036854775807 := by omega
        have hbd0 : -9223372036854775808 ≤ ((num es (evAt es k).n j : Nat) : Int) + 1 := by omega
        clear he
        go_wp2_with fail
        go_quiet (fail)
        go_wp2
        go_roundw
        case rel => exact ⟨j + 1, by omega, by go_num, by rw [HN.out]; simp, _, rfl⟩
        case measure => simp [intOf]; omega
      · have HN : Hid (num es (evAt es k).n (j + 1) = num es (evAt es k).n j) := by simp [Hid, num, he]
        have hd : ((evAt es j).n == (evAt es k).n) = false := by simpa using he
        clear he
        go_wp2_with fail
        go_quiet (fail)
        go_wp2
        go_roundw
        case rel => exact ⟨j + 1, by omega, by go_num, by rw [HN.out], _, rfl⟩
        case measure => simp [intOf]; omega
    · have hjk : j = k := by omega
      subst hjk
      go_wp2
      go_ret
      exact ⟨rfl, _, rfl⟩

set_option maxRecDepth 100000 in
set_option maxHeartbeats 1600000 in
theorem l4In_any (b off len cap k : Nat) (es : List Ev) (g f cg p : Nat) (xs : List Int) (w : World) (hc : EvsAt w b off len es) (hm : len ≤ 1000000) (hk : k < len) (hx : ∀ i, i < 8 → w.cell? ⟨g, f + i, none⟩ = some (.int .i64 (el xs i))) (hp : (evAt es k).n = (p : Int)) (hp8 : p < 8) :
    Calls Try.prog 115 #[.slice (some ⟨b, off, none⟩) len cap, .slice (some ⟨g, f, none⟩) 8 cg, .int .i64 (k : Int)] w fun e w' => e = .returned (.bool (inC es xs k)) ∧ ∃ n, w' = w.drewN n := by
  obtain ⟨c0, _, _⟩ := hc k hk
  have hk1 : (k : Int) < (len : Int) := by omega
  have hk0 : (0 : Int) ≤ (k : Int) := by omega
  have HI : Hid (inC es xs k = decide (((num es (p : Int) k : Nat) : Int) < el xs p)) := by
    rw [Hid, Bool.eq_iff_iff, inC_iff hp, decide_eq_true_eq]
  rw [hp] at c0
  go_enter Try.func115, Try.ntmps115
  go_wp2
  go_loopw [7, 8] (fun q i wr => ∃ j : Nat, j ≤ k ∧ i = .int .i64 j ∧ q = .int .i64 ((num es (p : Int) j : Nat) : Int) ∧ ∃ n, wr = w.drewN n) (fun _ i _ => k - (intOf i).toNat)
  case atStart => exact ⟨0, Nat.zero_le _, rfl, rfl, 0, rfl⟩
  case round =>
    obtain ⟨j, hj, rfl, rfl, n, rfl⟩ := hrel
    by_cases hlt : j < k
    · obtain ⟨d0, _, _⟩ := hc j (by omega)
      have j1 : (j : Int) < (len : Int) := by omega
      have j2 : (j : Int) < (k : Int) := by omega
      have j0 : (0 : Int) ≤ (j : Int) := by omega
      have hnl := num_leK es (p : Int) j
      by_cases he : (evAt es j).n = (p : Int)
      · have HN : Hid (num es (p : Int) (j + 1) = num es (p : Int) j + 1) := num_at he
        rw [he] at d0
        have hd : ((p : Int) == (p : Int)) = true := by simp
        have hbd : ((num es (p : Int) j : Nat) : Int) + 1 ≤ 9223372036854775807 := by omega
        have hbd0 : -9223372036854775808 ≤ ((num es (p : Int) j : Nat) : Int) + 1 := by omega
        clear he
        go_wp2_with fail
        go_quiet (fail)
        go_wp2
        go_roundw
        case rel => exact ⟨j + 1, by omega, by go_num, by rw [HN.out]; simp, _, rfl⟩
        case measure => simp [intOf]; omega
      · have HN : Hid (num es (p : Int) (j + 1) = num es (p : Int) j) := by simp [Hid, num, he]
        have hd : ((evAt es j).n == (p : Int)) = false := by simpa using he
        clear he
        go_wp2_with fail
        go_quiet (fail)
        go_wp2
        go_roundw
        case rel => exact ⟨j + 1, by omega, by go_num, by rw [HN.out], _, rfl⟩
        case measure => simp [intOf]; omega
    · have hjk : j = k := by omega
      subst hjk
      have z := hx p hp8
      have p1 : (p : Int) < 8 := by omega
      have p0 : (0 : Int) ≤ (p : Int) := by omega
      go_wp2
      go_ret
      exact ⟨ret_bool (by rw [HI.out]), _, rfl⟩
end Go.Proofs.Ytacjpebifacclaa

/-
  The contracts of the specification's l4Bad, CutOk, Within and Around.
-/
namespace Go.Proofs.Ytacjpebifacclaa
set_option linter.unusedSimpArgs false
set_option linter.unusedVariables false
open Go.RowKit Go.Sort

theorem bad_none {es : List Ev} {c : List Int} {k : Nat} (h0 : firstBad es c k = none) (h : badB es c k = false) : firstBad es c (k + 1) = none := by
  unfold firstBad
  rw [h0]
  simp [h]

set_option maxRecDepth 100000 in
set_option maxHeartbeats 1600000 in
theorem l4Bad_any (b off len cap : Nat) (es : List Ev) (g f cg : Nat) (xs : List Int) (w : World) (hc : EvsAt w b off len es) (hok : okT es len = true) (hx : ∀ i, i < 8 → w.cell? ⟨g, f + i, none⟩ = some (.int .i64 (el xs i))) :
    Calls Try.prog 109 #[.slice (some ⟨b, off, none⟩) len cap, .slice (some ⟨g, f, none⟩) 8 cg] w fun e w' => e = .returned (.int .i64 (ixI (firstBad es xs len))) ∧ ∃ n, w' = w.drewN n := by
  obtain ⟨h40, hall⟩ := okT_all hok
  have HALL : Hid (∀ k, k < len → okE es k = true) := hall
  have HC : Hid (EvsAt w b off len es) := hc
  have HX : Hid (∀ i, i < 8 → w.cell? ⟨g, f + i, none⟩ = some (.int .i64 (el xs i))) := hx
  have HOK : Hid (okT es len = true) := hok
  clear hall hc hx hok
  go_enter Try.func109, Try.ntmps109
  go_wp2
  go_loopw [5] (fun i wr => ∃ k : Nat, k ≤ len ∧ i = .int .i64 k ∧ firstBad es xs k = none ∧ ∃ n, wr = w.drewN n) (fun i _ => len - (intOf i).toNat)
  case atStart => exact ⟨0, Nat.zero_le _, rfl, rfl, 0, rfl⟩
  case round =>
    obtain ⟨k, hk, rfl, hfb, n, rfl⟩ := hrel
    have HFB : Hid (firstBad es xs k = none) := hfb
    clear hfb
    by_cases hlt : k < len
    · obtain ⟨c0, c1, c2⟩ := HC.out k hlt
      have k1 : (k : Int) < (len : Int) := by omega
      have k0 : (0 : Int) ≤ (k : Int) := by omega
      by_cases h3 : (evAt es k).k = 3
      · obtain ⟨p, hp, hp8⟩ := node8 HOK.out hlt
        obtain ⟨hs, hsk, _⟩ := sOf_at HOK.out hlt h3
        obtain ⟨p', hp', hp8'⟩ := node8 HOK.out (k := sOf es k) (by omega)
        have hI1 := l4In_any b off len cap k es g f cg p xs (w.drewN n) (HC.out.drewN n) (by omega) hlt (fun i hi => HX.out i hi) hp hp8
        have hI2 := fun X => l4In_any b off len cap (sOf es k) es g f cg p' xs (w.drewN X) (HC.out.drewN X) (by omega) (by omega) (fun i hi => HX.out i hi) hp' hp8'
        have hS := fun X => l2Send_any b off len cap (evAt es k).m es (w.drewN X) (HC.out.drewN X) (by unfold maxLen; omega)
        rw [firstS_mono hs len (by omega)] at hS
        simp only [ixI] at hS
        have HBD : Hid (badB es xs k = (inC es xs k && !inC es xs (sOf es k))) := by rw [Hid, badB, h3]; rfl
        rw [h3] at c1
        clear hs hp hp' h3
        cases hi : inC es xs k
        · rw [hi] at hI1
          have HN : Hid (firstBad es xs (k + 1) = none) := bad_none HFB.out (by rw [HBD.out, hi]; rfl)
          clear hi
          go_wp2_with fail
          refine hI1.mono ?_
          rintro e w1 ⟨rfl, n1, rfl⟩
          go_wp2
          go_roundw
          case rel => exact ⟨k + 1, by omega, by go_num, HN.out, _, rfl⟩
          case measure => simp [intOf]; omega
        · rw [hi] at hI1
          cases hj : inC es xs (sOf es k)
          · rw [hj] at hI2
            have HF : Hid (firstBad es xs len = some k) := firstBad_hit HFB.out (by rw [HBD.out, hi, hj]; rfl) hlt
            clear hi hj
            go_wp2_with fail
            refine hI1.mono ?_
            rintro e w1 ⟨rfl, n1, rfl⟩
            rw [World.drewN_drewN]
            go_wp2_with fail
            refine (hS _).mono ?_
            rintro e w1' ⟨rfl, hw1⟩
            replace hw1 := hw1.symm
            subst hw1
            go_wp2_with fail
            refine (hI2 _).mono ?_
            rintro e w2 ⟨rfl, n2, rfl⟩
            go_wp2
            go_ret
            exact ⟨by rw [HF.out]; rfl, _, rfl⟩
          · rw [hj] at hI2
            have HN : Hid (firstBad es xs (k + 1) = none) := bad_none HFB.out (by rw [HBD.out, hi, hj]; rfl)
            clear hi hj
            go_wp2_with fail
            refine hI1.mono ?_
            rintro e w1 ⟨rfl, n1, rfl⟩
            rw [World.drewN_drewN]
            go_wp2_with fail
            refine (hS _).mono ?_
            rintro e w1' ⟨rfl, hw1⟩
            replace hw1 := hw1.symm
            subst hw1
            go_wp2_with fail
            refine (hI2 _).mono ?_
            rintro e w2 ⟨rfl, n2, rfl⟩
            go_wp2
            go_roundw
            case rel => exact ⟨k + 1, by omega, by go_num, HN.out, _, rfl⟩
            case measure => simp [intOf]; omega
      · have HN : Hid (firstBad es xs (k + 1) = none) := bad_none HFB.out (by rw [badB, decide_eq_false h3]; rfl)
        have hd : ((evAt es k).k == 3) = false := by simpa using h3
        clear h3
        go_wp2
        go_roundw
        case rel => exact ⟨k + 1, by omega, by go_num, HN.out, _, rfl⟩
        case measure => simp [intOf]; omega
    · have hkl : k = len := by omega
      subst hkl
      go_wp2
      go_ret
      exact ⟨by rw [HFB.out]; rfl, _, rfl⟩

theorem cut_cells {es : List Ev} {len : Nat} {w : World} {a : Option Addr} {m : Nat} {xs : List Int} (hv : Vec w a m xs) (h : cutB es len xs = true) : m = 8 ∧ IsCut es len xs ∧ ∃ g f, a = some ⟨g, f, none⟩ ∧ ∀ i, i < 8 → w.cell? ⟨g, f + i, none⟩ = some (.int .i64 (el xs i)) := by
  have hI := cutB_iff.1 h
  have hm : m = 8 := by rw [← hv.1, hI.len]
  subst hm
  obtain ⟨g, f, rfl, hc⟩ := hv.cells (by omega)
  exact ⟨rfl, hI, g, f, rfl, hc⟩

set_option maxRecDepth 100000 in
set_option maxHeartbeats 1600000 in
theorem specCutOk_any (b off len cap : Nat) (es : List Ev) (a : Option Addr) (m c : Nat) (xs : List Int) (w : World) (hc : EvsAt w b off len es) (hm : len ≤ maxLen) (hcap : len ≤ cap) (hv : Vec w a m xs) (hmx : m ≤ maxLen) :
    Calls Try.prog 49 #[.slice (some ⟨b, off, none⟩) len cap, .slice a m c] w fun e w' => e = .returned (.bool (okC es len xs)) ∧ Below w.heap.size w w' := by
  have hK := l4Cut_any b off len cap es a m c xs w hc hm hcap hv hmx
  cases ho : cutB es len xs
  · rw [ho] at hK
    have HZ : Hid (okC es len xs = false) := by rw [Hid, okC, ho]; rfl
    go_enter Try.func49, Try.ntmps49
    go_wp2_with fail
    refine hK.mono ?_
    rintro e w1 ⟨rfl, hb1⟩
    have HG : Hid (Below w.heap.size w w1) := hb1
    clear hb1
    go_wp2
    go_ret
    exact ⟨ret_bool (by rw [HZ.out]), HG.out⟩
  · rw [ho] at hK
    obtain ⟨rfl, hI, g, f, rfl, hx⟩ := cut_cells hv ho
    have HZ : Hid (okC es len xs = (firstBad es xs len).isNone) := by rw [Hid, okC, ho]; rfl
    go_enter Try.func49, Try.ntmps49
    go_wp2_with fail
    refine hK.mono ?_
    rintro e w1 ⟨rfl, hb1⟩
    have hB := l4Bad_any b off len cap es g f c xs w1 (evs_below hc hb1 (Nat.le_refl _)) hI.ok (fun i hi => (hb1.cell (World.block_lt_of_cell? _ _ (hx i hi))).trans (hx i hi))
    have HG : Hid (Below w.heap.size w w1) := hb1
    clear hb1
    cases hf : firstBad es xs len with
    | none =>
      rw [hf] at hB
      simp only [ixI] at hB
      rw [hf] at HZ
      go_wp2_with fail
      refine hB.mono ?_
      rintro e w2 ⟨rfl, n2, hw2⟩
      have HG2 : Hid (Below w.heap.size w w2) := by rw [Hid, hw2]; exact belowN HG.out
      clear hw2
      go_wp2
      go_ret
      exact ⟨ret_bool (by rw [HZ.out]; rfl), HG2.out⟩
    | some k =>
      rw [hf] at hB
      simp only [ixI] at hB
      rw [hf] at HZ
      have hk0 : decide ((k : Int) < 0) = false := by simp
      go_wp2_with fail
      refine hB.mono ?_
      rintro e w2 ⟨rfl, n2, hw2⟩
      have HG2 : Hid (Below w.heap.size w w2) := by rw [Hid, hw2]; exact belowN HG.out
      clear hw2
      go_wp2
      go_ret
      exact ⟨ret_bool (by rw [HZ.out]; rfl), HG2.out⟩

/-- What Within answers. -/
def WiT (es : List Ev) (n : Nat) (a Z : List Int) : Prop := (cutB es n a = false ∧ Z = []) ∨ (cutB es n a = true ∧ IsWithin es n a Z)
/-- What Around answers. -/
def ArT (es : List Ev) (n : Nat) (a Z : List Int) : Prop := (cutB es n a = false ∧ Z = []) ∨ (cutB es n a = true ∧ IsAround es n a Z)
theorem WiT.unique {es : List Ev} {n : Nat} {a Z Z' : List Int} (h : WiT es n a Z) (h' : WiT es n a Z') : Z = Z' := by
  rcases h with ⟨h1, h2⟩ | ⟨h1, h2⟩ <;> rcases h' with ⟨k1, k2⟩ | ⟨k1, k2⟩
  · rw [h2, k2]
  · rw [h1] at k1; cases k1
  · rw [h1] at k1; cases k1
  · exact h2.unique k2
theorem ArT.unique {es : List Ev} {n : Nat} {a Z Z' : List Int} (h : ArT es n a Z) (h' : ArT es n a Z') : Z = Z' := by
  rcases h with ⟨h1, h2⟩ | ⟨h1, h2⟩ <;> rcases h' with ⟨k1, k2⟩ | ⟨k1, k2⟩
  · rw [h2, k2]
  · rw [h1] at k1; cases k1
  · rw [h1] at k1; cases k1
  · exact h2.unique k2

set_option maxRecDepth 100000 in
set_option maxHeartbeats 1600000 in
theorem specWithin_any (b off len cap : Nat) (es : List Ev) (a : Option Addr) (m c : Nat) (xs : List Int) (w : World) (hc : EvsAt w b off len es) (hm : len ≤ maxLen) (hcap : len ≤ cap) (hv : Vec w a m xs) (hmx : m ≤ maxLen) :
    Calls Try.prog 53 #[.slice (some ⟨b, off, none⟩) len cap, .slice a m c] w fun e w' => ∃ Z, WiT es len xs Z ∧ Ans w w' e Z := by
  have hK := l4Cut_any b off len cap es a m c xs w hc hm hcap hv hmx
  cases ho : cutB es len xs
  · rw [ho] at hK
    have HZ : Hid (WiT es len xs []) := .inl ⟨ho, rfl⟩
    go_enter Try.func53, Try.ntmps53
    go_wp2_with fail
    refine hK.mono ?_
    rintro e w1 ⟨rfl, hb1⟩
    have HG : Hid (Below w.heap.size w w1) := hb1
    clear hb1
    go_wp2
    go_ret
    exact ⟨[], HZ.out, w1.heap.size, 0, 0, rfl, HG.out.size, oi_empty w1 2, HG.out.alloc HG.out.size _⟩
  · rw [ho] at hK
    obtain ⟨rfl, hI, g, f, rfl, hx⟩ := cut_cells hv ho
    obtain ⟨i0, hi0, hz0, hz1, hz2⟩ := info_parts Try.info2
    have HO : Hid (cutB es len xs = true) := ho
    have h40 := hI.le40
    have hxl := hI.len
    have HOK : Hid (okT es len = true) := hI.ok
    have HI : Hid (IsCut es len xs) := hI
    go_enter Try.func53, Try.ntmps53
    go_wp2_with fail
    refine hK.mono ?_
    rintro e w1 ⟨rfl, hb1⟩
    have HG : Hid (Below w.heap.size w w1) := hb1
    have HC1 : Hid (EvsAt w1 b off len es) := evs_below hc hb1 (Nat.le_refl _)
    have HX1 : Hid (∀ i, i < xs.length → (w1.alloc (.cells #[] 2)).cell? ⟨g, f + i, none⟩ = some (.int .i64 (el xs i))) := fun i hi => by
      have h := hx i (by omega)
      have h1 := (hb1.cell (World.block_lt_of_cell? _ _ h)).trans h
      exact (((Below.refl w1.heap.size w1).alloc (Nat.le_refl _) (.cells #[] 2)).cell (World.block_lt_of_cell? _ _ h1)).trans h1
    clear hb1 hI hK hc hx hv ho
    go_wp2_with (at_builtin; refine wpList_append_os _ rfl _ _ _ rfl 2 i0 _ 1 8 Try.underlying24 hi0 hz0 hz1 hz2 rfl (by omega) w1.heap.size 0 0 0 (([] : List Int).map (Value.int .i64)) rfl (oi_empty w1 2) ⟨g, f, none⟩ 8 c (xs.map (Value.int .i64)) rfl (by simp [hxl]) (vec_news HX1.out) (by simp [Value.oneCell']) (by unfold maxLen; omega) (by omega) ?_; intro gA fA cA wA hoA hgA hatA)
    have HoA : Hid (OI wA gA fA 8 cA xs) := by
      have h := hoA
      simp only [List.map_nil, List.nil_append, Nat.zero_add] at h
      exact h
    have BA : Hid (Below w1.heap.size w1 wA) := below_grown ((Below.refl _ _).alloc (Nat.le_refl _) _) hgA (Nat.le_refl _) (by simp)
    have hgA1 : w1.heap.size ≤ gA := by
      rcases hatA with h | h
      · rw [h]; exact Nat.le_refl _
      · rw [h]; simp
    have KE : Hid (∀ X, Below w1.heap.size w1 X → EvsAt X b off len es) := fun X hX => evs_below HC1.out hX (Nat.le_refl _)
    have KB : Hid (∀ X c', OI X gA fA 8 cA c' → Below w1.heap.size w1 X → Calls Try.prog 109 #[.slice (some ⟨b, off, none⟩) len cap, .slice (some ⟨gA, fA, none⟩) 8 cA] X fun e w' => e = .returned (.int .i64 (ixI (firstBad es c' len))) ∧ ∃ n, w' = X.drewN n) :=
      fun X c' ho hX => l4Bad_any b off len cap es gA fA cA c' X (KE.out X hX) HOK.out (fun i hi => ho.cellAt hi)
    have hw1 : w.heap.size ≤ w1.heap.size := HG.out.size
    clear hoA hgA hatA HX1
    go_wp2_with fail
    refine (KB.out wA xs HoA.out BA.out).mono ?_
    rintro e w3 ⟨rfl, n3, hw3⟩
    have Ho3 : Hid (OI w3 gA fA 8 cA xs) := by rw [Hid, hw3]; exact HoA.out.drewN n3
    have B3 : Hid (Below w1.heap.size w1 w3) := by rw [Hid, hw3]; exact belowN BA.out
    clear hw3 HoA BA
    obtain ⟨X0, hX0⟩ : ∃ X0, ixI (firstBad es xs len) = X0 := ⟨_, rfl⟩
    rw [hX0]
    have HX0 : Hid (ixI (firstBad es xs len) = X0) := hX0
    clear hX0
    go_wp2
    go_loopg [6] (tot xs).toNat (fun gk k wr => ∃ c', (tot c').toNat ≤ gk ∧ k = .int .i64 (ixI (firstBad es c' len)) ∧ WInv es len xs c' ∧ OI wr gA fA 8 cA c' ∧ Below w1.heap.size w1 wr)
    case atStart => exact ⟨xs, Nat.le_refl _, by rw [HX0.out], WInv.start HI.out, Ho3.out, B3.out⟩
    case round =>
      obtain ⟨c', hgk, rfl, hinv, hoc, hbc⟩ := hrel
      have KO : Hid (OI wr gA fA 8 cA c') := hoc
      have KW : Hid (WInv es len xs c') := hinv
      have KBe : Hid (Below w1.heap.size w1 wr) := hbc
      clear hinv hoc hbc Ho3 B3
      cases hf : firstBad es c' len with
      | none =>
        have HD : Hid (WiT es len xs c') := .inr ⟨HO.out, KW.out.done hf⟩
        have hl8 : c'.length = 8 := KW.out.cut.len
        simp only [ixI]
        clear hf
        go_wp2
        go_ret
        exact ⟨c', HD.out, gA, fA, cA, by rw [hl8]; rfl, Nat.le_trans hw1 hgA1, by rw [hl8]; exact KO.out, HG.out.trans (KBe.out.mono hw1)⟩
      | some k =>
        obtain ⟨hkn, hbad⟩ := firstBad_some hf
        have hne : b ≠ gA := by
          have h := World.block_lt_of_cell? _ _ (HC1.out k hkn).1
          simp only at h
          omega
        obtain ⟨p, hp, hp8⟩ := node8 HOK.out hkn
        have HST : Hid (WInv es len xs (c'.set p ((rankN es k : Nat) : Int))) := KW.out.step hkn hbad hp
        have hdec : tot (c'.set p ((rankN es k : Nat) : Int)) < tot c' := by
          rw [tot_set KW.out.cut.len hp8]
          have h1 := (inC_iff hp).1 (bad_parts hbad).2.1
          have h2 : rankN es k = num es (p : Int) k := by unfold rankN; rw [hp]
          rw [h2]; omega
        have hpos := HST.out.cut.tots.1
        have hR := fun X => l4Rank_any b off len cap k es (wr.drewN X) ((KE.out wr KBe.out).drewN X) (by omega) hkn
        have e0 := (KE.out wr KBe.out k hkn).1
        rw [hp] at e0
        have y3 := KO.out.cellAt (i := p) hp8
        have y4 := KO.out.free p (by have := KO.out.le; omega)
        have k1 : (k : Int) < (len : Int) := by omega
        have k0 : (0 : Int) ≤ (k : Int) := by omega
        have p1 : (p : Int) < 8 := by omega
        have p0 : (0 : Int) ≤ (p : Int) := by omega
        simp only [ixI]
        generalize hRK : ((rankN es k : Nat) : Int) = RK at *
        clear hRK hf hbad hp
        have hkeep : ∀ X, ((wr.drewN X).setCell ⟨gA, fA + p, none⟩ (.int .i64 RK)).cell? ⟨b, off + k * 3, none⟩ = some (.int .i64 (p : Int)) := fun X => by
          rw [World.cell?_setCell_other _ _ _ _ (by intro h; have := congrArg Addr.block h; simp only at this; omega)]; exact e0
        go_wp2_with fail
        go_region_held3 (fun X => X.cell? ⟨b, off + k * 3, none⟩ = some (.int .i64 (p : Int)))
          (first
            | exact hkeep _
            | exact e0
            | go_keep)
          (first
            | (go_at_call 112; refine (hR 1).mono ?_; rintro e w4 ⟨rfl, n4, rfl⟩))
        obtain ⟨Y, hY⟩ : ∃ Y, (wr.drewN (1 + n4)).setCell ⟨gA, fA + p, none⟩ (.int .i64 RK) = Y := ⟨_, rfl⟩
        have R1 : Hid (OI Y gA fA 8 cA (c'.set p RK)) := by rw [Hid, ← hY]; exact (KO.out.drewN (1 + n4)).set hp8 _
        have R2 : Hid (Below w1.heap.size w1 Y) := by rw [Hid, ← hY]; exact (belowN KBe.out).setCell hgA1 _
        have hB2 := KB.out Y (c'.set p RK) R1.out R2.out
        obtain ⟨X1, hX1⟩ : ∃ X1, ixI (firstBad es (c'.set p RK) len) = X1 := ⟨_, rfl⟩
        rw [hX1] at hB2
        have HX1' : Hid (ixI (firstBad es (c'.set p RK) len) = X1) := hX1
        rw [hY]
        clear hX1 e0 y3 y4 hkeep hR hY
        go_wp2_with fail
        refine hB2.mono ?_
        rintro e w5 ⟨rfl, n5, hw5⟩
        have R3 : Hid (OI w5 gA fA 8 cA (c'.set p RK)) := by rw [Hid, hw5]; exact R1.out.drewN n5
        have R4 : Hid (Below w1.heap.size w1 w5) := by rw [Hid, hw5]; exact belowN R2.out
        clear hw5 hB2 R1 R2
        go_wp2
        go_roundg (tot (c'.set p RK)).toNat
        case measure => omega
        case rel => exact ⟨c'.set p RK, Nat.le_refl _, by rw [HX1'.out], HST.out, R3.out, R4.out⟩
end Go.Proofs.Ytacjpebifacclaa

/-
  The contract of the specification's Around.
-/
namespace Go.Proofs.Ytacjpebifacclaa
set_option linter.unusedSimpArgs false
set_option linter.unusedVariables false
open Go.RowKit Go.Sort

set_option maxRecDepth 100000 in
set_option maxHeartbeats 1600000 in
theorem specAround_any (b off len cap : Nat) (es : List Ev) (a : Option Addr) (m c : Nat) (xs : List Int) (w : World) (hc : EvsAt w b off len es) (hm : len ≤ maxLen) (hcap : len ≤ cap) (hv : Vec w a m xs) (hmx : m ≤ maxLen) :
    Calls Try.prog 54 #[.slice (some ⟨b, off, none⟩) len cap, .slice a m c] w fun e w' => ∃ Z, ArT es len xs Z ∧ Ans w w' e Z := by
  have hK := l4Cut_any b off len cap es a m c xs w hc hm hcap hv hmx
  cases ho : cutB es len xs
  · rw [ho] at hK
    have HZ : Hid (ArT es len xs []) := .inl ⟨ho, rfl⟩
    go_enter Try.func54, Try.ntmps54
    go_wp2_with fail
    refine hK.mono ?_
    rintro e w1 ⟨rfl, hb1⟩
    have HG : Hid (Below w.heap.size w w1) := hb1
    clear hb1
    go_wp2
    go_ret
    exact ⟨[], HZ.out, w1.heap.size, 0, 0, rfl, HG.out.size, oi_empty w1 2, HG.out.alloc HG.out.size _⟩
  · rw [ho] at hK
    obtain ⟨rfl, hI, g, f, rfl, hx⟩ := cut_cells hv ho
    obtain ⟨i0, hi0, hz0, hz1, hz2⟩ := info_parts Try.info2
    have HO : Hid (cutB es len xs = true) := ho
    have h40 := hI.le40
    have hxl := hI.len
    have HOK : Hid (okT es len = true) := hI.ok
    have HI : Hid (IsCut es len xs) := hI
    go_enter Try.func54, Try.ntmps54
    go_wp2_with fail
    refine hK.mono ?_
    rintro e w1 ⟨rfl, hb1⟩
    have HG : Hid (Below w.heap.size w w1) := hb1
    have HC1 : Hid (EvsAt w1 b off len es) := evs_below hc hb1 (Nat.le_refl _)
    have HX1 : Hid (∀ i, i < xs.length → (w1.alloc (.cells #[] 2)).cell? ⟨g, f + i, none⟩ = some (.int .i64 (el xs i))) := fun i hi => by
      have h := hx i (by omega)
      have h1 := (hb1.cell (World.block_lt_of_cell? _ _ h)).trans h
      exact (((Below.refl w1.heap.size w1).alloc (Nat.le_refl _) (.cells #[] 2)).cell (World.block_lt_of_cell? _ _ h1)).trans h1
    clear hb1 hI hK hc hx hv ho
    go_wp2_with (at_builtin; refine wpList_append_os _ rfl _ _ _ rfl 2 i0 _ 1 8 Try.underlying24 hi0 hz0 hz1 hz2 rfl (by omega) w1.heap.size 0 0 0 (([] : List Int).map (Value.int .i64)) rfl (oi_empty w1 2) ⟨g, f, none⟩ 8 c (xs.map (Value.int .i64)) rfl (by simp [hxl]) (vec_news HX1.out) (by simp [Value.oneCell']) (by unfold maxLen; omega) (by omega) ?_; intro gA fA cA wA hoA hgA hatA)
    have HoA : Hid (OI wA gA fA 8 cA xs) := by
      have h := hoA
      simp only [List.map_nil, List.nil_append, Nat.zero_add] at h
      exact h
    have BA : Hid (Below w1.heap.size w1 wA) := below_grown ((Below.refl _ _).alloc (Nat.le_refl _) _) hgA (Nat.le_refl _) (by simp)
    have hgA1 : w1.heap.size ≤ gA := by
      rcases hatA with h | h
      · rw [h]; exact Nat.le_refl _
      · rw [h]; simp
    have KE : Hid (∀ X, Below w1.heap.size w1 X → EvsAt X b off len es) := fun X hX => evs_below HC1.out hX (Nat.le_refl _)
    have KB : Hid (∀ X c', OI X gA fA 8 cA c' → Below w1.heap.size w1 X → Calls Try.prog 109 #[.slice (some ⟨b, off, none⟩) len cap, .slice (some ⟨gA, fA, none⟩) 8 cA] X fun e w' => e = .returned (.int .i64 (ixI (firstBad es c' len))) ∧ ∃ n, w' = X.drewN n) :=
      fun X c' ho hX => l4Bad_any b off len cap es gA fA cA c' X (KE.out X hX) HOK.out (fun i hi => ho.cellAt hi)
    have hw1 : w.heap.size ≤ w1.heap.size := HG.out.size
    clear hoA hgA hatA HX1
    go_wp2_with fail
    refine (KB.out wA xs HoA.out BA.out).mono ?_
    rintro e w3 ⟨rfl, n3, hw3⟩
    have Ho3 : Hid (OI w3 gA fA 8 cA xs) := by rw [Hid, hw3]; exact HoA.out.drewN n3
    have B3 : Hid (Below w1.heap.size w1 w3) := by rw [Hid, hw3]; exact belowN BA.out
    clear hw3 HoA BA
    obtain ⟨X0, hX0⟩ : ∃ X0, ixI (firstBad es xs len) = X0 := ⟨_, rfl⟩
    rw [hX0]
    have HX0 : Hid (ixI (firstBad es xs len) = X0) := hX0
    clear hX0
    go_wp2
    go_loopg [6] (320 - tot xs).toNat (fun gk k wr => ∃ c', (320 - tot c').toNat ≤ gk ∧ k = .int .i64 (ixI (firstBad es c' len)) ∧ AInv es len xs c' ∧ OI wr gA fA 8 cA c' ∧ Below w1.heap.size w1 wr)
    case atStart => exact ⟨xs, Nat.le_refl _, by rw [HX0.out], AInv.start HI.out, Ho3.out, B3.out⟩
    case round =>
      obtain ⟨c', hgk, rfl, hinv, hoc, hbc⟩ := hrel
      have KO : Hid (OI wr gA fA 8 cA c') := hoc
      have KW : Hid (AInv es len xs c') := hinv
      have KBe : Hid (Below w1.heap.size w1 wr) := hbc
      clear hinv hoc hbc Ho3 B3
      cases hf : firstBad es c' len with
      | none =>
        have HD : Hid (ArT es len xs c') := .inr ⟨HO.out, KW.out.done hf⟩
        have hl8 : c'.length = 8 := KW.out.cut.len
        simp only [ixI]
        clear hf
        go_wp2
        go_ret
        exact ⟨c', HD.out, gA, fA, cA, by rw [hl8]; rfl, Nat.le_trans hw1 hgA1, by rw [hl8]; exact KO.out, HG.out.trans (KBe.out.mono hw1)⟩
      | some k =>
        obtain ⟨hkn, hbad⟩ := firstBad_some hf
        have hne : b ≠ gA := by
          have h := World.block_lt_of_cell? _ _ (HC1.out k hkn).1
          simp only at h
          omega
        obtain ⟨hs, hsk, _⟩ := sOf_at HOK.out hkn (bad_parts hbad).1
        obtain ⟨p, hp, hp8⟩ := node8 HOK.out (k := sOf es k) (by omega)
        have HST : Hid (AInv es len xs (c'.set p (((rankN es (sOf es k) : Nat) : Int) + 1))) := KW.out.step hkn hbad hp
        have hdec : tot c' < tot (c'.set p (((rankN es (sOf es k) : Nat) : Int) + 1)) := by
          rw [tot_set KW.out.cut.len hp8]
          have h1 := (bad_parts hbad).2.2
          have h2 : rankN es (sOf es k) = num es (p : Int) (sOf es k) := by unfold rankN; rw [hp]
          have h3 : ¬ ((num es (p : Int) (sOf es k) : Nat) : Int) < el c' p := by
            intro h
            rw [(inC_iff hp).2 h] at h1
            cases h1
          rw [h2]; omega
        have hpos := HST.out.cut.tots.2
        have hSd := l2Send_any b off len cap (evAt es k).m es wr (KE.out wr KBe.out) (by unfold maxLen; omega)
        rw [firstS_mono hs len (by omega)] at hSd
        simp only [ixI] at hSd
        have c2 := (KE.out wr KBe.out k hkn).2.2
        have hrk := num_leK es (evAt es (sOf es k)).n (sOf es k)
        have hrb : ((rankN es (sOf es k) : Nat) : Int) + 1 ≤ 1000 := by unfold rankN; omega
        generalize sOf es k = s at *
        have hR := fun X => l4Rank_any b off len cap s es (wr.drewN X) ((KE.out wr KBe.out).drewN X) (by omega) (by omega)
        have e0 := (KE.out wr KBe.out s (by omega)).1
        rw [hp] at e0
        have y3 := KO.out.cellAt (i := p) hp8
        have y4 := KO.out.free p (by have := KO.out.le; omega)
        have s1 : (s : Int) < (len : Int) := by omega
        have s0 : (0 : Int) ≤ (s : Int) := by omega
        have hb1 : ((rankN es s : Nat) : Int) + 1 ≤ 9223372036854775807 := by omega
        have hb2 : -9223372036854775808 ≤ ((rankN es s : Nat) : Int) + 1 := by omega
        have k1 : (k : Int) < (len : Int) := by omega
        have k0 : (0 : Int) ≤ (k : Int) := by omega
        have p1 : (p : Int) < 8 := by omega
        have p0 : (0 : Int) ≤ (p : Int) := by omega
        simp only [ixI]
        generalize hRK : ((rankN es s : Nat) : Int) = RK at *
        have hwr : IntKind.i64.wrap (RK + 1) = RK + 1 := by rw [IntKind.wrap_i64]; omega
        clear hRK hf hbad hp hs hrk
        go_wp2_with fail
        refine hSd.mono ?_
        rintro e w2' ⟨rfl, hw2'⟩
        replace hw2' := hw2'.symm
        subst hw2'
        clear hSd c2
        have hkeep : ∀ X, ((wr.drewN X).setCell ⟨gA, fA + p, none⟩ (.int .i64 (RK + 1))).cell? ⟨b, off + s * 3, none⟩ = some (.int .i64 (p : Int)) := fun X => by
          rw [World.cell?_setCell_other _ _ _ _ (by intro h; have := congrArg Addr.block h; simp only at this; omega)]; exact e0
        go_wp2_with fail
        go_region_held3 (fun X => X.cell? ⟨b, off + s * 3, none⟩ = some (.int .i64 (p : Int)))
          (first
            | exact hkeep _
            | exact e0
            | go_keep)
          (first
            | (go_at_call 112; refine (hR 1).mono ?_; rintro e w4 ⟨rfl, n4, rfl⟩))
        obtain ⟨Y, hY⟩ : ∃ Y, (wr.drewN (1 + n4)).setCell ⟨gA, fA + p, none⟩ (.int .i64 (RK + 1)) = Y := ⟨_, rfl⟩
        have R1 : Hid (OI Y gA fA 8 cA (c'.set p (RK + 1))) := by rw [Hid, ← hY]; exact (KO.out.drewN (1 + n4)).set hp8 _
        have R2 : Hid (Below w1.heap.size w1 Y) := by rw [Hid, ← hY]; exact (belowN KBe.out).setCell hgA1 _
        have hB2 := KB.out Y (c'.set p (RK + 1)) R1.out R2.out
        obtain ⟨X1, hX1⟩ : ∃ X1, ixI (firstBad es (c'.set p (RK + 1)) len) = X1 := ⟨_, rfl⟩
        rw [hX1] at hB2
        have HX1' : Hid (ixI (firstBad es (c'.set p (RK + 1)) len) = X1) := hX1
        rw [hY]
        clear hX1 e0 y3 y4 hkeep hR hY
        go_wp2_with fail
        refine hB2.mono ?_
        rintro e w5 ⟨rfl, n5, hw5⟩
        have R3 : Hid (OI w5 gA fA 8 cA (c'.set p (RK + 1))) := by rw [Hid, hw5]; exact R1.out.drewN n5
        have R4 : Hid (Below w1.heap.size w1 w5) := by rw [Hid, hw5]; exact belowN R2.out
        clear hw5 hB2 R1 R2
        go_wp2
        go_roundg (320 - tot (c'.set p (RK + 1))).toNat
        case measure => omega
        case rel => exact ⟨c'.set p (RK + 1), Nat.le_refl _, by rw [HX1'.out], HST.out, R3.out, R4.out⟩
end Go.Proofs.Ytacjpebifacclaa

/-
  The contract of the specification's Flying.
-/
namespace Go.Proofs.Ytacjpebifacclaa
set_option linter.unusedSimpArgs false
set_option linter.unusedVariables false
open Go.RowKit Go.Sort

/-- Is mail m heard in the cut by one of the first k events? -/
def heardB (es : List Ev) (c : List Int) (m : Int) : Nat → Bool
  | 0 => false
  | k + 1 => heardB es c m k || (decide ((evAt es k).k = 3) && decide ((evAt es k).m = m) && inC es c k)
theorem heardB_iff {es : List Ev} {c : List Int} {m : Int} {n : Nat} : heardB es c m n = true ↔ HeardIn es n c m := by
  unfold HeardIn
  induction n with
  | zero => simp [heardB]
  | succ n ih =>
    simp only [heardB, Bool.or_eq_true, Bool.and_eq_true, decide_eq_true_eq, ih]
    constructor
    · rintro (⟨k, hk, h⟩ | ⟨⟨h1, h2⟩, h3⟩)
      · exact ⟨k, by omega, h⟩
      · exact ⟨n, by omega, h1, h2, h3⟩
    · rintro ⟨k, hk, h1, h2, h3⟩
      rcases Nat.lt_succ_iff_lt_or_eq.1 hk with h | h
      · exact .inl ⟨k, h, h1, h2, h3⟩
      · subst h; exact .inr ⟨⟨h1, h2⟩, h3⟩
/-- What Flying answers. -/
def FlT (es : List Ev) (n : Nat) (a Z : List Int) : Prop := (okC es n a = false ∧ Z = []) ∨ (okC es n a = true ∧ IsFly es n a n Z)
theorem FlT.unique {es : List Ev} {n : Nat} {a Z Z' : List Int} (h : FlT es n a Z) (h' : FlT es n a Z') : Z = Z' := by
  rcases h with ⟨h1, h2⟩ | ⟨h1, h2⟩ <;> rcases h' with ⟨k1, k2⟩ | ⟨k1, k2⟩
  · rw [h2, k2]
  · rw [h1] at k1; cases k1
  · rw [h1] at k1; cases k1
  · exact h2.unique k2
theorem IsFly.bound {es : List Ev} {n j : Nat} {c Z : List Int} (h : IsFly es n c j Z) (hok : okT es n = true) (hj : j ≤ n) : ∀ m ∈ Z, 1 ≤ m ∧ m ≤ 1000 := fun m hm => by
  obtain ⟨⟨i, hi, h1, h2, _⟩, _⟩ := (h.mem m).1 hm
  obtain ⟨_, hall⟩ := okT_all hok
  have := okE_mail (hall i (by omega)) h1
  omega
theorem sortedI_len : ∀ {l : List Int} {lo hi : Int}, l.Pairwise (· < ·) → (∀ m ∈ l, lo ≤ m ∧ m ≤ hi) → (l.length : Int) ≤ max 0 (hi - lo + 1)
  | [], _, _, _, _ => by simp; omega
  | x :: l, lo, hi, h, hb => by
    rw [List.pairwise_cons] at h
    have hx := hb x (by simp)
    have := sortedI_len (lo := x + 1) (hi := hi) h.2 (fun m hm => by have := h.1 m hm; have := hb m (by simp [hm]); omega)
    simp only [List.length_cons]
    omega

set_option maxRecDepth 100000 in
set_option maxHeartbeats 3200000 in
theorem specFlying_any (b off len cap : Nat) (es : List Ev) (a : Option Addr) (m c : Nat) (xs : List Int) (w : World) (hc : EvsAt w b off len es) (hm : len ≤ maxLen) (hcap : len ≤ cap) (hv : Vec w a m xs) (hmx : m ≤ maxLen) :
    Calls Try.prog 58 #[.slice (some ⟨b, off, none⟩) len cap, .slice a m c] w fun e w' => ∃ Z, FlT es len xs Z ∧ Ans w w' e Z := by
  have hb0 : Below w.heap.size w (w.alloc (.cells #[] 2)) := (Below.refl _ _).alloc (Nat.le_refl _) _
  have hK := specCutOk_any b off len cap es a m c xs (w.alloc (.cells #[] 2)) (evs_below hc hb0 (Nat.le_refl _)) hm hcap (hv.below hb0 (Nat.le_refl _)) hmx
  have HB0 : Hid (Below w.heap.size w (w.alloc (.cells #[] 2))) := hb0
  have HE0 : Hid (OI (w.alloc (.cells #[] 2)) w.heap.size 0 0 0 []) := oi_empty w 2
  clear hb0
  cases ho : okC es len xs
  · rw [ho] at hK
    have HZ : Hid (FlT es len xs []) := .inl ⟨ho, rfl⟩
    go_enter Try.func58, Try.ntmps58
    go_wp2_with fail
    refine hK.mono ?_
    rintro e w1 ⟨rfl, hb1⟩
    have HG : Hid (Below w.heap.size w w1) := HB0.out.trans (hb1.mono HB0.out.size)
    have HO1 : Hid (OI w1 w.heap.size 0 0 0 []) := HE0.out.below hb1 HE0.out.blk
    clear hb1
    go_wp2
    go_ret
    exact ⟨[], HZ.out, w.heap.size, 0, 0, rfl, Nat.le_refl _, HO1.out, HG.out⟩
  · rw [ho] at hK
    obtain ⟨hI, hcons⟩ := okC_iff.1 ho
    obtain ⟨rfl, _, g, f, rfl, hx⟩ := cut_cells (es := es) (len := len) hv (cutB_iff.2 hI)
    have HO : Hid (okC es len xs = true) := ho
    have h40 := hI.le40
    have HOK : Hid (okT es len = true) := hI.ok
    go_enter Try.func58, Try.ntmps58
    go_wp2_with fail
    refine hK.mono ?_
    rintro e w1 ⟨rfl, hb1⟩
    have HG : Hid (Below w.heap.size w w1) := HB0.out.trans (hb1.mono HB0.out.size)
    have HO1 : Hid (OI w1 w.heap.size 0 0 0 []) := HE0.out.below hb1 HE0.out.blk
    have KE : Hid (∀ X, Below w.heap.size w X → EvsAt X b off len es) := fun X hX => evs_below hc hX (Nat.le_refl _)
    have KX : Hid (∀ X, Below w.heap.size w X → ∀ i, i < 8 → X.cell? ⟨g, f + i, none⟩ = some (.int .i64 (el xs i))) := fun X hX i hi => (hX.cell (World.block_lt_of_cell? _ _ (hx i hi))).trans (hx i hi)
    have KI : Hid (∀ X k, Below w.heap.size w X → k < len → Calls Try.prog 115 #[.slice (some ⟨b, off, none⟩) len cap, .slice (some ⟨g, f, none⟩) 8 c, .int .i64 (k : Int)] X fun e w' => e = .returned (.bool (inC es xs k)) ∧ ∃ n, w' = X.drewN n) := fun X k hX hk => by
      obtain ⟨p, hp, hp8⟩ := node8 HOK.out hk
      exact l4In_any b off len cap k es g f c p xs X (KE.out X hX) (by omega) hk (KX.out X hX) hp hp8
    have HF0 : Hid (IsFly es len xs 0 []) := IsFly.start es len xs
    clear hb1 hI hK hc hx hv ho hcons HB0 HE0
    go_wp2
    go_loopw [5, 6] (fun v i wr => ∃ (j : Nat) (Z : List Int) (gz fz cz : Nat), j ≤ len ∧ i = .int .i64 j ∧ v = .slice (some ⟨gz, fz, none⟩) Z.length cz ∧ w.heap.size ≤ gz ∧ OI wr gz fz Z.length cz Z ∧ IsFly es len xs j Z ∧ Below w.heap.size w wr) (fun _ i _ => len - (intOf i).toNat)
    case atStart => exact ⟨0, [], w.heap.size, 0, 0, Nat.zero_le _, rfl, rfl, Nat.le_refl _, HO1.out, HF0.out, HG.out⟩
    case round =>
      obtain ⟨j, Z, gz, fz, cz, hj, rfl, rfl, hgz, hoz, hfl, hbz⟩ := hrel
      have KO : Hid (OI wr gz fz Z.length cz Z) := hoz
      have KF : Hid (IsFly es len xs j Z) := hfl
      have KB : Hid (Below w.heap.size w wr) := hbz
      clear hoz hfl hbz HO1 HF0 HG
      by_cases hlt : j < len
      · obtain ⟨c0, c1, c2⟩ := KE.out wr KB.out j hlt
        have j1 : (j : Int) < (len : Int) := by omega
        have j0 : (0 : Int) ≤ (j : Int) := by omega
        by_cases h2 : (evAt es j).k = 2
        · have hI1 := KI.out wr j KB.out hlt
          rw [h2] at c1
          cases hi : inC es xs j
          · rw [hi] at hI1
            have HS : Hid (IsFly es len xs (j + 1) Z) := KF.out.skip (.inl (by rintro ⟨_, h⟩; rw [hi] at h; cases h))
            clear hi h2
            go_wp2_with fail
            refine hI1.mono ?_
            rintro e w2 ⟨rfl, n2, hw2⟩
            have R1 : Hid (OI w2 gz fz Z.length cz Z) := by rw [Hid, hw2]; exact KO.out.drewN n2
            have R2 : Hid (Below w.heap.size w w2) := by rw [Hid, hw2]; exact belowN KB.out
            clear hw2
            go_wp2
            go_roundw
            case rel => exact ⟨j + 1, Z, gz, fz, cz, by omega, by go_num, rfl, hgz, R1.out, HS.out, R2.out⟩
            case measure => simp [intOf]; omega
          · rw [hi] at hI1
            have HIN : Hid (inC es xs j = true) := hi
            have H2 : Hid ((evAt es j).k = 2) := h2
            clear hi h2
            go_wp2_with fail
            refine hI1.mono ?_
            rintro e w2 ⟨rfl, n2, hw2⟩
            have R1 : Hid (OI w2 gz fz Z.length cz Z) := by rw [Hid, hw2]; exact KO.out.drewN n2
            have R2 : Hid (Below w.heap.size w w2) := by rw [Hid, hw2]; exact belowN KB.out
            have c2' : w2.cell? ⟨b, off + j * 3 + 2, none⟩ = some (.int .i64 (evAt es j).m) := by rw [hw2]; exact c2
            have HC2 : Hid (w2.cell? ⟨b, off + j * 3 + 2, none⟩ = some (.int .i64 (evAt es j).m)) := c2'
            clear hw2 c2 c2' c0 c1 hI1
            go_wp2
            go_loopw [7, 8] (fun h i wx => ∃ k q : Nat, k ≤ len ∧ i = .int .i64 k ∧ h = .bool (heardB es xs (evAt es j).m k) ∧ wx = w2.drewN q) (fun _ i _ => len - (intOf i).toNat)
            case atStart => exact ⟨0, 0, Nat.zero_le _, rfl, rfl, rfl⟩
            case round =>
              obtain ⟨k, q, hk, rfl, rfl, rfl⟩ := hrel
              by_cases hkl : k < len
              · obtain ⟨d0, d1, d2⟩ := KE.out w2 R2.out k hkl
                have k1 : (k : Int) < (len : Int) := by omega
                have k0 : (0 : Int) ≤ (k : Int) := by omega
                have m2 := HC2.out
                cases hh : heardB es xs (evAt es j).m k
                · by_cases h3 : (evAt es k).k = 3
                  · by_cases hmm : (evAt es k).m = (evAt es j).m
                    · have hI2 := fun X => KI.out (w2.drewN X) k (belowN R2.out) hkl
                      have HN : Hid (heardB es xs (evAt es j).m (k + 1) = inC es xs k) := by simp [Hid, heardB, hh, h3, hmm]
                      have hdm : ((evAt es k).m == (evAt es j).m) = true := by simpa using hmm
                      rw [h3] at d1
                      generalize inC es xs k = I at *
                      clear h3 hmm hh
                      go_wp2_with fail
                      go_quiet (first | (go_at_call 115; exact (hI2 (q + _)).mono (fun e w' h => ⟨h.1, drew_more h.2⟩)))
                      go_wp2
                      go_roundw
                      case rel => exact ⟨k + 1, _, by omega, by go_num, by rw [HN.out], rfl⟩
                      case measure => simp [intOf]; omega
                    · have HN : Hid (heardB es xs (evAt es j).m (k + 1) = false) := by simp [Hid, heardB, hh, hmm]
                      have hdm : ((evAt es k).m == (evAt es j).m) = false := by simpa using hmm
                      rw [h3] at d1
                      clear h3 hmm hh
                      go_wp2_with fail
                      go_quiet (fail)
                      go_wp2
                      go_roundw
                      case rel => exact ⟨k + 1, _, by omega, by go_num, by rw [HN.out], rfl⟩
                      case measure => simp [intOf]; omega
                  · have HN : Hid (heardB es xs (evAt es j).m (k + 1) = false) := by simp [Hid, heardB, hh, h3]
                    have hd3 : ((evAt es k).k == 3) = false := by simpa using h3
                    clear h3 hh
                    go_wp2_with fail
                    go_quiet (fail)
                    go_wp2
                    go_roundw
                    case rel => exact ⟨k + 1, _, by omega, by go_num, by rw [HN.out], rfl⟩
                    case measure => simp [intOf]; omega
                · have HN : Hid (heardB es xs (evAt es j).m (k + 1) = true) := by simp [Hid, heardB, hh]
                  clear hh
                  go_wp2_with fail
                  go_quiet (fail)
                  go_wp2
                  go_roundw
                  case rel => exact ⟨k + 1, _, by omega, by go_num, by rw [HN.out], rfl⟩
                  case measure => simp [intOf]; omega
              · have hkn : k = len := by omega
                subst hkn
                have m2 := HC2.out
                cases hh : heardB es xs (evAt es j).m k
                · have HNH : Hid (¬ HeardIn es k xs (evAt es j).m) := by
                    rw [Hid, ← heardB_iff, hh]; simp
                  have HFR : Hid ((evAt es j).m ∉ Z) := KF.out.fresh HOK.out hlt H2.out
                  have hzl : Z.length ≤ 1000 := by
                    have := sortedI_len (lo := 1) (hi := 1000) KF.out.sorted (KF.out.bound HOK.out hj)
                    omega
                  have hP := l1Put_any gz fz Z.length cz (evAt es j).m Z (w2.drewN q) (R1.out.drewN q) HFR.out (by omega)
                  clear hh
                  go_wp2_with fail
                  refine hP.mono ?_
                  rintro e w3 ⟨i3, hi3, ha3, hb3, gy, fy, cy, rfl, hgy, hoy, hby⟩
                  have RF0 : IsFly es k xs (j + 1) (Z.take i3 ++ (evAt es j).m :: Z.drop i3) := KF.out.put H2.out HIN.out HNH.out hi3 ha3 hb3
                  generalize Z.take i3 ++ (evAt es j).m :: Z.drop i3 = Z' at *
                  have RB : Hid (Below w.heap.size w w3) := (belowN (n := q) R2.out).trans (hby.mono (by have := R2.out.size; exact this))
                  have RF : Hid (IsFly es k xs (j + 1) Z') := RF0
                  have RO : Hid (OI w3 gy fy Z'.length cy Z') := hoy
                  have RG : Hid (w.heap.size ≤ gy) := Nat.le_trans R2.out.size hgy
                  clear hP hoy hby hgy ha3 hb3 RF0
                  go_wp2
                  go_roundw
                  case rel => exact ⟨j + 1, _, gy, fy, cy, by omega, by go_num, rfl, RG.out, RO.out, RF.out, RB.out⟩
                  case measure => simp [intOf]; omega
                · have HS : Hid (IsFly es k xs (j + 1) Z) := KF.out.skip (.inr (heardB_iff.1 hh))
                  clear hh
                  go_wp2
                  go_roundw
                  case rel => exact ⟨j + 1, Z, gz, fz, cz, by omega, by go_num, rfl, hgz, R1.out.drewN q, HS.out, belowN R2.out⟩
                  case measure => simp [intOf]; omega
        · have HS : Hid (IsFly es len xs (j + 1) Z) := KF.out.skip (.inl (by rintro ⟨h, _⟩; exact h2 h))
          have hd2 : ((evAt es j).k != 2) = true := by simpa using h2
          clear h2
          go_wp2
          go_roundw
          case rel => exact ⟨j + 1, Z, gz, fz, cz, by omega, by go_num, rfl, hgz, KO.out, HS.out, KB.out⟩
          case measure => simp [intOf]; omega
      · have hjn : j = len := by omega
        subst hjn
        go_wp2
        go_ret
        exact ⟨Z, .inr ⟨HO.out, KF.out⟩, gz, fz, cz, rfl, hgz, KO.out, KB.out⟩
end Go.Proofs.Ytacjpebifacclaa

/-
  The walks of the exact laws of cuts, from what the program's functions answer.
-/
namespace Go.Proofs.Ytacjpebifacclaa
set_option linter.unusedSimpArgs false
set_option linter.unusedVariables false
open Go.RowKit Go.Sort

/-- What the program's CutOk answers. -/
def ImplCutOk : Prop := ∀ (b off len cap : Nat) (es : List Ev) (a : Option Addr) (m c : Nat) (xs : List Int) (w : World), EvsAt w b off len es → len ≤ maxLen → len ≤ cap → Vec w a m xs → m ≤ c → c ≤ maxLen →
  Calls Try.prog 48 #[.slice (some ⟨b, off, none⟩) len cap, .slice a m c] w fun e w' => e = .returned (.bool (okC es len xs)) ∧ Below w.heap.size w w'
/-- What the program's Within answers. -/
def ImplWithin : Prop := ∀ (b off len cap : Nat) (es : List Ev) (a : Option Addr) (m c : Nat) (xs : List Int) (w : World), EvsAt w b off len es → len ≤ maxLen → len ≤ cap → Vec w a m xs → m ≤ c → c ≤ maxLen →
  Calls Try.prog 51 #[.slice (some ⟨b, off, none⟩) len cap, .slice a m c] w fun e w' => ∃ Z, WiT es len xs Z ∧ Ans w w' e Z
/-- What the program's Around answers. -/
def ImplAround : Prop := ∀ (b off len cap : Nat) (es : List Ev) (a : Option Addr) (m c : Nat) (xs : List Int) (w : World), EvsAt w b off len es → len ≤ maxLen → len ≤ cap → Vec w a m xs → m ≤ c → c ≤ maxLen →
  Calls Try.prog 52 #[.slice (some ⟨b, off, none⟩) len cap, .slice a m c] w fun e w' => ∃ Z, ArT es len xs Z ∧ Ans w w' e Z
/-- What the program's Flying answers. -/
def ImplFlying : Prop := ∀ (b off len cap : Nat) (es : List Ev) (a : Option Addr) (m c : Nat) (xs : List Int) (w : World), EvsAt w b off len es → len ≤ maxLen → len ≤ cap → Vec w a m xs → m ≤ c → c ≤ maxLen →
  Calls Try.prog 57 #[.slice (some ⟨b, off, none⟩) len cap, .slice a m c] w fun e w' => ∃ Z, FlT es len xs Z ∧ Ans w w' e Z

theorem cut_small {es : List Ev} {n : Nat} {Z : List Int} (h : IsCut es n Z) : Z.length ≤ 10000 ∧ Fits Z := by
  have h40 := h.le40
  refine ⟨by rw [h.len]; omega, fits8 h.len (fun j hj => ?_)⟩
  have := h.lo j hj
  have := h.hi j hj
  have := num_leK es (j : Int) n
  omega
theorem nil_small : ([] : List Int).length ≤ 10000 ∧ Fits ([] : List Int) := ⟨by simp, fun x hx => by simp at hx⟩
theorem WiT.small {es : List Ev} {n : Nat} {a Z : List Int} (h : WiT es n a Z) : Z.length ≤ 10000 ∧ Fits Z := by
  rcases h with ⟨_, rfl⟩ | ⟨_, h⟩
  · exact nil_small
  · exact cut_small h.cut
theorem ArT.small {es : List Ev} {n : Nat} {a Z : List Int} (h : ArT es n a Z) : Z.length ≤ 10000 ∧ Fits Z := by
  rcases h with ⟨_, rfl⟩ | ⟨_, h⟩
  · exact nil_small
  · exact cut_small h.cut
theorem FlT.small {es : List Ev} {n : Nat} {a Z : List Int} (h : FlT es n a Z) : Z.length ≤ 10000 ∧ Fits Z := by
  rcases h with ⟨_, rfl⟩ | ⟨ho, h⟩
  · exact nil_small
  · have hok := (okC_iff.1 ho).1.ok
    have hb := h.bound hok (Nat.le_refl _)
    have := sortedI_len (lo := 1) (hi := 1000) h.sorted hb
    exact ⟨by omega, fun x hx => by have := hb x hx; omega⟩
/-- What a law holds of its four parts as the world goes on. -/
structure Qd (w cur : World) (b n b1 g og cg d od cd : Nat) (es : List Ev) (xs G Z : List Int) : Prop where
  below : Below w.heap.size w cur
  x0 : EvRow cur b n es
  x1 : OI cur b1 0 xs.length xs.length xs
  got : OI cur g og Z.length cg G
  want : OI cur d od Z.length cd Z
theorem Qd.step {w cur next : World} {b n b1 g og cg d od cd : Nat} {es : List Ev} {xs G Z : List Int} (h : Qd w cur b n b1 g og cg d od cd es xs G Z) (hb : Below cur.heap.size cur next) : Qd w next b n b1 g og cg d od cd es xs G Z :=
  ⟨h.below.trans (hb.mono h.below.size), h.x0.below hb h.x0.lt, h.x1.below hb h.x1.blk, h.got.below hb h.got.blk, h.want.below hb h.want.blk⟩
theorem Qd.drewN {w cur : World} {b n b1 g og cg d od cd : Nat} {es : List Ev} {xs G Z : List Int} (h : Qd w cur b n b1 g og cg d od cd es xs G Z) (k : Nat) : Qd w (cur.drewN k) b n b1 g og cg d od cd es xs G Z :=
  ⟨belowN h.below, h.x0, h.x1.drewN k, h.got.drewN k, h.want.drewN k⟩

set_option maxRecDepth 100000 in
set_option maxHeartbeats 1600000 in
/-- The law FnExactCutOk. -/
theorem lawCutOk (hI : ImplCutOk) (a : Option Addr) (len cap : Nat) (es : List Ev) (a' : Option Addr) (len' cap' : Nat) (xs : List Int) (w : World) (hv : EvS w a len es) (hcap : len ≤ cap) (hm : cap ≤ maxLen) (hv' : Vec w a' len' xs) (hcap' : len' ≤ cap') (hm' : cap' ≤ maxLen) :
    Calls Try.prog 9 #[.slice a len cap, .slice a' len' cap'] w fun e w' => e = .returned (.bool true) ∧ Below w.heap.size w w' := by
  have hl : len ≤ maxLen := Nat.le_trans hcap hm
  by_cases hbig' : (1048576 : Int) < (len' : Int)
  · go_enter Try.func9, Try.ntmps9
    go_wp2
    go_ret
    exact ⟨rfl, Below.refl _ _⟩
  by_cases hbig : (1048576 : Int) < (len : Int)
  · go_enter Try.func9, Try.ntmps9
    go_wp2_with fail
    refine (sz_big a len cap w hbig hl).mono ?_
    rintro e w1 ⟨rfl, hw1⟩
    have HW : Hid (w1 = w) := hw1
    clear hw1
    go_wp2
    go_ret
    exact ⟨rfl, by rw [HW.out]; exact Below.refl _ _⟩
  · have hsm : len ≤ 1048576 := by omega
    have hpos : decide ((1048576 : Int) - (len : Int) < 0) = false := by simp; omega
    have hf : Fits xs := hv'.2.1
    have hlen' := hv'.1
    subst hlen'
    have hl' : xs.length ≤ maxLen := Nat.le_trans hcap' hm'
    have hsm' : xs.length ≤ 17592186044416 := by omega
    go_enter Try.func9, Try.ntmps9
    go_wp2_with fail
    refine (sz_small a len cap w (by omega)).mono ?_
    rintro e w1 ⟨rfl, hw1⟩
    have G1 : Grew w w1 := by rw [hw1]; exact Grew.refl _
    clear hw1
    go_wp2_with fail
    refine (copyE_any a len cap es w1 (hv.grew G1) hsm).mono ?_
    rintro e w2 ⟨b2, rfl, _, hr2, hg2⟩
    have G2 : Grew w w2 := G1.trans hg2
    go_wp2_with fail
    refine (copy_any a' _ cap' xs w2 (hv'.below G2.1 (Nat.le_refl _)) hsm').mono ?_
    rintro e w3 ⟨b3, rfl, _, hr3, hb3⟩
    have B3 : Below w.heap.size w w3 := G2.1.trans (hb3.mono G2.1.size)
    go_wp2_with fail
    refine (specCutOk_any b2 0 len len es (some ⟨b3, 0, none⟩) xs.length xs.length xs w3 (hr2.below hb3 hr2.lt).at hl (Nat.le_refl _) (hr3.vec hf) hl').mono ?_
    rintro e w4 ⟨rfl, hb4⟩
    have B4 : Below w.heap.size w w4 := B3.trans (hb4.mono B3.size)
    clear hr2 hg2 hb3 hr3 hb4 G1
    go_wp2_with fail
    refine (copyE_any a len cap es w4 (hv.below B4 (Nat.le_refl _)) hsm).mono ?_
    rintro e w5 ⟨b, rfl, hb5, hr5, hg5⟩
    have B5 : Below w.heap.size w w5 := B4.trans (hg5.1.mono B4.size)
    go_wp2_with fail
    refine (copy_any a' _ cap' xs w5 (hv'.below B5 (Nat.le_refl _)) hsm').mono ?_
    rintro e w6 ⟨b1, rfl, hb6, hr6, hbb6⟩
    have B6 : Below w.heap.size w w6 := B5.trans (hbb6.mono B5.size)
    have hr56 := hr5.below hbb6 hr5.lt
    go_wp2_with fail
    refine (hI b 0 len len es (some ⟨b1, 0, none⟩) xs.length xs.length xs w6 hr56.at hl (Nat.le_refl _) (hr6.vec hf) (Nat.le_refl _) hl').mono ?_
    rintro e w7 ⟨rfl, hb7⟩
    have B7 : Below w.heap.size w w7 := B6.trans (hb7.mono B6.size)
    have e7 := hr56.below hb7 hr56.lt
    have o7 := (oi_row hr6 hl').below hb7 hr6.lt
    generalize okC es len xs = A at *
    have hAA : (A != A) = false := by simp
    clear hr5 hg5 B3 B4 B5 B6 hb5 hb6 hbb6 hr6 hr56 hb7
    go_wp2_with fail
    refine (copyE_any a len cap es w7 (hv.below B7 (Nat.le_refl _)) hsm).mono ?_
    rintro e w8 ⟨b8, rfl, _, hr8, hg8⟩
    have B8 : Below w.heap.size w w8 := B7.trans (hg8.1.mono B7.size)
    have e8 := e7.below hg8.1 e7.lt
    have o8 := o7.below hg8.1 o7.blk
    go_wp2_with fail
    refine (eqE_any b b8 0 0 len len len es w8 e8.at hr8.at hl).mono ?_
    rintro e w9 ⟨rfl, hg9⟩
    have B9 : Below w.heap.size w w9 := B8.trans (hg9.1.mono B8.size)
    have o9 := o8.below hg9.1 o8.blk
    clear e7 o7 e8 o8 hr8 hg8 hg9 B7 B8
    go_wp2_with fail
    refine (copy_any a' _ cap' xs w9 (hv'.below B9 (Nat.le_refl _)) hsm').mono ?_
    rintro e w10 ⟨b10, rfl, _, hr10, hb10⟩
    have B10 : Below w.heap.size w w10 := B9.trans (hb10.mono B9.size)
    have o10 := o9.below hb10 o9.blk
    go_wp2_with fail
    refine (eq_any _ _ _ _ _ _ xs xs _ (o10.vec hf) (hr10.vec hf) hl').mono ?_
    rintro e w11 ⟨rfl, n11, hw11⟩
    have B11 : Hid (Below w.heap.size w w11) := by rw [Hid, hw11]; exact belowN B10
    clear hw11 o10 hr10 hb10 B9 B10 o9
    go_wp2
    go_ret
    exact ⟨rfl, B11.out⟩

set_option maxRecDepth 100000 in
set_option maxHeartbeats 1600000 in
/-- The law FnExactWithin. -/
theorem lawWithin (hI : ImplWithin) (a : Option Addr) (len cap : Nat) (es : List Ev) (a' : Option Addr) (len' cap' : Nat) (xs : List Int) (w : World) (hv : EvS w a len es) (hcap : len ≤ cap) (hm : cap ≤ maxLen) (hv' : Vec w a' len' xs) (hcap' : len' ≤ cap') (hm' : cap' ≤ maxLen) :
    Calls Try.prog 10 #[.slice a len cap, .slice a' len' cap'] w fun e w' => e = .returned (.bool true) ∧ Below w.heap.size w w' := by
  have hl : len ≤ maxLen := Nat.le_trans hcap hm
  by_cases hbig' : (1048576 : Int) < (len' : Int)
  · go_enter Try.func10, Try.ntmps10
    go_wp2
    go_ret
    exact ⟨rfl, Below.refl _ _⟩
  by_cases hbig : (1048576 : Int) < (len : Int)
  · go_enter Try.func10, Try.ntmps10
    go_wp2_with fail
    refine (sz_big a len cap w hbig hl).mono ?_
    rintro e w1 ⟨rfl, hw1⟩
    have HW : Hid (w1 = w) := hw1
    clear hw1
    go_wp2
    go_ret
    exact ⟨rfl, by rw [HW.out]; exact Below.refl _ _⟩
  · have hsm : len ≤ 1048576 := by omega
    have hpos : decide ((1048576 : Int) - (len : Int) < 0) = false := by simp; omega
    have hf : Fits xs := hv'.2.1
    have hlen' := hv'.1
    subst hlen'
    have hl' : xs.length ≤ maxLen := Nat.le_trans hcap' hm'
    have hsm' : xs.length ≤ 17592186044416 := by omega
    go_enter Try.func10, Try.ntmps10
    go_wp2_with fail
    refine (sz_small a len cap w (by omega)).mono ?_
    rintro e w1 ⟨rfl, hw1⟩
    have G1 : Grew w w1 := by rw [hw1]; exact Grew.refl _
    clear hw1
    go_wp2_with fail
    refine (copyE_any a len cap es w1 (hv.grew G1) hsm).mono ?_
    rintro e w2 ⟨b2, rfl, _, hr2, hg2⟩
    have G2 : Grew w w2 := G1.trans hg2
    go_wp2_with fail
    refine (copy_any a' _ cap' xs w2 (hv'.below G2.1 (Nat.le_refl _)) hsm').mono ?_
    rintro e w3 ⟨b3, rfl, _, hr3, hb3⟩
    have B3 : Below w.heap.size w w3 := G2.1.trans (hb3.mono G2.1.size)
    go_wp2_with fail
    refine (specWithin_any b2 0 len len es (some ⟨b3, 0, none⟩) xs.length xs.length xs w3 (hr2.below hb3 hr2.lt).at hl (Nat.le_refl _) (hr3.vec hf) hl').mono ?_
    rintro e w4 ⟨Z, hZ, d, od, cd, rfl, hd, hwant, hb4⟩
    have B4 : Below w.heap.size w w4 := B3.trans (hb4.mono B3.size)
    obtain ⟨hz10, hfz⟩ := hZ.small
    have hzm : Z.length ≤ maxLen := by unfold maxLen; omega
    have HZ : Hid (WiT es len xs Z) := hZ
    clear hr2 hg2 hb3 hr3 hb4 G1 hZ
    go_wp2_with fail
    refine (copyE_any a len cap es w4 (hv.below B4 (Nat.le_refl _)) hsm).mono ?_
    rintro e w5 ⟨b, rfl, hb5, hr5, hg5⟩
    have B5 : Below w.heap.size w w5 := B4.trans (hg5.1.mono B4.size)
    have hwant5 := hwant.below hg5.1 hwant.blk
    have n1 : d < b := Nat.lt_of_lt_of_le hwant.blk hb5
    have n0 : w.heap.size ≤ b := Nat.le_trans B4.size hb5
    go_wp2_with fail
    refine (copy_any a' _ cap' xs w5 (hv'.below B5 (Nat.le_refl _)) hsm').mono ?_
    rintro e w6 ⟨b1, rfl, hb6, hr6, hbb6⟩
    have B6 : Below w.heap.size w w6 := B5.trans (hbb6.mono B5.size)
    have n2 : b < b1 := Nat.lt_of_lt_of_le hr5.lt hb6
    have hr56 := hr5.below hbb6 hr5.lt
    have hwant6 := hwant5.below hbb6 hwant5.blk
    go_wp2_with fail
    refine (hI b 0 len len es (some ⟨b1, 0, none⟩) xs.length xs.length xs w6 hr56.at hl (Nat.le_refl _) (hr6.vec hf) (Nat.le_refl _) hl').mono ?_
    rintro e w7 ⟨Z', hZ', g, og, cg, he, hg, hgot, hb7⟩
    rw [hZ'.unique HZ.out] at he hgot
    subst he
    have n3 : b1 < g := Nat.lt_of_lt_of_le hr6.lt hg
    have T7 : Qd w w7 b len b1 g og cg d od cd es xs Z Z := ⟨B6.trans (hb7.mono B6.size), hr56.below hb7 hr56.lt, (oi_row hr6 hl').below hb7 hr6.lt, hgot, hwant6.below hb7 hwant6.blk⟩
    clear hwant hr5 hg5 hgot B3 B4 B5 hb5 hg hd hb6 hbb6 hr6 hr56 hwant5 hwant6 hb7 hZ'
    go_wp2_with fail
    refine (eq_any _ _ _ _ _ _ Z Z _ (T7.got.vec hfz) (T7.want.vec hfz) hzm).mono ?_
    rintro e w7' ⟨rfl, n7, rfl⟩
    go_wp2_with fail
    refine (copyE_any a len cap es _ (hv.below (belowN (n := n7) T7.below) (Nat.le_refl _)) hsm).mono ?_
    rintro e w8 ⟨b8, rfl, _, hr8, hg8⟩
    have T8 := (T7.drewN n7).step hg8.1
    clear T7 hg8
    go_wp2_with fail
    refine (eqE_any b b8 0 0 len len len es w8 T8.x0.at hr8.at hl).mono ?_
    rintro e w9 ⟨rfl, hg9⟩
    have T9 := T8.step hg9.1
    clear T8 hg9 hr8
    go_wp2_with fail
    refine (copy_any a' _ cap' xs w9 (hv'.below T9.below (Nat.le_refl _)) hsm').mono ?_
    rintro e w10 ⟨b10, rfl, _, hr10, hb10⟩
    have T10 := T9.step hb10
    clear T9 hb10
    go_wp2_with fail
    refine (eq_any _ _ _ _ _ _ xs xs _ (T10.x1.vec hf) (hr10.vec hf) hl').mono ?_
    rintro e w10' ⟨rfl, n10, rfl⟩
    have T11 := T10.drewN n10
    clear T10 hr10
    go_wp2_with fail
    refine (markE_any b len 1 es _ T11.x0 (by omega) (by omega)).mono ?_
    rintro e w12 ⟨rfl, ht12⟩
    have B12 : Below w.heap.size w w12 := T11.below.trans (ht12.below n0)
    have x12 := T11.x1.touch ht12 (by omega)
    have got12 := T11.got.touch ht12 (by omega)
    have want12 := T11.want.touch ht12 (by omega)
    clear T11 ht12
    go_wp2_with fail
    refine (markO_any b1 0 xs.length (1 + len * 3) xs.length ((1 + len * 3 : Nat) : Int) xs w12 x12 rfl (by omega) (by omega)).mono ?_
    rintro e w13 ⟨rfl, _, ht13⟩
    have B13 : Below w.heap.size w w13 := B12.trans (ht13.below (by omega))
    have got13 := got12.touch ht13 (by omega)
    have want13 := want12.touch ht13 (by omega)
    have hk0 : decide (((1 + len * 3 : Nat) : Int) + ((xs.length : Nat) : Int) < 0) = false := by simp; omega
    clear B12 got12 want12 ht13 x12
    go_wp2_with fail
    refine (eq_any _ _ _ _ _ _ Z Z _ (got13.vec hfz) (want13.vec hfz) hzm).mono ?_
    rintro e w13' ⟨rfl, n13, rfl⟩
    go_wp2_with fail
    refine (markO_any g og cg 1 _ _ Z _ (got13.drewN n13) (by rfl) (by omega) (by omega)).mono ?_
    rintro e w14 ⟨rfl, got14, ht14⟩
    have B14 : Below w.heap.size w w14 := (belowN (n := n13) B13).trans (ht14.below (by omega))
    have want14 := (want13.drewN n13).touch ht14 (by omega)
    clear B13 got13 want13 ht14 hk0
    go_wp2_with fail
    refine (heldO_any g og cg 1 _ _ _ got14 (by rfl) (by omega) (by omega)).mono ?_
    rintro e w14' ⟨rfl, rfl⟩
    go_wp2_with fail
    refine (copyE_any a len cap es _ (hv.below B14 (Nat.le_refl _)) hsm).mono ?_
    rintro e w15 ⟨b15, rfl, _, hr15, hg15⟩
    have B15 : Below w.heap.size w w15 := B14.trans (hg15.1.mono B14.size)
    have got15 := got14.below hg15.1 got14.blk
    have want15 := want14.below hg15.1 want14.blk
    clear B14 got14 want14 hg15
    go_wp2_with fail
    refine (copy_any a' _ cap' xs w15 (hv'.below B15 (Nat.le_refl _)) hsm').mono ?_
    rintro e w16 ⟨b16, rfl, _, hr16, hb16⟩
    have B16 : Below w.heap.size w w16 := B15.trans (hb16.mono B15.size)
    have got16 := got15.below hb16 got15.blk
    have want16 := want15.below hb16 want15.blk
    go_wp2_with fail
    refine (hI b15 0 len len es (some ⟨b16, 0, none⟩) xs.length xs.length xs w16 (hr15.below hb16 hr15.lt).at hl (Nat.le_refl _) (hr16.vec hf) (Nat.le_refl _) hl').mono ?_
    rintro e w17 ⟨Z'', hZ'', g17, og17, cg17, he, _, hgot17, hb17⟩
    rw [hZ''.unique HZ.out] at he hgot17
    subst he
    have B17 : Below w.heap.size w w17 := B16.trans (hb17.mono B16.size)
    have got17 := got16.below hb17 got16.blk
    have want17 := want16.below hb17 want16.blk
    clear B15 B16 got15 want15 got16 want16 hb16 hb17 hr15 hr16 hZ''
    go_wp2_with fail
    refine (eq_any _ _ _ _ _ _ Z Z _ (hgot17.vec hfz) (want17.vec hfz) hzm).mono ?_
    rintro e w17' ⟨rfl, n17, rfl⟩
    go_wp2_with fail
    refine (heldO_any g og cg 1 _ _ _ (got17.drewN n17) (by rfl) (by omega) (by omega)).mono ?_
    rintro e w18 ⟨rfl, hw18⟩
    have B18 : Below w.heap.size w w18 := by rw [hw18]; exact belowN B17
    clear hw18
    go_wp2
    go_ret
    exact ⟨rfl, B18⟩

set_option maxRecDepth 100000 in
set_option maxHeartbeats 1600000 in
/-- The law FnExactAround. -/
theorem lawAround (hI : ImplAround) (a : Option Addr) (len cap : Nat) (es : List Ev) (a' : Option Addr) (len' cap' : Nat) (xs : List Int) (w : World) (hv : EvS w a len es) (hcap : len ≤ cap) (hm : cap ≤ maxLen) (hv' : Vec w a' len' xs) (hcap' : len' ≤ cap') (hm' : cap' ≤ maxLen) :
    Calls Try.prog 11 #[.slice a len cap, .slice a' len' cap'] w fun e w' => e = .returned (.bool true) ∧ Below w.heap.size w w' := by
  have hl : len ≤ maxLen := Nat.le_trans hcap hm
  by_cases hbig' : (1048576 : Int) < (len' : Int)
  · go_enter Try.func11, Try.ntmps11
    go_wp2
    go_ret
    exact ⟨rfl, Below.refl _ _⟩
  by_cases hbig : (1048576 : Int) < (len : Int)
  · go_enter Try.func11, Try.ntmps11
    go_wp2_with fail
    refine (sz_big a len cap w hbig hl).mono ?_
    rintro e w1 ⟨rfl, hw1⟩
    have HW : Hid (w1 = w) := hw1
    clear hw1
    go_wp2
    go_ret
    exact ⟨rfl, by rw [HW.out]; exact Below.refl _ _⟩
  · have hsm : len ≤ 1048576 := by omega
    have hpos : decide ((1048576 : Int) - (len : Int) < 0) = false := by simp; omega
    have hf : Fits xs := hv'.2.1
    have hlen' := hv'.1
    subst hlen'
    have hl' : xs.length ≤ maxLen := Nat.le_trans hcap' hm'
    have hsm' : xs.length ≤ 17592186044416 := by omega
    go_enter Try.func11, Try.ntmps11
    go_wp2_with fail
    refine (sz_small a len cap w (by omega)).mono ?_
    rintro e w1 ⟨rfl, hw1⟩
    have G1 : Grew w w1 := by rw [hw1]; exact Grew.refl _
    clear hw1
    go_wp2_with fail
    refine (copyE_any a len cap es w1 (hv.grew G1) hsm).mono ?_
    rintro e w2 ⟨b2, rfl, _, hr2, hg2⟩
    have G2 : Grew w w2 := G1.trans hg2
    go_wp2_with fail
    refine (copy_any a' _ cap' xs w2 (hv'.below G2.1 (Nat.le_refl _)) hsm').mono ?_
    rintro e w3 ⟨b3, rfl, _, hr3, hb3⟩
    have B3 : Below w.heap.size w w3 := G2.1.trans (hb3.mono G2.1.size)
    go_wp2_with fail
    refine (specAround_any b2 0 len len es (some ⟨b3, 0, none⟩) xs.length xs.length xs w3 (hr2.below hb3 hr2.lt).at hl (Nat.le_refl _) (hr3.vec hf) hl').mono ?_
    rintro e w4 ⟨Z, hZ, d, od, cd, rfl, hd, hwant, hb4⟩
    have B4 : Below w.heap.size w w4 := B3.trans (hb4.mono B3.size)
    obtain ⟨hz10, hfz⟩ := hZ.small
    have hzm : Z.length ≤ maxLen := by unfold maxLen; omega
    have HZ : Hid (ArT es len xs Z) := hZ
    clear hr2 hg2 hb3 hr3 hb4 G1 hZ
    go_wp2_with fail
    refine (copyE_any a len cap es w4 (hv.below B4 (Nat.le_refl _)) hsm).mono ?_
    rintro e w5 ⟨b, rfl, hb5, hr5, hg5⟩
    have B5 : Below w.heap.size w w5 := B4.trans (hg5.1.mono B4.size)
    have hwant5 := hwant.below hg5.1 hwant.blk
    have n1 : d < b := Nat.lt_of_lt_of_le hwant.blk hb5
    have n0 : w.heap.size ≤ b := Nat.le_trans B4.size hb5
    go_wp2_with fail
    refine (copy_any a' _ cap' xs w5 (hv'.below B5 (Nat.le_refl _)) hsm').mono ?_
    rintro e w6 ⟨b1, rfl, hb6, hr6, hbb6⟩
    have B6 : Below w.heap.size w w6 := B5.trans (hbb6.mono B5.size)
    have n2 : b < b1 := Nat.lt_of_lt_of_le hr5.lt hb6
    have hr56 := hr5.below hbb6 hr5.lt
    have hwant6 := hwant5.below hbb6 hwant5.blk
    go_wp2_with fail
    refine (hI b 0 len len es (some ⟨b1, 0, none⟩) xs.length xs.length xs w6 hr56.at hl (Nat.le_refl _) (hr6.vec hf) (Nat.le_refl _) hl').mono ?_
    rintro e w7 ⟨Z', hZ', g, og, cg, he, hg, hgot, hb7⟩
    rw [hZ'.unique HZ.out] at he hgot
    subst he
    have n3 : b1 < g := Nat.lt_of_lt_of_le hr6.lt hg
    have T7 : Qd w w7 b len b1 g og cg d od cd es xs Z Z := ⟨B6.trans (hb7.mono B6.size), hr56.below hb7 hr56.lt, (oi_row hr6 hl').below hb7 hr6.lt, hgot, hwant6.below hb7 hwant6.blk⟩
    clear hwant hr5 hg5 hgot B3 B4 B5 hb5 hg hd hb6 hbb6 hr6 hr56 hwant5 hwant6 hb7 hZ'
    go_wp2_with fail
    refine (eq_any _ _ _ _ _ _ Z Z _ (T7.got.vec hfz) (T7.want.vec hfz) hzm).mono ?_
    rintro e w7' ⟨rfl, n7, rfl⟩
    go_wp2_with fail
    refine (copyE_any a len cap es _ (hv.below (belowN (n := n7) T7.below) (Nat.le_refl _)) hsm).mono ?_
    rintro e w8 ⟨b8, rfl, _, hr8, hg8⟩
    have T8 := (T7.drewN n7).step hg8.1
    clear T7 hg8
    go_wp2_with fail
    refine (eqE_any b b8 0 0 len len len es w8 T8.x0.at hr8.at hl).mono ?_
    rintro e w9 ⟨rfl, hg9⟩
    have T9 := T8.step hg9.1
    clear T8 hg9 hr8
    go_wp2_with fail
    refine (copy_any a' _ cap' xs w9 (hv'.below T9.below (Nat.le_refl _)) hsm').mono ?_
    rintro e w10 ⟨b10, rfl, _, hr10, hb10⟩
    have T10 := T9.step hb10
    clear T9 hb10
    go_wp2_with fail
    refine (eq_any _ _ _ _ _ _ xs xs _ (T10.x1.vec hf) (hr10.vec hf) hl').mono ?_
    rintro e w10' ⟨rfl, n10, rfl⟩
    have T11 := T10.drewN n10
    clear T10 hr10
    go_wp2_with fail
    refine (markE_any b len 1 es _ T11.x0 (by omega) (by omega)).mono ?_
    rintro e w12 ⟨rfl, ht12⟩
    have B12 : Below w.heap.size w w12 := T11.below.trans (ht12.below n0)
    have x12 := T11.x1.touch ht12 (by omega)
    have got12 := T11.got.touch ht12 (by omega)
    have want12 := T11.want.touch ht12 (by omega)
    clear T11 ht12
    go_wp2_with fail
    refine (markO_any b1 0 xs.length (1 + len * 3) xs.length ((1 + len * 3 : Nat) : Int) xs w12 x12 rfl (by omega) (by omega)).mono ?_
    rintro e w13 ⟨rfl, _, ht13⟩
    have B13 : Below w.heap.size w w13 := B12.trans (ht13.below (by omega))
    have got13 := got12.touch ht13 (by omega)
    have want13 := want12.touch ht13 (by omega)
    have hk0 : decide (((1 + len * 3 : Nat) : Int) + ((xs.length : Nat) : Int) < 0) = false := by simp; omega
    clear B12 got12 want12 ht13 x12
    go_wp2_with fail
    refine (eq_any _ _ _ _ _ _ Z Z _ (got13.vec hfz) (want13.vec hfz) hzm).mono ?_
    rintro e w13' ⟨rfl, n13, rfl⟩
    go_wp2_with fail
    refine (markO_any g og cg 1 _ _ Z _ (got13.drewN n13) (by rfl) (by omega) (by omega)).mono ?_
    rintro e w14 ⟨rfl, got14, ht14⟩
    have B14 : Below w.heap.size w w14 := (belowN (n := n13) B13).trans (ht14.below (by omega))
    have want14 := (want13.drewN n13).touch ht14 (by omega)
    clear B13 got13 want13 ht14 hk0
    go_wp2_with fail
    refine (heldO_any g og cg 1 _ _ _ got14 (by rfl) (by omega) (by omega)).mono ?_
    rintro e w14' ⟨rfl, rfl⟩
    go_wp2_with fail
    refine (copyE_any a len cap es _ (hv.below B14 (Nat.le_refl _)) hsm).mono ?_
    rintro e w15 ⟨b15, rfl, _, hr15, hg15⟩
    have B15 : Below w.heap.size w w15 := B14.trans (hg15.1.mono B14.size)
    have got15 := got14.below hg15.1 got14.blk
    have want15 := want14.below hg15.1 want14.blk
    clear B14 got14 want14 hg15
    go_wp2_with fail
    refine (copy_any a' _ cap' xs w15 (hv'.below B15 (Nat.le_refl _)) hsm').mono ?_
    rintro e w16 ⟨b16, rfl, _, hr16, hb16⟩
    have B16 : Below w.heap.size w w16 := B15.trans (hb16.mono B15.size)
    have got16 := got15.below hb16 got15.blk
    have want16 := want15.below hb16 want15.blk
    go_wp2_with fail
    refine (hI b15 0 len len es (some ⟨b16, 0, none⟩) xs.length xs.length xs w16 (hr15.below hb16 hr15.lt).at hl (Nat.le_refl _) (hr16.vec hf) (Nat.le_refl _) hl').mono ?_
    rintro e w17 ⟨Z'', hZ'', g17, og17, cg17, he, _, hgot17, hb17⟩
    rw [hZ''.unique HZ.out] at he hgot17
    subst he
    have B17 : Below w.heap.size w w17 := B16.trans (hb17.mono B16.size)
    have got17 := got16.below hb17 got16.blk
    have want17 := want16.below hb17 want16.blk
    clear B15 B16 got15 want15 got16 want16 hb16 hb17 hr15 hr16 hZ''
    go_wp2_with fail
    refine (eq_any _ _ _ _ _ _ Z Z _ (hgot17.vec hfz) (want17.vec hfz) hzm).mono ?_
    rintro e w17' ⟨rfl, n17, rfl⟩
    go_wp2_with fail
    refine (heldO_any g og cg 1 _ _ _ (got17.drewN n17) (by rfl) (by omega) (by omega)).mono ?_
    rintro e w18 ⟨rfl, hw18⟩
    have B18 : Below w.heap.size w w18 := by rw [hw18]; exact belowN B17
    clear hw18
    go_wp2
    go_ret
    exact ⟨rfl, B18⟩

set_option maxRecDepth 100000 in
set_option maxHeartbeats 1600000 in
/-- The law FnExactFlying. -/
theorem lawFlying (hI : ImplFlying) (a : Option Addr) (len cap : Nat) (es : List Ev) (a' : Option Addr) (len' cap' : Nat) (xs : List Int) (w : World) (hv : EvS w a len es) (hcap : len ≤ cap) (hm : cap ≤ maxLen) (hv' : Vec w a' len' xs) (hcap' : len' ≤ cap') (hm' : cap' ≤ maxLen) :
    Calls Try.prog 12 #[.slice a len cap, .slice a' len' cap'] w fun e w' => e = .returned (.bool true) ∧ Below w.heap.size w w' := by
  have hl : len ≤ maxLen := Nat.le_trans hcap hm
  by_cases hbig' : (1048576 : Int) < (len' : Int)
  · go_enter Try.func12, Try.ntmps12
    go_wp2
    go_ret
    exact ⟨rfl, Below.refl _ _⟩
  by_cases hbig : (1048576 : Int) < (len : Int)
  · go_enter Try.func12, Try.ntmps12
    go_wp2_with fail
    refine (sz_big a len cap w hbig hl).mono ?_
    rintro e w1 ⟨rfl, hw1⟩
    have HW : Hid (w1 = w) := hw1
    clear hw1
    go_wp2
    go_ret
    exact ⟨rfl, by rw [HW.out]; exact Below.refl _ _⟩
  · have hsm : len ≤ 1048576 := by omega
    have hpos : decide ((1048576 : Int) - (len : Int) < 0) = false := by simp; omega
    have hf : Fits xs := hv'.2.1
    have hlen' := hv'.1
    subst hlen'
    have hl' : xs.length ≤ maxLen := Nat.le_trans hcap' hm'
    have hsm' : xs.length ≤ 17592186044416 := by omega
    go_enter Try.func12, Try.ntmps12
    go_wp2_with fail
    refine (sz_small a len cap w (by omega)).mono ?_
    rintro e w1 ⟨rfl, hw1⟩
    have G1 : Grew w w1 := by rw [hw1]; exact Grew.refl _
    clear hw1
    go_wp2_with fail
    refine (copyE_any a len cap es w1 (hv.grew G1) hsm).mono ?_
    rintro e w2 ⟨b2, rfl, _, hr2, hg2⟩
    have G2 : Grew w w2 := G1.trans hg2
    go_wp2_with fail
    refine (copy_any a' _ cap' xs w2 (hv'.below G2.1 (Nat.le_refl _)) hsm').mono ?_
    rintro e w3 ⟨b3, rfl, _, hr3, hb3⟩
    have B3 : Below w.heap.size w w3 := G2.1.trans (hb3.mono G2.1.size)
    go_wp2_with fail
    refine (specFlying_any b2 0 len len es (some ⟨b3, 0, none⟩) xs.length xs.length xs w3 (hr2.below hb3 hr2.lt).at hl (Nat.le_refl _) (hr3.vec hf) hl').mono ?_
    rintro e w4 ⟨Z, hZ, d, od, cd, rfl, hd, hwant, hb4⟩
    have B4 : Below w.heap.size w w4 := B3.trans (hb4.mono B3.size)
    obtain ⟨hz10, hfz⟩ := hZ.small
    have hzm : Z.length ≤ maxLen := by unfold maxLen; omega
    have HZ : Hid (FlT es len xs Z) := hZ
    clear hr2 hg2 hb3 hr3 hb4 G1 hZ
    go_wp2_with fail
    refine (copyE_any a len cap es w4 (hv.below B4 (Nat.le_refl _)) hsm).mono ?_
    rintro e w5 ⟨b, rfl, hb5, hr5, hg5⟩
    have B5 : Below w.heap.size w w5 := B4.trans (hg5.1.mono B4.size)
    have hwant5 := hwant.below hg5.1 hwant.blk
    have n1 : d < b := Nat.lt_of_lt_of_le hwant.blk hb5
    have n0 : w.heap.size ≤ b := Nat.le_trans B4.size hb5
    go_wp2_with fail
    refine (copy_any a' _ cap' xs w5 (hv'.below B5 (Nat.le_refl _)) hsm').mono ?_
    rintro e w6 ⟨b1, rfl, hb6, hr6, hbb6⟩
    have B6 : Below w.heap.size w w6 := B5.trans (hbb6.mono B5.size)
    have n2 : b < b1 := Nat.lt_of_lt_of_le hr5.lt hb6
    have hr56 := hr5.below hbb6 hr5.lt
    have hwant6 := hwant5.below hbb6 hwant5.blk
    go_wp2_with fail
    refine (hI b 0 len len es (some ⟨b1, 0, none⟩) xs.length xs.length xs w6 hr56.at hl (Nat.le_refl _) (hr6.vec hf) (Nat.le_refl _) hl').mono ?_
    rintro e w7 ⟨Z', hZ', g, og, cg, he, hg, hgot, hb7⟩
    rw [hZ'.unique HZ.out] at he hgot
    subst he
    have n3 : b1 < g := Nat.lt_of_lt_of_le hr6.lt hg
    have T7 : Qd w w7 b len b1 g og cg d od cd es xs Z Z := ⟨B6.trans (hb7.mono B6.size), hr56.below hb7 hr56.lt, (oi_row hr6 hl').below hb7 hr6.lt, hgot, hwant6.below hb7 hwant6.blk⟩
    clear hwant hr5 hg5 hgot B3 B4 B5 hb5 hg hd hb6 hbb6 hr6 hr56 hwant5 hwant6 hb7 hZ'
    go_wp2_with fail
    refine (eq_any _ _ _ _ _ _ Z Z _ (T7.got.vec hfz) (T7.want.vec hfz) hzm).mono ?_
    rintro e w7' ⟨rfl, n7, rfl⟩
    go_wp2_with fail
    refine (copyE_any a len cap es _ (hv.below (belowN (n := n7) T7.below) (Nat.le_refl _)) hsm).mono ?_
    rintro e w8 ⟨b8, rfl, _, hr8, hg8⟩
    have T8 := (T7.drewN n7).step hg8.1
    clear T7 hg8
    go_wp2_with fail
    refine (eqE_any b b8 0 0 len len len es w8 T8.x0.at hr8.at hl).mono ?_
    rintro e w9 ⟨rfl, hg9⟩
    have T9 := T8.step hg9.1
    clear T8 hg9 hr8
    go_wp2_with fail
    refine (copy_any a' _ cap' xs w9 (hv'.below T9.below (Nat.le_refl _)) hsm').mono ?_
    rintro e w10 ⟨b10, rfl, _, hr10, hb10⟩
    have T10 := T9.step hb10
    clear T9 hb10
    go_wp2_with fail
    refine (eq_any _ _ _ _ _ _ xs xs _ (T10.x1.vec hf) (hr10.vec hf) hl').mono ?_
    rintro e w10' ⟨rfl, n10, rfl⟩
    have T11 := T10.drewN n10
    clear T10 hr10
    go_wp2_with fail
    refine (markE_any b len 1 es _ T11.x0 (by omega) (by omega)).mono ?_
    rintro e w12 ⟨rfl, ht12⟩
    have B12 : Below w.heap.size w w12 := T11.below.trans (ht12.below n0)
    have x12 := T11.x1.touch ht12 (by omega)
    have got12 := T11.got.touch ht12 (by omega)
    have want12 := T11.want.touch ht12 (by omega)
    clear T11 ht12
    go_wp2_with fail
    refine (markO_any b1 0 xs.length (1 + len * 3) xs.length ((1 + len * 3 : Nat) : Int) xs w12 x12 rfl (by omega) (by omega)).mono ?_
    rintro e w13 ⟨rfl, _, ht13⟩
    have B13 : Below w.heap.size w w13 := B12.trans (ht13.below (by omega))
    have got13 := got12.touch ht13 (by omega)
    have want13 := want12.touch ht13 (by omega)
    have hk0 : decide (((1 + len * 3 : Nat) : Int) + ((xs.length : Nat) : Int) < 0) = false := by simp; omega
    clear B12 got12 want12 ht13 x12
    go_wp2_with fail
    refine (eq_any _ _ _ _ _ _ Z Z _ (got13.vec hfz) (want13.vec hfz) hzm).mono ?_
    rintro e w13' ⟨rfl, n13, rfl⟩
    go_wp2_with fail
    refine (markO_any g og cg 1 _ _ Z _ (got13.drewN n13) (by rfl) (by omega) (by omega)).mono ?_
    rintro e w14 ⟨rfl, got14, ht14⟩
    have B14 : Below w.heap.size w w14 := (belowN (n := n13) B13).trans (ht14.below (by omega))
    have want14 := (want13.drewN n13).touch ht14 (by omega)
    clear B13 got13 want13 ht14 hk0
    go_wp2_with fail
    refine (heldO_any g og cg 1 _ _ _ got14 (by rfl) (by omega) (by omega)).mono ?_
    rintro e w14' ⟨rfl, rfl⟩
    go_wp2_with fail
    refine (copyE_any a len cap es _ (hv.below B14 (Nat.le_refl _)) hsm).mono ?_
    rintro e w15 ⟨b15, rfl, _, hr15, hg15⟩
    have B15 : Below w.heap.size w w15 := B14.trans (hg15.1.mono B14.size)
    have got15 := got14.below hg15.1 got14.blk
    have want15 := want14.below hg15.1 want14.blk
    clear B14 got14 want14 hg15
    go_wp2_with fail
    refine (copy_any a' _ cap' xs w15 (hv'.below B15 (Nat.le_refl _)) hsm').mono ?_
    rintro e w16 ⟨b16, rfl, _, hr16, hb16⟩
    have B16 : Below w.heap.size w w16 := B15.trans (hb16.mono B15.size)
    have got16 := got15.below hb16 got15.blk
    have want16 := want15.below hb16 want15.blk
    go_wp2_with fail
    refine (hI b15 0 len len es (some ⟨b16, 0, none⟩) xs.length xs.length xs w16 (hr15.below hb16 hr15.lt).at hl (Nat.le_refl _) (hr16.vec hf) (Nat.le_refl _) hl').mono ?_
    rintro e w17 ⟨Z'', hZ'', g17, og17, cg17, he, _, hgot17, hb17⟩
    rw [hZ''.unique HZ.out] at he hgot17
    subst he
    have B17 : Below w.heap.size w w17 := B16.trans (hb17.mono B16.size)
    have got17 := got16.below hb17 got16.blk
    have want17 := want16.below hb17 want16.blk
    clear B15 B16 got15 want15 got16 want16 hb16 hb17 hr15 hr16 hZ''
    go_wp2_with fail
    refine (eq_any _ _ _ _ _ _ Z Z _ (hgot17.vec hfz) (want17.vec hfz) hzm).mono ?_
    rintro e w17' ⟨rfl, n17, rfl⟩
    go_wp2_with fail
    refine (heldO_any g og cg 1 _ _ _ (got17.drewN n17) (by rfl) (by omega) (by omega)).mono ?_
    rintro e w18 ⟨rfl, hw18⟩
    have B18 : Below w.heap.size w w18 := by rw [hw18]; exact belowN B17
    clear hw18
    go_wp2
    go_ret
    exact ⟨rfl, B18⟩
end Go.Proofs.Ytacjpebifacclaa
