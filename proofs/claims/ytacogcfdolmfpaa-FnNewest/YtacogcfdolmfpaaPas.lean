/-
  The contract of the program's (*table).past.
-/
import Derived.Test.YtacogcfdolmfpaaWav
namespace Go.Proofs.Ytacogcfdolmfpaa
set_option linter.unusedSimpArgs false
set_option linter.unusedVariables false
open Go.RowKit Go.Sort
attribute [local irreducible] mV World.setCells

/-- The blocks of the search: the answer's cell, all, the wave to come. -/
structure Pv (es : List Ev) (len k : Nat) (w wr : World) (tb : Nat) (mA mF : Nat → Bool) : Prop where
  res : Bo wr w.heap.size 0 40 no
  all : Bo wr (w.heap.size + 1) 0 40 mA
  fresh : Bo wr (w.heap.size + 2) 0 40 mF
  tab : Bo wr tb 0 1600 (tB es len)
  below : Below w.heap.size w wr
theorem Pv.step {es : List Ev} {len k tb : Nat} {w wr wx : World} {mA mF : Nat → Bool} (h : Pv es len k w wr tb mA mF) (hb : Below wr.heap.size wr wx) : Pv es len k w wx tb mA mF :=
  ⟨h.res.below hb h.res.blk, h.all.below hb h.all.blk, h.fresh.below hb h.fresh.blk, h.tab.below hb h.tab.blk, h.below.trans (hb.mono h.below.size)⟩
theorem all_eq_false {m : Nat → Bool} (h : ((List.range 40).all (fun i => m i == no i)) = true) : ∀ i, i < 40 → m i = false := by
  intro i hi
  have := List.all_eq_true.1 h i (List.mem_range.2 hi)
  simpa [no] using this

set_option maxRecDepth 100000 in
set_option maxHeartbeats 1600000 in
theorem past_any (tb len k : Nat) (es : List Ev) (w : World) (ht : Bo w tb 0 1600 (tB es len)) (hk : k < len) (h40 : len ≤ 40) :
    Calls Try.prog 95 #[.pointer (some ⟨tb, 0, none⟩), .int .i64 (k : Int)] w fun e w' => e = .returned (.agg (mV 40 (aB es k))) ∧ Below w.heap.size w w' := by
  have htl := ht.blk
  have hk1 : (k : Int) < 40 := by omega
  have hk0 : (0 : Int) ≤ (k : Int) := by omega
  have a1 : Below w.heap.size w (w.alloc (.cells (mV 40 no) 83)) := (Below.refl _ _).alloc (Nat.le_refl _) _
  have r1 := bo_alloc w 40 no 83
  have t1 := ht.below a1 htl
  generalize hw1 : w.alloc (.cells (mV 40 no) 83) = w1 at *
  have s1 : w1.heap.size = w.heap.size + 1 := by rw [← hw1]; simp
  have a2 : Below w1.heap.size w1 (w1.alloc (.cells (mV 40 no) 83)) := (Below.refl _ _).alloc (Nat.le_refl _) _
  have r2 := bo_alloc w1 40 no 83
  have r1' := r1.below a2 r1.blk
  have t2 := t1.below a2 t1.blk
  generalize hw2 : w1.alloc (.cells (mV 40 no) 83) = w2 at *
  have s2 : w2.heap.size = w.heap.size + 2 := by rw [← hw2]; simp [s1]
  have row := (t2.part (o := k * 40) (k := 40) (by omega)).congr (m' := sB es k) (fun j hj => tB_row hk j hj)
  rw [Nat.zero_add] at row
  have a3 : Below w2.heap.size w2 (w2.alloc (.cells (mV 40 no) 83)) := (Below.refl _ _).alloc (Nat.le_refl _) _
  have r3 := bo_alloc w2 40 no 83
  have r2' := r2.below a3 r2.blk
  have r1'' := r1'.below a3 r1'.blk
  have t3 := t2.below a3 t2.blk
  have Z0 : Hid (Pv es len k w ((w2.alloc (.cells (mV 40 no) 83)).setCells (w.heap.size + 2) 0 (mV 40 (sB es k)).toList) tb (allB es k 0) (waveB es k 0)) := by
    rw [s1] at r2'
    have f3 := r3.sets (sB es k)
    rw [s2] at f3
    refine ⟨r1''.setsFar (by omega), (r2'.setsFar (by omega)).congr (fun j _ => by simp [allB, no]), f3.congr (fun j _ => by simp [waveB]), t3.setsFar (by omega), ?_⟩
    exact below_grown ((a1.trans (a2.mono (by omega))).trans (a3.mono (by omega))) (grown_setCells _ _ _ _) (by omega) (by have := a3.size; omega)
  have R3 : Hid (Bo (w2.alloc (.cells (mV 40 no) 83)) w2.heap.size 0 40 no) := r3
  have ROW : Hid (Bo w2 tb (k * 40) 40 (sB es k)) := row
  have HT2 : Hid (w2.heap.size = w.heap.size + 2) := s2
  clear r1 r2 r1' r2' r1'' r3 t1 t2 t3 a1 a2 a3 row
  have HW1 : Hid (w.alloc (.cells (mV 40 no) 83) = w1) := hw1
  have HW2 : Hid (w1.alloc (.cells (mV 40 no) 83) = w2) := hw2
  go_enter Try.func95, Try.ntmps95
  go_wp2_with (first
    | (refine wpL_load _ rfl 83 40 40 _ rfl 4 Try.underlying83 Try.info79 tb (k * 40) (sB es k) rfl ROW.out ?_)
    | (refine wpL_store _ rfl rfl 83 40 _ _ rfl Try.info79 w2.heap.size 0 no (sB es k) rfl rfl R3.out ?_)
    | (refine wpL_alloc _ rfl 83 40 rfl Try.info79 ?_))
  simp only [Act.put, List.setIfInBounds_toArray, List.set_cons_succ, List.set_cons_zero, s2]
  go_loopg [15] (k + 1) (fun gk _ wr => ∃ t : Nat, gk + t = k + 1 ∧ Pv es len k w wr tb (allB es k t) (waveB es k t))
  case atStart => exact ⟨0, rfl, Z0.out⟩
  case round =>
    obtain ⟨t, hgt, hP⟩ := hrel
    have HP : Hid (Pv es len k w wr tb (allB es k t) (waveB es k t)) := hP
    have hszr : w.heap.size + 2 < wr.heap.size := hP.fresh.blk
    clear hP Z0 R3 ROW HW1 HW2 hw1 hw2 s1 s2
    cases hem : (List.range 40).all (fun i => waveB es k t i == no i)
    · have hex : ∃ i, i < 40 ∧ waveB es k t i = true := by
        obtain ⟨i, hi, hh⟩ := List.all_eq_false.1 hem
        exact ⟨i, List.mem_range.1 hi, by simpa [no] using hh⟩
      have htk : t < k := by obtain ⟨i, _, hh⟩ := hex; have := waveB_lt hh; omega
      -- the worlds of the copy and the clearing
      have b1 : Below wr.heap.size wr (wr.alloc (.cells (mV 40 no) 83)) := (Below.refl _ _).alloc (Nat.le_refl _) _
      have P1 := HP.out.step b1
      have V1 := bo_alloc wr 40 no 83
      have V2 := V1.sets (waveB es k t)
      have F2 := P1.fresh.setsFar (g := wr.heap.size) (i := 0) (us := (mV 40 (waveB es k t)).toList) (by omega)
      have F3 := F2.sets no
      have V3 := V2.setsFar (g := w.heap.size + 2) (i := 0) (us := (mV 40 no).toList) (by omega)
      have PV : Pv es len k w (((wr.alloc (.cells (mV 40 no) 83)).setCells wr.heap.size 0 (mV 40 (waveB es k t)).toList).setCells (w.heap.size + 2) 0 (mV 40 no).toList) tb (allB es k t) no :=
        ⟨(P1.res.setsFar (by omega)).setsFar (by omega), (P1.all.setsFar (by omega)).setsFar (by omega), F3, (P1.tab.setsFar (by have := ht.blk; omega)).setsFar (by have := ht.blk; omega),
          below_grown (below_grown P1.below (grown_setCells _ _ _ _) (by omega) (by have := P1.below.size; omega)) (grown_setCells _ _ _ _) (by omega) (by rw [size_setCells]; have := P1.below.size; omega)⟩
      have KV1 : Hid (Bo (wr.alloc (.cells (mV 40 no) 83)) wr.heap.size 0 40 no) := V1
      have KF0 : Hid (Bo wr (w.heap.size + 2) 0 40 (waveB es k t)) := HP.out.fresh
      have KF2 : Hid (Bo ((wr.alloc (.cells (mV 40 no) 83)).setCells wr.heap.size 0 (mV 40 (waveB es k t)).toList) (w.heap.size + 2) 0 40 (waveB es k t)) := F2
      have KV3 : Hid (Bo (((wr.alloc (.cells (mV 40 no) 83)).setCells wr.heap.size 0 (mV 40 (waveB es k t)).toList).setCells (w.heap.size + 2) 0 (mV 40 no).toList) wr.heap.size 0 40 (waveB es k t)) := V3
      have KP : Hid (Pv es len k w (((wr.alloc (.cells (mV 40 no) 83)).setCells wr.heap.size 0 (mV 40 (waveB es k t)).toList).setCells (w.heap.size + 2) 0 (mV 40 no).toList) tb (allB es k t) no) := PV
      clear b1 P1 V1 V2 F2 F3 V3 PV hex
      go_wp2_with (first
        | (refine wpL_build _ rfl rfl ?_)
        | (refine wpL_neq _ rfl _ _ _ rfl (waveB es k t) no rfl rfl ?_; rw [hem])
        | (refine wpL_load _ rfl 83 40 40 _ rfl 4 Try.underlying83 Try.info79 (w.heap.size + 2) 0 (waveB es k t) rfl KF0.out ?_)
        | (refine wpL_load _ rfl 83 40 40 _ rfl 4 Try.underlying83 Try.info79 wr.heap.size 0 (waveB es k t) rfl KV3.out ?_)
        | (refine wpL_alloc _ rfl 83 40 rfl Try.info79 ?_)
        | (refine wpL_store _ rfl rfl 83 40 _ _ rfl Try.info79 wr.heap.size 0 no (waveB es k t) rfl rfl KV1.out ?_)
        | (refine wpL_clear _ rfl rfl _ rfl (w.heap.size + 2) 0 40 40 (waveB es k t) rfl (by omega) KF2.out ?_))
      go_loopw [21] (fun i wx => ∃ q : Nat, q ≤ 40 ∧ i = .int .i64 q ∧ Pv es len k w wx tb (fun j => allB es k t j || (decide (j < q) && waveB es k t j)) (frB es k t q)) (fun i _ => 40 - (intOf i).toNat)
      case atStart => exact ⟨0, Nat.zero_le _, rfl, ⟨KP.out.res, KP.out.all.congr (fun j _ => by simp), KP.out.fresh.congr (fun j _ => by simp [frB, no]), KP.out.tab, KP.out.below⟩⟩
      case round =>
        obtain ⟨q, hq, rfl, hP⟩ := hrel
        have LP : Hid (Pv es len k w wr tb (fun j => allB es k t j || (decide (j < q) && waveB es k t j)) (frB es k t q)) := hP
        have hszw : w.heap.size + 2 < wr.heap.size := hP.fresh.blk
        clear hP KP KV1 KF0 KF2 KV3
        by_cases hlt : q < 40
        · have hq1 : (q : Int) < 40 := by omega
          have hq0 : (0 : Int) ≤ (q : Int) := by omega
          cases hw : waveB es k t q
          · have R : Hid (Pv es len k w wr tb (fun j => allB es k t j || (decide (j < q + 1) && waveB es k t j)) (frB es k t (q + 1))) := by
              refine ⟨LP.out.res, LP.out.all.congr (fun j _ => ?_), LP.out.fresh.congr (fun j _ => by rw [frB_succ, hw]; simp), LP.out.tab, LP.out.below⟩
              by_cases e : j = q
              · subst e; simp [hw]
              · by_cases h : j < q
                · simp [h, show j < q + 1 by omega]
                · simp [h, show ¬ j < q + 1 by omega]
            go_wp2_with (first | (refine wpL_index _ rfl _ _ rfl (waveB es k t) q rfl rfl hlt ?_; rw [hw]))
            go_roundw
            case rel => exact ⟨q + 1, by omega, by go_num, R.out⟩
            case measure => simp [intOf]; omega
          · have hql : q < len := by have := waveB_lt hw; omega
            have c1 := LP.out.all.cell q hlt
            have f1 := LP.out.all.free q hlt
            simp only [Nat.zero_add] at c1 f1
            have S1 : Pv es len k w (wr.setCell ⟨w.heap.size + 1, q, none⟩ (.bool true)) tb (fun j => allB es k t j || (decide (j < q + 1) && waveB es k t j)) (frB es k t q) := by
              have h1 := LP.out.all.set hlt true
              rw [Nat.zero_add] at h1
              refine ⟨LP.out.res.setFar (by omega), h1.congr (fun j _ => ?_), LP.out.fresh.setFar (by omega), LP.out.tab.setFar (by omega), LP.out.below.setCell (Nat.le_succ _) _⟩
              by_cases e : j = q
              · subst e; simp [hw]
              · rw [if_neg e]
                by_cases h : j < q
                · simp [h, show j < q + 1 by omega]
                · simp [h, show ¬ j < q + 1 by omega]
            have row := (S1.tab.part (o := q * 40) (k := 40) (by omega)).congr (m' := sB es q) (fun j hj => tB_row hql j hj)
            rw [Nat.zero_add] at row
            have hA := add_any (w.heap.size + 2) (frB es k t q) (sB es q) _ S1.fresh
            have KS : Hid (Pv es len k w (wr.setCell ⟨w.heap.size + 1, q, none⟩ (.bool true)) tb (fun j => allB es k t j || (decide (j < q + 1) && waveB es k t j)) (frB es k t q)) := S1
            have KROW : Hid (Bo (wr.setCell ⟨w.heap.size + 1, q, none⟩ (.bool true)) tb (q * 40) 40 (sB es q)) := row
            clear S1 row
            go_wp2_with (first | (refine wpL_index _ rfl _ _ rfl (waveB es k t) q rfl rfl hlt ?_; rw [hw]) | (refine wpL_load _ rfl 83 40 40 _ rfl 4 Try.underlying83 Try.info79 tb (q * 40) (sB es q) rfl KROW.out ?_) | (go_at_call 117; refine hA.mono ?_; rintro e w9 ⟨rfl, hb9, hg9⟩))
            have R : Hid (Pv es len k w w9 tb (fun j => allB es k t j || (decide (j < q + 1) && waveB es k t j)) (frB es k t (q + 1))) := by
              refine ⟨KS.out.res.of_block (hg9.block _ KS.out.res.blk (by simp)) (Nat.lt_of_lt_of_le KS.out.res.blk hg9.size), KS.out.all.of_block (hg9.block _ KS.out.all.blk (by simp)) (Nat.lt_of_lt_of_le KS.out.all.blk hg9.size),
                hb9.congr (fun j _ => by rw [frB_succ, hw]; simp), KS.out.tab.of_block (hg9.block _ KS.out.tab.blk (by simp; omega)) (Nat.lt_of_lt_of_le KS.out.tab.blk hg9.size), below_grown KS.out.below hg9 (by omega) KS.out.below.size⟩
            clear hb9 hg9 hA c1 f1
            go_wp2
            go_roundw
            case rel => exact ⟨q + 1, by omega, by go_num, R.out⟩
            case measure => simp [intOf]; omega
        · have hq40 : q = 40 := by omega
          subst hq40
          have R : Hid (Pv es len k w wr tb (allB es k (t + 1)) (waveB es k (t + 1))) :=
            ⟨LP.out.res, LP.out.all.congr (fun j hj => by rw [allB_succ]; simp [hj]), LP.out.fresh.congr (fun j _ => frB_all es k t j), LP.out.tab, LP.out.below⟩
          go_wp2
          go_roundg (gk - 1)
          case measure => omega
          case rel => exact ⟨t + 1, by omega, R.out⟩
    · have he := all_eq_false hem
      have HE : Hid (∀ i, i < 40 → allB es k t i = aB es k i) := allB_done (by omega) he
      have KF : Hid (Bo wr (w.heap.size + 2) 0 40 (waveB es k t)) := HP.out.fresh
      have KA : Hid (Bo wr (w.heap.size + 1) 0 40 (aB es k)) := HP.out.all.congr HE.out
      have KR : Hid (Bo wr w.heap.size 0 40 no) := HP.out.res
      clear he
      go_wp2_with (first
        | (refine wpL_build _ rfl rfl ?_)
        | (refine wpL_neq _ rfl _ _ _ rfl (waveB es k t) no rfl rfl ?_; rw [hem])
        | (refine wpL_load _ rfl 83 40 40 _ rfl 4 Try.underlying83 Try.info79 (w.heap.size + 2) 0 (waveB es k t) rfl KF.out ?_)
        | (refine wpL_load _ rfl 83 40 40 _ rfl 4 Try.underlying83 Try.info79 (w.heap.size + 1) 0 (aB es k) rfl KA.out ?_)
        | (refine wpL_store _ rfl rfl 83 40 _ _ rfl Try.info79 w.heap.size 0 no (aB es k) rfl rfl KR.out ?_))
      refine bodyPost_ret (res_cell Try.results95 Try.underlying83 Try.info79 (by rfl) (KR.out.sets (aB es k))) rfl ⟨rfl, ?_⟩
      exact below_grown HP.out.below (grown_setCells _ _ _ _) (Nat.le_refl _) HP.out.below.size
end Go.Proofs.Ytacogcfdolmfpaa
