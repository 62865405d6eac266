/-
  Several texts in one: Rul Rst Rfs.
-/
import Derived.Test.YtbgkfiijfocgiaaGb
import Derived.Test.YtbgkfiijfocgiaaHh
import Derived.Test.YtbgkfiijfocgiaaGa
/-
  Rules in memory; the contracts of the specification's RulesOk, l6Told, l6Asks and Steady.
-/
namespace Go.Proofs.Ytbgkfiijfocgiaa
set_option linter.unusedSimpArgs false
set_option linter.unusedVariables false
open Go.RowKit Go.Sort

theorem mixedR : Try.prog.follows .mixedOrders = true := by kernel_rfl
/-- A rule as a value. -/
def ruV (r : Ru) : Value := .agg #[.int .i64 r.to, .int .i64 r.fr, .int .i64 r.pl, .int .i64 r.mo]
/-- From ⟨b, off⟩ on lie the first len of the rules. -/
def RusAt (w : World) (b off len : Nat) (rs : List Ru) : Prop :=
  ∀ i, i < len → w.cell? ⟨b, off + i * 4, none⟩ = some (.int .i64 (ruAt rs i).to) ∧ w.cell? ⟨b, off + i * 4 + 1, none⟩ = some (.int .i64 (ruAt rs i).fr) ∧ w.cell? ⟨b, off + i * 4 + 2, none⟩ = some (.int .i64 (ruAt rs i).pl) ∧ w.cell? ⟨b, off + i * 4 + 3, none⟩ = some (.int .i64 (ruAt rs i).mo)
theorem RusAt.below {w w' : World} {b off len B : Nat} {rs : List Ru} (h : RusAt w b off len rs) (hb : Below B w w') (hB : w.heap.size ≤ B) : RusAt w' b off len rs := fun i hi => by
  obtain ⟨h0, h1, h2, h3⟩ := h i hi
  exact ⟨(hb.cell (Nat.lt_of_lt_of_le (World.block_lt_of_cell? _ _ h0) hB)).trans h0, (hb.cell (Nat.lt_of_lt_of_le (World.block_lt_of_cell? _ _ h1) hB)).trans h1, (hb.cell (Nat.lt_of_lt_of_le (World.block_lt_of_cell? _ _ h2) hB)).trans h2, (hb.cell (Nat.lt_of_lt_of_le (World.block_lt_of_cell? _ _ h3) hB)).trans h3⟩
/-- A slice of rules. -/
def RuS (w : World) (a : Option Addr) (len : Nat) (rs : List Ru) : Prop := rs.length = len ∧ (len = 0 ∨ ∃ b off, a = some ⟨b, off, none⟩ ∧ RusAt w b off len rs)
theorem RuS.below {w w' : World} {a : Option Addr} {len B : Nat} {rs : List Ru} (h : RuS w a len rs) (hb : Below B w w') (hB : w.heap.size ≤ B) : RuS w' a len rs := by
  refine ⟨h.1, ?_⟩
  rcases h.2 with h' | ⟨b, off, rfl, h'⟩
  · exact .inl h'
  · exact .inr ⟨b, off, rfl, RusAt.below h' hb hB⟩
theorem RuS.grew {w w' : World} {a : Option Addr} {len : Nat} {rs : List Ru} (h : RuS w a len rs) (hg : Grew w w') : RuS w' a len rs := h.below hg.1 (Nat.le_refl _)
theorem RuS.drewN {w : World} {a : Option Addr} {len : Nat} {rs : List Ru} (h : RuS w a len rs) (n : Nat) : RuS (w.drewN n) a len rs := h

theorem okRs_true_of {rs : List Ru} (h20 : rs.length ≤ 20) (h : ∀ j, j < rs.length → okRu (ruAt rs j) = true) : okRs rs = true := by
  simp only [okRs, Bool.and_eq_true, decide_eq_true_eq, List.all_eq_true]
  refine ⟨h20, fun r hr => ?_⟩
  obtain ⟨i, hi, rfl⟩ := List.getElem_of_mem hr
  have := h i hi
  rwa [ruAt_eq hi] at this
theorem okRs_false_at {rs : List Ru} {k : Nat} (hk : k < rs.length) (h : okRu (ruAt rs k) = false) : okRs rs = false := by
  rw [← Bool.not_eq_true]
  intro h2
  rw [okRs_mem h2 (ruAt_mem hk)] at h
  cases h
theorem okRs_false_len {rs : List Ru} (h : 20 < rs.length) : okRs rs = false := by
  rw [← Bool.not_eq_true]
  intro h2
  have := okRs_len h2
  omega

set_option maxRecDepth 100000 in
set_option maxHeartbeats 1600000 in
theorem rulesOk_any (a : Option Addr) (len cap : Nat) (rs : List Ru) (w : World) (hr : RuS w a len rs) (hm : len ≤ maxLen) :
    Calls Try.prog 35 #[.slice a len cap] w fun e w' => e = .returned (.bool (okRs rs)) ∧ Grew w w' := by
  unfold maxLen at hm
  obtain ⟨hlen, hcs⟩ := hr
  by_cases h20 : (20 : Int) < (len : Int)
  · go_enter Try.func35, Try.ntmps35
    go_wp2
    go_ret
    exact ⟨ret_bool (by rw [okRs_false_len (by omega)]), Grew.refl _⟩
  · have h20' : decide ((20 : Int) < (len : Int)) = false := by simpa using h20
    have HL : Hid (rs.length = len) := hlen
    clear hlen
    go_enter Try.func35, Try.ntmps35
    go_wp2
    go_loopw [3] (fun i wr => ∃ k : Nat, k ≤ len ∧ i = .int .i64 k ∧ (∀ j, j < k → okRu (ruAt rs j) = true) ∧ Grew w wr) (fun i _ => len - (intOf i).toNat)
    case atStart => exact ⟨0, Nat.zero_le _, rfl, fun j hj => by omega, Grew.refl _⟩
    case round =>
      obtain ⟨k, hk, rfl, hall, hgr⟩ := hrel
      have HA : Hid (∀ j, j < k → okRu (ruAt rs j) = true) := hall
      have HG : Hid (Grew w wr) := hgr
      clear hall
      by_cases hlt : k < len
      · rcases hcs with h0 | ⟨b, off, rfl, hc⟩
        · omega
        · obtain ⟨c0, c1, c2, c3⟩ := (RusAt.below hc hgr.1 (Nat.le_refl _)) k hlt
          have k1 : (k : Int) < (len : Int) := by omega
          have k0 : (0 : Int) ≤ (k : Int) := by omega
          have HK : Hid (okRu (ruAt rs k) = true → ∀ j, j < k + 1 → okRu (ruAt rs j) = true) := fun h j hj => by
            by_cases e : j = k
            · subst e; exact h
            · exact HA.out j (by omega)
          have HF : Hid (okRu (ruAt rs k) = false → okRs rs = false) := fun h => okRs_false_at (by rw [HL.out]; exact hlt) h
          have HU : Hid (okRu (ruAt rs k) = (inB (ruAt rs k).to 0 7 && inB (ruAt rs k).fr 0 7 && inB (ruAt rs k).pl 0 100 && inB (ruAt rs k).mo 0 1000000)) := rfl
          clear hgr hc
          generalize ruAt rs k = q at *
          obtain ⟨qt, qf, qp, qm⟩ := q
          simp only [] at c0 c1 c2 c3 HU
          cases e0 : inB qt 0 7 with
          | false =>
            have HR : Hid (okRs rs = false) := HF.out (by rw [HU.out, e0]; simp)
            clear HU HF HK
            go_wp2_with (go_at_call 66; refine (l1In_any _ _ _ _).mono ?_; rintro e w' ⟨rfl, rfl⟩)
            go_ret
            exact ⟨ret_bool (by rw [HR.out]), HG.out.alloc _⟩
          | true =>
            cases e1 : inB qf 0 7 with
            | false =>
              have HR : Hid (okRs rs = false) := HF.out (by rw [HU.out, e0, e1]; simp)
              clear HU HF HK
              go_wp2_with (go_at_call 66; refine (l1In_any _ _ _ _).mono ?_; rintro e w' ⟨rfl, rfl⟩)
              go_ret
              exact ⟨ret_bool (by rw [HR.out]), HG.out.alloc _⟩
            | true =>
              cases e2 : inB qp 0 100 with
              | false =>
                have HR : Hid (okRs rs = false) := HF.out (by rw [HU.out, e0, e1, e2]; simp)
                clear HU HF HK
                go_wp2_with (go_at_call 66; refine (l1In_any _ _ _ _).mono ?_; rintro e w' ⟨rfl, rfl⟩)
                go_ret
                exact ⟨ret_bool (by rw [HR.out]), HG.out.alloc _⟩
              | true =>
                cases e3 : inB qm 0 1000000 with
                | false =>
                  have HR : Hid (okRs rs = false) := HF.out (by rw [HU.out, e0, e1, e2, e3]; simp)
                  clear HU HF HK
                  go_wp2_with (go_at_call 66; refine (l1In_any _ _ _ _).mono ?_; rintro e w' ⟨rfl, rfl⟩)
                  go_ret
                  exact ⟨ret_bool (by rw [HR.out]), HG.out.alloc _⟩
                | true =>
                  have HK' : Hid (∀ j, j < k + 1 → okRu (ruAt rs j) = true) := HK.out (by rw [HU.out, e0, e1, e2, e3]; rfl)
                  clear HU HF HK
                  go_wp2_with (go_at_call 66; refine (l1In_any _ _ _ _).mono ?_; rintro e w' ⟨rfl, rfl⟩)
                  go_roundw
                  case rel => exact ⟨k + 1, by omega, by go_num, HK'.out, HG.out.alloc _⟩
                  case measure => simp [intOf]; omega
      · have hkl : k = len := by omega
        subst hkl
        have HR : Hid (okRs rs = true) := okRs_true_of (by rw [HL.out]; omega) (by rw [HL.out]; exact HA.out)
        clear hgr
        go_wp2
        go_ret
        exact ⟨ret_bool (by rw [HR.out]), HG.out⟩
end Go.Proofs.Ytbgkfiijfocgiaa

/-
  The contracts of the specification's l6Told, l6Asks and Steady.
-/
namespace Go.Proofs.Ytbgkfiijfocgiaa
set_option linter.unusedSimpArgs false
set_option linter.unusedVariables false
open Go.RowKit Go.Sort

set_option maxRecDepth 100000 in
set_option maxHeartbeats 800000 in
theorem told_any (a : Option Addr) (len cap : Nat) (xs : List Int) (ra : Option Addr) (rl rc : Nat) (rs : List Ru) (w : World) (hv : Vec w a len xs) (hr : RuS w ra rl rs) (hm : len ≤ maxLen) (hm' : rl ≤ maxLen) :
    Calls Try.prog 72 #[.slice a len cap, .slice ra rl rc] w fun e w' => e = .returned (.bool (told xs rs)) ∧ Grew w w' := by
  have hV := specOk_any a len cap xs w hv hm
  have hR := rulesOk_any ra rl rc rs w hr hm'
  have hlen := hv.1
  have HT : Hid (told xs rs = (okB xs && decide (len = 8) && okRs rs)) := by rw [Hid, told, hlen]
  clear hlen
  cases hb : okB xs with
  | false =>
    rw [hb] at hV
    have HT' : Hid (told xs rs = false) := by rw [Hid, HT.out, hb]; rfl
    clear hb
    go_enter Try.func72, Try.ntmps72
    go_wp2_with fail
    refine hV.mono ?_
    rintro e w1 ⟨rfl, rfl⟩
    go_wp2
    go_ret
    exact ⟨ret_bool (by rw [HT'.out]), Grew.refl _⟩
  | true =>
    rw [hb] at hV
    by_cases h8 : len = 8
    · have HT' : Hid (told xs rs = okRs rs) := by rw [Hid, HT.out, hb, h8]; simp
      have b8 : ((len : Int) == 8) = true := by simp; omega
      clear hb h8
      go_enter Try.func72, Try.ntmps72
      go_wp2_with fail
      refine hV.mono ?_
      rintro e w1 ⟨rfl, hw1⟩
      have HW : Hid (w1 = w) := hw1
      rw [← hw1] at hR
      clear hw1
      go_wp2_with fail
      refine hR.mono ?_
      rintro e w2 ⟨rfl, hg⟩
      have HG : Hid (Grew w w2) := by rw [Hid, ← HW.out]; exact hg
      clear hg
      go_wp2
      go_ret
      exact ⟨ret_bool (by rw [HT'.out]), HG.out⟩
    · have HT' : Hid (told xs rs = false) := by rw [Hid, HT.out]; simp [h8]
      have b8 : ((len : Int) == 8) = false := by simp; omega
      clear hb h8
      go_enter Try.func72, Try.ntmps72
      go_wp2_with fail
      refine hV.mono ?_
      rintro e w1 ⟨rfl, rfl⟩
      go_wp2
      go_ret
      exact ⟨ret_bool (by rw [HT'.out]), Grew.refl _⟩

theorem cellB' {w : World} {x : Addr} {v : Value} (h : w.cell? x = some v) (o : Obj) : (w.alloc o).cell? x = some v := ((Grew.refl w).alloc o).cell h
/-- Eight numbers lie from ⟨b, off⟩ on. -/
def V8 (w : World) (b off : Nat) (xs : List Int) : Prop := ∀ i, i < 8 → w.cell? ⟨b, off + i, none⟩ = some (.int .i64 (el xs i))
theorem V8.grew {w w' : World} {b off : Nat} {xs : List Int} (h : V8 w b off xs) (hg : Grew w w') : V8 w' b off xs := fun i hi => hg.cell (h i hi)
theorem v8_of {w : World} {a : Option Addr} {xs : List Int} (h : Vec w a 8 xs) : ∃ b off, a = some ⟨b, off, none⟩ ∧ V8 w b off xs := by
  rcases h.2.2 with h0 | ⟨b, off, ha, hc⟩
  · omega
  · exact ⟨b, off, ha, hc⟩

set_option maxRecDepth 100000 in
set_option maxHeartbeats 800000 in
theorem asks_any (b off cap : Nat) (xs : List Int) (r : Ru) (w : World) (hv : V8 w b off xs) (hx : Ok8 xs) (hr : okRu r = true) :
    Calls Try.prog 73 #[.slice (some ⟨b, off, none⟩) 8 cap, ruV r] w fun e w' => e = .returned (.int .i64 (asks xs r)) ∧ Grew w w' := by
  have hk := okRu_iff.1 hr
  obtain ⟨t, f, p, m⟩ := r
  simp only [] at hk
  obtain ⟨f, rfl⟩ : ∃ n : Nat, f = (n : Int) := ⟨f.toNat, by omega⟩
  have hb := hx.2 f (by omega)
  have hc := cellB' (hv f (by omega)) (.cells #[.int .i64 t, .int .i64 (f : Int), .int .i64 p, .int .i64 m] 40)
  have HA : Hid (asks xs ⟨t, (f : Int), p, m⟩ = min m (el xs f + p)) := by rw [Hid, asks]; simp
  have hM := fun X => l1Min_any m (el xs f + p) X
  have hs : wrap64 (el xs f + p) = el xs f + p := by unfold wrap64; omega
  have f0 : (0 : Int) ≤ (f : Int) := by omega
  have f1 : (f : Int) < 8 := by omega
  unfold ruV
  clear hr hx hv
  generalize el xs f = x at *
  go_enter Try.func73, Try.ntmps73
  go_wp2_with fail
  have hmix := mixedR
  go_quiet (first | (go_at_call 59; exact (hM _).mono (fun e w' h => ⟨h.1, _, h.2⟩)))
  go_wp2
  go_ret
  exact ⟨ret_int (by rw [HA.out]), ((Grew.refl _).alloc _).drewN _⟩
end Go.Proofs.Ytbgkfiijfocgiaa

/-
  The contracts of the specification's Steady and Fired.
-/
namespace Go.Proofs.Ytbgkfiijfocgiaa
set_option linter.unusedSimpArgs false
set_option linter.unusedVariables false
open Go.RowKit Go.Sort

/-- A rule that is right, its places as plain numbers. -/
theorem ru_split {q : Ru} (h : okRu q = true) : ∃ (t f : Nat) (p m : Int), q = ⟨(t : Int), (f : Int), p, m⟩ ∧ t < 8 ∧ f < 8 ∧ 0 ≤ p ∧ p ≤ 100 ∧ 0 ≤ m ∧ m ≤ 1000000 := by
  have hk := okRu_iff.1 h
  obtain ⟨t, f, p, m⟩ := q
  simp only [] at hk
  exact ⟨t.toNat, f.toNat, p, m, by congr <;> omega, by omega, by omega, by omega, by omega, by omega, by omega⟩
theorem std_all {xs : List Int} {rs : List Ru} (h : ∀ j, j < rs.length → asks xs (ruAt rs j) ≤ el xs (ruAt rs j).to.toNat) : Std xs rs := fun r hr => by
  obtain ⟨i, hi, rfl⟩ := List.getElem_of_mem hr
  have := h i hi
  rwa [ruAt_eq hi] at this

set_option maxRecDepth 100000 in
set_option maxHeartbeats 1600000 in
theorem steady_any (a : Option Addr) (len cap : Nat) (xs : List Int) (ra : Option Addr) (rl rc : Nat) (rs : List Ru) (w : World) (hv : Vec w a len xs) (hr : RuS w ra rl rs) (hm : len ≤ maxLen) (hm' : rl ≤ maxLen) :
    Calls Try.prog 33 #[.slice a len cap, .slice ra rl rc] w fun e w' => e = .returned (.bool (stdB xs rs)) ∧ Grew w w' := by
  have hT := told_any a len cap xs ra rl rc rs w hv hr hm hm'
  cases ht : told xs rs with
  | false =>
    rw [ht] at hT
    have HS : Hid (stdB xs rs = false) := by rw [Hid, stdB, ht]; rfl
    clear ht
    go_enter Try.func33, Try.ntmps33
    go_wp2_with fail
    refine hT.mono ?_
    rintro e w1 ⟨rfl, hg⟩
    have HG : Hid (Grew w w1) := hg
    clear hg
    go_wp2
    go_ret
    exact ⟨ret_bool (by rw [HS.out]), HG.out⟩
  | true =>
    rw [ht] at hT
    obtain ⟨hx, hrs⟩ := told_iff.1 ht
    have h8 : len = 8 := by rw [← hv.1]; exact hx.1
    subst h8
    obtain ⟨b, off, rfl, h8c⟩ := v8_of hv
    have hrl := hr.1
    have hr20 := okRs_len hrs
    rw [hrl] at hr20
    have HRL : Hid (rs.length = rl) := hrl
    have HS : Hid (Std xs rs → stdB xs rs = true) := fun h => (std_of ht).2 h
    have HN : Hid (∀ j, j < rl → ¬ asks xs (ruAt rs j) ≤ el xs (ruAt rs j).to.toNat → stdB xs rs = false) := fun j hj h => by
      rw [← Bool.not_eq_true]
      intro h2
      exact h ((std_of ht).1 h2 _ (ruAt_mem (by rw [HRL.out]; exact hj)))
    have HC : Hid (V8 w b off xs) := h8c
    have HX : Hid (Ok8 xs) := hx
    have HRS : Hid (okRs rs = true) := hrs
    clear ht hrl hv h8c hx hrs
    go_enter Try.func33, Try.ntmps33
    go_wp2_with fail
    refine hT.mono ?_
    rintro e w1 ⟨rfl, hg⟩
    have HG : Hid (Grew w w1) := hg
    clear hg hT
    go_wp2
    go_loopw [5] (fun i wr => ∃ k : Nat, k ≤ rl ∧ i = .int .i64 k ∧ (∀ j, j < k → asks xs (ruAt rs j) ≤ el xs (ruAt rs j).to.toNat) ∧ Grew w wr) (fun i _ => rl - (intOf i).toNat)
    case atStart => exact ⟨0, Nat.zero_le _, rfl, fun j hj => by omega, HG.out⟩
    case round =>
      obtain ⟨k, hk, rfl, hall, hgr⟩ := hrel
      have KA : Hid (∀ j, j < k → asks xs (ruAt rs j) ≤ el xs (ruAt rs j).to.toNat) := hall
      have KG : Hid (Grew w wr) := hgr
      clear hall HG
      by_cases hlt : k < rl
      · rcases hr.2 with h0 | ⟨rb, ro, rfl, hrc⟩
        · omega
        · have hok := okRs_mem HRS.out (ruAt_mem (rs := rs) (i := k) (by rw [HRL.out]; exact hlt))
          obtain ⟨t, f, p, m, hq, ht8, hf8, hp0, hp1, hm0, hm1⟩ := ru_split hok
          obtain ⟨c0, c1, c2, c3⟩ := (RusAt.below hrc hgr.1 (Nat.le_refl _)) k hlt
          have ct := (HC.out.grew hgr) t ht8
          have hAk : ∀ X, Grew wr X → Calls Try.prog 73 #[.slice (some ⟨b, off, none⟩) 8 cap, ruV (ruAt rs k)] X fun e w' => e = .returned (.int .i64 (asks xs (ruAt rs k))) ∧ Grew X w' := fun X hX => asks_any b off cap xs (ruAt rs k) X ((HC.out.grew KG.out).grew hX) HX.out hok
          have KN : Hid (¬ asks xs (ruAt rs k) ≤ el xs t → stdB xs rs = false) := fun h => HN.out k hlt (by rw [hq] at h ⊢; simpa using h)
          have KP : Hid (asks xs (ruAt rs k) ≤ el xs t → ∀ j, j < k + 1 → asks xs (ruAt rs j) ≤ el xs (ruAt rs j).to.toNat) := fun h j hj => by
            by_cases e : j = k
            · subst e; rw [hq] at h ⊢; simpa using h
            · exact KA.out j (by omega)
          rw [hq] at c0 c1 c2 c3 hAk
          simp only [] at c0 c1 c2 c3
          unfold ruV at hAk
          simp only [] at hAk
          have p0 := cell_grown (World.block_lt_of_cell? _ _ c0) c0
          have p1 := cell_grown (World.block_lt_of_cell? _ _ c1) c1
          have p2 := cell_grown (World.block_lt_of_cell? _ _ c2) c2
          have p3 := cell_grown (World.block_lt_of_cell? _ _ c3) c3
          have pt := cell_grown (World.block_lt_of_cell? _ _ ct) ct
          have k1 : (k : Int) < (rl : Int) := by omega
          have k0 : (0 : Int) ≤ (k : Int) := by omega
          have t1 : (t : Int) < 8 := by omega
          have t0 : (0 : Int) ≤ (t : Int) := by omega
          rw [← hq] at hAk
          generalize asks xs (ruAt rs k) = A at *
          generalize el xs t = x at *
          clear hgr hrc hok hq c0 c1 c2 c3 ct
          go_wp2_with fail
          have hmix := mixedR
          by_cases hle : A ≤ x
          · have KP' := KP.out hle
            have KPH : Hid _ := KP'
            have hb : decide (x < A) = false := by simp; omega
            clear KP' hle
            go_quiet_grown (first | (go_at_call 73; exact grown_at (hAk _ (Grew.of_grow _ _ _))))
            go_wp2
            go_roundw
            case rel => exact ⟨k + 1, by omega, by go_num, KPH.out, KG.out.trans (Grew.of_grow _ _ _)⟩
            case measure => simp [intOf]; omega
          · have KN' := KN.out (by omega)
            have KNH : Hid (stdB xs rs = false) := KN'
            have hb : decide (x < A) = true := by simp; omega
            clear KN' hle
            go_quiet_grown (first | (go_at_call 73; exact grown_at (hAk _ (Grew.of_grow _ _ _))))
            go_wp2
            go_ret
            exact ⟨ret_bool (by rw [KNH.out]), KG.out.trans (Grew.of_grow _ _ _)⟩
      · have hkl : k = rl := by omega
        subst hkl
        have KS : Hid (stdB xs rs = true) := HS.out (std_all (by rw [HRL.out]; exact KA.out))
        clear hgr
        go_wp2
        go_ret
        exact ⟨ret_bool (by rw [KS.out]), KG.out⟩
end Go.Proofs.Ytbgkfiijfocgiaa
