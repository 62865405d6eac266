/-
  Several texts in one: Irk Isd.
-/
import Derived.Test.YtbgkfiijfocgiaaHl
/-
  The program's RulesOk and what it is made of: isWithin, a rule that is right, slices.ContainsFunc over rules; isRuled.
-/
namespace Go.Proofs.Ytbgkfiijfocgiaa
set_option linter.unusedSimpArgs false
set_option linter.unusedVariables false
open Go.RowKit Go.Sort

set_option maxHeartbeats 400000 in
theorem isWithin_any (n last : Int) (w : World) : Calls Try.prog 88 #[.int .i64 n, .int .i64 last] w fun e w' => e = .returned (.bool (inB n 0 last)) ∧ w' = w := by
  by_cases h0 : (0 : Int) ≤ n
  · have H : Hid (inB n 0 last = decide (n ≤ last)) := by rw [Hid, inB]; simp [h0]
    go_enter Try.func88, Try.ntmps88
    go_wp2
    go_ret
    exact ⟨ret_bool (by rw [H.out]), rfl⟩
  · have H : Hid (inB n 0 last = false) := by rw [Hid, inB]; simp [h0]
    go_enter Try.func88, Try.ntmps88
    go_wp2
    go_ret
    exact ⟨ret_bool (by rw [H.out]), rfl⟩

set_option maxRecDepth 100000 in
set_option maxHeartbeats 1600000 in
theorem ruleOk_any (r : Ru) (w : World) : Calls Try.prog 78 #[ruV r] w fun e w' => e = .returned (.bool (okRu r)) ∧ Grew w w' := by
  have HU : Hid (okRu r = (inB r.to 0 7 && inB r.fr 0 7 && inB r.pl 0 100 && inB r.mo 0 1000000)) := rfl
  have HG : Hid (∀ o, Grew w (w.alloc o)) := fun o => (Grew.refl _).alloc _
  unfold ruV
  generalize okRu r = K at *
  obtain ⟨qt, qf, qp, qm⟩ := r
  simp only [] at HU ⊢
  cases e0 : inB qt 0 7 with
  | false =>
    have HR : Hid (K = false) := by rw [Hid, HU.out, e0]; rfl
    clear HU
    go_enter Try.func78, Try.ntmps78
    go_wp2_with (go_at_call 88; refine (isWithin_any _ _ _).mono ?_; rintro e w' ⟨rfl, rfl⟩)
    go_ret
    exact ⟨ret_bool (by rw [HR.out]), HG.out _⟩
  | true =>
    cases e1 : inB qf 0 7 with
    | false =>
      have HR : Hid (K = false) := by rw [Hid, HU.out, e0, e1]; rfl
      clear HU
      go_enter Try.func78, Try.ntmps78
      go_wp2_with (go_at_call 88; refine (isWithin_any _ _ _).mono ?_; rintro e w' ⟨rfl, rfl⟩)
      go_ret
      exact ⟨ret_bool (by rw [HR.out]), HG.out _⟩
    | true =>
      cases e2 : inB qp 0 100 with
      | false =>
        have HR : Hid (K = false) := by rw [Hid, HU.out, e0, e1, e2]; rfl
        clear HU
        go_enter Try.func78, Try.ntmps78
        go_wp2_with (go_at_call 88; refine (isWithin_any _ _ _).mono ?_; rintro e w' ⟨rfl, rfl⟩)
        go_ret
        exact ⟨ret_bool (by rw [HR.out]), HG.out _⟩
      | true =>
        have HR : Hid (K = inB qm 0 1000000) := by rw [Hid, HU.out, e0, e1, e2]; rfl
        clear HU
        generalize hL : inB qm 0 1000000 = L at *
        go_enter Try.func78, Try.ntmps78
        go_wp2_with (go_at_call 88; refine (isWithin_any _ _ _).mono ?_; rintro e w' ⟨rfl, rfl⟩)
        go_ret
        exact ⟨ret_bool (by rw [HR.out]), HG.out _⟩

set_option maxRecDepth 100000 in
set_option maxHeartbeats 400000 in
theorem rulesOk1_any (r : Ru) (w : World) : Calls Try.prog 77 #[ruV r] w fun e w' => e = .returned (.bool (!okRu r)) ∧ Grew w w' := by
  have hK := ruleOk_any r (w.alloc (.cells #[.int .i64 r.to, .int .i64 r.fr, .int .i64 r.pl, .int .i64 r.mo] 40))
  have HG : Hid (Grew w (w.alloc (.cells #[.int .i64 r.to, .int .i64 r.fr, .int .i64 r.pl, .int .i64 r.mo] 40))) := (Grew.refl _).alloc _
  unfold ruV at *
  go_enter Try.func77, Try.ntmps77
  go_wp2_with fail
  refine hK.mono ?_
  rintro e w1 ⟨rfl, hg⟩
  have HG1 : Hid (Grew w w1) := HG.out.trans hg
  clear hg
  go_wp2
  go_ret
  exact ⟨rfl, HG1.out⟩

theorem any_false_of {rs : List Ru} {p : Ru → Bool} (h : ∀ j, j < rs.length → p (ruAt rs j) = false) : rs.any p = false := by
  rw [List.any_eq_false]
  intro r hr
  obtain ⟨i, hi, rfl⟩ := List.getElem_of_mem hr
  have := h i hi
  rw [ruAt_eq hi] at this
  simp [this]
theorem any_true_of {rs : List Ru} {p : Ru → Bool} {k : Nat} (hk : k < rs.length) (h : p (ruAt rs k) = true) : rs.any p = true :=
  List.any_eq_true.2 ⟨_, ruAt_mem hk, h⟩

set_option maxRecDepth 100000 in
set_option maxHeartbeats 1600000 in
/-- slices.IndexFunc over rules, whatever function is handed over. -/
theorem indexRu_any (F : Nat) (C : Array Value) (p : Ru → Bool) (a : Option Addr) (len cap : Nat) (rs : List Ru) (w : World) (hr : RuS w a len rs) (hm : len ≤ maxLen) (hE : ∀ (args : Array Value) (w : World), (callFunc F args).run Try.prog w = .ok (.enter F args) w)
    (hF : ∀ (r : Ru) (X : World), r ∈ rs → Grew w X → Calls Try.prog F (#[ruV r] ++ C) X fun e w' => e = .returned (.bool (p r)) ∧ Grew X w') :
    Calls Try.prog 86 #[.slice a len cap, .func (.func F) #[] C] w fun e w' => (∃ z : Int, e = .returned (.int .i64 z) ∧ rs.any p = decide (0 ≤ z)) ∧ Grew w w' := by
  unfold maxLen at hm
  obtain ⟨hlen, hcs⟩ := hr
  have HL : Hid (rs.length = len) := hlen
  clear hlen
  go_enter Try.func86, Try.ntmps86
  go_wp2
  go_loopw [8] (fun i wr => ∃ k : Nat, k ≤ len ∧ i = .int .i64 k ∧ (∀ j, j < k → p (ruAt rs j) = false) ∧ Grew w wr) (fun i _ => len - (intOf i).toNat)
  case atStart => exact ⟨0, Nat.zero_le _, rfl, fun j hj => by omega, Grew.refl _⟩
  case round =>
    obtain ⟨k, hk, rfl, hall, hgr⟩ := hrel
    have HA : Hid (∀ j, j < k → p (ruAt rs j) = false) := hall
    have HG : Hid (Grew w wr) := hgr
    clear hall
    by_cases hlt : k < len
    · rcases hcs with h0 | ⟨b, off, rfl, hc⟩
      · omega
      · obtain ⟨c0, c1, c2, c3⟩ := (RusAt.below hc hgr.1 (Nat.le_refl _)) k hlt
        have k1 : (k : Int) < (len : Int) := by omega
        have k0 : (0 : Int) ≤ (k : Int) := by omega
        have hFk := hF (ruAt rs k) wr (ruAt_mem (by rw [HL.out]; exact hlt)) hgr
        have HK : Hid (p (ruAt rs k) = false → ∀ j, j < k + 1 → p (ruAt rs j) = false) := fun h j hj => by
          by_cases e : j = k
          · subst e; exact h
          · exact HA.out j (by omega)
        have HF : Hid (p (ruAt rs k) = true → rs.any p = true) := fun h => any_true_of (by rw [HL.out]; exact hlt) h
        clear hgr hc hF
        unfold ruV at hFk
        generalize ruAt rs k = q at *
        obtain ⟨qt, qf, qp, qm⟩ := q
        simp only [] at c0 c1 c2 c3 hFk
        go_wp2_with fail
        refine hFk.mono ?_
        rintro e w1 ⟨rfl, hg1⟩
        have HG1 : Hid (Grew w w1) := HG.out.trans hg1
        clear hg1 c0 c1 c2 c3
        cases hp : p ⟨qt, qf, qp, qm⟩ with
        | true =>
          have HR : Hid (rs.any p = true) := HF.out hp
          go_wp2
          go_ret
          exact ⟨⟨_, rfl, by rw [HR.out]; simp⟩, HG1.out⟩
        | false =>
          have HR : Hid (∀ j, j < k + 1 → p (ruAt rs j) = false) := HK.out hp
          go_wp2
          go_roundw
          case rel => exact ⟨k + 1, by omega, by go_num, HR.out, HG1.out⟩
          case measure => simp [intOf]; omega
    · have hkl : k = len := by omega
      subst hkl
      have HR : Hid (rs.any p = false) := any_false_of (by rw [HL.out]; exact HA.out)
      clear hgr
      go_wp2
      go_ret
      exact ⟨⟨_, rfl, by rw [HR.out]; decide⟩, HG.out⟩

set_option maxRecDepth 100000 in
set_option maxHeartbeats 800000 in
theorem containsRu_any (F : Nat) (C : Array Value) (p : Ru → Bool) (a : Option Addr) (len cap : Nat) (rs : List Ru) (w : World) (hr : RuS w a len rs) (hm : len ≤ maxLen) (hE : ∀ (args : Array Value) (w : World), (callFunc F args).run Try.prog w = .ok (.enter F args) w)
    (hF : ∀ (r : Ru) (X : World), r ∈ rs → Grew w X → Calls Try.prog F (#[ruV r] ++ C) X fun e w' => e = .returned (.bool (p r)) ∧ Grew X w') :
    Calls Try.prog 74 #[.slice a len cap, .func (.func F) #[] C] w fun e w' => e = .returned (.bool (rs.any p)) ∧ Grew w w' := by
  have hI := indexRu_any F C p a len cap rs w hr hm hE hF
  clear hF
  go_enter Try.func74, Try.ntmps74
  go_wp2_with fail
  refine hI.mono ?_
  rintro e w1 ⟨⟨z, rfl, hz⟩, hg⟩
  have HZ : Hid (rs.any p = decide (0 ≤ z)) := hz
  have HG : Hid (Grew w w1) := hg
  clear hz hg
  go_wp2
  go_ret
  exact ⟨ret_bool (by rw [HZ.out]), HG.out⟩

set_option maxRecDepth 100000 in
set_option maxHeartbeats 800000 in
theorem rulesOkI_any (a : Option Addr) (len cap : Nat) (rs : List Ru) (w : World) (hr : RuS w a len rs) (hm : len ≤ maxLen) :
    Calls Try.prog 34 #[.slice a len cap] w fun e w' => e = .returned (.bool (okRs rs)) ∧ Grew w w' := by
  have hC := containsRu_any 77 #[] (fun r => !okRu r) a len cap rs w hr hm (fun _ _ => enters_of Try.func77 (by kernel_rfl) rfl _ _) (fun r X _ _ => rulesOk1_any r X)
  unfold maxLen at hm
  have hL := hr.1
  by_cases h20 : (len : Int) ≤ 20
  · have HR : Hid (okRs rs = !(rs.any (fun r => !okRu r))) := by
      rw [Hid, okRs, decide_eq_true (by omega), List.all_eq_not_any_not]; simp
    clear hL
    generalize rs.any (fun r => !okRu r) = K at *
    go_enter Try.func34, Try.ntmps34
    go_wp2_with fail
    refine hC.mono ?_
    rintro e w1 ⟨rfl, hg⟩
    have HG : Hid (Grew w w1) := hg
    clear hg
    go_wp2
    go_ret
    exact ⟨ret_bool (by rw [HR.out]), HG.out⟩
  · have HR : Hid (okRs rs = false) := okRs_false_len (by omega)
    clear hL hC
    go_enter Try.func34, Try.ntmps34
    go_wp2
    go_ret
    exact ⟨ret_bool (by rw [HR.out]), Grew.refl _⟩
theorem implRulesOk : ImplRulesOk := fun ra rl rc rs w hr hc hm => (rulesOkI_any ra rl rc rs w hr (Nat.le_trans hc hm)).mono fun e w' h => ⟨h.1, h.2.1⟩
end Go.Proofs.Ytbgkfiijfocgiaa

/-
  The program's isRuled, what a rule asks of a vector, whether it changes one; Steady.
-/
namespace Go.Proofs.Ytbgkfiijfocgiaa
set_option linter.unusedSimpArgs false
set_option linter.unusedVariables false
open Go.RowKit Go.Sort

set_option maxRecDepth 100000 in
set_option maxHeartbeats 800000 in
theorem ruled_any (a : Option Addr) (len cap : Nat) (xs : List Int) (ra : Option Addr) (rl rc : Nat) (rs : List Ru) (w : World) (hv : Vec w a len xs) (hr : RuS w ra rl rs) (hc : len ≤ cap) (hm : cap ≤ maxLen) (hm' : rl ≤ maxLen) :
    Calls Try.prog 69 #[.slice a len cap, .slice ra rl rc] w fun e w' => e = .returned (.bool (told xs rs)) ∧ Grew w w' := by
  have hV := (implOk_any a len cap xs w hv hc hm).mono (R' := fun e w' => e = .returned (.bool (okB xs)) ∧ Grew w w') (fun e w' h => ⟨h.1, by obtain ⟨n, rfl⟩ := h.2; exact (Grew.refl _).drewN _⟩)
  have hR := fun X (hX : Grew w X) => rulesOkI_any ra rl rc rs X (hr.grew hX) hm'
  have hlen := hv.1
  have HT : Hid (told xs rs = (okB xs && decide (len = 8) && okRs rs)) := by rw [Hid, told, hlen]
  clear hlen
  unfold maxLen at hm
  by_cases h8 : len = 8
  · have b8 : ((len : Int) == 8) = true := by simp; omega
    cases hb : okB xs with
    | false =>
      rw [hb] at hV
      have HT' : Hid (told xs rs = false) := by rw [Hid, HT.out, hb]; rfl
      clear hb h8
      go_enter Try.func69, Try.ntmps69
      go_wp2_with fail
      refine hV.mono ?_
      rintro e w1 ⟨rfl, hg⟩
      have HG : Hid (Grew w w1) := hg
      clear hg
      go_wp2
      go_ret
      exact ⟨ret_bool (by rw [HT'.out]), HG.out⟩
    | true =>
      rw [hb] at hV
      have HT' : Hid (told xs rs = okRs rs) := by rw [Hid, HT.out, hb, h8]; simp
      clear hb h8
      go_enter Try.func69, Try.ntmps69
      go_wp2_with fail
      refine hV.mono ?_
      rintro e w1 ⟨rfl, hg1⟩
      have hR1 := hR w1 hg1
      have HG1 : Hid (Grew w w1) := hg1
      clear hg1 hR
      go_wp2_with fail
      refine hR1.mono ?_
      rintro e w2 ⟨rfl, hg⟩
      have HG : Hid (Grew w w2) := HG1.out.trans hg
      clear hg
      go_wp2
      go_ret
      exact ⟨ret_bool (by rw [HT'.out]), HG.out⟩
  · have HT' : Hid (told xs rs = false) := by rw [Hid, HT.out]; simp [h8]
    have b8 : ((len : Int) == 8) = false := by simp; omega
    clear h8 hV hR
    go_enter Try.func69, Try.ntmps69
    go_wp2
    go_ret
    exact ⟨ret_bool (by rw [HT'.out]), Grew.refl _⟩

set_option maxRecDepth 100000 in
set_option maxHeartbeats 800000 in
theorem bound_any (b off cap : Nat) (xs : List Int) (r : Ru) (w : World) (hv : V8 w b off xs) (hx : Ok8 xs) (hr : okRu r = true) :
    Calls Try.prog 87 #[ruV r, .slice (some ⟨b, off, none⟩) 8 cap] w fun e w' => e = .returned (.int .i64 (asks xs r)) ∧ Grew w w' := by
  have hk := okRu_iff.1 hr
  obtain ⟨t, f, p, m⟩ := r
  simp only [] at hk
  obtain ⟨f, rfl⟩ : ∃ n : Nat, f = (n : Int) := ⟨f.toNat, by omega⟩
  have hb := hx.2 f (by omega)
  have hc := cellB' (hv f (by omega)) (.cells #[.int .i64 t, .int .i64 (f : Int), .int .i64 p, .int .i64 m] 40)
  have HA : Hid (asks xs ⟨t, (f : Int), p, m⟩ = min m (el xs f + p)) := by rw [Hid, asks]; simp
  have hs : wrap64 (el xs f + p) = el xs f + p := by unfold wrap64; omega
  have f0 : (0 : Int) ≤ (f : Int) := by omega
  have f1 : (f : Int) < 8 := by omega
  unfold ruV
  clear hr hx hv
  generalize el xs f = x at *
  go_enter Try.func87, Try.ntmps87
  go_wp2_with fail
  have hmix := mixedR
  go_quiet (fail)
  go_wp2
  go_ret
  exact ⟨ret_int (by rw [HA.out]), ((Grew.refl _).alloc _).drewN _⟩

set_option maxRecDepth 100000 in
set_option maxHeartbeats 800000 in
theorem changes_any (b off cap : Nat) (xs : List Int) (r : Ru) (w : World) (hv : V8 w b off xs) (hx : Ok8 xs) (hr : okRu r = true) :
    Calls Try.prog 76 #[ruV r, .slice (some ⟨b, off, none⟩) 8 cap] w fun e w' => e = .returned (.bool (decide (el xs r.to.toNat < asks xs r))) ∧ Grew w w' := by
  have HB : ∀ X, Grew w X → Calls Try.prog 87 #[ruV r, .slice (some ⟨b, off, none⟩) 8 cap] X fun e w' => e = .returned (.int .i64 (asks xs r)) ∧ Grew X w' := fun X hX => bound_any b off cap xs r X (hv.grew hX) hx hr
  obtain ⟨t, f, p, m, hq, ht8, hf8, hp0, hp1, hm0, hm1⟩ := ru_split hr
  have HE : Hid (r.to.toNat = t) := by rw [Hid, hq]; simp
  have ct := hv t ht8
  generalize asks xs r = A at *
  rw [HE.out]
  generalize el xs t = x at *
  have HW : Hid (Grew w (w.alloc (.cells #[.int .i64 t, .int .i64 f, .int .i64 p, .int .i64 m] 40))) := (Grew.refl _).alloc _
  have hAk : ∀ X, Grew (w.alloc (.cells #[.int .i64 t, .int .i64 f, .int .i64 p, .int .i64 m] 40)) X → Calls Try.prog 87 #[ruV r, .slice (some ⟨b, off, none⟩) 8 cap] X fun e w' => e = .returned (.int .i64 A) ∧ Grew X w' := fun X hX => HB X (HW.out.trans hX)
  have c0 : (w.alloc (.cells #[.int .i64 t, .int .i64 f, .int .i64 p, .int .i64 m] 40)).cell? ⟨w.heap.size, 0, none⟩ = some (.int .i64 t) := by simp
  have c1 : (w.alloc (.cells #[.int .i64 t, .int .i64 f, .int .i64 p, .int .i64 m] 40)).cell? ⟨w.heap.size, 1, none⟩ = some (.int .i64 f) := by simp
  have c2 : (w.alloc (.cells #[.int .i64 t, .int .i64 f, .int .i64 p, .int .i64 m] 40)).cell? ⟨w.heap.size, 2, none⟩ = some (.int .i64 p) := by simp
  have c3 : (w.alloc (.cells #[.int .i64 t, .int .i64 f, .int .i64 p, .int .i64 m] 40)).cell? ⟨w.heap.size, 3, none⟩ = some (.int .i64 m) := by simp
  have ct1 := cellB' ct (.cells #[.int .i64 t, .int .i64 f, .int .i64 p, .int .i64 m] 40)
  rw [hq] at hAk ⊢
  unfold ruV at *
  simp only [] at hAk ⊢
  have t1 : (t : Int) < 8 := by omega
  have t0 : (0 : Int) ≤ (t : Int) := by omega
  clear HB hx hr hv hq HE ct
  generalize hWW : w.alloc (.cells #[.int .i64 t, .int .i64 f, .int .i64 p, .int .i64 m] 40) = W at *
  have p0 := cell_grown (World.block_lt_of_cell? _ _ c0) c0
  have p1 := cell_grown (World.block_lt_of_cell? _ _ c1) c1
  have p2 := cell_grown (World.block_lt_of_cell? _ _ c2) c2
  have p3 := cell_grown (World.block_lt_of_cell? _ _ c3) c3
  have pt := cell_grown (World.block_lt_of_cell? _ _ ct1) ct1
  clear c0 c1 c2 c3 ct1
  go_enter Try.func76, Try.ntmps76
  go_wp2_with fail
  have hmix := mixedR
  go_quiet_grown (first | (go_at_call 87; exact grown_at (hAk _ (Grew.of_grow _ _ _))))
  go_wp2
  go_ret
  exact ⟨rfl, HW.out.trans (Grew.of_grow _ _ _)⟩

set_option maxRecDepth 100000 in
set_option maxHeartbeats 800000 in
theorem steady1_any (B b off cap : Nat) (xs : List Int) (r : Ru) (w : World) (hB : w.cell? ⟨B, 0, none⟩ = some (.slice (some ⟨b, off, none⟩) 8 cap)) (hv : V8 w b off xs) (hx : Ok8 xs) (hr : okRu r = true) :
    Calls Try.prog 75 #[ruV r, .pointer (some ⟨B, 0, none⟩)] w fun e w' => e = .returned (.bool (decide (el xs r.to.toNat < asks xs r))) ∧ Grew w w' := by
  have HG : Hid (Grew w (w.alloc (.cells #[.int .i64 r.to, .int .i64 r.fr, .int .i64 r.pl, .int .i64 r.mo] 40))) := (Grew.refl _).alloc _
  have hK := changes_any b off cap xs r (w.alloc (.cells #[.int .i64 r.to, .int .i64 r.fr, .int .i64 r.pl, .int .i64 r.mo] 40)) (hv.grew HG.out) hx hr
  have hB1 := HG.out.cell hB
  unfold ruV at *
  clear hv hx hr
  go_enter Try.func75, Try.ntmps75
  go_wp2_with fail
  refine hK.mono ?_
  rintro e w1 ⟨rfl, hg⟩
  have HG1 : Hid (Grew w w1) := HG.out.trans hg
  clear hg
  go_wp2
  go_ret
  exact ⟨rfl, HG1.out⟩

set_option maxRecDepth 100000 in
set_option maxHeartbeats 800000 in
theorem steadyI_any (a : Option Addr) (len cap : Nat) (xs : List Int) (ra : Option Addr) (rl rc : Nat) (rs : List Ru) (w : World) (hv : Vec w a len xs) (hr : RuS w ra rl rs) (hc : len ≤ cap) (hm : cap ≤ maxLen) (hm' : rl ≤ maxLen) :
    Calls Try.prog 32 #[.slice a len cap, .slice ra rl rc] w fun e w' => e = .returned (.bool (stdB xs rs)) ∧ Grew w w' := by
  have HG : Hid (Grew w (w.alloc (.cells #[.slice a len cap] 24))) := (Grew.refl _).alloc _
  have hT := ruled_any a len cap xs ra rl rc rs _ (hv.below HG.out.1 (Nat.le_refl _)) (hr.grew HG.out) hc hm hm'
  have hB : (w.alloc (.cells #[.slice a len cap] 24)).cell? ⟨w.heap.size, 0, none⟩ = some (.slice a len cap) := by simp
  cases ht : told xs rs with
  | false =>
    rw [ht] at hT
    have HS : Hid (stdB xs rs = false) := by rw [Hid, stdB, ht]; rfl
    clear ht hB
    go_enter Try.func32, Try.ntmps32
    go_wp2_with fail
    refine hT.mono ?_
    rintro e w1 ⟨rfl, hg⟩
    have HG1 : Hid (Grew w w1) := HG.out.trans hg
    clear hg
    go_wp2
    go_ret
    exact ⟨ret_bool (by rw [HS.out]), HG1.out⟩
  | true =>
    rw [ht] at hT
    obtain ⟨hx, hrs⟩ := told_iff.1 ht
    have h8 : len = 8 := by rw [← hv.1]; exact hx.1
    subst h8
    obtain ⟨b, off, rfl, h8c⟩ := v8_of hv
    have HS : Hid (stdB xs rs = !(rs.any (fun r => decide (el xs r.to.toNat < asks xs r)))) := by
      rw [Hid, stdB, ht, List.all_eq_not_any_not]
      simp only [Bool.true_and]
      congr 2
      funext r
      by_cases h : asks xs r ≤ el xs r.to.toNat
      · simp [h, Int.not_lt.2 h]
      · simp [h, Int.not_le.1 h]
    have HC : Hid (∀ X, Grew (w.alloc (.cells #[.slice (some ⟨b, off, none⟩) 8 cap] 24)) X → Calls Try.prog 74 #[.slice ra rl rc, .func (.func 75) #[] #[.pointer (some ⟨w.heap.size, 0, none⟩)]] X fun e w' => e = .returned (.bool (rs.any (fun r => decide (el xs r.to.toNat < asks xs r)))) ∧ Grew X w') := fun X hX =>
      containsRu_any 75 #[.pointer (some ⟨w.heap.size, 0, none⟩)] (fun r => decide (el xs r.to.toNat < asks xs r)) ra rl rc rs X ((hr.grew HG.out).grew hX) hm' (fun _ _ => enters_of Try.func75 (by kernel_rfl) rfl _ _) (fun r Y hr' hY => steady1_any w.heap.size b off cap xs r Y (hY.cell (hX.cell hB)) (((h8c.grew HG.out).grew hX).grew hY) hx (okRs_mem hrs hr'))
    clear ht hv h8c hx hrs hr
    generalize rs.any (fun r => decide (el xs r.to.toNat < asks xs r)) = K at *
    go_enter Try.func32, Try.ntmps32
    go_wp2_with fail
    refine hT.mono ?_
    rintro e w1 ⟨rfl, hg⟩
    have HG1 : Hid (Grew w w1) := HG.out.trans hg
    have hC1 := HC.out w1 hg
    clear hg hT HC
    go_wp2_with fail
    refine hC1.mono ?_
    rintro e w2 ⟨rfl, hg⟩
    have HG2 : Hid (Grew w w2) := HG1.out.trans hg
    clear hg
    go_wp2
    go_ret
    exact ⟨ret_bool (by rw [HS.out]), HG2.out⟩
theorem implSteady : ImplSteady := fun a len cap xs ra rl rc rs w hv hr hc hm hc' hm' => (steadyI_any a len cap xs ra rl rc rs w hv hr hc hm (Nat.le_trans hc' hm')).mono fun e w' h => ⟨h.1, h.2.1⟩
end Go.Proofs.Ytbgkfiijfocgiaa
