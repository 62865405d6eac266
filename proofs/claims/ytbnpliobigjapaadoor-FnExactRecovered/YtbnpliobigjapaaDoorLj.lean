/-
  Several texts in one: Jlg Jlb.
-/
import Derived.Test.YtbnpliobigjapaaDoorLa
import Derived.Test.YtbnpliobigjapaaDoorJo
import Derived.Test.YtbnpliobigjapaaDoorCln
/-
  The program's LogOk, next and between.
-/
namespace Go.Proofs.YtbnpliobigjapaaDoor
set_option linter.unusedVariables false
set_option linter.unusedSimpArgs false
open Go.RowKit Go.Sort

attribute [local irreducible] sv
set_option maxRecDepth 100000 in
set_option maxHeartbeats 1600000 in
theorem lgkI_any (F : Int) (a : Option Addr) (cap : Nat) (T : List (List UInt8)) (w : World) (hv : TxS w a T) (hm : T.length ≤ maxLen) :
    Calls Tryd.prog 17 #[lgV F a T.length cap] w fun e w' => e = .returned (.bool (decide (okLg (F, T)))) ∧ Grew w w' := by
  unfold maxLen at hm
  unfold lgV
  have HG : Hid (Grew w (w.alloc (.cells #[.int .i64 F, .slice a T.length cap] 26))) := (Grew.refl _).alloc _
  have HV : Hid (TxS (w.alloc (.cells #[.int .i64 F, .slice a T.length cap] 26)) a T) := hv.grew HG.out
  have c0 : (w.alloc (.cells #[.int .i64 F, .slice a T.length cap] 26)).cell? ⟨w.heap.size, 0, none⟩ = some (.int .i64 F) := by simp
  have c1 : (w.alloc (.cells #[.int .i64 F, .slice a T.length cap] 26)).cell? ⟨w.heap.size, 1, none⟩ = some (.slice a T.length cap) := by simp
  clear hv
  generalize hW0 : w.alloc (.cells #[.int .i64 F, .slice a T.length cap] 26) = W0 at *
  by_cases hf1 : F < 1
  · have HZ : Hid (decide (okLg (F, T)) = false) := decide_eq_false (fun h => by have := h.1.1; simp only at this; omega)
    go_enter Tryd.func17, Tryd.ntmps17
    go_wp2
    go_ret
    exact ⟨ret_bool (by rw [HZ.out]), HG.out⟩
  by_cases hf2 : 1000000 < F
  · have HZ : Hid (decide (okLg (F, T)) = false) := decide_eq_false (fun h => by have := h.1.2; simp only at this; omega)
    go_enter Tryd.func17, Tryd.ntmps17
    go_wp2
    go_ret
    exact ⟨ret_bool (by rw [HZ.out]), HG.out⟩
  by_cases g40 : (40 : Int) < (T.length : Int)
  · have HZ : Hid (decide (okLg (F, T)) = false) := decide_eq_false (fun h => by have := h.2.1; simp only at this; omega)
    go_enter Tryd.func17, Tryd.ntmps17
    go_wp2
    go_ret
    exact ⟨ret_bool (by rw [HZ.out]), HG.out⟩
  · have HF : Hid (1 ≤ F ∧ F ≤ 1000000) := ⟨by omega, by omega⟩
    have h40 : T.length ≤ 40 := by omega
    go_enter Tryd.func17, Tryd.ntmps17
    go_wp2
    clear hf1 hf2 g40 c0 c1
    go_loop [22] (fun i => ∃ k : Nat, k ≤ T.length ∧ i = .int .i64 k ∧ ∀ j, j < k → (T.getD j []).length ≤ 100) (fun i => T.length - (intOf i).toNat)
    case atStart => exact ⟨0, Nat.zero_le _, rfl, fun j hj => by omega⟩
    case round =>
      obtain ⟨k, hk, rfl, hall⟩ := hrel
      have HA : Hid (∀ j, j < k → (T.getD j []).length ≤ 100) := hall
      clear hall
      by_cases hlt : k < T.length
      · rcases HV.out with h0 | ⟨b, off, rfl, hc⟩
        · omega
        have hck := hc k hlt
        have k1 : (k : Int) < (T.length : Int) := by omega
        have k0 : (0 : Int) ≤ (k : Int) := by omega
        clear hc
        have HX : Hid (∀ t, T.getD k [] = t → (t.length ≤ 100 → ∀ j, j < k + 1 → (T.getD j []).length ≤ 100) ∧ (¬ t.length ≤ 100 → decide (okLg (F, T)) = false)) := fun t e => by
          subst e
          exact ⟨fun h j hj => by
            rcases Nat.lt_succ_iff_lt_or_eq.1 hj with h1 | h1
            · exact HA.out j h1
            · rw [h1]; exact h, fun h => decide_eq_false (fun o => h (o.2.2 k hlt))⟩
        generalize ht : T.getD k [] = t at *
        have hsz := sv_size t
        by_cases h100 : t.length ≤ 100
        · have hd : ¬ ((100 : Int) < (t.length : Int)) := by omega
          have HN := (HX.out t rfl).1 h100
          have HN2 : Hid (∀ j, j < k + 1 → (T.getD j []).length ≤ 100) := HN
          clear HN
          go_wp2
          go_round
          case rel => exact ⟨k + 1, by omega, by go_num, HN2.out⟩
          case measure => simp [intOf]; omega
        · have hd : (100 : Int) < (t.length : Int) := by omega
          have HZ : Hid (decide (okLg (F, T)) = false) := (HX.out t rfl).2 h100
          go_wp2
          go_ret
          exact ⟨ret_bool (by rw [HZ.out]), HG.out⟩
      · have hkl : k = T.length := by omega
        have HZ : Hid (decide (okLg (F, T)) = true) := decide_eq_true ⟨HF.out, h40, fun j hj => HA.out j (by rw [hkl]; exact hj)⟩
        subst hkl
        go_wp2
        go_ret
        exact ⟨ret_bool (by rw [HZ.out]), HG.out⟩
theorem ret_intX {a b : Int} (h : a = b) : Ending.returned (.int .i64 a) = .returned (.int .i64 b) := by rw [h]
set_option maxRecDepth 100000 in
theorem nxtI_any (F : Int) (a : Option Addr) (n cap : Nat) (w : World) (hw : wrap64 (F + (n : Int)) = F + (n : Int)) :
    Calls Tryd.prog 34 #[lgV F a n cap] w fun e w' => e = .returned (.int .i64 (F + (n : Int))) ∧ Grew w w' := by
  have HG : Hid (Grew w (w.alloc (.cells #[.int .i64 F, .slice a n cap] 26))) := (Grew.refl _).alloc _
  unfold lgV
  go_enter Tryd.func34, Tryd.ntmps34
  go_wp2
  go_ret
  exact ⟨ret_intX hw, HG.out⟩

/-- A log under way in block o, the answer's room r. -/
structure LB (w Y : World) (r o : Nat) (F : Int) (T : List (List UInt8)) (ta : Option Addr) (tc : Nat) (fp : Fp) : Prop where
  res : Bx Y r 26 #[.int .i64 0, .slice none 0 0]
  own : Bx Y o 26 #[.int .i64 F, .slice ta T.length tc]
  txt : Cel.ow Y (scl T) (.slice ta T.length tc) fp
  fpl : ∀ b, fp b → w.heap.size ≤ b ∧ b ≠ r ∧ b ≠ o
  hr : w.heap.size ≤ r
  ho : w.heap.size ≤ o
  ne : r ≠ o
  below : Below w.heap.size w Y
theorem LB.step {w Y Y' : World} {r o : Nat} {F : Int} {T : List (List UInt8)} {ta : Option Addr} {tc : Nat} {fp : Fp} (h : LB w Y r o F T ta tc fp) (hb : Below Y.heap.size Y Y') : LB w Y' r o F T ta tc fp :=
  ⟨h.res.below hb, h.own.below hb, Cel.ow_below h.txt hb, h.fpl, h.hr, h.ho, h.ne, h.below.trans (hb.mono h.below.size)⟩
theorem LB.app {w Y : World} {r o : Nat} {F : Int} {T : List (List UInt8)} {ta : Option Addr} {tc : Nat} {fp : Fp} (i0 : TypeInfo) (hi0 : Tryd.prog.info? 9 = some i0) (hz0 : i0.zero = some (.string ⟨#[]⟩)) (hz1 : i0.size = 1) (hz2 : i0.bytes = 16)
    (h : LB w Y r o F T ta tc fp) (s : List UInt8) (hl : T.length ≤ 1000) :
    ∀ Z, Same Z (Y.alloc (.cells #[.string (sv s)] 9)) → ∃ v' w4, (Builtin.append_ #[24, 24] 24 #[.slice ta T.length tc, .slice (some ⟨Y.heap.size, 0, none⟩) 1 1]).run Tryd.prog Z = .ok v' w4 ∧
      ∃ a' c', v' = .slice a' (T.length + 1) c' ∧ w4.cell? ⟨o, 1, none⟩ = some (.slice ta T.length tc) ∧ w4.frozen? ⟨o, 1, none⟩ = false ∧ ∃ fp', LB w (w4.setCell ⟨o, 1, none⟩ (.slice a' (T.length + 1) c')) r o F (T ++ [s]) a' c' fp' := by
  intro Z hZ
  have hbZ : Below Y.heap.size Y Z := (oneA Y _).trans (hZ.below.mono (oneA Y _).size)
  have hD := h.step hbZ
  obtain ⟨ta', tc', G, e, ho, hf⟩ := ow_scl.1 hD.txt
  cases e
  have hnew : Z.heap[Y.heap.size]? = some (.cells #[.string (sv s)] 9) := by rw [hZ.heap]; exact heap_alloc_new Y _
  obtain ⟨a', c', G', w4, hr, ho', hg, hat⟩ := run_append_oo (P := Tryd.prog) Z 24 24 9 i0 _ 1 16 Tryd.underlying24 hi0 hz0 hz1 hz2 rfl (by omega) ta T.length tc (svs T) G ho (some ⟨Y.heap.size, 0, none⟩) 1 1 [.string (sv s)] rfl (.inr ⟨_, rfl, World.news_of_block (cs := #[.string (sv s)]) (t := 9) (fr := (0, 0)) hnew⟩) (by simp [Value.oneCell']) (by unfold maxLen; omega) (by omega)
  have hne := h.ne
  have hol := hD.own.lt
  have hrl := hD.res.lt
  have hsz := hD.below.size
  have hG : ∀ b, G = some b → w.heap.size ≤ b ∧ b ≠ r ∧ b ≠ o := fun b hb => h.fpl b ((hf b).2 hb)
  have hG' : ∀ b, G' = some b → w.heap.size ≤ b ∧ b ≠ r ∧ b ≠ o := fun b hb => by
    rcases hat with e | e
    · exact hG b (e ▸ hb)
    · rw [e] at hb; cases hb; exact ⟨hsz, by omega, by omega⟩
  have hw4 := Wrt.of_grown hg
  have k0 := hD.own.wrt hw4 (fun e => (hG _ e).2.2 rfl)
  have k1 := hD.res.wrt hw4 (fun e => (hG _ e).2.1 rfl)
  have hb4 : Below w.heap.size w w4 := hw4.below hD.below hsz (fun b hb => (hG b hb).1)
  refine ⟨_, w4, hr, a', c', rfl, k0.at 1 rfl, k0.f 1, fun b => G' = some b, k1.far hne _, ?_, ?_, hG', h.hr, h.ho, hne, hb4.setCell (p := ⟨o, 1, none⟩) h.ho _⟩
  · have := k0.setC 1 (.slice a' (T.length + 1) c')
    rw [List.length_append]
    simpa using this
  · refine ow_scl.2 ⟨a', c', G', by rw [List.length_append, List.length_singleton], ?_, fun b => Iff.rfl⟩
    rw [svs_app, List.length_append]
    exact ho'.set (fun e => (hG' _ e).2.2 rfl) _
theorem LB.ans {w Y : World} {r o : Nat} {F : Int} {T : List (List UInt8)} {ta : Option Addr} {tc : Nat} {fp : Fp} (h : LB w Y r o F T ta tc fp) :
    NewO w ((Y.setCell ⟨r, 0, none⟩ (.int .i64 F)).setCell ⟨r, 1, none⟩ (.slice ta T.length tc)) (scl T) (.slice ta T.length tc) :=
  ⟨fp, Cel.ow_wrt h.txt (wrt2 Y r) (fun b hb e => (h.fpl b hb).2.1 e), fun b hb => (h.fpl b hb).1, below2 h.below h.hr⟩
/-- A stretch of a list of texts. -/
theorem slice_tx {w : World} {a : Option Addr} {cap : Nat} {T : List (List UInt8)} (hv : TxP w a cap T) {i j : Nat} (hij : i ≤ j) (hj : j ≤ T.length) :
    ∃ a' c', (∀ X, (Instr.slice 24 (.slice a T.length cap) (some (.int .i64 (i : Int))) (some (.int .i64 (j : Int))) none).run Tryd.prog X = .ok (.slice a' (j - i) c') X) ∧ TxS w a' ((T.drop i).take (j - i)) := by
  obtain ⟨i0, hi0, hz0, hz1, hz2⟩ := info_parts9 Tryd.info9
  have hcap : T.length ≤ cap := by
    rcases hv with ⟨rfl, rfl, _⟩ | ⟨b, off, _, h, _⟩
    · exact Nat.le_refl _
    · exact h
  have hs : ∀ X, (Instr.slice 24 (.slice a T.length cap) (some (.int .i64 (i : Int))) (some (.int .i64 (j : Int))) none).run Tryd.prog X = .ok (sliced a i j cap 1) X := fun X => by
    rw [run_slice_lh X 24 a T.length cap (by kernel_rfl) .i64 .i64 (i : Int) (j : Int) (by omega) (by omega) (by omega)]
    rw [show Tryd.prog.elem 24 = 9 by kernel_rfl]
    rw [run_sizeOf X hi0, show Tryd.prog.cellsOf 9 = 1 by kernel_rfl]
    simp [Result.andThen]
  refine ⟨_, _, fun X => (hs X).trans rfl, ?_⟩
  rcases hv with ⟨rfl, rfl, _⟩ | ⟨b, off, rfl, h1, h2, hc⟩
  · exact .inl (by simp)
  · by_cases hci : cap = i
    · exact .inl (by rw [List.length_take]; omega)
    · rw [if_neg hci]
      have : TxS w (some ⟨b, off, none⟩) T := .inr ⟨b, off, rfl, hc⟩
      have := (this.drop i).take (j - i)
      have e : (some (⟨b, off, none⟩ : Addr)).map (·.add (i * 1)) = some ⟨b, off + i, none⟩ := by
        by_cases hi : i = 0 <;> simp [Addr.add, hi]
      rw [e]
      exact this
end Go.Proofs.YtbnpliobigjapaaDoor

/-
  The program's between.
-/
namespace Go.Proofs.YtbnpliobigjapaaDoor
set_option linter.unusedVariables false
set_option linter.unusedSimpArgs false
open Go.RowKit Go.Sort

theorem lb_start (w : World) (F v : Int) (a : Option Addr) (n cap : Nat) :
    LB w ((((w.alloc (.cells #[.int .i64 F, .slice a n cap] 26)).alloc (.cells #[.int .i64 0, .slice none 0 0] 26)).alloc (.cells #[] 9)).alloc (.cells #[.int .i64 v, .slice (some ⟨w.heap.size + 1 + 1, 0, none⟩) 0 0] 26)) (w.heap.size + 1) (w.heap.size + 1 + 1 + 1) v [] (some ⟨w.heap.size + 1 + 1, 0, none⟩) 0 (fun _ => False) := by
  have hH := LgH.start w F a n cap
  have h2 := (hH.step (oneA _ (.cells #[] 9))).step (oneA _ (.cells #[.int .i64 v, .slice (some ⟨w.heap.size + 1 + 1, 0, none⟩) 0 0] 26))
  refine ⟨h2.res, ?_, ow_scl.2 ⟨_, 0, none, rfl, OSo.nil _ _ (plainS _ 0), fun b => by simp⟩, fun b hb => absurd hb id, by omega, by omega, by omega, h2.below⟩
  have := Bx.new (((w.alloc (.cells #[.int .i64 F, .slice a n cap] 26)).alloc (.cells #[.int .i64 0, .slice none 0 0] 26)).alloc (.cells #[] 9)) 26 #[.int .i64 v, .slice (some ⟨w.heap.size + 1 + 1, 0, none⟩) 0 0]
  simpa using this

attribute [local irreducible] sv
set_option maxRecDepth 100000 in
set_option maxHeartbeats 3200000 in
theorem btwI_any (F : Int) (a : Option Addr) (cap : Nat) (T : List (List UInt8)) (i j : Nat) (v1 v2 : Int) (w : World) (hv : TxP w a cap T) (hij : i ≤ j) (hj : j ≤ T.length) (h1 : v1 = F + (i : Int)) (h2 : v2 = F + (j : Int)) (hF : 1 ≤ F ∧ F ≤ 1000000) (hT : T.length ≤ 40) (hs : ShortT T) :
    Calls Tryd.prog 33 #[lgV F a T.length cap, .int .i64 v1, .int .i64 v2] w fun e w' => AnsLg w w' e (v1, (T.drop i).take (j - i)) := by
  have hmix : Tryd.prog.follows .mixedOrders = true := by kernel_rfl
  obtain ⟨i0, hi0, hz0, hz1, hz2⟩ := info_parts9 Tryd.info9
  obtain ⟨src, c2, hsl, hsrc⟩ := slice_tx hv hij hj
  have e1 : wrap64 (v1 - F) = (i : Int) := by unfold wrap64; omega
  have e2 : wrap64 (v2 - F) = (j : Int) := by unfold wrap64; omega
  have hPl : ((T.drop i).take (j - i)).length = j - i := by rw [List.length_take, List.length_drop]; omega
  have HSH : Hid (∀ k, k < j - i → (((T.drop i).take (j - i)).getD k []).length ≤ 1048576) := fun k hk => by
    have := hs (i + k) (by omega)
    simpa [List.getD_eq_getElem?_getD, List.getElem?_take, List.getElem?_drop, hk] using this
  have HST : Hid (LB w ((((w.alloc (.cells #[.int .i64 F, .slice a T.length cap] 26)).alloc (.cells #[.int .i64 0, .slice none 0 0] 26)).alloc (.cells #[] 9)).alloc (.cells #[.int .i64 v1, .slice (some ⟨w.heap.size + 1 + 1, 0, none⟩) 0 0] 26)) (w.heap.size + 1) (w.heap.size + 1 + 1 + 1) v1 [] (some ⟨w.heap.size + 1 + 1, 0, none⟩) 0 (fun _ => False)) := lb_start w F v1 a T.length cap
  have hn40 : j - i ≤ 40 := by omega
  clear h1 h2 hv hs
  generalize (T.drop i).take (j - i) = P at *
  generalize j - i = n at *
  have HSRC : Hid (TxS w src P) := hsrc
  have HPL : Hid (P.length = n) := hPl
  clear hsrc hPl hij hj
  unfold lgV
  go_enter Tryd.func33, Tryd.ntmps33
  go_wp2_with fail
  clear hsl e1 e2
  go_loopw [25] (fun iv wr => ∃ (k : Nat) (ta : Option Addr) (tc : Nat) (fp : Fp), k ≤ n ∧ iv = .int .i64 k ∧ LB w wr (w.heap.size + 1) (w.heap.size + 1 + 1 + 1) v1 (P.take k) ta tc fp) (fun iv _ => n - (intOf iv).toNat)
  case atStart => exact ⟨0, _, 0, _, Nat.zero_le _, rfl, by rw [List.take_zero]; exact HST.out⟩
  case round =>
    obtain ⟨k, ta, tc, fp, hk, rfl, hL⟩ := hrel
    by_cases hlt : k < n
    · have hkP : k < P.length := by rw [HPL.out]; exact hlt
      have HN : Hid (P.take (k + 1) = P.take k ++ [P.getD k []]) := by rw [Hid, List.take_succ_eq_append_getElem hkP]; simp [hkP]
      have C := fun X => clone_any (P.getD k []) X (HSH.out k hlt)
      rcases HSRC.out with h0 | ⟨b, off, rfl, hc⟩
      · omega
      have hck := hL.below.cell (World.block_lt_of_cell? _ _ (hc k hkP)) |>.trans (hc k hkP)
      have k1 : (k : Int) < (n : Int) := by omega
      have k0 : (0 : Int) ≤ (k : Int) := by omega
      have hlen : (P.take k).length ≤ 1000 := by rw [List.length_take]; omega
      have x1 := hL.own.r2.2
      have hL1 := hL.step (Same.drewN wr 1).below
      have HL : Hid (LB w (wr.drewN 1) (w.heap.size + 1) (w.heap.size + 1 + 1 + 1) v1 (P.take k) ta tc fp) := hL1
      clear hL hL1 hc hkP
      generalize hP1 : P.take (k + 1) = P1 at *
      generalize P.take k = Q at *
      generalize P.getD k [] = s at *
      generalize w.heap.size + 1 + 1 + 1 = o at *
      go_wp2_with fail
      refine gt_begin (S := fun X : World => X.cell? ⟨o, 1, none⟩ = some (.slice ta Q.length tc)) 7 hmix (by kernel_rfl) ?_
      have hHeld : (fun X : World => X.cell? ⟨o, 1, none⟩ = some (.slice ta Q.length tc)) wr.drew := x1
      refine gt_take (i := 0) (v := ?_) rfl (by kernel_rfl) (by kernel_rfl) (by kernel_rfl) (by kernel_rfl) (fun _ _ _ h => h) (Or.inl ⟨by rfl, ?_⟩) hHeld ?_
      rotate_left
      · (intro X hSX; (try dsimp only at hSX); have g0 := hSX; go_simp; try with_reducible rfl)
      try simp only [Act.put, List.setIfInBounds_toArray, List.set_cons_zero, List.set_cons_succ]
      refine gt_take (i := 1) (v := ?_) rfl (by kernel_rfl) (by kernel_rfl) (by kernel_rfl) (by kernel_rfl) (fun _ _ _ h => h) (Or.inl ⟨by rfl, ?_⟩) hHeld ?_
      rotate_left
      · (intro X hSX; (try dsimp only at hSX); have g0 := hSX; go_simp; try with_reducible rfl)
      try simp only [Act.put, List.setIfInBounds_toArray, List.set_cons_zero, List.set_cons_succ]
      refine gt_pure (i := 2) (v := ?_) rfl (by kernel_rfl) (by kernel_rfl) (by kernel_rfl) (fun _ _ _ h => h) (Or.inl ⟨by rfl, ?_⟩) ?_
      rotate_left
      · (intro X; go_simp; try with_reducible rfl)
      try simp only [Act.put, List.setIfInBounds_toArray, List.set_cons_zero, List.set_cons_succ]
      refine gt_one (i := 3) rfl (by kernel_rfl) (by kernel_rfl) (fun K hK => ?_)
      go_simp
      go_at_call 35
      refine (C _).mono ?_
      rintro e Y3 ⟨rfl, hb3⟩
      have L3 := HL.out.step hb3
      refine hK.out _ _ L3.own.r2.2 (fun hHeld2 => ?_)
      clear hK hHeld
      have hHeld := hHeld2
      try simp only [Act.put, List.setIfInBounds_toArray, List.set_cons_zero, List.set_cons_succ]
      refine gt_one (i := 4) rfl (by kernel_rfl) (by kernel_rfl) (fun K hK => ?_)
      go_simp
      refine hK.out _ _ (L3.own.alloc (.cells #[.string (sv s)] 9)).r2.2 (fun hHeld3 => ?_)
      clear hK hHeld
      have hHeld := hHeld3
      try simp only [Act.put, List.setIfInBounds_toArray, List.set_cons_zero, List.set_cons_succ]
      refine gt_one (i := 5) rfl (by kernel_rfl) (by kernel_rfl) (fun K hK => ?_)
      refine step_append_of (by rfl) _ _ _ _ (by rfl) (.slice ta Q.length tc) _ (by rfl) (by rfl) (LB.app i0 hi0 hz0 hz1 hz2 L3 s hlen) ⟨rfl, rfl, rfl, rfl⟩ ?_
      rintro v' w4 ⟨a', c', rfl, q1, q2, fp', hLn⟩
      refine hK.out _ _ q1 (fun hHeld4 => ?_)
      clear hK hHeld
      have hHeld := hHeld4
      try simp only [Act.put, List.setIfInBounds_toArray, List.set_cons_zero, List.set_cons_succ]
      refine gt_take (i := 6) (v := ?_) rfl (by kernel_rfl) (by kernel_rfl) (by kernel_rfl) (by kernel_rfl) (fun _ _ _ h => h) (Or.inl ⟨by rfl, ?_⟩) hHeld ?_
      rotate_left
      · (intro X hSX; (try dsimp only at hSX); have g0 := hSX; go_simp; try with_reducible rfl)
      try simp only [Act.put, List.setIfInBounds_toArray, List.set_cons_zero, List.set_cons_succ]
      have HLn : Hid (LB w (w4.setCell ⟨o, 1, none⟩ (.slice a' (Q.length + 1) c')) (w.heap.size + 1) o v1 (Q ++ [s]) a' c' fp') := hLn
      clear L3 hLn hb3
      refine gt_last rfl (by kernel_rfl) (by kernel_rfl) (fun K hK => ?_)
      go_simp
      refine hK.out _ _ ?_
      go_wp2
      go_roundw
      case rel => exact ⟨k + 1, a', c', fp', by omega, by go_num, by rw [hP1, HN.out]; exact HLn.out⟩
      case measure => simp [intOf]; omega
    · obtain rfl : k = n := by omega
      have HQ : Hid (P.take k = P) := by rw [Hid, ← HPL.out, List.take_length]
      rw [HQ.out] at hL
      obtain ⟨x0, x1⟩ := hL.own.r2
      obtain ⟨y0, y1⟩ := hL.res.r2
      have z0 := hL.res.f 0
      have z1 := hL.res.f 1
      have HA : Hid _ := hL.ans
      clear hL hlt
      go_wp2
      refine bodyPost_ret (v := .agg #[.int .i64 v1, .slice ta P.length tc]) (by simp [results, Tryd.results33, go_sem, *]) rfl ?_
      exact ⟨ta, tc, rfl, HA.out⟩
end Go.Proofs.YtbnpliobigjapaaDoor
