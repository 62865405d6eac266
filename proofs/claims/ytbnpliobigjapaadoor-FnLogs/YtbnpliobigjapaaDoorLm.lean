/-
  Several texts in one: Jle.
-/
import Derived.Test.YtbnpliobigjapaaDoorLi
/-
  The program's isDigit and entryOf: it reads digit by digit, by jumps.
-/
namespace Go.Proofs.YtbnpliobigjapaaDoor
set_option linter.unusedVariables false
set_option linter.unusedSimpArgs false
open Go.RowKit Go.Sort

theorem ret_boolX {a b : Bool} (h : a = b) : Ending.returned (.bool a) = .returned (.bool b) := by rw [h]
set_option maxRecDepth 100000 in
theorem isDig_any (x : Nat) (q : Bool) (hq : decide (48 ≤ x ∧ x ≤ 57) = q) (w : World) :
    Calls Tryd.prog 64 #[.int .u8 (x : Int)] w fun e w' => e = .returned (.bool q) ∧ w' = w := by
  by_cases h1 : 48 ≤ x
  · have g1 : (48 : Int) ≤ (x : Int) := by omega
    by_cases h2 : x ≤ 57
    · have g2 : (x : Int) ≤ 57 := by omega
      have HZ : Hid (true = q) := by rw [Hid, ← hq]; exact (decide_eq_true ⟨h1, h2⟩).symm
      clear h1 h2 hq
      go_enter Tryd.func64, Tryd.ntmps64
      go_wp2
      go_ret
      exact ⟨ret_boolX HZ.out, rfl⟩
    · have g2 : ¬ ((x : Int) ≤ 57) := by omega
      have HZ : Hid (false = q) := by rw [Hid, ← hq]; exact (decide_eq_false (fun h => h2 h.2)).symm
      clear h1 h2 hq
      go_enter Tryd.func64, Tryd.ntmps64
      go_wp2
      go_ret
      exact ⟨ret_boolX HZ.out, rfl⟩
  · have g1 : ¬ ((48 : Int) ≤ (x : Int)) := by omega
    have HZ : Hid (false = q) := by rw [Hid, ← hq]; exact (decide_eq_false (fun h => h1 h.1)).symm
    clear h1 hq
    go_enter Tryd.func64, Tryd.ntmps64
    go_wp2
    go_ret
    exact ⟨ret_boolX HZ.out, rfl⟩

theorem arr51 (A : Array Value) (h : A.size = 51) : ∃ u : Nat → Value, A = #[u 0, u 1, u 2, u 3, u 4, u 5, u 6, u 7, u 8, u 9, u 10, u 11, u 12, u 13, u 14, u 15, u 16, u 17, u 18, u 19, u 20, u 21, u 22, u 23, u 24, u 25, u 26, u 27, u 28, u 29, u 30, u 31, u 32, u 33, u 34, u 35, u 36, u 37, u 38, u 39, u 40, u 41, u 42, u 43, u 44, u 45, u 46, u 47, u 48, u 49, u 50] := by
  refine ⟨fun i => A.getD i undef, ?_⟩
  apply Array.ext
  · simpa using h
  · intro i h1 h2
    have hi : i < 51 := by rw [← h]; exact h1
    rw [show A[i] = A.getD i undef by simp [Array.getD, h1]]
    have : ∀ j, j < 51 → (#[0, 1, 2, 3, 4, 5, 6, 7, 8, 9, 10, 11, 12, 13, 14, 15, 16, 17, 18, 19, 20, 21, 22, 23, 24, 25, 26, 27, 28, 29, 30, 31, 32, 33, 34, 35, 36, 37, 38, 39, 40, 41, 42, 43, 44, 45, 46, 47, 48, 49, 50] : Array Nat)[j]? = some j := by decide
    have h3 := this i hi
    have e : (#[A.getD 0 undef, A.getD 1 undef, A.getD 2 undef, A.getD 3 undef, A.getD 4 undef, A.getD 5 undef, A.getD 6 undef, A.getD 7 undef, A.getD 8 undef, A.getD 9 undef, A.getD 10 undef, A.getD 11 undef, A.getD 12 undef, A.getD 13 undef, A.getD 14 undef, A.getD 15 undef, A.getD 16 undef, A.getD 17 undef, A.getD 18 undef, A.getD 19 undef, A.getD 20 undef, A.getD 21 undef, A.getD 22 undef, A.getD 23 undef, A.getD 24 undef, A.getD 25 undef, A.getD 26 undef, A.getD 27 undef, A.getD 28 undef, A.getD 29 undef, A.getD 30 undef, A.getD 31 undef, A.getD 32 undef, A.getD 33 undef, A.getD 34 undef, A.getD 35 undef, A.getD 36 undef, A.getD 37 undef, A.getD 38 undef, A.getD 39 undef, A.getD 40 undef, A.getD 41 undef, A.getD 42 undef, A.getD 43 undef, A.getD 44 undef, A.getD 45 undef, A.getD 46 undef, A.getD 47 undef, A.getD 48 undef, A.getD 49 undef, A.getD 50 undef] : Array Value) = (#[0, 1, 2, 3, 4, 5, 6, 7, 8, 9, 10, 11, 12, 13, 14, 15, 16, 17, 18, 19, 20, 21, 22, 23, 24, 25, 26, 27, 28, 29, 30, 31, 32, 33, 34, 35, 36, 37, 38, 39, 40, 41, 42, 43, 44, 45, 46, 47, 48, 49, 50] : Array Nat).map (fun i => A.getD i undef) := by simp only [List.map_toArray, List.map_cons, List.map_nil]
    simp only [e, Array.getElem_map]
    have h4 := Array.getElem?_eq_some_iff.1 h3
    obtain ⟨h5, h6⟩ := h4
    rw [h6]
/-- What stands in the slots at a jump: the text, the number and the place. -/
def AtJ (t : List UInt8) (a : Act) (v k : Int) : Prop := (a.tmps.size = 51 ∧ a.defers = []) ∧ a.tmps.getD 0 undef = .string (sv t) ∧ a.tmps.getD 5 undef = .int .i64 v ∧ a.tmps.getD 6 undef = .int .i64 k
theorem AtJ.open {t : List UInt8} {a : Act} {v k : Int} (h : AtJ t a v k) : ∃ u : Nat → Value, a = { tmps := #[.string (sv t), u 1, u 2, u 3, u 4, .int .i64 v, .int .i64 k, u 7, u 8, u 9, u 10, u 11, u 12, u 13, u 14, u 15, u 16, u 17, u 18, u 19, u 20, u 21, u 22, u 23, u 24, u 25, u 26, u 27, u 28, u 29, u 30, u 31, u 32, u 33, u 34, u 35, u 36, u 37, u 38, u 39, u 40, u 41, u 42, u 43, u 44, u 45, u 46, u 47, u 48, u 49, u 50], defers := [] } := by
  obtain ⟨tm, df⟩ := a
  obtain ⟨⟨h1, h2⟩, h3, h4, h5⟩ := h
  obtain ⟨u, rfl⟩ := arr51 tm h1
  simp only at h2
  subst h2
  refine ⟨u, ?_⟩
  have e0 : u 0 = .string (sv t) := h3
  have e5 : u 5 = .int .i64 v := h4
  have e6 : u 6 = .int .i64 k := h5
  rw [e0, e5, e6]
attribute [local irreducible] sv
set_option maxRecDepth 100000 in
set_option maxHeartbeats 1600000 in
theorem entI_any (t : List UInt8) (w : World) (hl : t.length ≤ 1048576) :
    Calls Tryd.prog 43 #[.string (sv t)] w fun e w' => e = .returned (.tuple #[.int .i64 (entL t).1, .string (sv (entL t).2.1), .bool (entL t).2.2]) ∧ Grew w w' := by
  have hsz := sv_size t
  have HNIL : Hid ((⟨#[]⟩ : ByteArray) = sv []) := by rw [Hid]; unfold sv; rfl
  go_enter Tryd.func43, Tryd.ntmps43
  go_wp2_with fail
  refine wp_scope3 1 0 2 (fun a' w' => w' = w ∧ ∃ k : Nat, Dg t (k + 1) ∧ AtJ t a' ((numL (t.take k) : Nat) : Int) (k : Int)) (fun a' w' => w' = w ∧ ¬ EntB t ∧ ∃ v k, AtJ t a' v k) (fun a' w' => w' = w ∧ ∃ k : Nat, Dg t k ∧ k < t.length ∧ byt t k = 32 ∧ AtJ t a' ((numL (t.take k) : Nat) : Int) (k : Int)) (fun a' _ => 20 - (intOf (a'.tmps.getD 6 undef)).toNat) rfl rfl rfl (by decide) ?_ ?_ ?_ ?_
  · rintro a' w' ⟨rfl, hE, v, k, hA⟩
    obtain ⟨u, rfl⟩ := hA.open
    have HE : Hid (entL t = (0, [], false)) := entL_no hE
    clear hA hE
    go_wp2
    try rw [Jumps.ret]
    refine bodyPost_ret (v := .tuple #[.int .i64 0, .string ⟨#[]⟩, .bool false]) (by simp [results, Tryd.results43, go_sem, *]) rfl ?_
    rw [HE.out, HNIL.out]
    exact ⟨rfl, Grew.refl _⟩
  · rintro a' w' ⟨rfl, k, hD, hk, hb, hA⟩
    obtain ⟨u, rfl⟩ := hA.open
    have HE : Hid (entL t = (((numL (t.take k) : Nat) : Int), t.drop (k + 1), true)) := hD.blank hk hb
    have e2 : (sv t).extract (k + 1) t.length = sv (t.drop (k + 1)) := by
      rw [sv_sub, List.take_of_length_le (by rw [List.length_drop]; omega)]
    have k9 : k ≤ 9 := hD.2.1
    have k2 : (0 : Int) ≤ (k : Int) + 1 := by omega
    have k3 : (k : Int) + 1 ≤ (t.length : Int) := by omega
    have k4 : ((k : Int) + 1).toNat = k + 1 := by omega
    clear hA hD hk hb
    generalize numL (t.take k) = V at *
    go_wp2_with fail
    go_quiet (fail)
    go_wp2
    try rw [Jumps.ret]
    refine bodyPost_ret (v := .tuple #[.int .i64 (V : Int), .string (sv (t.drop (k + 1))), .bool true]) (by simp [results, Tryd.results43, go_sem, *]) rfl ?_
    rw [HE.out]
    exact ⟨rfl, (Grew.refl _).drewN _⟩
  · rintro a' w' ⟨rfl, k, hD, hA⟩
    obtain ⟨u, rfl⟩ := hA.open
    have hk9 : k < 9 := by have := hD.2.1; omega
    have hkl : k < t.length := by have := hD.2.2.1; omega
    have hB := hD.2.2.2.2 k (by omega)
    have hV : numL (t.take k) < 100000000 := by
      rcases Nat.eq_zero_or_pos k with h0 | h0
      · rw [h0]; simp [numL]
      · exact Dg.more9 (k := k) ⟨h0, by omega, by omega, hD.2.2.2.1, fun i hi => hD.2.2.2.2 i (by omega)⟩ hk9
    have HSN : Hid (numL (t.take (k + 1)) = numL (t.take k) * 10 + (byt t k - 48)) := numL_take hkl
    have HD : Hid (Dg t (k + 1)) := hD
    have hb := sv_byt (l := t) (k := k) hkl
    clear hA hD
    generalize numL (t.take k) = V at *
    generalize byt t k = B at *
    obtain ⟨D, rfl⟩ : ∃ D, B = 48 + D := ⟨B - 48, by omega⟩
    have hD9 : D ≤ 9 := by omega
    have HN : Hid ((numL (t.take (k + 1)) : Nat) = V * 10 + D) := by rw [Hid, HSN.out]; omega
    clear HSN hB
    have k1 : (k : Int) < (t.length : Int) := by omega
    have k0 : (0 : Int) ≤ (k : Int) := by omega
    by_cases hend : k + 1 = t.length
    · have e1 : ((k : Int) + 1 == (t.length : Int)) = true := by simp; omega
      have HX : Hid (¬ EntB t) := HD.out.end_ hend
      go_wp2_with fail
      go_step3
      exact .inr (.inl ⟨rfl, rfl, HX.out, _, _, ⟨⟨rfl, rfl⟩, rfl, rfl, rfl⟩⟩)
    · have e1 : ((k : Int) + 1 == (t.length : Int)) = false := by simp; omega
      have hk1 : k + 1 < t.length := by omega
      have hb1 := sv_byt (l := t) (k := k + 1) hk1
      have hB256 := byt_lt t (k + 1)
      have k2 : (k : Int) + 1 < (t.length : Int) := by omega
      have k3 : (0 : Int) ≤ (k : Int) + 1 := by omega
      have k4 : ((k : Int) + 1).toNat = k + 1 := by omega
      by_cases h32 : byt t (k + 1) = 32
      · have HJ : Hid (Dg t (k + 1) ∧ k + 1 < t.length ∧ byt t (k + 1) = 32) := ⟨HD.out, hk1, h32⟩
        rw [h32] at hb1
        clear h32 hB256
        go_wp2_with fail
        go_step3
        refine .inr (.inr ⟨rfl, rfl, k + 1, HJ.out.1, HJ.out.2.1, HJ.out.2.2, ⟨⟨rfl, rfl⟩, rfl, ?_, rfl⟩⟩)
        rw [HN.out]
        simp only [Array.getD]
        go_num
      · have g32 : (((byt t (k + 1) : Nat) : Int) == 32) = false := by simp; omega
        cases hq : decide (48 ≤ byt t (k + 1) ∧ byt t (k + 1) ≤ 57) with
        | false =>
          have HX : Hid (¬ EntB t) := HD.out.other hk1 h32 (of_decide_eq_false hq)
          have hI := isDig_any (byt t (k + 1)) false hq
          clear h32 hq
          generalize byt t (k + 1) = C at *
          go_wp2_with (go_at_call 64; refine (hI _).mono ?_; rintro e w2 ⟨rfl, rfl⟩)
          go_step3
          go_wp2
          try rw [Jumps.ret]
          have HE : Hid (entL t = (0, [], false)) := entL_no HX.out
          refine bodyPost_ret (v := .tuple #[.int .i64 0, .string ⟨#[]⟩, .bool false]) (by simp [results, Tryd.results43, go_sem, *]) rfl ?_
          rw [HE.out, HNIL.out]
          exact ⟨rfl, Grew.refl _⟩
        | true =>
          have hI := isDig_any (byt t (k + 1)) true hq
          by_cases h9 : k + 1 < 9
          · have g9 : (k : Int) + 1 < 9 := by omega
            have HM : Hid (Dg t (k + 1 + 1)) := HD.out.more h9 hk1 (of_decide_eq_true hq)
            clear h32 hq
            generalize byt t (k + 1) = C at *
            go_wp2_with (go_at_call 64; refine (hI _).mono ?_; rintro e w2 ⟨rfl, rfl⟩)
            go_step3
            refine .inl ⟨rfl, ⟨rfl, k + 1, HM.out, ⟨⟨rfl, rfl⟩, rfl, ?_, rfl⟩⟩, ?_⟩
            · rw [HN.out]
              simp only [Array.getD]
              go_num
            · simp [intOf]
              omega
          · have g9 : ¬ ((k : Int) + 1 < 9) := by omega
            obtain rfl : k = 8 := by omega
            have HX : Hid (¬ EntB t) := HD.out.ten hk1 (of_decide_eq_true hq)
            clear h32 hq
            generalize byt t (8 + 1) = C at *
            go_wp2_with (go_at_call 64; refine (hI _).mono ?_; rintro e w2 ⟨rfl, rfl⟩)
            go_step3
            go_wp2
            try rw [Jumps.ret]
            have HE : Hid (entL t = (0, [], false)) := entL_no HX.out
            refine bodyPost_ret (v := .tuple #[.int .i64 0, .string ⟨#[]⟩, .bool false]) (by simp [results, Tryd.results43, go_sem, *]) rfl ?_
            rw [HE.out, HNIL.out]
            exact ⟨rfl, Grew.refl _⟩
  · intro H0
    cases ht : t with
    | nil =>
      have hq : ((sv ([] : List UInt8)).toList == []) = true := by rw [sv_list]; rfl
      subst ht
      go_wp2_with fail
      go_step3
      exact .inr (.inl ⟨rfl, rfl, ent_nil, _, _, ⟨⟨rfl, rfl⟩, rfl, rfl, rfl⟩⟩)
    | cons x r =>
      have hq : ((sv t).toList == []) = false := by rw [sv_list, ht]; rfl
      have hpos : 0 < t.length := by rw [ht]; simp
      rw [← ht]
      clear ht
      have hb0 := sv_byt hpos
      have hB256 := byt_lt t 0
      by_cases h48 : byt t 0 = 48
      · have HX : Hid (¬ EntB t) := ent_first (.inl h48)
        rw [h48] at hb0
        clear h48 hB256
        go_wp2_with fail
        go_step3
        exact .inr (.inl ⟨rfl, rfl, HX.out, _, _, ⟨⟨rfl, rfl⟩, rfl, rfl, rfl⟩⟩)
      · have g48 : (((byt t 0 : Nat) : Int) == 48) = false := by simp; omega
        cases hd : decide (48 ≤ byt t 0 ∧ byt t 0 ≤ 57) with
        | false =>
          have HX : Hid (¬ EntB t) := ent_first (.inr (of_decide_eq_false hd))
          have hI := isDig_any (byt t 0) false hd
          clear h48 hd
          generalize byt t 0 = C at *
          go_wp2_with (go_at_call 64; refine (hI _).mono ?_; rintro e w2 ⟨rfl, rfl⟩)
          go_step3
          exact .inr (.inl ⟨rfl, rfl, HX.out, _, _, ⟨⟨rfl, rfl⟩, rfl, rfl, rfl⟩⟩)
        | true =>
          have HM : Hid (Dg t (0 + 1)) := Dg.one hpos h48 (of_decide_eq_true hd)
          have hI := isDig_any (byt t 0) true hd
          clear h48 hd
          generalize byt t 0 = C at *
          go_wp2_with (go_at_call 64; refine (hI _).mono ?_; rintro e w2 ⟨rfl, rfl⟩)
          go_step3
          rename_i hKK
          first | refine hKK.out _ _ (H0 _ _ ?_) | refine hKK _ _ (H0 _ _ ?_)
          exact ⟨rfl, 0, HM.out, ⟨⟨rfl, rfl⟩, rfl, rfl, rfl⟩⟩
end Go.Proofs.YtbnpliobigjapaaDoor
